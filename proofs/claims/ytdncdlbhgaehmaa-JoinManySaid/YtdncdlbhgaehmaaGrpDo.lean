/- GrpChk, GrpDo, GrpDo1, GrpDo2: in one text. -/
import Derived.Test.YtdncdlbhgaehmaaGrp
import Derived.Test.YtdncdlbhgaehmaaQuietC
import Derived.Test.YtdncdlbhgaehmaaGrpTrm
import Derived.Lib.SliceRun
import Derived.OwnWalkIn
import Derived.Sort.QuietTacIn
import Derived.Sort.QuietLawsIn
import Derived.BigRegionIn
/- The contracts of package group's checkAppend, checkCompact, Check. -/
namespace Go.Proofs.Ytdncdlbhgaehmaa
open Go.RowKit Go.Shelf
set_option linter.unusedVariables false
attribute [local go_sem] Oper.semAt_some wide_fn wide_round_fn

theorem gp_cells {w W : World} {id fi te ht hv hc : Int} {l : List EntryC} {a : Option Addr} {cap : Nat} {pg pk : Int} {pa : Option Addr} {plen pcap : Nat} {pht phv phc pi pt : Int} {pm ph : Bool} (h : Below ((w.alloc (.cells #[.int .i64 id, .int .i64 fi, .int .i64 te, .int .i64 ht, .int .i64 hv, .int .i64 hc, .slice a l.length cap] 65)).alloc (.cells #[.int .i64 pg, .int .i64 pk, .slice pa plen pcap, .int .i64 pht, .int .i64 phv, .int .i64 phc, .int .i64 pi, .int .i64 pt, .bool pm, .bool ph] 41)).heap.size ((w.alloc (.cells #[.int .i64 id, .int .i64 fi, .int .i64 te, .int .i64 ht, .int .i64 hv, .int .i64 hc, .slice a l.length cap] 65)).alloc (.cells #[.int .i64 pg, .int .i64 pk, .slice pa plen pcap, .int .i64 pht, .int .i64 phv, .int .i64 phc, .int .i64 pi, .int .i64 pt, .bool pm, .bool ph] 41)) W) :
    W.cell? ⟨w.heap.size, 0, none⟩ = some (.int .i64 id) ∧ W.cell? ⟨w.heap.size, 1, none⟩ = some (.int .i64 fi) ∧ W.cell? ⟨w.heap.size, 2, none⟩ = some (.int .i64 te) ∧ W.cell? ⟨w.heap.size, 3, none⟩ = some (.int .i64 ht) ∧ W.cell? ⟨w.heap.size, 4, none⟩ = some (.int .i64 hv) ∧ W.cell? ⟨w.heap.size, 5, none⟩ = some (.int .i64 hc) ∧ W.cell? ⟨w.heap.size, 6, none⟩ = some (.slice a l.length cap) ∧ W.cell? ⟨w.heap.size + 1, 0, none⟩ = some (.int .i64 pg) ∧ W.cell? ⟨w.heap.size + 1, 1, none⟩ = some (.int .i64 pk) ∧ W.cell? ⟨w.heap.size + 1, 2, none⟩ = some (.slice pa plen pcap) ∧ W.cell? ⟨w.heap.size + 1, 3, none⟩ = some (.int .i64 pht) ∧ W.cell? ⟨w.heap.size + 1, 4, none⟩ = some (.int .i64 phv) ∧ W.cell? ⟨w.heap.size + 1, 5, none⟩ = some (.int .i64 phc) ∧ W.cell? ⟨w.heap.size + 1, 6, none⟩ = some (.int .i64 pi) ∧ W.cell? ⟨w.heap.size + 1, 7, none⟩ = some (.int .i64 pt) ∧ W.cell? ⟨w.heap.size + 1, 8, none⟩ = some (.bool pm) ∧ W.cell? ⟨w.heap.size + 1, 9, none⟩ = some (.bool ph) := by
  have c1 : ∀ j, W.cell? ⟨w.heap.size, j, none⟩ = (#[.int .i64 id, .int .i64 fi, .int .i64 te, .int .i64 ht, .int .i64 hv, .int .i64 hc, .slice a l.length cap] : Array Value)[j]? := fun j => cell_of_row _ _ j _ _ _ ((h.block _ (by simp; omega)).trans (two_a w _ _ _ _))
  have c2 : ∀ j, W.cell? ⟨w.heap.size + 1, j, none⟩ = (#[.int .i64 pg, .int .i64 pk, .slice pa plen pcap, .int .i64 pht, .int .i64 phv, .int .i64 phc, .int .i64 pi, .int .i64 pt, .bool pm, .bool ph] : Array Value)[j]? := fun j => cell_of_row _ _ j _ _ _ ((h.block _ (by simp)).trans (two_b w _ _ _ _))
  exact ⟨c1 0, c1 1, c1 2, c1 3, c1 4, c1 5, c1 6, c2 0, c2 1, c2 2, c2 3, c2 4, c2 5, c2 6, c2 7, c2 8, c2 9⟩
theorem gp_bel (w : World) (A B : Array Value) (T U : TypeId) : Below w.heap.size w ((w.alloc (.cells A T)).alloc (.cells B U)) := bel_alloc (bel_alloc (Below.refl _ _) _) _

attribute [local irreducible] wpQuiet
end Go.Proofs.Ytdncdlbhgaehmaa

/- Words for the contract of package group's Do; of slices.Clone at entries. -/
namespace Go.Proofs.Ytdncdlbhgaehmaa
open Go.RowKit Go.Shelf
set_option linter.unusedVariables false
attribute [local go_sem] Oper.semAt_some wide_fn wide_round_fn

abbrev GZ : Array Value := #[.int .i64 0, .int .i64 0, .int .i64 0, .int .i64 0, .int .i64 0, .int .i64 0, .slice none 0 0]
abbrev GivesOwn (P : Program) (f : FuncId) (args : Array Value) (w : World) (e : TypeId) (sz n : Nat) (xs : List Value) : Prop := Calls P f args w fun en w' => ∃ v, en = .returned v ∧ w'.ownsRow w.heap.size e sz v n xs ∧ Below w.heap.size w w'
/-- While Do goes: the group's box, the part's, the result's. -/
structure DoW (w : World) (G P : Array Value) (W : World) : Prop where
  gb : W.heap[w.heap.size]? = some (.cells G 65 (0, 0))
  pb : W.heap[w.heap.size + 1]? = some (.cells P 41 (0, 0))
  rb : W.heap[w.heap.size + 1 + 1]? = some (.cells GZ 65 (0, 0))
  bel : Below w.heap.size w W
theorem DoW.lt {w W : World} {G P : Array Value} (h : DoW w G P W) : w.heap.size + 3 ≤ W.heap.size := by have := heap_lt h.rb; omega
theorem DoW.after {w W W' : World} {G P : Array Value} (h : DoW w G P W) (hB : Below W.heap.size W W') : DoW w G P W' :=
  ⟨(hB.block _ (heap_lt h.gb)).trans h.gb, (hB.block _ (heap_lt h.pb)).trans h.pb, (hB.block _ (heap_lt h.rb)).trans h.rb, h.bel.trans (hB.mono h.bel.size)⟩
theorem DoW.start (w : World) (G P : Array Value) : DoW w G P (((w.alloc (.cells G 65)).alloc (.cells P 41)).alloc (.cells GZ 65)) := by
  have h1 := two_a w G P 65 41
  have h2 := two_b w G P 65 41
  have h3 := World.alloc_heap_new ((w.alloc (.cells G 65)).alloc (.cells P 41)) (.cells GZ 65)
  rw [World.size_alloc, World.size_alloc] at h3
  have hB := bel_alloc (Below.refl _ ((w.alloc (.cells G 65)).alloc (.cells P 41))) (.cells GZ 65)
  exact ⟨(hB.block _ (heap_lt h1)).trans h1, (hB.block _ (heap_lt h2)).trans h2, h3, bel2 (gp_bel _ _ _ _ _) hB⟩
theorem DoW.set {w W : World} {G P : Array Value} (h : DoW w G P W) (i : Nat) (v : Value) : DoW w (G.setIfInBounds i v) P (W.setCell ⟨w.heap.size, i, none⟩ v) :=
  ⟨heap_setCell_same _ _ i _ _ _ h.gb, (heap_setCell_other _ _ _ _ (by show w.heap.size + 1 ≠ w.heap.size; omega)).trans h.pb, (heap_setCell_other _ _ _ _ (by show w.heap.size + 1 + 1 ≠ w.heap.size; omega)).trans h.rb, h.bel.setCell (p := ⟨w.heap.size, i, none⟩) (Nat.le_refl _) v⟩
theorem DoW.far {w W : World} {G P : Array Value} (h : DoW w G P W) {b : Nat} (hb : w.heap.size + 3 ≤ b) (i : Nat) (v : Value) : DoW w G P (W.setCell ⟨b, i, none⟩ v) :=
  ⟨(heap_setCell_other _ _ _ _ (by show w.heap.size ≠ b; omega)).trans h.gb, (heap_setCell_other _ _ _ _ (by show w.heap.size + 1 ≠ b; omega)).trans h.pb, (heap_setCell_other _ _ _ _ (by show w.heap.size + 1 + 1 ≠ b; omega)).trans h.rb, h.bel.setCell (p := ⟨b, i, none⟩) (by show w.heap.size ≤ b; omega) v⟩
theorem DoW.grown {w W W' : World} {G P : Array Value} {row : Option Nat} (h : DoW w G P W) (hg : W.grownBy W' row) (hr : ∀ k, row = some k → w.heap.size + 3 ≤ k) : DoW w G P W' :=
  ⟨(hg.block _ (heap_lt h.gb) (fun e => by have := hr _ e.symm; omega)).trans h.gb, (hg.block _ (heap_lt h.pb) (fun e => by have := hr _ e.symm; omega)).trans h.pb, (hg.block _ (heap_lt h.rb) (fun e => by have := hr _ e.symm; omega)).trans h.rb,
    h.bel.grown hg h.bel.size (fun k e => by have := hr _ e; omega)⟩
theorem DoW.drew {w W : World} {G P : Array Value} (h : DoW w G P W) : DoW w G P W.drew := ⟨h.gb, h.pb, h.rb, h.bel.drew⟩
theorem DoW.stab {w : World} {G P : Array Value} {B : Nat} (hB : w.heap.size ≤ B) : Stab B (fun _ => False) (DoW w G P) := fun W W' h hm =>
  ⟨hm.block _ _ h.gb id (.inr rfl), hm.block _ _ h.pb id (.inr rfl), hm.block _ _ h.rb id (.inr rfl), Stab.below (Nat.le_refl _) hB (fun _ h => h.elim) _ _ h.bel hm⟩
theorem cells7 {W : World} {b : Nat} {T : TypeId} {v0 v1 v2 v3 v4 v5 v6 : Value} (h : W.heap[b]? = some (.cells #[v0, v1, v2, v3, v4, v5, v6] T (0, 0))) :
    W.cell? ⟨b, 0, none⟩ = some v0 ∧ W.cell? ⟨b, 1, none⟩ = some v1 ∧ W.cell? ⟨b, 2, none⟩ = some v2 ∧ W.cell? ⟨b, 3, none⟩ = some v3 ∧ W.cell? ⟨b, 4, none⟩ = some v4 ∧ W.cell? ⟨b, 5, none⟩ = some v5 ∧ W.cell? ⟨b, 6, none⟩ = some v6 ∧ ∀ i, W.frozen? ⟨b, i, none⟩ = false :=
  ⟨cell_of_row _ _ 0 _ _ _ h, cell_of_row _ _ 1 _ _ _ h, cell_of_row _ _ 2 _ _ _ h, cell_of_row _ _ 3 _ _ _ h, cell_of_row _ _ 4 _ _ _ h, cell_of_row _ _ 5 _ _ _ h, cell_of_row _ _ 6 _ _ _ h, fun i => frozen_of_row _ _ i _ _ h⟩
theorem cells10 {W : World} {b : Nat} {T : TypeId} {v0 v1 v2 v3 v4 v5 v6 v7 v8 v9 : Value} (h : W.heap[b]? = some (.cells #[v0, v1, v2, v3, v4, v5, v6, v7, v8, v9] T (0, 0))) :
    W.cell? ⟨b, 1, none⟩ = some v1 ∧ W.cell? ⟨b, 2, none⟩ = some v2 ∧ W.cell? ⟨b, 3, none⟩ = some v3 ∧ W.cell? ⟨b, 4, none⟩ = some v4 ∧ W.cell? ⟨b, 5, none⟩ = some v5 ∧ W.cell? ⟨b, 6, none⟩ = some v6 ∧ W.cell? ⟨b, 7, none⟩ = some v7 :=
  ⟨cell_of_row _ _ 1 _ _ _ h, cell_of_row _ _ 2 _ _ _ h, cell_of_row _ _ 3 _ _ _ h, cell_of_row _ _ 4 _ _ _ h, cell_of_row _ _ 5 _ _ _ h, cell_of_row _ _ 6 _ _ _ h, cell_of_row _ _ 7 _ _ _ h⟩
abbrev st7 (W : World) (b : Nat) (v0 v1 v2 v3 v4 v5 v6 : Value) : World := ((((((W.setCell ⟨b, 0, none⟩ v0).setCell ⟨b, 1, none⟩ v1).setCell ⟨b, 2, none⟩ v2).setCell ⟨b, 3, none⟩ v3).setCell ⟨b, 4, none⟩ v4).setCell ⟨b, 5, none⟩ v5).setCell ⟨b, 6, none⟩ v6
theorem st7_block {W : World} {b : Nat} {T : TypeId} {z0 z1 z2 z3 z4 z5 z6 : Value} (h : W.heap[b]? = some (.cells #[z0, z1, z2, z3, z4, z5, z6] T (0, 0))) (v0 v1 v2 v3 v4 v5 v6 : Value) :
    (st7 W b v0 v1 v2 v3 v4 v5 v6).heap[b]? = some (.cells #[v0, v1, v2, v3, v4, v5, v6] T (0, 0)) := by
  have h7 := Go.Joins.block_setCell (Go.Joins.block_setCell (Go.Joins.block_setCell (Go.Joins.block_setCell (Go.Joins.block_setCell (Go.Joins.block_setCell (Go.Joins.block_setCell h v0 (i := 0)) v1 (i := 1)) v2 (i := 2)) v3 (i := 3)) v4 (i := 4)) v5 (i := 5)) v6 (i := 6)
  simpa only [List.setIfInBounds_toArray, List.set_cons_succ, List.set_cons_zero] using h7
theorem st7_frame (W : World) (b : Nat) (v0 v1 v2 v3 v4 v5 v6 : Value) : FrameT (fun k => k = b) W (st7 W b v0 v1 v2 v3 v4 v5 v6) :=
  ((((((FrameT.setCell W b 0 v0).trans (FrameT.setCell _ b 1 v1)).trans (FrameT.setCell _ b 2 v2)).trans (FrameT.setCell _ b 3 v3)).trans (FrameT.setCell _ b 4 v4)).trans (FrameT.setCell _ b 5 v5)).trans (FrameT.setCell _ b 6 v6)
theorem own_frame {W W' : World} {T : Nat → Prop} {base : Nat} {e : TypeId} {size n : Nat} {v : Value} {xs : List Value} (h : W.ownsRow base e size v n xs) (hF : FrameT T W W') (hT : ∀ k, base ≤ k → ¬ T k) : W'.ownsRow base e size v n xs := by
  refine ⟨h.1, ?_⟩
  rcases h.2 with h2 | ⟨g, cap, cur, hv, hg, hh, r⟩
  · exact .inl h2
  · exact .inr ⟨g, cap, cur, hv, hg, hF.get hh (hT g hg), r⟩
theorem rowV_frame {W W' : World} {T : Nat → Prop} {a : Option Addr} {n sz : Nat} {xs : List Value} (h : RowV W a n sz xs) (hF : FrameT T W W') (hT : ∀ k, inBlkE a n k → ¬ T k) : RowV W' a n sz xs := by
  refine ⟨h.1, h.2.1, fun h0 => ?_⟩
  obtain ⟨b, off, e, hb, hx⟩ := h.2.2 h0
  have hn := hT b ⟨b, off, e, h0, rfl⟩
  exact ⟨b, off, e, Nat.lt_of_lt_of_le hb hF.size, fun j hj => (World.cell?_of_block (hF.block b hb hn)).trans (hx j hj)⟩
def DoPost (w : World) (g : GM) (c : Int) (e : Ending) (w' : World) : Prop := ∃ a cap, e = .returned (.tuple #[.agg #[.int .i64 g.id, .int .i64 g.fi, .int .i64 g.te, .int .i64 g.ht, .int .i64 g.hv, .int .i64 g.hc, .slice a g.l.length cap], .int .i64 c]) ∧ HasG w' a g ∧ Below w.heap.size w w' ∧ ∀ k, inBlkE a g.l.length k → w.heap.size ≤ k
theorem own_new {W : World} {base : Nat} {e : TypeId} {size n cap : Nat} {a : Option Addr} {xs : List Value} (h : W.ownsRow base e size (.slice a n cap) n xs) (k : Nat) (hk : inBlkE a n k) : base ≤ k := by
  obtain ⟨b, off, e2, h0, rfl⟩ := hk
  subst e2
  rcases h.2 with ⟨hv, _⟩ | ⟨g, cap', cur, hv, hg, _⟩
  · cases hv
  · cases hv; exact hg

theorem wpIn_region_below {F : Fence} {n : Nat} {P : Program} {id : Nat} {Q : Exit → Act → World → Prop} {a : Act} {w : World} {l : List Oper} (hro : F.round = none) (hm : P.follows .mixedOrders = true) (hB : Region.lexB .any l.toArray = true)
    (h : wpQuietIn F n P l.toArray (Above w) (fun a' => ∀ W, Above w W → Q .normal a' W) l a) : (Code.region id l.toArray true).wpIn F n P Q a w :=
  wpIn_region_quiet (C := Above w) hro hm hB (show Below w.heap.size w _ from (Below.refl _ _).drew) (by simpa using h)
theorem wpListIn_append_none {F : Fence} {n : Nat} {P : Program} {w : World} {ops : Array Oper} {rest : List Oper} {o : Oper} {a : Act} {Q : Exit → Act → World → Prop} (hgd : o.guard = none) (s x : Operand) (t : TypeId)
    (ho : o.op = .call { callee := .builtin .append, args := #[s, x], argTypes := #[t, t] })
    (base : Nat) (e : TypeId) (i : TypeInfo) (size : Nat) (ht : P.underlying t = some (.slice e)) (hi : P.info? e = some i)
    (v : Value) (k : Nat) (xs : List Value) (hs : a.eval s = v) (hown : w.ownsRow base e size v k xs) (m c : Nat) (hm0 : m = 0) (hx : a.eval x = .slice none m c)
    (h : wpListIn F n P ops Q rest (a.put o.dst v) w) : wpListIn F n P ops Q (o :: rest) a w := by
  subst hm0
  refine wpListIn_plain hgd fun K hK => ?_
  have hrun : (Builtin.append_ #[t, t] o.type #[v, .slice none 0 c]).run P w = .ok v w := by
    rcases hown.2 with ⟨rfl, rfl⟩ | ⟨g, cap, cur, rfl, _, _, hnc, _⟩
    · simp [Builtin.append_, run_underlying ht, sizeOf, typeInfo, hi, Builtin.lenOf, Builtin.firstCells]
    · simp [Builtin.append_, run_underlying ht, sizeOf, typeInfo, hi, Builtin.lenOf, Builtin.firstCells, hnc, storeCells]
  unfold Oper.wpIn
  refine ⟨by simp [Oper.about, ho, resolve, Target.leads, Sem.run_pure], ?_⟩
  rw [Oper.semAt_plain F _ _ (by rw [ho]; intro c hc'; cases hc')]
  simp [execOp, ho, resolve, invoke, builtin, hs, hx, hrun, Result.andThen]
  exact hK _ _ h
/-- In the loop: the row l that is filled, and the rest. -/
def doJ (w : World) (G P : Array Value) (G0 L M n : Nat) (ys : List Value) (s : Nat) (W : World) : Prop :=
  Boxed W L 37 (.slice (some ⟨G0, 0, none⟩) n M) ∧ W.ownsRow G0 115 3 (.slice (some ⟨G0, 0, none⟩) n M) n ys ∧ DoW w G P W ∧ s ≤ W.heap.size
theorem doJ_stab {w : World} {G P : Array Value} {G0 L M n : Nat} {ys : List Value} {s B : Nat} (hB : w.heap.size ≤ B) : Stab B (fun _ => False) (doJ w G P G0 L M n ys s) :=
  (Stab.boxed id).and ((Stab.ownsRow (fun _ h => h.elim)).and ((DoW.stab hB).and Stab.size))
theorem doJ_append {w W w2 : World} {G P : Array Value} {G0 L M n m s B : Nat} {ys zs : List Value} {S : Nat → Prop} {tmp : Obj} (h : doJ w G P G0 L M n ys s W) (hg0 : w.heap.size + 3 ≤ G0) (hGL : G0 < L) (hS1 : ¬ S G0) (hS2 : ¬ S L)
    (hown' : w2.ownsRow G0 115 3 (.slice (some ⟨G0, 0, none⟩) m M) m zs) (hgrow : (W.alloc tmp).grownBy w2 (some G0)) :
    Boxed w2 L 37 (.slice (some ⟨G0, 0, none⟩) n M) ∧ Rd B S W (w2.setCell ⟨L, 0, none⟩ (.slice (some ⟨G0, 0, none⟩) m M)) ∧ doJ w G P G0 L M m zs s (w2.setCell ⟨L, 0, none⟩ (.slice (some ⟨G0, 0, none⟩) m M)) := by
  obtain ⟨hbx, hrow, hD, hs⟩ := h
  have hL := heap_lt hbx
  have hBA := bel_alloc (Below.refl W.heap.size W) tmp
  have hbx2 : Boxed (W.alloc tmp) L 37 (.slice (some ⟨G0, 0, none⟩) n M) := (hBA.block _ hL).trans hbx
  have hb9 : Boxed w2 L 37 (.slice (some ⟨G0, 0, none⟩) n M) := (hgrow.block L (heap_lt hbx2) (fun e => by cases e; omega)).trans hbx2
  obtain ⟨o, ho, hoc⟩ : ∃ o : Obj, (W.alloc tmp).heap[G0]? = some o ∧ o.isCells = true := by
    rcases (hrow.alloc tmp).2 with ⟨hv, _⟩ | ⟨g, cap, cur, hv, _, hgg, _⟩
    · cases hv
    · cases hv; exact ⟨_, hgg, rfl⟩
  refine ⟨hb9, ?_, heap_setCell_same w2 L 0 #[_] _ _ hb9, hown'.kept (grownBy_setCell' w2 L _) (.inr (fun e => by have h9 : G0 = L := Option.some.inj e; omega)), ((hD.after hBA).grown hgrow (fun k e => by cases e; exact hg0)).far (by omega) 0 _, ?_⟩
  · exact (((Rd.refl B S W).alloc tmp).grown hgrow (fun k e => by cases e; exact ⟨hS1, .inr ⟨o, ho, hoc⟩⟩)).setBox hb9 hS2 _
  · have h1 := hgrow.size
    have h2 := hBA.size
    rw [World.size_setCell]; omega

set_option maxRecDepth 100000 in
set_option maxHeartbeats 1000000 in
theorem clone_ent (a : Option Addr) (n cap : Nat) (l : List EntryC) (hl : l.length = n) (hm : n < 1000000) (w : World) (hrow : RowV w a n 3 (entryCells l)) :
    GivesOwn Try.prog 82 #[.slice a n cap] w 115 3 n (entryCells l) := by
  obtain ⟨i0, hi, hz0, hz1, hz2⟩ := info_parts infoEntry
  have hlen := hrow.1
  cases a with
  | none =>
    obtain rfl : n = 0 := by
      rcases Nat.eq_zero_or_pos n with h | h
      · exact h
      · obtain ⟨_, _, e, _⟩ := hrow.2.2 h; cases e
    obtain rfl : l = [] := List.eq_nil_of_length_eq_zero hl
    have hq := fun w => Lib.run_eql_slice_nil (P := Try.prog) w 37 115 none 0 cap 0 0 Try.underlying37
    unfold GivesOwn
    go_enter Try.func82, Try.ntmps82
    go_wp2
    go_ret
    exact ⟨_, rfl, World.ownsRow_nil _ _ _ _, Below.refl _ _⟩
  | some ad =>
    have hn : ∀ j u, (entryCells l)[j]? = some u → (w.alloc (.cells #[] 115)).cell? (ad.add j) = some u := fun j u hu => by
      obtain ⟨hj, rfl⟩ := List.getElem?_eq_some_iff.1 hu
      obtain ⟨b, off, e, hb, hx⟩ := hrow.2.2 (by rcases Nat.eq_zero_or_pos n with h | h; (rw [h] at hlen; omega); exact h)
      cases e
      rw [add_off]
      exact (World.cell?_alloc_lt w _ ⟨b, off + j, none⟩ hb).trans (hx j hj)
    have h1 : ∀ u ∈ entryCells l, u.oneCell' = true := by
      intro u hu
      simp only [entryCells, List.mem_flatten, List.mem_map] at hu
      obtain ⟨_, ⟨e, _, rfl⟩, hu⟩ := hu
      simp only [EntryC.cells, List.mem_cons, List.not_mem_nil, or_false] at hu
      rcases hu with rfl | rfl | rfl <;> rfl
    have hq := fun w => Lib.run_eql_slice_nil (P := Try.prog) w 37 115 (some ad) n cap 0 0 Try.underlying37
    clear hrow
    unfold GivesOwn
    go_enter Try.func82, Try.ntmps82
    go_wp2_with (at_builtin; refine wpList_append_own _ rfl _ _ 37 rfl w.heap.size 115 i0 (.agg #[.int .i64 0, .int .i64 0, .string ⟨#[]⟩]) 3 32 Try.underlying37 hi hz0 hz1 hz2 rfl (by decide) _ _ _ rfl (World.ownsRow_made w #[] 0 (Nat.le_refl _) (by unfold maxLen; omega) rfl) ad n cap (entryCells l) rfl hlen hn h1 (by unfold maxLen; omega) (by omega) (by simp) ?_; intro v' w2 hown' hgrow _)
    go_ret
    exact ⟨_, rfl, by simpa using hown', (bel_alloc (Below.refl _ _) _).grown hgrow (by simp) (fun g e => by cases e; exact Nat.le_refl _)⟩

end Go.Proofs.Ytdncdlbhgaehmaa

/- The contract of package group's Do. -/
namespace Go.Proofs.Ytdncdlbhgaehmaa
open Go.RowKit Go.Shelf
set_option linter.unusedVariables false
attribute [local go_sem] Oper.semAt_some wide_fn wide_round_fn

end Go.Proofs.Ytdncdlbhgaehmaa

/- The contract of package group's Do, at compactions, at snapshots; at every part. -/
namespace Go.Proofs.Ytdncdlbhgaehmaa
open Go.RowKit Go.Shelf
set_option linter.unusedVariables false
attribute [local go_sem] Oper.semAt_some wide_fn wide_round_fn

end Go.Proofs.Ytdncdlbhgaehmaa
