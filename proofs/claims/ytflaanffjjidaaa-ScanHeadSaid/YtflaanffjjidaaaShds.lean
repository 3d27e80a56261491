/- ParL, Shd, ShdI, ShdS, ShdT: in one text. -/
import Derived.Test.YtflaanffjjidaaaGrpDo
import Derived.Test.YtflaanffjjidaaaRecs
import Derived.Maps.AppendAt
import Derived.Test.YtflaanffjjidaaaRegion
import Derived.Deep.RegionHeld3
import Derived.Deep.AppendLies
/- A row of parts of one's own that grows, each with entries of its own (no map, no group is named here). -/
namespace Go.Proofs.Ytflaanffjjidaaa
open Go.RowKit Go.Shelf
set_option linter.unusedVariables false

theorem ownL_frame {T : Nat → Prop} {W W' : World} {B : Nat} {e : TypeId} {sz n : Nat} {v : Value} {xs : List Value} (h : W.ownsRow B e sz v n xs) (hF : FrameT T W W') (hT : ∀ j, some j = v.ownBlock → ¬ T j) : W'.ownsRow B e sz v n xs := by
  refine ⟨h.1, ?_⟩
  rcases h.2 with h2 | ⟨g, cap, cur, hv, hb, hg, r⟩
  · exact .inl h2
  · exact .inr ⟨g, cap, cur, hv, hb, hF.get hg (hT g (by rw [hv]; rfl)), r⟩
theorem hasEL_frame {T : Nat → Prop} {W W' : World} {P : PartC} {l : List EntryC} (h : HasE W P l) (hF : FrameT T W W') (hne : ∀ k, inBlkE P.a P.len k → ¬ T k) : HasE W' P l := ⟨h.1, h.2.1, rowV_frame h.2.2 hF hne⟩
theorem inBlkL_lt {W : World} {a : Option Addr} {n sz : Nat} {xs : List Value} (h : RowV W a n sz xs) {k : Nat} (hk : inBlkE a n k) : k < W.heap.size := by
  obtain ⟨b, off, e, h0, rfl⟩ := hk
  obtain ⟨b', off', e', hb, _⟩ := h.2.2 h0
  rw [e] at e'
  cases e'
  exact hb
theorem ownBlockL_lt {W : World} {base : Nat} {e : TypeId} {size : Nat} {v : Value} {k : Nat} {xs : List Value} (h : W.ownsRow base e size v k xs) {j : Nat} (hj : some j = v.ownBlock) : j < W.heap.size ∧ base ≤ j ∧ ∃ o : Obj, W.heap[j]? = some o ∧ o.isCells = true := by
  rcases h.2 with ⟨rfl, _⟩ | ⟨g, cap, cur, rfl, hb, hg, _⟩
  · simp [Value.ownBlock] at hj
  · obtain rfl : j = g := by simpa [Value.ownBlock] using hj
    exact ⟨(Array.getElem?_eq_some_iff.1 hg).1, hb, _, hg, rfl⟩
theorem frameL_grown {w w' : World} {row : Option Nat} (h : w.grownBy w' row) : FrameT (fun k => some k = row) w w' := ⟨h.os, h.tape, h.output, h.size, fun k hk hT => h.block k hk hT⟩
/-- A row of parts that grows from C on; what its parts hold lies elsewhere, from C on too. -/
def plI (C : Nat) (v : Value) (pre : List PL) (W : World) : Prop :=
  W.ownsRow C 70 10 v pre.length (partCells pre) ∧ ∀ x, x ∈ pre → HasE W x.1 x.2 ∧ ∀ k, inBlkE x.1.a x.1.len k → C ≤ k ∧ some k ≠ v.ownBlock
theorem plI.below {C : Nat} {v : Value} {pre : List PL} {W W' : World} (h : plI C v pre W) (hB : Below W.heap.size W W') : plI C v pre W' :=
  ⟨ownL_frame h.1 (FrameT.below hB) (fun _ _ => id), fun x hx => ⟨(h.2 x hx).1.below hB, (h.2 x hx).2⟩⟩
/-- Parts in new memory: from C on. -/
def PNew (C : Nat) (W : World) (a : Option Addr) (len : Nat) (S : List PL) : Prop := HasP W a len S ∧ (∀ k, inBlkE a len k → C ≤ k) ∧ ∀ x ∈ S, ∀ k, inBlkE x.1.a x.1.len k → C ≤ k
theorem PNew.below {C : Nat} {W W' : World} {a : Option Addr} {len : Nat} {S : List PL} (h : PNew C W a len S) (hB : Below W.heap.size W W') : PNew C W' a len S := ⟨h.1.below hB, h.2⟩
theorem PNew.mono {C C' : Nat} {W : World} {a : Option Addr} {len : Nat} {S : List PL} (h : PNew C W a len S) (hC : C' ≤ C) : PNew C' W a len S := ⟨h.1, fun k hk => Nat.le_trans hC (h.2.1 k hk), fun x hx k hk => Nat.le_trans hC (h.2.2 x hx k hk)⟩
theorem PNew.frame {C : Nat} {T : Nat → Prop} {W W' : World} {a : Option Addr} {len : Nat} {S : List PL} (h : PNew C W a len S) (hF : FrameT T W W') (hT : ∀ k, C ≤ k → k < W.heap.size → ¬ T k) : PNew C W' a len S := by
  obtain ⟨⟨h1, h2, h3, h4⟩, h5, h6⟩ := h
  exact ⟨⟨h1, h2, rowV_frame h3 hF (fun k hk => hT k (h5 k hk) (inBlkL_lt h3 hk)), fun x hx => hasEL_frame (h4 x hx) hF (fun k hk => hT k (h6 x hx k hk) (inBlkL_lt (h4 x hx).2.2 hk))⟩, h5, h6⟩
theorem plI.out {C : Nat} {v : Value} {pre : List PL} {W : World} (h : plI C v pre W) (hn : pre.length < 1000000) : ∃ a cap, v = .slice a pre.length cap ∧ pre.length ≤ cap ∧ PNew C W a pre.length pre := by
  obtain ⟨a, cap, rfl, hc, hr⟩ := rowV_own h.1
  refine ⟨a, cap, rfl, hc, ⟨rfl, hn, hr, fun x hx => (h.2 x hx).1⟩, fun k hk => ?_, fun x hx k hk => ((h.2 x hx).2 k hk).1⟩
  obtain ⟨b, off, rfl, h0, rfl⟩ := hk
  exact (ownBlockL_lt h.1 rfl).2.1
end Go.Proofs.Ytflaanffjjidaaa

/- Package shard: whose a group is; what a shard has of a record's parts. -/
namespace Go.Proofs.Ytflaanffjjidaaa
open Go.RowKit Go.Shelf
set_option linter.unusedVariables false
attribute [local go_sem] Oper.semAt_some wide_fn wide_round_fn

def heldI (n : Int) : Int := if n < 1 then 1 else if 64 < n then 64 else n
def shOf (g n : Int) : Int := (if g < 0 then 0 else g) % heldI n
def ownC (s n : Int) (L : List ReadC) : List ReadC := L.filter fun x => decide (shOf x.g n = s)
end Go.Proofs.Ytflaanffjjidaaa

/- Records that were found, in memory; what a shard has of them: the iterator shares. -/
namespace Go.Proofs.Ytflaanffjjidaaa
open Go.RowKit Go.Shelf
set_option linter.unusedVariables false
attribute [local go_sem] Oper.semAt_some wide_fn wide_round_fn

/-- A record that was found, and where: its number, its parts, the place. -/
structure FV where
  q : Int
  a : Option Addr
  len : Nat
  cap : Nat
  L : List PL
  s : Int
  t : Int
abbrev FV.arr (x : FV) : Array Value := #[.int .i64 x.q, .slice x.a x.len x.cap, .int .i64 x.s, .int .i64 x.t]
abbrev FV.val (x : FV) : Value := .agg #[.int .i64 x.q, .slice x.a x.len x.cap, .int .i64 x.s, .int .i64 x.t]
/-- .. but for where its parts lie. -/
structure FC where
  q : Int
  ps : List ReadC
  s : Int
  t : Int
def fcore (x : FV) : FC := ⟨x.q, x.L.map core, x.s, x.t⟩
def fvCells (L : List FV) : List Value := (L.map fun x => x.arr.toList).flatten
theorem fvCells_snoc (L : List FV) (x : FV) : fvCells (L ++ [x]) = fvCells L ++ x.arr.toList := by simp [fvCells]
def FoundsAt (W : World) (a : Option Addr) (len : Nat) (L : List FV) : Prop := L.length = len ∧ len < 1000000 ∧ RowV W a len 4 (fvCells L) ∧ ∀ x ∈ L, HasP W x.a x.len x.L ∧ ∀ y ∈ x.L, -9223372036854775808 ≤ y.1.g ∧ y.1.g < 9223372036854775808
theorem FoundsAt.below {W W' : World} {a : Option Addr} {len : Nat} {L : List FV} (h : FoundsAt W a len L) (hB : Below W.heap.size W W') : FoundsAt W' a len L :=
  ⟨h.1, h.2.1, h.2.2.1.below hB, fun x hx => ⟨(h.2.2.2 x hx).1.below hB, (h.2.2.2 x hx).2⟩⟩
theorem fv_at4 {w W : World} {b off : Nat} {L : List FV} (hb : b < w.heap.size) (hB : Below w.heap.size w W) (hc : ∀ j (h : j < (fvCells L).length), w.cell? ⟨b, off + j, none⟩ = some (fvCells L)[j]) {k : Nat} (hk : k < L.length) :
    W.cell? ⟨b, off + k * 4, none⟩ = some (.int .i64 L[k].q) ∧ W.cell? ⟨b, off + k * 4 + 1, none⟩ = some (.slice L[k].a L[k].len L[k].cap) ∧ W.cell? ⟨b, off + k * 4 + 2, none⟩ = some (.int .i64 L[k].s) ∧ W.cell? ⟨b, off + k * 4 + 3, none⟩ = some (.int .i64 L[k].t) := by
  have key : ∀ j v, j < 4 → L[k].arr.toList[j]? = some v → W.cell? ⟨b, off + k * 4 + j, none⟩ = some v := fun j v hj hv => by
    rw [Nat.add_assoc]
    exact (hB.cell (p := ⟨b, off + (k * 4 + j), none⟩) hb).trans (RowV.at_ (len := L.length) (sz := 4) hc (by rw [fvCells, flat_at (fun x : FV => x.arr.toList) 4 (fun _ => rfl) L k j hk hj]; exact hv))
  exact ⟨key 0 _ (by decide) rfl, key 1 _ (by decide) rfl, key 2 _ (by decide) rfl, key 3 _ (by decide) rfl⟩
/-- What a shard has of records. -/
def ownF (s n : Int) (x : FC) : FC := ⟨x.q, ownC s n x.ps, x.s, x.t⟩
def splitC (s n : Int) (l : List FC) : List FC := (l.map (ownF s n)).filter fun x => !x.ps.isEmpty
theorem cells4 {W : World} {b : Nat} {T : TypeId} {v0 v1 v2 v3 : Value} (h : W.heap[b]? = some (.cells #[v0, v1, v2, v3] T (0, 0))) :
    W.cell? ⟨b, 0, none⟩ = some v0 ∧ W.cell? ⟨b, 1, none⟩ = some v1 ∧ W.cell? ⟨b, 2, none⟩ = some v2 ∧ W.cell? ⟨b, 3, none⟩ = some v3 := ⟨cell_of_row _ _ 0 _ _ _ h, cell_of_row _ _ 1 _ _ _ h, cell_of_row _ _ 2 _ _ _ h, cell_of_row _ _ 3 _ _ _ h⟩
end Go.Proofs.Ytflaanffjjidaaa

/- shard.Split: a row of records that grows; the marks of loops over functions within a loop; what all shards have. -/
namespace Go.Proofs.Ytflaanffjjidaaa
open Go.RowKit Go.Shelf
set_option linter.unusedVariables false
attribute [local go_sem] Oper.semAt_some wide_fn wide_round_fn

/-- Records in new memory: from C on. -/
def FNew (C : Nat) (W : World) (a : Option Addr) (len : Nat) (L : List FV) : Prop := L.length = len ∧ len < 1000000 ∧ RowV W a len 4 (fvCells L) ∧ (∀ k, inBlkE a len k → C ≤ k) ∧ ∀ x ∈ L, PNew C W x.a x.len x.L
theorem FNew.frame {C : Nat} {T : Nat → Prop} {W W' : World} {a : Option Addr} {len : Nat} {L : List FV} (h : FNew C W a len L) (hF : FrameT T W W') (hT : ∀ k, C ≤ k → k < W.heap.size → ¬ T k) : FNew C W' a len L :=
  ⟨h.1, h.2.1, rowV_frame h.2.2.1 hF (fun k hk => hT k (h.2.2.2.1 k hk) (inBlkL_lt h.2.2.1 hk)), h.2.2.2.1, fun x hx => (h.2.2.2.2 x hx).frame hF hT⟩
theorem FNew.below {C : Nat} {W W' : World} {a : Option Addr} {len : Nat} {L : List FV} (h : FNew C W a len L) (hB : Below W.heap.size W W') : FNew C W' a len L := h.frame (T := fun _ => False) (FrameT.below hB) (fun _ _ _ => id)
theorem FNew.mono {C C' : Nat} {W : World} {a : Option Addr} {len : Nat} {L : List FV} (h : FNew C W a len L) (hC : C' ≤ C) : FNew C' W a len L := ⟨h.1, h.2.1, h.2.2.1, fun k hk => Nat.le_trans hC (h.2.2.2.1 k hk), fun x hx => (h.2.2.2.2 x hx).mono hC⟩
/-- A part's rows don't lie in a block that grows. -/
def Off (v : Value) (x : FV) : Prop := (∀ k, inBlkE x.a x.len k → some k ≠ v.ownBlock) ∧ ∀ y ∈ x.L, ∀ k, inBlkE y.1.a y.1.len k → some k ≠ v.ownBlock
/-- A row of records that grows from C on. -/
def gI (C : Nat) (v : Value) (pre : List FV) (W : World) : Prop := W.ownsRow C 39 4 v pre.length (fvCells pre) ∧ ∀ x, x ∈ pre → PNew C W x.a x.len x.L ∧ Off v x
theorem gI_nil (C : Nat) (W : World) : gI C (.slice none 0 0) [] W := ⟨World.ownsRow_nil _ _ _ _, fun x hx => by cases hx⟩
theorem rowL_stab {B : Nat} {a : Option Addr} {n sz : Nat} {X : List Value} : Stab B (fun _ => False) (fun W => RowV W a n sz X) := fun W W' h hm => ⟨h.1, h.2.1, fun h0 => by
  obtain ⟨c, off, e, hlt, hc⟩ := h.2.2 h0
  exact ⟨c, off, e, Nat.lt_of_lt_of_le hlt hm.size, fun j hj => Stab.cell (B := B) (T := fun _ => False) id W W' (hc j hj) hm⟩⟩
theorem pNew_stab {B C : Nat} {a : Option Addr} {len : Nat} {S : List PL} : Stab B (fun _ => False) (fun W => PNew C W a len S) := fun W W' h hm =>
  ⟨⟨h.1.1, h.1.2.1, rowL_stab _ _ h.1.2.2.1 hm, fun x hx => ⟨(h.1.2.2.2 x hx).1, (h.1.2.2.2 x hx).2.1, rowL_stab _ _ (h.1.2.2.2 x hx).2.2 hm⟩⟩, h.2⟩
theorem gI_stab {B C : Nat} {v : Value} {pre : List FV} : Stab B (fun _ => False) (gI C v pre) := (Stab.ownsRow (fun _ h => h.elim)).and (Stab.all fun x => Stab.imp fun _ => pNew_stab.and (Stab.pure _))
theorem gI_append {C : Nat} {v v' : Value} {pre : List FV} {x : FV} {W w2 : World} (h : gI C v pre W) (hx : PNew C W x.a x.len x.L ∧ Off v x)
    (hown : w2.ownsRow C 39 4 v' (pre.length + 1) (fvCells pre ++ x.arr.toList)) (hg : W.grownBy w2 v.ownBlock) (hn : v'.ownBlock = v.ownBlock ∨ v'.ownBlock = some W.heap.size) :
    gI C v' (pre ++ [x]) w2 ∧ FrameT (fun k => some k = v.ownBlock) W w2 := by
  have hF := frameL_grown hg
  refine ⟨⟨by rw [List.length_append, fvCells_snoc]; exact hown, fun y hy => ?_⟩, hF⟩
  have hE : ∀ y : FV, PNew C W y.a y.len y.L ∧ Off v y → PNew C w2 y.a y.len y.L ∧ Off v' y := fun y hy => by
    obtain ⟨⟨⟨h1, h2, h3, h4⟩, h5, h6⟩, o1, o2⟩ := hy
    have key : ∀ k, k < W.heap.size → some k ≠ v.ownBlock → some k ≠ v'.ownBlock := fun k hk hv e => by
      rcases hn with hn | hn
      · exact hv (e.trans hn)
      · rw [hn] at e; cases e; omega
    exact ⟨⟨⟨h1, h2, rowV_frame h3 hF (fun k hk hT => o1 k hk hT), fun z hz => hasEL_frame (h4 z hz) hF (fun k hk hT => o2 z hz k hk hT)⟩, h5, h6⟩,
      fun k hk => key k (inBlkL_lt h3 hk) (o1 k hk), fun z hz k hk => key k (inBlkL_lt (h4 z hz).2.2 hk) (o2 z hz k hk)⟩
  rcases List.mem_append.1 hy with hy | hy
  · exact hE y (h.2 y hy)
  · rw [List.mem_singleton] at hy; subst hy; exact hE _ hx
theorem gI.out {C : Nat} {v : Value} {pre : List FV} {W : World} (h : gI C v pre W) (hn : pre.length < 1000000) : ∃ a cap, v = .slice a pre.length cap ∧ pre.length ≤ cap ∧ FNew C W a pre.length pre := by
  obtain ⟨a, cap, rfl, hc, hr⟩ := rowV_own h.1
  refine ⟨a, cap, rfl, hc, rfl, hn, hr, fun k hk => ?_, fun x hx => (h.2 x hx).1⟩
  obtain ⟨b, off, rfl, h0, rfl⟩ := hk
  exact (ownBlockL_lt h.1 rfl).2.1

/-! ### Marks of loops over functions that stand in a loop. -/
def marks (Ds : List Nat) : List Deferred := Ds.map fun D => { target := .collected D, args := #[] }
def Marked (B : Nat) (Ds : List Nat) (W : World) : Prop := Ds.Nodup ∧ ∀ D ∈ Ds, B ≤ D ∧ W.heap[D]? = some (.deferred (some []))
theorem Marked.frame {B : Nat} {Ds : List Nat} {T : Nat → Prop} {W W' : World} (h : Marked B Ds W) (hF : FrameT T W W') (hT : ∀ D ∈ Ds, ¬ T D) : Marked B Ds W' := ⟨h.1, fun D hD => ⟨(h.2 D hD).1, hF.get (h.2 D hD).2 (hT D hD)⟩⟩
end Go.Proofs.Ytflaanffjjidaaa

/- The contract of shard.Split. -/
namespace Go.Proofs.Ytflaanffjjidaaa
open Go.RowKit Go.Shelf
set_option linter.unusedVariables false
attribute [local go_sem] Oper.semAt_some wide_fn wide_round_fn

/-- What one shard has, where it lies. -/
structure SV where
  a : Option Addr
  c : Nat
  L : List FV
abbrev SV.val (x : SV) : Value := .slice x.a x.L.length x.c
def shDone (C : Nat) (n : Int) (Fs : List FC) (Sh : List SV) (W : World) : Prop := ∀ (i : Nat) (h : i < Sh.length), FNew C W Sh[i].a Sh[i].L.length Sh[i].L ∧ Sh[i].L.length ≤ Sh[i].c ∧ Sh[i].L.map fcore = splitC i n Fs
theorem shDone.frame {C : Nat} {n : Int} {Fs : List FC} {Sh : List SV} {T : Nat → Prop} {W W' : World} (h : shDone C n Fs Sh W) (hF : FrameT T W W') (hT : ∀ k, C ≤ k → k < W.heap.size → ¬ T k) : shDone C n Fs Sh W' := fun i hi => ⟨(h i hi).1.frame hF hT, (h i hi).2⟩
theorem boxes3s (w : World) (v1 v2 v3 : Value) (T1 T2 T3 : TypeId) : (((w.alloc (.cells #[v1] T1)).alloc (.cells #[v2] T2)).alloc (.cells #[v3] T3)).heap[w.heap.size]? = some (.cells #[v1] T1 (0, 0)) ∧ (((w.alloc (.cells #[v1] T1)).alloc (.cells #[v2] T2)).alloc (.cells #[v3] T3)).heap[w.heap.size + 1]? = some (.cells #[v2] T2 (0, 0)) ∧ (((w.alloc (.cells #[v1] T1)).alloc (.cells #[v2] T2)).alloc (.cells #[v3] T3)).heap[w.heap.size + 1 + 1]? = some (.cells #[v3] T3 (0, 0)) := by
  have h1 := two_a w #[v1] #[v2] T1 T2
  have h2 := two_b w #[v1] #[v2] T1 T2
  have hB := bel_alloc (Below.refl _ ((w.alloc (.cells #[v1] T1)).alloc (.cells #[v2] T2))) (.cells #[v3] T3)
  have h3 := World.alloc_heap_new ((w.alloc (.cells #[v1] T1)).alloc (.cells #[v2] T2)) (.cells #[v3] T3)
  rw [World.size_alloc, World.size_alloc] at h3
  exact ⟨(hB.block _ (heap_lt h1)).trans h1, (hB.block _ (heap_lt h2)).trans h2, h3⟩
end Go.Proofs.Ytflaanffjjidaaa
