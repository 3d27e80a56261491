/- Man, ManK, ManF, ManG: in one text. -/
import Derived.Test.YthedmemkckclpaaGreatManM
import Derived.Test.YthedmemkckclpaaGreatGrpDo
import Derived.Test.YthedmemkckclpaaGreatProg
import Derived.Test.YthedmemkckclpaaGreatIterK
import Derived.Maps.OwnSet
import Derived.Maps.OwnOps
import Derived.Maps.Views
import Derived.Test.YthedmemkckclpaaGreatMan0
/- All groups in memory: a map of groups by their numbers, a pointer to it. -/
namespace Go.Proofs.YthedmemkckclpaaGreat
open Go.RowKit Go.Shelf
set_option linter.unusedVariables false
attribute [local go_sem] Oper.semAt_some wide_fn wide_round_fn

/-- A group in memory: what it is, where its entries lie. -/
structure GV where
  g : GM
  a : Option Addr
  c : Nat
abbrev GV.val (x : GV) : Value := x.g.val x.a x.c
abbrev GV.id (x : GV) : Int := x.g.id
/-- How a group in a map reads: as its own value. -/
def valElem (v : Value) : Option (DataW Value × List MemPlace) := some (.held v, [])
theorem valElem_some {v u : Value} {ps : List MemPlace} (h : valElem v = some (.held u, ps)) : v = u := by
  simp only [valElem, Option.some.injEq, Prod.mk.injEq, DataW.held.injEq] at h; exact h.1
def gent (x : GV) : Lit × DataW Value := (.int .i64 x.id, .held x.val)
def gmap (F : List GV) : DataW Value := .map (F.map gent)
theorem same_num (a b : Int) : (Lit.int .i64 a).sameKey (.int .i64 b) = decide (a = b) := by simp [Lit.sameKey]
theorem gmap_at (F : List GV) (s : Int) (z : DataW Value) : (gmap F).atKey (.int .i64 s) z = match getZ GV.id F s with | some x => .held x.val | none => z := by
  unfold gmap DataW.atKey getZ
  dsimp only
  rw [List.find?_map]
  rw [show ((fun p : Lit × DataW Value => p.1.sameKey (.int .i64 s)) ∘ gent) = fun x : GV => decide (x.id = s) from funext fun x => same_num x.id s]
  cases F.find? (fun x : GV => decide (x.id = s)) <;> rfl
theorem gmap_has (F : List GV) (s : Int) : Maps.has (gmap F) (.int .i64 s) = (getZ GV.id F s).isSome := by
  unfold gmap getZ
  rw [Maps.has_eq, List.any_map, List.isSome_find?]
  congr 1
  funext x
  exact same_num x.id s
theorem gmap_size (F : List GV) : Maps.size (gmap F) = F.length := by unfold gmap; rw [Maps.size_eq, List.length_map]
theorem gins_map (x : GV) : ∀ F : List GV, DataW.insert (gent x) (F.map gent) = (insZ GV.id x F).map gent
  | [] => rfl
  | y :: r => by
    simp only [List.map_cons, DataW.insert, insZ]
    show (if decide (x.id < y.id) = true then _ else _) = _
    by_cases h : x.id < y.id
    · rw [if_pos (decide_eq_true h), if_pos h]; rfl
    · rw [if_neg (by simpa using h), if_neg h, gins_map x r]; rfl
theorem gmap_del (F : List GV) (s : Int) : (gmap F).del (.int .i64 s) = gmap (delZ GV.id F s) := by
  unfold gmap DataW.del delZ
  dsimp only
  rw [List.filter_map]
  congr 2
  apply List.filter_congr
  intro x _
  show (!(Lit.int .i64 x.id).sameKey _) = _
  rw [same_num]
theorem gmap_put (F : List GV) (x : GV) : (gmap F).put (.int .i64 x.id) (.held x.val) = gmap (putZ GV.id x F) := by
  have h := gmap_del F x.id
  unfold gmap DataW.del at h
  unfold gmap DataW.put
  dsimp only at h ⊢
  injection h with h
  rw [h]
  unfold putZ
  rw [← gins_map]; rfl
theorem gins_len (x : Lit × DataW Value) : ∀ l : List (Lit × DataW Value), (DataW.insert x l).length = l.length + 1
  | [] => rfl
  | y :: r => by
    unfold DataW.insert
    split
    · rfl
    · rw [List.length_cons, gins_len x r]; rfl
theorem gmap_tight {P : Program} {k : TypeId} {R : Value → Option (DataW Value × List MemPlace)} {w : World} {b n : Nat} {D : DataW Value} (h : w.ownsMap P k R b n D) : w.ownsMap P k R b (Maps.size D) D := by
  obtain ⟨es, clock, h1, h2, h3, h4⟩ := h
  refine ⟨es, clock, h1, h2, ?_, h4⟩
  rw [h4, Maps.size_eq]
  have : ∀ l : List (Lit × DataW Value), (l.foldr DataW.insert []).length = l.length := fun l => by
    induction l with
    | nil => rfl
    | cons x r ih => rw [List.foldr_cons, gins_len, ih]; rfl
  rw [this, List.length_map]
  simp

/-- A map of groups in memory. -/
structure HasMap (W : World) (m : Nat) (F : List GV) : Prop where
  map : W.ownsMap Tryz.prog 3 valElem m F.length (gmap F)
  has : ∀ x ∈ F, HasG W x.a x.g
/-- A pointer to all groups. -/
def ManAt (W : World) (d m : Nat) (F : List GV) : Prop := W.heap[d]? = some (.cells #[.map (some m)] 42 (0, 0)) ∧ HasMap W m F
theorem gmap_frame {T : Nat → Prop} {W W' : World} {P : Program} {k : TypeId} {R : Value → Option (DataW Value × List MemPlace)} {b n : Nat} {D : DataW Value} (h : W.ownsMap P k R b n D) (hF : FrameT T W W') (hT : ¬ T b) : W'.ownsMap P k R b n D := by
  obtain ⟨es, clock, h1, r⟩ := h
  exact ⟨es, clock, hF.get h1 hT, r⟩
/-- Where a group's entries lie. -/
def inG (x : GV) (k : Nat) : Prop := inBlkE x.a x.g.l.length k
theorem hasG_frame {T : Nat → Prop} {W W' : World} {a : Option Addr} {g : GM} (h : HasG W a g) (hF : FrameT T W W') (hT : ∀ k, inBlkE a g.l.length k → ¬ T k) : HasG W' a g := ⟨h.1, rowV_frame h.2 hF hT⟩
theorem HasMap.frame {T : Nat → Prop} {W W' : World} {m : Nat} {F : List GV} (h : HasMap W m F) (hF : FrameT T W W') (hm : ¬ T m) (hT : ∀ x ∈ F, ∀ k, inG x k → ¬ T k) : HasMap W' m F :=
  { map := gmap_frame h.map hF hm
    has := fun x hx => hasG_frame (h.has x hx) hF (fun k hk => hT x hx k hk) }
theorem HasMap.below {W W' : World} {m : Nat} {F : List GV} (h : HasMap W m F) (hB : Below W.heap.size W W') : HasMap W' m F :=
  h.frame (T := fun _ => False) (FrameT.below hB) id (fun _ _ _ _ => id)
theorem ManAt.below {W W' : World} {d m : Nat} {F : List GV} (h : ManAt W d m F) (hB : Below W.heap.size W W') : ManAt W' d m F :=
  ⟨(hB.block d (Array.getElem?_eq_some_iff.1 h.1).1).trans h.1, h.2.below hB⟩
/-- No entries lie in a map's block or in a pointer's. -/
theorem HasG.not_map {W : World} {a : Option Addr} {g : GM} (h : HasG W a g) {m : Nat} {es : Array MapEntry} {clock : Nat} (hm : W.heap[m]? = some (.map es clock)) : ∀ k, inBlkE a g.l.length k → k ≠ m := by
  rintro k ⟨b, off, e, h0, rfl⟩ hb
  subst hb
  obtain ⟨b', off', e', _, hc⟩ := h.2.2.2 h0
  rw [e] at e'
  cases e'
  have hl : (entryCells g.l).length = g.l.length * 3 := h.2.1
  have := hc 0 (by omega)
  simp [World.cell?, hm] at this
theorem HasG.not_cell {W : World} {a : Option Addr} {g : GM} (h : HasG W a g) {d : Nat} {v : Value} {t : TypeId} {fz : Nat × Nat} (hd : W.heap[d]? = some (.cells #[v] t fz)) : ∀ k, inBlkE a g.l.length k → k ≠ d := by
  rintro k ⟨b, off, e, h0, rfl⟩ hb
  subst hb
  obtain ⟨b', off', e', _, hc⟩ := h.2.2.2 h0
  rw [e] at e'
  cases e'
  have hl : (entryCells g.l).length = g.l.length * 3 := h.2.1
  have := hc 1 (by omega)
  simp [World.cell?, hd] at this
theorem HasMap.block {W : World} {m : Nat} {F : List GV} (h : HasMap W m F) : ∃ es clock, W.heap[m]? = some (.map es clock) := by
  obtain ⟨es, clock, h1, _⟩ := h.map
  exact ⟨es, clock, h1⟩
theorem gframe_map {w w' : World} {m : Nat} (h : w.grownBy w' (some m)) : FrameT (fun k => k = m) w w' := ⟨h.os, h.tape, h.output, h.size, fun k hk hT => h.block k hk (fun e => hT (by injection e))⟩
/-- A group is laid into the map. -/
theorem HasMap.put {W w1 : World} {m n' : Nat} {F : List GV} (h : HasMap W m F) (x : GV) (hx : HasG W x.a x.g) (hm : w1.ownsMap Tryz.prog 3 valElem m n' ((gmap F).put (.int .i64 x.id) (.held x.val))) (hF : FrameT (fun k => k = m) W w1) : HasMap w1 m (putZ GV.id x F) := by
  obtain ⟨es, clock, hb⟩ := h.block
  rw [gmap_put] at hm
  have hm2 := gmap_tight hm
  rw [gmap_size] at hm2
  refine ⟨hm2, fun y hy => ?_⟩
  rcases mem_putZ.1 hy with rfl | ⟨hy, _⟩
  · exact hasG_frame hx hF (fun k hk e => hx.not_map hb k hk e)
  · exact hasG_frame (h.has y hy) hF (fun k hk e => (h.has y hy).not_map hb k hk e)
theorem HasMap.del {W w1 : World} {m n' : Nat} {F : List GV} (h : HasMap W m F) (s : Int) (hm : w1.ownsMap Tryz.prog 3 valElem m n' ((gmap F).del (.int .i64 s))) (hF : FrameT (fun k => k = m) W w1) : HasMap w1 m (delZ GV.id F s) := by
  obtain ⟨es, clock, hb⟩ := h.block
  rw [gmap_del] at hm
  have hm2 := gmap_tight hm
  rw [gmap_size] at hm2
  exact ⟨hm2, fun y hy => hasG_frame (h.has y (mem_delZ.1 hy).1) hF (fun k hk e => (h.has y (mem_delZ.1 hy).1).not_map hb k hk e)⟩
theorem zeroGrp (w : World) : (zeroValue 39).run Tryz.prog w = .ok (.agg #[.int .i64 0, .int .i64 0, .int .i64 0, .int .i64 0, .int .i64 0, .int .i64 0, .slice none 0 0]) w := by kernel_rfl
theorem lawG : Maps.Keyed Tryz.prog 3 := Maps.int_keyed Tryz.underlying3
/-- What a look for a number gives. -/
def lookV (F : List GV) (s : Int) : Value := match getZ GV.id F s with | some x => x.val | none => .agg #[.int .i64 0, .int .i64 0, .int .i64 0, .int .i64 0, .int .i64 0, .int .i64 0, .slice none 0 0]
theorem HasMap.look {W : World} {m : Nat} {F : List GV} (h : HasMap W m F) (s : Int) (hs : (Lit.int .i64 s).wf = true) : (Instr.lookup 40 (.map (some m)) (.int .i64 s) true).run Tryz.prog W = .ok (.tuple #[lookV F s, .bool (getZ GV.id F s).isSome]) W := by
  obtain ⟨v, ps, hrun, hv⟩ := h.map.look_ok lawG Tryz.underlying40 (zeroGrp W) (zd := .held (.agg #[.int .i64 0, .int .i64 0, .int .i64 0, .int .i64 0, .int .i64 0, .int .i64 0, .slice none 0 0])) (zp := []) rfl (Maps.keyOf_int_mk Tryz.underlying3 hs)
  rw [gmap_has] at hrun
  rw [gmap_at] at hv
  have e : v = lookV F s := by
    unfold lookV
    cases hg : getZ GV.id F s with
    | none => rw [hg] at hv; exact valElem_some hv
    | some x => rw [hg] at hv; exact valElem_some hv
  rw [← e]; exact hrun
theorem HasMap.look1 {W : World} {m : Nat} {F : List GV} (h : HasMap W m F) (s : Int) (hs : (Lit.int .i64 s).wf = true) : (Instr.lookup 40 (.map (some m)) (.int .i64 s) false).run Tryz.prog W = .ok (lookV F s) W := by
  obtain ⟨v, ps, hrun, hv⟩ := h.map.lookup lawG Tryz.underlying40 (zeroGrp W) (zd := .held (.agg #[.int .i64 0, .int .i64 0, .int .i64 0, .int .i64 0, .int .i64 0, .int .i64 0, .slice none 0 0])) (zp := []) rfl (Maps.keyOf_int_mk Tryz.underlying3 hs)
  rw [gmap_at] at hv
  have e : v = lookV F s := by
    unfold lookV
    cases hg : getZ GV.id F s with
    | none => rw [hg] at hv; exact valElem_some hv
    | some x => rw [hg] at hv; exact valElem_some hv
  rw [← e]; exact hrun

end Go.Proofs.YthedmemkckclpaaGreat

/- maps.Clone at groups; own: a group with entries of its own; refused. -/
namespace Go.Proofs.YthedmemkckclpaaGreat
open Go.RowKit Go.Shelf
set_option linter.unusedVariables false
attribute [local go_sem] Oper.semAt_some wide_fn wide_round_fn

theorem gclone_any {W : World} {m : Nat} {F : List GV} (h : HasMap W m F) : Calls Tryz.prog 26 #[.map (some m)] W fun e w' => e = .returned (.map (some W.heap.size)) ∧ HasMap w' W.heap.size F ∧ Below W.heap.size W w' := by
  have h0 : Calls Tryz.prog 26 #[.map (some m)] W fun e w' => e = .returned (.map (some W.heap.size)) ∧ w'.ownsMap Tryz.prog 3 valElem W.heap.size F.length (gmap F) ∧ w'.ownsMap Tryz.prog 3 valElem m F.length (gmap F) ∧ Below W.heap.size W w' := AnyW.maps_Clone_owns Tryz.cloneG 3 valElem m F.length (gmap F) W h.map
  refine h0.mono ?_
  rintro e w' ⟨rfl, h1, _, hB⟩
  exact ⟨rfl, ⟨h1, fun x hx => (h.has x hx).below hB⟩, hB⟩
theorem own_rowE {W : World} {B n : Nat} {v : Value} {l : List EntryC} (h : W.ownsRow B 61 3 v n (entryCells l)) : ∃ a c, v = .slice a n c ∧ n ≤ c ∧ RowV W a n 3 (entryCells l) := by
  obtain ⟨a, c, e, hc, hr⟩ := rowV_own h
  exact ⟨a, c, e, hc, hr⟩
/-- A group with entries of its own. -/
theorem own_any (g : GM) (a : Option Addr) (c : Nat) (W : World) (h : HasG W a g) : Calls Tryz.prog 15 #[g.val a c] W fun e w' => ∃ a' c', e = .returned (g.val a' c') ∧ HasG w' a' g ∧ g.l.length ≤ c' ∧ Below W.heap.size W w' := by
  obtain ⟨id, fi, te, ht, hv, hc, l⟩ := g
  have GC := Lib.hid (fun W' (hB : Below W.heap.size W W') => clone_ent a l.length c l rfl h.1 W' (h.2.below hB))
  have hm := h.1
  have hA := bel_alloc (bel_alloc (Below.refl W.heap.size W) (.cells #[.int .i64 id, .int .i64 fi, .int .i64 te, .int .i64 ht, .int .i64 hv, .int .i64 hc, .slice a l.length c] 39)) (.cells #[.int .i64 0, .int .i64 0, .int .i64 0, .int .i64 0, .int .i64 0, .int .i64 0, .slice none 0 0] 39)
  have q0 : ((W.alloc (.cells #[.int .i64 id, .int .i64 fi, .int .i64 te, .int .i64 ht, .int .i64 hv, .int .i64 hc, .slice a l.length c] 39)).alloc (.cells #[.int .i64 0, .int .i64 0, .int .i64 0, .int .i64 0, .int .i64 0, .int .i64 0, .slice none 0 0] 39)).heap[W.heap.size]? = some (.cells #[.int .i64 id, .int .i64 fi, .int .i64 te, .int .i64 ht, .int .i64 hv, .int .i64 hc, .slice a l.length c] 39 (0, 0)) := (Below.heap_alloc _ _ _ (by simp)).trans (World.alloc_heap_new W _)
  have q1 : ((W.alloc (.cells #[.int .i64 id, .int .i64 fi, .int .i64 te, .int .i64 ht, .int .i64 hv, .int .i64 hc, .slice a l.length c] 39)).alloc (.cells #[.int .i64 0, .int .i64 0, .int .i64 0, .int .i64 0, .int .i64 0, .int .i64 0, .slice none 0 0] 39)).heap[W.heap.size + 1]? = some (.cells #[.int .i64 0, .int .i64 0, .int .i64 0, .int .i64 0, .int .i64 0, .int .i64 0, .slice none 0 0] 39 (0, 0)) := by
    have := World.alloc_heap_new (W.alloc (.cells #[.int .i64 id, .int .i64 fi, .int .i64 te, .int .i64 ht, .int .i64 hv, .int .i64 hc, .slice a l.length c] 39)) (.cells #[.int .i64 0, .int .i64 0, .int .i64 0, .int .i64 0, .int .i64 0, .int .i64 0, .slice none 0 0] 39)
    rwa [World.size_alloc] at this
  have HQ0 := Lib.hid q0
  have HQ1 := Lib.hid q1
  have HA := Lib.hid hA
  clear h q0 q1 hA
  unfold GivesOwn at GC
  dsimp only [GM.val] at *
  go_enter Tryz.func15, Tryz.ntmps15
  go_wp2_with (go_at_call 25; ((with_reducible refine (GC.out _ HA.out).mono ?_); rintro e w2 ⟨v, rfl, hown, hB2⟩; obtain ⟨va, vc, rfl, hle, -⟩ := rowV_own hown; have hb0 := (hB2.block _ (heap_lt HQ0.out)).trans HQ0.out; have hb1 := (hB2.block _ (heap_lt HQ1.out)).trans HQ1.out; have H0 := Lib.hid hb0; have H1 := Lib.hid hb1; obtain ⟨g0, g1, g2, g3, g4, g5, g6, fg⟩ := cells7 hb0; obtain ⟨r0, r1, r2, r3, r4, r5, r6, fr⟩ := cells7 hb1; have HO := Lib.hid hown; have HB2 := Lib.hid hB2; clear hb0 hb1 hown hB2))
  clear g0 g1 g2 g3 g4 g5 g6 fg r0 r1 r2 r3 r4 r5 r6 fr
  have hb1' : (w2.setCell ⟨W.heap.size, 6, none⟩ (.slice va l.length vc)).heap[W.heap.size + 1]? = some (.cells #[.int .i64 0, .int .i64 0, .int .i64 0, .int .i64 0, .int .i64 0, .int .i64 0, .slice none 0 0] 39 (0, 0)) := (heap_setCell_other _ _ _ _ (by simp)).trans H1.out
  have hb7 := st7_block hb1' (.int .i64 id) (.int .i64 fi) (.int .i64 te) (.int .i64 ht) (.int .i64 hv) (.int .i64 hc) (.slice va l.length vc)
  have hF7 := (FrameT.setCell w2 W.heap.size 6 (.slice va l.length vc)).mono (U := fun k => k = W.heap.size ∨ k = W.heap.size + 1) (fun k h => .inl h)
  have hF8 := hF7.trans ((st7_frame (w2.setCell ⟨W.heap.size, 6, none⟩ (.slice va l.length vc)) (W.heap.size + 1) (.int .i64 id) (.int .i64 fi) (.int .i64 te) (.int .i64 ht) (.int .i64 hv) (.int .i64 hc) (.slice va l.length vc)).mono (fun k h => .inr h))
  have hown2 := own_frame HO.out hF8 (fun k hk h => by simp at hk; rcases h with h | h <;> omega)
  have hbel0 := bel2 HA.out HB2.out
  have hbel := hbel0.trans (hF8.toBelow hbel0.size (fun k h => by rcases h with h | h <;> omega))
  obtain ⟨e0, e1, e2, e3, e4, e5, e6, -⟩ := cells7 hb7
  obtain ⟨va', vc', hx, -, hrow⟩ := rowV_own hown2
  cases hx
  refine bodyPost_ret (v := .agg #[.int .i64 id, .int .i64 fi, .int .i64 te, .int .i64 ht, .int .i64 hv, .int .i64 hc, .slice va l.length vc]) (by simp [results, Tryz.results15, go_sem, e0, e1, e2, e3, e4, e5, e6]) rfl ?_
  exact ⟨va, vc, rfl, ⟨hm, hrow⟩, hle, hbel⟩
theorem alloc3m (w : World) (A B C : Array Value) (S T U : TypeId) : (((w.alloc (.cells A S)).alloc (.cells B T)).alloc (.cells C U)).heap[w.heap.size]? = some (.cells A S (0, 0)) ∧ (((w.alloc (.cells A S)).alloc (.cells B T)).alloc (.cells C U)).heap[w.heap.size + 1]? = some (.cells B T (0, 0)) ∧ (((w.alloc (.cells A S)).alloc (.cells B T)).alloc (.cells C U)).heap[w.heap.size + 1 + 1]? = some (.cells C U (0, 0)) := by
  have h1 := World.alloc_heap_new w (.cells A S)
  have h2 := World.alloc_heap_new (w.alloc (.cells A S)) (.cells B T)
  have h3 := World.alloc_heap_new ((w.alloc (.cells A S)).alloc (.cells B T)) (.cells C U)
  rw [World.size_alloc] at h2 h3
  rw [World.size_alloc] at h3
  refine ⟨?_, ?_, h3⟩
  · exact (Below.heap_alloc _ _ _ (by simp; omega)).trans ((Below.heap_alloc _ _ _ (by simp)).trans h1)
  · exact (Below.heap_alloc _ _ _ (by simp)).trans h2
set_option maxRecDepth 100000 in
theorem refused_any (p : PartC) (l : List EntryC) (W : World) (h : HasE W p l) : Gives Tryz.prog 35 #[p.val] W (.bool (refP (p, l))) := by
  have GI := Lib.hid (fun W' (hB : Below W.heap.size W W') => is_any p l W' (h.below hB))
  unfold refP
  dsimp only
  generalize isB p l = b at *
  obtain ⟨g, k, a, len, cap, ht, hv, hc, i, t, m, hh⟩ := p
  have hA := bel_alloc (Below.refl W.heap.size W) (.cells #[.int .i64 g, .int .i64 k, .slice a len cap, .int .i64 ht, .int .i64 hv, .int .i64 hc, .int .i64 i, .int .i64 t, .bool m, .bool hh] 30)
  have hq := World.alloc_heap_new W (.cells #[.int .i64 g, .int .i64 k, .slice a len cap, .int .i64 ht, .int .i64 hv, .int .i64 hc, .int .i64 i, .int .i64 t, .bool m, .bool hh] 30)
  have HA := Lib.hid hA
  have HQ := Lib.hid hq
  clear h hA hq
  unfold Gives at *
  dsimp only [PartC.val] at *
  cases b
  · go_enter Tryz.func35, Tryz.ntmps35
    go_wp2_with (go_at_call 28; ((with_reducible refine (GI.out _ HA.out).mono ?_); rintro e w1 ⟨rfl, hB1⟩))
    go_ret
    exact ⟨rfl, bel2 HA.out hB1⟩
  · by_cases hk : k = 6
    · subst hk
      go_enter Tryz.func35, Tryz.ntmps35
      go_wp2_with (go_at_call 28; ((with_reducible refine (GI.out _ HA.out).mono ?_); rintro e w1 ⟨rfl, hB1⟩; obtain ⟨p0, p1, p2, p3, p4, p5, p6, p7, p8, p9⟩ := arr10q ((hB1.block _ (heap_lt HQ.out)).trans HQ.out)))
      go_ret
      exact ⟨rfl, bel2 HA.out hB1⟩
    · have hk2 : (k == 6) = false := by rw [beq_eq_false_iff_ne]; exact hk
      have HR := Lib.hid (show (!true || decide (k = 6)) = false by rw [decide_eq_false hk]; rfl)
      clear hk
      go_enter Tryz.func35, Tryz.ntmps35
      go_wp2_with (go_at_call 28; ((with_reducible refine (GI.out _ HA.out).mono ?_); rintro e w1 ⟨rfl, hB1⟩; obtain ⟨p0, p1, p2, p3, p4, p5, p6, p7, p8, p9⟩ := arr10q ((hB1.block _ (heap_lt HQ.out)).trans HQ.out)))
      go_ret
      exact ⟨by rw [HR.out]; rfl, bel2 HA.out hB1⟩
theorem mnew_any (W : World) : Calls Tryz.prog 5 #[] W fun e w' => e = .returned (.pointer (some ⟨W.heap.size + 1, 0, none⟩)) ∧ ManAt w' (W.heap.size + 1) W.heap.size [] ∧ Below W.heap.size W w' := by
  have hmm := @run_makeMap Tryz.prog
  go_enter Tryz.func5, Tryz.ntmps5
  go_wp2
  refine bodyPost_ret (results_tmp rfl _ _ _) rfl ⟨rfl, ⟨?_, ?_, fun x hx => by cases hx⟩, bel_alloc (bel_alloc (Below.refl _ _) _) _⟩
  · have := World.alloc_heap_new (W.alloc (.map #[] 0)) (.cells #[.map (some W.heap.size)] 42)
    rwa [World.size_alloc] at this
  · exact (World.ownsMap_made W Tryz.prog 3 valElem).alloc _
theorem mcopy_any {W : World} {d m : Nat} {F : List GV} (h : ManAt W d m F) : Calls Tryz.prog 17 #[.pointer (some ⟨d, 0, none⟩)] W fun e w' => ∃ d' m', e = .returned (.pointer (some ⟨d', 0, none⟩)) ∧ W.heap.size ≤ d' ∧ W.heap.size ≤ m' ∧ ManAt w' d' m' F ∧ Below W.heap.size W w' := by
  have c0 := cell_of_row W d 0 _ _ _ h.1
  have GC := Lib.hid (gclone_any h.2)
  clear h
  go_enter Tryz.func17, Tryz.ntmps17
  go_wp2_with (go_at_call 26; ((with_reducible refine GC.out.mono ?_); rintro e w1 ⟨rfl, hm, hB1⟩))
  go_ret
  have hB2 := bel_alloc (Below.refl w1.heap.size w1) (.cells #[.map (some W.heap.size)] 42)
  exact ⟨_, _, rfl, hB1.size, Nat.le_refl _, ⟨World.alloc_heap_new w1 _, hm.below hB2⟩, bel2 hB1 hB2⟩

end Go.Proofs.YthedmemkckclpaaGreat

/- settle, (*Many).do. -/
namespace Go.Proofs.YthedmemkckclpaaGreat
open Go.RowKit Go.Shelf
set_option linter.unusedVariables false
attribute [local go_sem] Oper.semAt_some wide_fn wide_round_fn

set_option maxRecDepth 100000 in
set_option maxHeartbeats 1000000 in
theorem settle_any (g : GM) (a : Option Addr) (c : Nat) (p : PartC) (W : World) (hg : HasG W a g) (hG : isG g = true) : Gives Tryz.prog 52 #[g.val a c, p.val] W (setP g p).val := by
  have GT := Lib.hid (fun W' (hB : Below W.heap.size W W') => term_any g.id g.fi g.te g.ht g.hv g.hc g.l a c p.i W' (hg.below hB) hG)
  obtain ⟨id, fi, te, ht, hv, hc, l⟩ := g
  obtain ⟨pg, pk, pa, len, cap, pht, phv, phc, i, t, pm, ph⟩ := p
  unfold setP
  dsimp only [GM.val, PartC.val] at *
  generalize (termG ⟨id, fi, te, ht, hv, hc, l⟩ i).1 = tv at *
  generalize (termG ⟨id, fi, te, ht, hv, hc, l⟩ i).2 = te2 at *
  obtain ⟨q0, q1, q2⟩ := alloc3m W #[.int .i64 id, .int .i64 fi, .int .i64 te, .int .i64 ht, .int .i64 hv, .int .i64 hc, .slice a l.length c] #[.int .i64 pg, .int .i64 pk, .slice pa len cap, .int .i64 pht, .int .i64 phv, .int .i64 phc, .int .i64 i, .int .i64 t, .bool pm, .bool ph] #[.int .i64 0, .int .i64 0, .slice none 0 0, .int .i64 0, .int .i64 0, .int .i64 0, .int .i64 0, .int .i64 0, .bool false, .bool false] 39 30 30
  have hA := bel_alloc (bel_alloc (bel_alloc (Below.refl W.heap.size W) (.cells #[.int .i64 id, .int .i64 fi, .int .i64 te, .int .i64 ht, .int .i64 hv, .int .i64 hc, .slice a l.length c] 39)) (.cells #[.int .i64 pg, .int .i64 pk, .slice pa len cap, .int .i64 pht, .int .i64 phv, .int .i64 phc, .int .i64 i, .int .i64 t, .bool pm, .bool ph] 30)) (.cells #[.int .i64 0, .int .i64 0, .slice none 0 0, .int .i64 0, .int .i64 0, .int .i64 0, .int .i64 0, .int .i64 0, .bool false, .bool false] 30)
  have HQ1 := Lib.hid q1
  have HQ2 := Lib.hid q2
  have HA := Lib.hid hA
  clear hg hG q0 q1 q2 hA
  unfold Gives at *
  by_cases he : te2 ≠ 0
  · rw [if_pos he]
    have he2 : (te2 != 0) = true := by rw [bne_iff_ne]; exact he
    clear he
    go_enter Tryz.func52, Tryz.ntmps52
    go_wp2_with (go_at_call 69; ((with_reducible refine (GT.out _ HA.out).mono ?_); rintro e w1 ⟨rfl, hB1⟩; have hb2 := (hB1.block _ (heap_lt HQ2.out)).trans HQ2.out; obtain ⟨p0, p1, p2, p3, p4, p5, p6, p7, p8, p9⟩ := arr10q ((hB1.block _ (heap_lt HQ1.out)).trans HQ1.out); obtain ⟨r0, r1, r2, r3, r4, r5, r6, r7, r8, r9⟩ := arr10q hb2; have fr := fun i => frozen_of_row w1 (W.heap.size + 1 + 1) i _ _ hb2; have HB2 := Lib.hid hb2; clear hb2))
    clear p0 p1 p2 p3 p4 p5 p6 p7 p8 p9 r0 r1 r2 r3 r4 r5 r6 r7 r8 r9
    obtain ⟨e0, e1, e2, e3, e4, e5, e6, e7, e8, e9⟩ := arr10q (st10_block HB2.out (.int .i64 pg) (.int .i64 pk) (.slice pa len cap) (.int .i64 pht) (.int .i64 phv) (.int .i64 phc) (.int .i64 i) (.int .i64 t) (.bool pm) (.bool ph))
    refine bodyPost_ret (v := .agg #[.int .i64 pg, .int .i64 pk, .slice pa len cap, .int .i64 pht, .int .i64 phv, .int .i64 phc, .int .i64 i, .int .i64 t, .bool pm, .bool ph]) (by simp [results, Tryz.results52, go_sem, e0, e1, e2, e3, e4, e5, e6, e7, e8, e9]) rfl ?_
    exact ⟨rfl, st10_below (bel2 HA.out hB1) (by omega) _ _ _ _ _ _ _ _ _ _⟩
  · rw [if_neg he]
    obtain rfl : te2 = 0 := by omega
    clear he
    by_cases hk3 : pk = 3
    · rw [if_pos hk3]
      subst hk3
      go_enter Tryz.func52, Tryz.ntmps52
      go_wp2_with (go_at_call 69; ((with_reducible refine (GT.out _ HA.out).mono ?_); rintro e w1 ⟨rfl, hB1⟩; have hb1 := (hB1.block _ (heap_lt HQ1.out)).trans HQ1.out; have hb2 := (hB1.block _ (heap_lt HQ2.out)).trans HQ2.out; obtain ⟨p0, p1, p2, p3, p4, p5, p6, p7, p8, p9⟩ := arr10q hb1; obtain ⟨r0, r1, r2, r3, r4, r5, r6, r7, r8, r9⟩ := arr10q hb2; have fr := (fun i => frozen_of_row w1 (W.heap.size + 1 + 1) i _ _ hb2); have fp := (fun i => frozen_of_row w1 (W.heap.size + 1) i _ _ hb1); have HB2 := Lib.hid hb2; clear hb2 hb1))
      clear p0 p1 p2 p3 p4 p5 p6 p7 p8 p9 r0 r1 r2 r3 r4 r5 r6 r7 r8 r9
      have hb3 : (w1.setCell ⟨W.heap.size + 1, 7, none⟩ (.int .i64 tv)).heap[W.heap.size + 1 + 1]? = _ := (heap_setCell_other _ _ _ _ (by simp)).trans HB2.out
      obtain ⟨e0, e1, e2, e3, e4, e5, e6, e7, e8, e9⟩ := arr10q (st10_block hb3 (.int .i64 pg) (.int .i64 3) (.slice pa len cap) (.int .i64 pht) (.int .i64 phv) (.int .i64 phc) (.int .i64 i) (.int .i64 tv) (.bool pm) (.bool ph))
      refine bodyPost_ret (v := .agg #[.int .i64 pg, .int .i64 3, .slice pa len cap, .int .i64 pht, .int .i64 phv, .int .i64 phc, .int .i64 i, .int .i64 tv, .bool pm, .bool ph]) (by simp [results, Tryz.results52, go_sem, e0, e1, e2, e3, e4, e5, e6, e7, e8, e9]) rfl ?_
      exact ⟨rfl, st10_below ((bel2 HA.out hB1).setCell (p := ⟨W.heap.size + 1, 7, none⟩) (by simp) _) (by omega) _ _ _ _ _ _ _ _ _ _⟩
    · rw [if_neg hk3]
      have hk3' : (pk == 3) = false := by rw [beq_eq_false_iff_ne]; exact hk3
      by_cases hc4 : pk = 4 ∧ t = tv
      · rw [if_pos hc4]
        obtain ⟨rfl, rfl⟩ := hc4
        go_enter Tryz.func52, Tryz.ntmps52
        go_wp2_with (go_at_call 69; ((with_reducible refine (GT.out _ HA.out).mono ?_); rintro e w1 ⟨rfl, hB1⟩; have hb1 := (hB1.block _ (heap_lt HQ1.out)).trans HQ1.out; have hb2 := (hB1.block _ (heap_lt HQ2.out)).trans HQ2.out; obtain ⟨p0, p1, p2, p3, p4, p5, p6, p7, p8, p9⟩ := arr10q hb1; obtain ⟨r0, r1, r2, r3, r4, r5, r6, r7, r8, r9⟩ := arr10q hb2; have fr := (fun i => frozen_of_row w1 (W.heap.size + 1 + 1) i _ _ hb2); have fp := (fun i => frozen_of_row w1 (W.heap.size + 1) i _ _ hb1); have HB2 := Lib.hid hb2; clear hb2 hb1))
        clear p0 p1 p2 p3 p4 p5 p6 p7 p8 p9 r0 r1 r2 r3 r4 r5 r6 r7 r8 r9
        have hb3 : (w1.setCell ⟨W.heap.size + 1, 1, none⟩ (.int .i64 3)).heap[W.heap.size + 1 + 1]? = _ := (heap_setCell_other _ _ _ _ (by simp)).trans HB2.out
        obtain ⟨e0, e1, e2, e3, e4, e5, e6, e7, e8, e9⟩ := arr10q (st10_block hb3 (.int .i64 pg) (.int .i64 3) (.slice pa len cap) (.int .i64 pht) (.int .i64 phv) (.int .i64 phc) (.int .i64 i) (.int .i64 t) (.bool pm) (.bool ph))
        refine bodyPost_ret (v := .agg #[.int .i64 pg, .int .i64 3, .slice pa len cap, .int .i64 pht, .int .i64 phv, .int .i64 phc, .int .i64 i, .int .i64 t, .bool pm, .bool ph]) (by simp [results, Tryz.results52, go_sem, e0, e1, e2, e3, e4, e5, e6, e7, e8, e9]) rfl ?_
        exact ⟨rfl, st10_below ((bel2 HA.out hB1).setCell (p := ⟨W.heap.size + 1, 1, none⟩) (by simp) _) (by omega) _ _ _ _ _ _ _ _ _ _⟩
      · rw [if_neg hc4]
        have hst : pk ≠ 4 ∨ (pk = 4 ∧ t ≠ tv) := by
          by_cases h : pk = 4
          · exact .inr ⟨h, fun e => hc4 ⟨h, e⟩⟩
          · exact .inl h
        clear hc4 hk3
        rcases hst with h4 | ⟨rfl, h4⟩
        · have h4' : (pk == 4) = false := by rw [beq_eq_false_iff_ne]; exact h4
          clear h4
          go_enter Tryz.func52, Tryz.ntmps52
          go_wp2_with (go_at_call 69; ((with_reducible refine (GT.out _ HA.out).mono ?_); rintro e w1 ⟨rfl, hB1⟩; have hb2 := (hB1.block _ (heap_lt HQ2.out)).trans HQ2.out; obtain ⟨p0, p1, p2, p3, p4, p5, p6, p7, p8, p9⟩ := arr10q ((hB1.block _ (heap_lt HQ1.out)).trans HQ1.out); obtain ⟨r0, r1, r2, r3, r4, r5, r6, r7, r8, r9⟩ := arr10q hb2; have fr := (fun i => frozen_of_row w1 (W.heap.size + 1 + 1) i _ _ hb2); have HB2 := Lib.hid hb2; clear hb2))
          clear p0 p1 p2 p3 p4 p5 p6 p7 p8 p9 r0 r1 r2 r3 r4 r5 r6 r7 r8 r9
          obtain ⟨e0, e1, e2, e3, e4, e5, e6, e7, e8, e9⟩ := arr10q (st10_block HB2.out (.int .i64 pg) (.int .i64 pk) (.slice pa len cap) (.int .i64 pht) (.int .i64 phv) (.int .i64 phc) (.int .i64 i) (.int .i64 t) (.bool pm) (.bool ph))
          refine bodyPost_ret (v := .agg #[.int .i64 pg, .int .i64 pk, .slice pa len cap, .int .i64 pht, .int .i64 phv, .int .i64 phc, .int .i64 i, .int .i64 t, .bool pm, .bool ph]) (by simp [results, Tryz.results52, go_sem, e0, e1, e2, e3, e4, e5, e6, e7, e8, e9]) rfl ?_
          exact ⟨rfl, st10_below (bel2 HA.out hB1) (by omega) _ _ _ _ _ _ _ _ _ _⟩
        · have h4' : (t == tv) = false := by rw [beq_eq_false_iff_ne]; exact h4
          clear h4
          go_enter Tryz.func52, Tryz.ntmps52
          go_wp2_with (go_at_call 69; ((with_reducible refine (GT.out _ HA.out).mono ?_); rintro e w1 ⟨rfl, hB1⟩; have hb2 := (hB1.block _ (heap_lt HQ2.out)).trans HQ2.out; obtain ⟨p0, p1, p2, p3, p4, p5, p6, p7, p8, p9⟩ := arr10q ((hB1.block _ (heap_lt HQ1.out)).trans HQ1.out); obtain ⟨r0, r1, r2, r3, r4, r5, r6, r7, r8, r9⟩ := arr10q hb2; have fr := (fun i => frozen_of_row w1 (W.heap.size + 1 + 1) i _ _ hb2); have HB2 := Lib.hid hb2; clear hb2))
          clear p0 p1 p2 p3 p4 p5 p6 p7 p8 p9 r0 r1 r2 r3 r4 r5 r6 r7 r8 r9
          obtain ⟨e0, e1, e2, e3, e4, e5, e6, e7, e8, e9⟩ := arr10q (st10_block HB2.out (.int .i64 pg) (.int .i64 4) (.slice pa len cap) (.int .i64 pht) (.int .i64 phv) (.int .i64 phc) (.int .i64 i) (.int .i64 t) (.bool pm) (.bool ph))
          refine bodyPost_ret (v := .agg #[.int .i64 pg, .int .i64 4, .slice pa len cap, .int .i64 pht, .int .i64 phv, .int .i64 phc, .int .i64 i, .int .i64 t, .bool pm, .bool ph]) (by simp [results, Tryz.results52, go_sem, e0, e1, e2, e3, e4, e5, e6, e7, e8, e9]) rfl ?_
          exact ⟨rfl, st10_below (bel2 HA.out hB1) (by omega) _ _ _ _ _ _ _ _ _ _⟩

end Go.Proofs.YthedmemkckclpaaGreat

/- (*Many).Get. -/
namespace Go.Proofs.YthedmemkckclpaaGreat
open Go.RowKit Go.Shelf
set_option linter.unusedVariables false
attribute [local go_sem] Oper.semAt_some wide_fn wide_round_fn

/-- No entries lie in a block without texts. -/
theorem HasG.not_grp {W : World} {a : Option Addr} {g : GM} (h : HasG W a g) {d : Nat} {xs : List Value} {t : TypeId} {fz : Nat × Nat} (hd : W.heap[d]? = some (.cells xs.toArray t fz)) (hx : ∀ v ∈ xs, ∀ s, v ≠ .string s) : ∀ k, inBlkE a g.l.length k → k ≠ d := by
  rintro k ⟨b, off, e, h0, rfl⟩ hb
  subst hb
  obtain ⟨b', off', e', _, hc⟩ := h.2.2.2 h0
  rw [e] at e'
  cases e'
  have hl : (entryCells g.l).length = g.l.length * 3 := h.2.1
  have h2 := hc 2 (by omega)
  have key : ∀ (l : List EntryC) (h : 2 < (entryCells l).length), ∃ s, (entryCells l)[2] = .string s := fun l h => by
    cases l with
    | nil => simp [entryCells] at h
    | cons y r => exact ⟨y.d, by simp [entryCells, EntryC.cells]⟩
  obtain ⟨s, hs⟩ := key g.l (by omega)
  rw [hs, Lib.cell_of_heap hd] at h2
  rw [List.getElem?_toArray] at h2
  exact hx _ (List.mem_of_getElem? h2) s rfl
/-- What lies under a number, or nothing. -/
def getM (L : List GM) (i : Int) : GM := (getZ GM.id L i).getD ⟨0, 0, 0, 0, 0, 0, []⟩
theorem getM_look {W : World} {m : Nat} {F : List GV} (h : HasMap W m F) (i : Int) : ∃ a c, lookV F i = (getM (F.map GV.g) i).val a c ∧ HasG W a (getM (F.map GV.g) i) ∧ (getZ GV.id F i).isSome = (getZ GM.id (F.map GV.g) i).isSome := by
  unfold lookV getM
  rw [← getZ_map (g := GV.g) (nm := GV.id) (nb := GM.id) (fun _ => rfl)]
  cases e : getZ GV.id F i with
  | none => exact ⟨none, 0, rfl, ⟨(by decide : 0 < 1000000), RowV.nil _ _ _⟩, rfl⟩
  | some x => exact ⟨x.a, x.c, rfl, h.has x (getZ_some e).1, rfl⟩
set_option maxRecDepth 100000 in
set_option maxHeartbeats 1000000 in
theorem mget_any {W : World} {d m : Nat} {F : List GV} (h : ManAt W d m F) (i : Int) (hi : -9223372036854775808 ≤ i ∧ i < 9223372036854775808) :
    Calls Tryz.prog 11 #[.pointer (some ⟨d, 0, none⟩), .int .i64 i] W fun e w' => ∃ a c, e = .returned (.tuple #[(getM (F.map GV.g) i).val a c, .bool (getZ GM.id (F.map GV.g) i).isSome]) ∧ HasG w' a (getM (F.map GV.g) i) ∧ (getM (F.map GV.g) i).l.length ≤ c ∧ Below W.heap.size W w' := by
  obtain ⟨a, c, hv, hg, hs⟩ := getM_look h.2 i
  have hA := bel_alloc (Below.refl W.heap.size W) (.cells #[.int .i64 0, .int .i64 0, .int .i64 0, .int .i64 0, .int .i64 0, .int .i64 0, .slice none 0 0] 39)
  have hM := h.below hA
  have hlk := HasMap.look hM.2 i (by simp [Lit.wf, IntKind.min, IntKind.max, IntKind.signed, IntKind.bits]; omega)
  rw [hv, hs] at hlk
  have cd := cell_of_row _ d 0 _ _ _ hM.1
  have GO := Lib.hid (fun W' (hB : Below W.heap.size W W') => own_any (getM (F.map GV.g) i) a c W' (hg.below hB))
  have q0 := World.alloc_heap_new W (.cells #[.int .i64 0, .int .i64 0, .int .i64 0, .int .i64 0, .int .i64 0, .int .i64 0, .slice none 0 0] 39)
  have HQ0 := Lib.hid q0
  have HA := Lib.hid hA
  generalize (getZ GM.id (F.map GV.g) i).isSome = b at *
  generalize getM (F.map GV.g) i = g at *
  obtain ⟨id, fi, te, ht, hv', hc, l⟩ := g
  dsimp only [GM.val] at *
  clear h hv hg hs hM q0 hA
  go_enter Tryz.func11, Tryz.ntmps11
  go_wp2_with (fail)
  have hq1 : ((W.alloc (.cells #[.int .i64 0, .int .i64 0, .int .i64 0, .int .i64 0, .int .i64 0, .int .i64 0, .slice none 0 0] 39)).alloc (.cells #[.int .i64 id, .int .i64 fi, .int .i64 te, .int .i64 ht, .int .i64 hv', .int .i64 hc, .slice a l.length c] 39)).heap[W.heap.size]? = _ := (Below.heap_alloc _ _ _ (by simp)).trans HQ0.out
  have hA1 := bel_alloc HA.out (.cells #[.int .i64 id, .int .i64 fi, .int .i64 te, .int .i64 ht, .int .i64 hv', .int .i64 hc, .slice a l.length c] 39)
  refine (GO.out _ hA1).mono ?_
  rintro e w2 ⟨a', c', rfl, hG', hle, hB2⟩
  have hr := Lib.hid ((hB2.block _ (heap_lt hq1)).trans hq1)
  have hW2 := bel2 hA1 hB2
  obtain ⟨r0, r1, r2, r3, r4, r5, r6, fr⟩ := cells7 hr.out
  have hlt := heap_lt hr.out
  clear hq1 hA1 hB2
  dsimp only at *
  go_wp2
  clear r0 r1 r2 r3 r4 r5 r6 fr
  obtain ⟨e0, e1, e2, e3, e4, e5, e6, -⟩ := cells7 (st7_block hr.out (.int .i64 id) (.int .i64 fi) (.int .i64 te) (.int .i64 ht) (.int .i64 hv') (.int .i64 hc) (.slice a' l.length c'))
  have hF := st7_frame w2 W.heap.size (.int .i64 id) (.int .i64 fi) (.int .i64 te) (.int .i64 ht) (.int .i64 hv') (.int .i64 hc) (.slice a' l.length c')
  refine bodyPost_ret (v := .tuple #[.agg #[.int .i64 id, .int .i64 fi, .int .i64 te, .int .i64 ht, .int .i64 hv', .int .i64 hc, .slice a' l.length c'], .bool b]) (by simp [results, Tryz.results11, go_sem, e0, e1, e2, e3, e4, e5, e6]) rfl ?_
  exact ⟨a', c', rfl, hasG_frame hG' hF (fun k hk e => hG'.not_grp (xs := [.int .i64 0, .int .i64 0, .int .i64 0, .int .i64 0, .int .i64 0, .int .i64 0, .slice none 0 0]) hr.out (by simp) k hk e), hle, hW2.trans (hF.toBelow hW2.size (fun k hk => by omega))⟩

end Go.Proofs.YthedmemkckclpaaGreat
