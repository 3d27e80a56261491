/- PlcM, Plc: in one text. -/
import Derived.Test.YtdncdlbhgaehmaaManZ
import Derived.Test.YtdncdlbhgaehmaaSprM
import Derived.Test.YtdncdlbhgaehmaaRec
import Derived.Test.YtdncdlbhgaehmaaGrpDo
import Derived.Test.YtdncdlbhgaehmaaProg
import Derived.Test.YtdncdlbhgaehmaaIterK
import Derived.Maps.OwnSet
import Derived.Maps.OwnOps
import Derived.Maps.OwnIn
import Derived.Maps.Views
/- Where the things of a log lie, as plain data (package place). -/
namespace Go.Proofs.Ytdncdlbhgaehmaa
open Go.RowKit Go.Shelf
set_option linter.unusedVariables false

/-- A place under an index. -/
structure LV where
  k : Int
  s : Int
  t : Int
abbrev LV.val (x : LV) : Value := .agg #[.int .i64 x.s, .int .i64 x.t]
/-- The indexes of those of b that are not in a. -/
def gonL (b a : List EntryC) : List Int := (b.filter fun e => !(a.any fun x => decide (x.i = e.i))).map EntryC.i
/-- What is left of them from the i-th of b on. -/
theorem gonL_cons (e : EntryC) (b a : List EntryC) : gonL (e :: b) a = (if (a.any fun x => decide (x.i = e.i)) = true then [] else [e.i]) ++ gonL b a := by
  unfold gonL
  cases h : (a.any fun x => decide (x.i = e.i))
  · rw [List.filter_cons_of_pos (by simp [h]), if_neg (by simp)]; rfl
  · rw [List.filter_cons_of_neg (by simp [h]), if_pos rfl]; rfl
theorem any_at {a : List EntryC} (hr : Ris a) {k : Nat} (hk : k ≤ a.length) {i : Int} (h1 : ∀ j (hj : j < k), (a[j]'(by omega)).i < i) (h2 : ∀ (h : k < a.length), i ≤ a[k].i) : (a.any fun x => decide (x.i = i)) = (if h : k < a.length then decide (a[k].i = i) else false) := by
  by_cases hlt : k < a.length
  · rw [dif_pos hlt]
    by_cases he : a[k].i = i
    · rw [decide_eq_true he, List.any_eq_true]
      exact ⟨a[k], List.getElem_mem hlt, decide_eq_true he⟩
    · rw [decide_eq_false he, List.any_eq_false]
      intro x hx
      obtain ⟨j, hj, rfl⟩ := List.mem_iff_getElem.1 hx
      simp only [decide_eq_true_eq]
      intro e
      rcases Nat.lt_trichotomy j k with h | h | h
      · have := h1 j h; omega
      · subst h; exact he e
      · have := hr k j h hj; have := h2 hlt; omega
  · rw [dif_neg hlt, List.any_eq_false]
    intro x hx
    obtain ⟨j, hj, rfl⟩ := List.mem_iff_getElem.1 hx
    simp only [decide_eq_true_eq]
    intro e
    have := h1 j (by omega); omega
/-- Whether the mark is the part's: behind it the group is g, before it the log began at fi. -/
def markB (g : GM) (p : PartC) (fi : Int) : Bool := if p.k = 3 ∨ p.k = 4 then !decide (g.fi = fi) else if p.k = 6 then p.m && (decide (p.i = g.fi - 1) && decide (p.t = g.te)) else false
/-- What the part brought, behind which the group is g. -/
def brgL (g : GM) (p : PartC) (pl : List EntryC) (fi : Int) : List Int := (if p.k = 2 ∨ p.k = 6 ∧ p.h = true then [-1] else []) ++ (if markB g p fi = true then [0] else []) ++ (pl.filter fun e => decide (e ∈ g.l)).map EntryC.i
def delAll (F : List LV) : List Int → List LV
  | [] => F
  | i :: r => delAll (delZ LV.k F i) r
def putAll (s t : Int) (F : List LV) : List Int → List LV
  | [] => F
  | i :: r => putAll s t (putZ LV.k ⟨i, s, t⟩ F) r
theorem delAll_snoc (F : List LV) : ∀ (l : List Int) (i : Int), delAll F (l ++ [i]) = delZ LV.k (delAll F l) i
  | [], i => rfl
  | j :: r, i => delAll_snoc (delZ LV.k F j) r i
theorem putAll_snoc (s t : Int) (F : List LV) : ∀ (l : List Int) (i : Int), putAll s t F (l ++ [i]) = putZ LV.k ⟨i, s, t⟩ (putAll s t F l)
  | [], i => rfl
  | j :: r, i => putAll_snoc s t (putZ LV.k ⟨j, s, t⟩ F) r i
theorem putAll_len (s t : Int) : ∀ (l : List Int) (F : List LV), (putAll s t F l).length ≤ F.length + l.length
  | [], F => Nat.le_refl _
  | i :: r, F => by
    have h1 := putAll_len s t r (putZ LV.k ⟨i, s, t⟩ F)
    have h2 := putZ_len LV.k ⟨i, s, t⟩ F
    show (putAll s t (putZ LV.k ⟨i, s, t⟩ F) r).length ≤ _
    rw [List.length_cons]; omega
theorem delAll_len : ∀ (l : List Int) (F : List LV), (delAll F l).length ≤ F.length
  | [], F => Nat.le_refl _
  | i :: r, F => Nat.le_trans (delAll_len r (delZ LV.k F i)) (delZ_len LV.k F i)

end Go.Proofs.Ytdncdlbhgaehmaa

/- A log and where its things lie, in memory (package place). -/
namespace Go.Proofs.Ytdncdlbhgaehmaa
open Go.RowKit Go.Shelf
set_option linter.unusedVariables false
attribute [local go_sem] Oper.semAt_some wide_fn wide_round_fn

/-- How a place in a map reads: as its own value. -/
def plcElem (v : Value) : Option (DataW Value × List MemPlace) := some (.held v, [])
theorem plcElem_some {v u : Value} {ps : List MemPlace} (h : plcElem v = some (.held u, ps)) : v = u := by
  simp only [plcElem, Option.some.injEq, Prod.mk.injEq, DataW.held.injEq] at h; exact h.1
def pent (x : LV) : Lit × DataW Value := (.int .i64 x.k, .held x.val)
def pmap (F : List LV) : DataW Value := .map (F.map pent)
theorem same_idx (a b : Int) : (Lit.int .i64 a).sameKey (.int .i64 b) = decide (a = b) := by simp [Lit.sameKey]
theorem pmap_at (F : List LV) (s : Int) (z : DataW Value) : (pmap F).atKey (.int .i64 s) z = match getZ LV.k F s with | some x => .held x.val | none => z := by
  unfold pmap DataW.atKey getZ
  dsimp only
  rw [List.find?_map]
  rw [show ((fun p : Lit × DataW Value => p.1.sameKey (.int .i64 s)) ∘ pent) = fun x : LV => decide (x.k = s) from funext fun x => same_idx x.k s]
  cases F.find? (fun x : LV => decide (x.k = s)) <;> rfl
theorem pmap_has (F : List LV) (s : Int) : Maps.has (pmap F) (.int .i64 s) = (getZ LV.k F s).isSome := by
  unfold pmap getZ
  rw [Maps.has_eq, List.any_map, List.isSome_find?]
  congr 1
  funext x
  exact same_idx x.k s
theorem pmap_size (F : List LV) : Maps.size (pmap F) = F.length := by unfold pmap; rw [Maps.size_eq, List.length_map]
theorem pins_map (x : LV) : ∀ F : List LV, DataW.insert (pent x) (F.map pent) = (insZ LV.k x F).map pent
  | [] => rfl
  | y :: r => by
    simp only [List.map_cons, DataW.insert, insZ]
    show (if decide (x.k < y.k) = true then _ else _) = _
    by_cases h : x.k < y.k
    · rw [if_pos (decide_eq_true h), if_pos h]; rfl
    · rw [if_neg (by simpa using h), if_neg h, pins_map x r]; rfl
theorem pmap_del (F : List LV) (s : Int) : (pmap F).del (.int .i64 s) = pmap (delZ LV.k F s) := by
  unfold pmap DataW.del delZ
  dsimp only
  rw [List.filter_map]
  congr 2
  apply List.filter_congr
  intro x _
  show (!(Lit.int .i64 x.k).sameKey _) = _
  rw [same_idx]
theorem pmap_put (F : List LV) (x : LV) : (pmap F).put (.int .i64 x.k) (.held x.val) = pmap (putZ LV.k x F) := by
  have h := pmap_del F x.k
  unfold pmap DataW.del at h
  unfold pmap DataW.put
  dsimp only at h ⊢
  injection h with h
  rw [h]
  unfold putZ
  rw [← pins_map]; rfl
theorem pins_len (x : Lit × DataW Value) : ∀ l : List (Lit × DataW Value), (DataW.insert x l).length = l.length + 1
  | [] => rfl
  | y :: r => by
    unfold DataW.insert
    split
    · rfl
    · rw [List.length_cons, pins_len x r]; rfl
theorem pmap_tight {P : Program} {k : TypeId} {R : Value → Option (DataW Value × List MemPlace)} {w : World} {b n : Nat} {D : DataW Value} (h : w.ownsMap P k R b n D) : w.ownsMap P k R b (Maps.size D) D := by
  obtain ⟨es, clock, h1, h2, h3, h4⟩ := h
  refine ⟨es, clock, h1, h2, ?_, h4⟩
  rw [h4, Maps.size_eq]
  have : ∀ l : List (Lit × DataW Value), (l.foldr DataW.insert []).length = l.length := fun l => by
    induction l with
    | nil => rfl
    | cons x r ih => rw [List.foldr_cons, pins_len, ih]; rfl
  rw [this, List.length_map]
  simp
/-- A map of places in memory. -/
def HasPl (W : World) (m : Nat) (F : List LV) : Prop := W.ownsMap Try.prog 3 plcElem m F.length (pmap F)
theorem pown_frame {T : Nat → Prop} {W W' : World} {P : Program} {k : TypeId} {R : Value → Option (DataW Value × List MemPlace)} {b n : Nat} {D : DataW Value} (h : W.ownsMap P k R b n D) (hF : FrameT T W W') (hT : ¬ T b) : W'.ownsMap P k R b n D := by
  obtain ⟨es, clock, h1, r⟩ := h
  exact ⟨es, clock, hF.get h1 hT, r⟩
theorem HasPl.frame {T : Nat → Prop} {W W' : World} {m : Nat} {F : List LV} (h : HasPl W m F) (hF : FrameT T W W') (hm : ¬ T m) : HasPl W' m F := pown_frame h hF hm
theorem HasPl.below {W W' : World} {m : Nat} {F : List LV} (h : HasPl W m F) (hB : Below W.heap.size W W') : HasPl W' m F := pown_frame (T := fun _ => False) h (FrameT.below hB) id
theorem HasPl.block {W : World} {m : Nat} {F : List LV} (h : HasPl W m F) : ∃ es clock, W.heap[m]? = some (.map es clock) := by
  obtain ⟨es, clock, h1, _⟩ := h
  exact ⟨es, clock, h1⟩
theorem HasPl.lt {W : World} {m : Nat} {F : List LV} (h : HasPl W m F) : m < W.heap.size := by
  obtain ⟨es, clock, h1⟩ := h.block
  exact heap_lt h1
theorem lawP : Maps.Keyed Try.prog 3 := Maps.int_keyed Try.underlying3
theorem HasPl.put {w1 : World} {m n' : Nat} {F : List LV} (x : LV) (hm : w1.ownsMap Try.prog 3 plcElem m n' ((pmap F).put (.int .i64 x.k) (.held x.val))) : HasPl w1 m (putZ LV.k x F) := by
  rw [pmap_put] at hm
  have hm2 := pmap_tight hm
  rw [pmap_size] at hm2
  exact hm2
theorem HasPl.del {w1 : World} {m n' : Nat} {F : List LV} (s : Int) (hm : w1.ownsMap Try.prog 3 plcElem m n' ((pmap F).del (.int .i64 s))) : HasPl w1 m (delZ LV.k F s) := by
  rw [pmap_del] at hm
  have hm2 := pmap_tight hm
  rw [pmap_size] at hm2
  exact hm2
theorem zeroPlc (w : World) : (zeroValue 34).run Try.prog w = .ok (.agg #[.int .i64 0, .int .i64 0]) w := by kernel_rfl
/-- What a look for an index gives. -/
def lookP (F : List LV) (s : Int) : Value := match getZ LV.k F s with | some x => x.val | none => .agg #[.int .i64 0, .int .i64 0]
theorem HasPl.look {W : World} {m : Nat} {F : List LV} (h : HasPl W m F) (s : Int) (hs : (Lit.int .i64 s).wf = true) : (Instr.lookup 122 (.map (some m)) (.int .i64 s) true).run Try.prog W = .ok (.tuple #[lookP F s, .bool (getZ LV.k F s).isSome]) W := by
  obtain ⟨v, ps, hrun, hv⟩ := World.ownsMap.look_ok h lawP Try.underlying122 (zeroPlc W) (zd := .held (.agg #[.int .i64 0, .int .i64 0])) (zp := []) rfl (Maps.keyOf_int_mk Try.underlying3 hs)
  rw [pmap_has] at hrun
  rw [pmap_at] at hv
  have e : v = lookP F s := by
    unfold lookP
    cases hg : getZ LV.k F s with
    | none => rw [hg] at hv; exact plcElem_some hv
    | some x => rw [hg] at hv; exact plcElem_some hv
  rw [← e]; exact hrun
theorem HasPl.look1 {W : World} {m : Nat} {F : List LV} (h : HasPl W m F) (s : Int) (hs : (Lit.int .i64 s).wf = true) : (Instr.lookup 122 (.map (some m)) (.int .i64 s) false).run Try.prog W = .ok (lookP F s) W := by
  obtain ⟨v, ps, hrun, hv⟩ := World.ownsMap.lookup h lawP Try.underlying122 (zeroPlc W) (zd := .held (.agg #[.int .i64 0, .int .i64 0])) (zp := []) rfl (Maps.keyOf_int_mk Try.underlying3 hs)
  rw [pmap_at] at hv
  have e : v = lookP F s := by
    unfold lookP
    cases hg : getZ LV.k F s with
    | none => rw [hg] at hv; exact plcElem_some hv
    | some x => rw [hg] at hv; exact plcElem_some hv
  rw [← e]; exact hrun
/-- A pointer to a log: the group, where its entries lie, the map of places. -/
def logArr (g : GM) (a : Option Addr) (c m : Nat) : Array Value := #[.int .i64 g.id, .int .i64 g.fi, .int .i64 g.te, .int .i64 g.ht, .int .i64 g.hv, .int .i64 g.hc, .slice a g.l.length c, .map (some m)]
/-- .. but for the map. -/
def LogG (W : World) (d m : Nat) (g : GM) (a : Option Addr) (c : Nat) : Prop := W.heap[d]? = some (.cells (logArr g a c m) 124 (0, 0)) ∧ HasG W a g
theorem LogG.below {W W' : World} {d m : Nat} {g : GM} {a : Option Addr} {c : Nat} (h : LogG W d m g a c) (hB : Below W.heap.size W W') : LogG W' d m g a c := ⟨(hB.block _ (heap_lt h.1)).trans h.1, ⟨h.2.1, h.2.2.below hB⟩⟩
theorem rowV_rd {W W' : World} {B : Nat} {S : Nat → Prop} {a : Option Addr} {n sz : Nat} {xs : List Value} (h : RowV W a n sz xs) (hR : Rd B S W W') (hS : ∀ k, inBlkE a n k → S k) : RowV W' a n sz xs :=
  ⟨h.1, h.2.1, fun h0 => by
    obtain ⟨b, off, e, hb, hx⟩ := h.2.2 h0
    exact ⟨b, off, e, Nat.lt_of_lt_of_le hb hR.size, fun j hj => hR.cell (hx j hj) (hS b ⟨b, off, e, h0, rfl⟩)⟩⟩
theorem LogG.rd {W W' : World} {B d m : Nat} {S : Nat → Prop} {g : GM} {a : Option Addr} {c : Nat} (h : LogG W d m g a c) (hR : Rd B S W W') (hd : S d) (hS : ∀ k, inBlkE a g.l.length k → S k) : LogG W' d m g a c := ⟨hR.get h.1 hd, ⟨h.2.1, rowV_rd h.2.2 hR hS⟩⟩
def LogAt (W : World) (d m : Nat) (g : GM) (a : Option Addr) (c : Nat) (F : List LV) : Prop := W.heap[d]? = some (.cells (logArr g a c m) 124 (0, 0)) ∧ HasPl W m F ∧ HasG W a g ∧ g.l.length ≤ c
theorem LogAt.g {W : World} {d m : Nat} {g : GM} {a : Option Addr} {c : Nat} {F : List LV} (h : LogAt W d m g a c F) : LogG W d m g a c := ⟨h.1, h.2.2.1⟩
theorem LogAt.frame {T : Nat → Prop} {W W' : World} {d m : Nat} {g : GM} {a : Option Addr} {c : Nat} {F : List LV} (h : LogAt W d m g a c F) (hF : FrameT T W W') (hd : ¬ T d) (hm : ¬ T m) (hT : ∀ k, inBlkE a g.l.length k → ¬ T k) : LogAt W' d m g a c F :=
  ⟨hF.get h.1 hd, h.2.1.frame hF hm, ⟨h.2.2.1.1, rowV_frame h.2.2.1.2 hF hT⟩, h.2.2.2⟩
theorem LogAt.below {W W' : World} {d m : Nat} {g : GM} {a : Option Addr} {c : Nat} {F : List LV} (h : LogAt W d m g a c F) (hB : Below W.heap.size W W') : LogAt W' d m g a c F :=
  h.frame (T := fun _ => False) (FrameT.below hB) id id (fun _ _ => id)
theorem cells8 {W : World} {b : Nat} {T : TypeId} {v0 v1 v2 v3 v4 v5 v6 v7 : Value} (h : W.heap[b]? = some (.cells #[v0, v1, v2, v3, v4, v5, v6, v7] T (0, 0))) :
    W.cell? ⟨b, 0, none⟩ = some v0 ∧ W.cell? ⟨b, 1, none⟩ = some v1 ∧ W.cell? ⟨b, 2, none⟩ = some v2 ∧ W.cell? ⟨b, 3, none⟩ = some v3 ∧ W.cell? ⟨b, 4, none⟩ = some v4 ∧ W.cell? ⟨b, 5, none⟩ = some v5 ∧ W.cell? ⟨b, 6, none⟩ = some v6 ∧ W.cell? ⟨b, 7, none⟩ = some v7 :=
  ⟨cell_of_row _ _ 0 _ _ _ h, cell_of_row _ _ 1 _ _ _ h, cell_of_row _ _ 2 _ _ _ h, cell_of_row _ _ 3 _ _ _ h, cell_of_row _ _ 4 _ _ _ h, cell_of_row _ _ 5 _ _ _ h, cell_of_row _ _ 6 _ _ _ h, cell_of_row _ _ 7 _ _ _ h⟩
theorem turned_frame {w w' : World} {m : Nat} (h : w.mapTurned w' m) : FrameT (fun k => k = m) w w' := by
  have g := h.grown
  exact ⟨g.os, g.tape, g.output, g.size, fun k hk hT => g.block k hk (fun e => hT (Option.some.inj e))⟩

end Go.Proofs.Ytdncdlbhgaehmaa
