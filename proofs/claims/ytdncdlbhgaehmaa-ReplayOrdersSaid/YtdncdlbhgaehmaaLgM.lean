/- LgM, LgS, LgD, LgDo: in one text. -/
import Derived.Test.YtdncdlbhgaehmaaPlcK
import Derived.StillTailTactics
import Derived.Test.YtdncdlbhgaehmaaRec
import Derived.Test.YtdncdlbhgaehmaaPartSame
import Derived.Deep.Cut
/- A map of pointers to logs, a ledger in memory (package ledger). -/
namespace Go.Proofs.Ytdncdlbhgaehmaa
open Go.RowKit Go.Shelf
set_option linter.unusedVariables false
attribute [local go_sem] Oper.semAt_some wide_fn wide_round_fn

/-- A log under a number: where its pointer and its map lie. -/
structure LE where
  d : Nat
  m : Nat
  L : LG
abbrev LG.n (L : LG) : Int := L.g.id
abbrev LE.k (x : LE) : Int := x.L.g.id
abbrev LE.val (x : LE) : Value := .pointer (some ⟨x.d, 0, none⟩)
def lent (x : LE) : Lit × DataW Value := (.int .i64 x.k, .held x.val)
def lmap (F : List LE) : DataW Value := .map (F.map lent)
theorem lmap_at (F : List LE) (s : Int) (z : DataW Value) : (lmap F).atKey (.int .i64 s) z = match getZ LE.k F s with | some x => .held x.val | none => z := by
  unfold lmap DataW.atKey getZ
  dsimp only
  rw [List.find?_map]
  rw [show ((fun p : Lit × DataW Value => p.1.sameKey (.int .i64 s)) ∘ lent) = fun x : LE => decide (x.k = s) from funext fun x => same_idx x.k s]
  cases F.find? (fun x : LE => decide (x.k = s)) <;> rfl
theorem lmap_has (F : List LE) (s : Int) : Maps.has (lmap F) (.int .i64 s) = (getZ LE.k F s).isSome := by
  unfold lmap getZ
  rw [Maps.has_eq, List.any_map, List.isSome_find?]
  congr 1
  funext x
  exact same_idx x.k s
theorem lmap_size (F : List LE) : Maps.size (lmap F) = F.length := by unfold lmap; rw [Maps.size_eq, List.length_map]
theorem lins_map (x : LE) : ∀ F : List LE, DataW.insert (lent x) (F.map lent) = (insZ LE.k x F).map lent
  | [] => rfl
  | y :: r => by
    simp only [List.map_cons, DataW.insert, insZ]
    show (if decide (x.k < y.k) = true then _ else _) = _
    by_cases h : x.k < y.k
    · rw [if_pos (decide_eq_true h), if_pos h]; rfl
    · rw [if_neg (by simpa using h), if_neg h, lins_map x r]; rfl
theorem lmap_del (F : List LE) (s : Int) : (lmap F).del (.int .i64 s) = lmap (delZ LE.k F s) := by
  unfold lmap DataW.del delZ
  dsimp only
  rw [List.filter_map]
  congr 2
  apply List.filter_congr
  intro x _
  show (!(Lit.int .i64 x.k).sameKey _) = _
  rw [same_idx]
theorem lmap_put (F : List LE) (x : LE) : (lmap F).put (.int .i64 x.k) (.held x.val) = lmap (putZ LE.k x F) := by
  have h := lmap_del F x.k
  unfold lmap DataW.del at h
  unfold lmap DataW.put
  dsimp only at h ⊢
  injection h with h
  rw [h]
  unfold putZ
  rw [← lins_map]; rfl
def HasLm (W : World) (m : Nat) (F : List LE) : Prop := W.ownsMap Try.prog 3 plcElem m F.length (lmap F)
theorem HasLm.frame {T : Nat → Prop} {W W' : World} {m : Nat} {F : List LE} (h : HasLm W m F) (hF : FrameT T W W') (hm : ¬ T m) : HasLm W' m F := pown_frame h hF hm
theorem HasLm.below {W W' : World} {m : Nat} {F : List LE} (h : HasLm W m F) (hB : Below W.heap.size W W') : HasLm W' m F := pown_frame (T := fun _ => False) h (FrameT.below hB) id
theorem HasLm.block {W : World} {m : Nat} {F : List LE} (h : HasLm W m F) : ∃ es clock, W.heap[m]? = some (.map es clock) := by
  obtain ⟨es, clock, h1, _⟩ := h
  exact ⟨es, clock, h1⟩
theorem HasLm.lt {W : World} {m : Nat} {F : List LE} (h : HasLm W m F) : m < W.heap.size := by
  obtain ⟨es, clock, h1⟩ := h.block
  exact heap_lt h1
theorem HasLm.put {w1 : World} {m n' : Nat} {F : List LE} (x : LE) (hm : w1.ownsMap Try.prog 3 plcElem m n' ((lmap F).put (.int .i64 x.k) (.held x.val))) : HasLm w1 m (putZ LE.k x F) := by
  rw [lmap_put] at hm
  have hm2 := pmap_tight hm
  rw [lmap_size] at hm2
  exact hm2
theorem HasLm.del {w1 : World} {m n' : Nat} {F : List LE} (s : Int) (hm : w1.ownsMap Try.prog 3 plcElem m n' ((lmap F).del (.int .i64 s))) : HasLm w1 m (delZ LE.k F s) := by
  rw [lmap_del] at hm
  have hm2 := pmap_tight hm
  rw [lmap_size] at hm2
  exact hm2
theorem zeroLog (w : World) : (zeroValue 91).run Try.prog w = .ok (.pointer none) w := by kernel_rfl
/-- What a look for a number gives. -/
def lookL (F : List LE) (s : Int) : Value := match getZ LE.k F s with | some x => x.val | none => .pointer none
theorem HasLm.look {W : World} {m : Nat} {F : List LE} (h : HasLm W m F) (s : Int) (hs : (Lit.int .i64 s).wf = true) : (Instr.lookup 87 (.map (some m)) (.int .i64 s) true).run Try.prog W = .ok (.tuple #[lookL F s, .bool (getZ LE.k F s).isSome]) W := by
  obtain ⟨v, ps, hrun, hv⟩ := World.ownsMap.look_ok h lawP Try.underlying87 (zeroLog W) (zd := .held (.pointer none)) (zp := []) rfl (Maps.keyOf_int_mk Try.underlying3 hs)
  rw [lmap_has] at hrun
  rw [lmap_at] at hv
  have e : v = lookL F s := by
    unfold lookL
    cases hg : getZ LE.k F s with
    | none => rw [hg] at hv; exact plcElem_some hv
    | some x => rw [hg] at hv; exact plcElem_some hv
  rw [← e]; exact hrun
theorem HasLm.look1 {W : World} {m : Nat} {F : List LE} (h : HasLm W m F) (s : Int) (hs : (Lit.int .i64 s).wf = true) : (Instr.lookup 87 (.map (some m)) (.int .i64 s) false).run Try.prog W = .ok (lookL F s) W := by
  obtain ⟨v, ps, hrun, hv⟩ := World.ownsMap.lookup h lawP Try.underlying87 (zeroLog W) (zd := .held (.pointer none)) (zp := []) rfl (Maps.keyOf_int_mk Try.underlying3 hs)
  rw [lmap_at] at hv
  have e : v = lookL F s := by
    unfold lookL
    cases hg : getZ LE.k F s with
    | none => rw [hg] at hv; exact plcElem_some hv
    | some x => rw [hg] at hv; exact plcElem_some hv
  rw [← e]; exact hrun

/-! ### A ledger -/
def ownLg (F : List LE) (e M k : Nat) : Prop := k = e ∨ k = M ∨ ∃ x ∈ F, k = x.d ∨ k = x.m
structure LedAt (W : World) (e M : Nat) (F : List LE) : Prop where
  box : W.heap[e]? = some (.cells #[.map (some M)] 89 (0, 0))
  map : HasLm W M F
  logs : ∀ x ∈ F, LogS W x.d x.m x.L
  off : ∀ x ∈ F, (x.d ≠ e ∧ x.m ≠ e) ∧ (x.d ≠ M ∧ x.m ≠ M)
  apart : F.Pairwise fun x y => (x.d ≠ y.d ∧ x.d ≠ y.m) ∧ (x.m ≠ y.d ∧ x.m ≠ y.m)
  ris : RisZ LE.k F
  ids : ∀ x ∈ F, 0 ≤ x.k ∧ x.k ≤ 999
theorem LedAt.eM {W : World} {e M : Nat} {F : List LE} (h : LedAt W e M F) : e ≠ M := by
  obtain ⟨es, ck, hm⟩ := h.map.block
  rintro rfl
  rw [h.box] at hm; cases hm
theorem LedAt.lt {W : World} {e M : Nat} {F : List LE} (h : LedAt W e M F) {k : Nat} (hk : ownLg F e M k) : k < W.heap.size := by
  rcases hk with rfl | rfl | ⟨x, hx, rfl | rfl⟩
  · exact heap_lt h.box
  · exact h.map.lt
  · exact (h.logs x hx).lt.1
  · exact (h.logs x hx).lt.2
/-- A row's block is not one of a ledger's. -/
theorem LedAt.row {W : World} {e M : Nat} {F : List LE} (h : LedAt W e M F) {a : Option Addr} {l : List EntryC} (hr : RowV W a l.length 3 (entryCells l)) {k : Nat} (hk : inBlkE a l.length k) : ¬ ownLg F e M k := by
  rintro (rfl | rfl | ⟨x, hx, he⟩)
  · obtain ⟨b', off, he, h0, rfl⟩ := hk
    obtain ⟨b2, off2, e2, _, hc⟩ := hr.2.2 h0
    rw [he] at e2
    cases e2
    have hl : (entryCells l).length = l.length * 3 := hr.1
    have h2 := hc 2 (by omega)
    obtain ⟨s, hs⟩ := entCells_str l (by omega)
    rw [hs, Lib.cell_of_heap h.box] at h2
    have h3 := Array.mem_of_getElem? h2
    simp at h3
  · obtain ⟨b', off, he, h0, rfl⟩ := hk
    obtain ⟨b2, off2, e2, _, hc⟩ := hr.2.2 h0
    rw [he] at e2
    cases e2
    have hl : (entryCells l).length = l.length * 3 := hr.1
    obtain ⟨o, ho, hcl⟩ := isCells_of_cell (hc 0 (by omega))
    obtain ⟨es, ck, hb⟩ := h.map.block
    rw [hb] at ho; cases ho; cases hcl
  · obtain ⟨_, a2, c2, h2⟩ := h.logs x hx
    have h3 := rowV_not_d h2.1 hr k hk
    have h4 := rowV_not_m h2.2.1 hr k hk
    omega
theorem LedAt.frame {T : Nat → Prop} {W W' : World} {e M : Nat} {F : List LE} (h : LedAt W e M F) (hF : FrameT T W W') (hT : ∀ k, ownLg F e M k → ¬ T k) (hR : ∀ (a : Option Addr) (l : List EntryC), RowV W a l.length 3 (entryCells l) → ∀ k, inBlkE a l.length k → ¬ T k) : LedAt W' e M F :=
  ⟨hF.get h.box (hT _ (.inl rfl)), h.map.frame hF (hT _ (.inr (.inl rfl))), fun x hx => (h.logs x hx).frame hF (hT _ (.inr (.inr ⟨x, hx, .inl rfl⟩))) (hT _ (.inr (.inr ⟨x, hx, .inr rfl⟩))) hR, h.off, h.apart, h.ris, h.ids⟩
theorem LedAt.below {W W' : World} {e M : Nat} {F : List LE} (h : LedAt W e M F) (hB : Below W.heap.size W W') : LedAt W' e M F :=
  h.frame (T := fun _ => False) (FrameT.below hB) (fun _ _ => id) (fun _ _ _ _ _ => id)
/-- Another ledger turns. -/
theorem LedAt.other {W W' : World} {e M e2 M2 : Nat} {F F2 : List LE} (h : LedAt W e M F) (h2 : LedAt W e2 M2 F2) (hF : FrameT (ownLg F2 e2 M2) W W') (hT : ∀ k, ownLg F e M k → ¬ ownLg F2 e2 M2 k) : LedAt W' e M F :=
  h.frame hF hT (fun a l hr k hk => h2.row hr hk)
def OpLg (W : World) (e M : Nat) (F F' : List LE) (W' : World) : Prop := LedAt W' e M F' ∧ FrameT (ownLg F e M) W W' ∧ ∀ k, ownLg F' e M k → ownLg F e M k ∨ W.heap.size ≤ k
theorem OpLg.refl {W : World} {e M : Nat} {F : List LE} (h : LedAt W e M F) : OpLg W e M F F W := ⟨h, FrameT.refl _ _, fun _ h => .inl h⟩
theorem OpLg.below {W W' : World} {e M : Nat} {F : List LE} (h : LedAt W e M F) (hB : Below W.heap.size W W') : OpLg W e M F F W' := ⟨h.below hB, FrameT.below hB, fun _ h => .inl h⟩
theorem OpLg.trans {W W1 W2 : World} {e M : Nat} {F F1 F2 : List LE} (h : OpLg W e M F F1 W1) (h2 : OpLg W1 e M F1 F2 W2) : OpLg W e M F F2 W2 := by
  refine ⟨h2.1, h.2.1.farP h2.2.1 (fun k hk => h.2.2 k hk), fun k hk => ?_⟩
  rcases h2.2.2 k hk with h3 | h3
  · exact h.2.2 k h3
  · exact .inr (Nat.le_trans h.2.1.size h3)
theorem mem_apart {α : Type} {R : α → α → Prop} (hs : ∀ x y, R x y → R y x) {l : List α} (h : l.Pairwise R) {x y : α} (hx : x ∈ l) (hy : y ∈ l) (hne : x ≠ y) : R x y := by
  induction l with
  | nil => cases hx
  | cons z r ih =>
    rw [List.pairwise_cons] at h
    rcases List.mem_cons.1 hx with rfl | hx2
    · rcases List.mem_cons.1 hy with rfl | hy
      · exact absurd rfl hne
      · exact h.1 y hy
    · rcases List.mem_cons.1 hy with rfl | hy2
      · exact hs _ _ (h.1 x hx2)
      · exact ih h.2 hx2 hy2
/-- The apart of two entries. -/
abbrev apL (x y : LE) : Prop := (x.d ≠ y.d ∧ x.d ≠ y.m) ∧ (x.m ≠ y.d ∧ x.m ≠ y.m)
theorem apL_symm (x y : LE) (h : apL x y) : apL y x := ⟨⟨Ne.symm h.1.1, Ne.symm h.2.1⟩, ⟨Ne.symm h.1.2, Ne.symm h.2.2⟩⟩
theorem pairwise_perm {α : Type} {R : α → α → Prop} (hs : ∀ x y, R x y → R y x) {l l' : List α} (hp : l.Perm l') (h : l.Pairwise R) : l'.Pairwise R := (hp.pairwise_iff (fun {x y} => hs x y)).1 h
/-- A log turns, as it is in the map. -/
theorem LedAt.turn {W W' : World} {e M : Nat} {F : List LE} {x : LE} {L : LG} (h : LedAt W e M F) (hx : x ∈ F) (hF : FrameT (fun k => k = x.d ∨ k = x.m) W W') (hL : LogS W' x.d x.m L) (hid : L.g.id = x.k) : OpLg W e M F (F.map fun y => if y.k = x.k then { y with L := L } else y) W' := by
  have hkey : ∀ y ∈ F, y.k = x.k → y = x := fun y hy hk => by
    have h1 := risZ_get h.ris hx
    have h2 := risZ_get h.ris hy
    rw [hk] at h2
    rw [h1] at h2; exact (Option.some.inj h2).symm
  have hm : ∀ y : LE, (if y.k = x.k then { y with L := L } else y).k = y.k ∧ (if y.k = x.k then { y with L := L } else y).d = y.d ∧ (if y.k = x.k then { y with L := L } else y).m = y.m := fun y => by
    split
    · rename_i h; exact ⟨hid.trans h.symm, rfl, rfl⟩
    · exact ⟨rfl, rfl, rfl⟩
  have hmx := h.off x hx
  have hne : (lmap (F.map fun y => if y.k = x.k then { y with L := L } else y)) = lmap F := by
    unfold lmap
    rw [List.map_map]
    congr 1
    apply List.map_congr_left
    intro y _
    show lent (if y.k = x.k then { y with L := L } else y) = lent y
    unfold lent LE.val
    rw [(hm y).1, (hm y).2.1]
  refine ⟨⟨hF.get h.box (by omega), ?_, ?_, ?_, ?_, ?_, ?_⟩, ?_, ?_⟩
  · unfold HasLm
    rw [hne, List.length_map]
    exact h.map.frame hF (by omega)
  · intro y hy
    obtain ⟨z, hz, rfl⟩ := List.mem_map.1 hy
    by_cases hk : z.k = x.k
    · obtain rfl := hkey z hz hk
      rw [if_pos rfl]; exact hL
    · rw [if_neg hk]
      have hap := mem_apart apL_symm h.apart hz hx (fun e => hk (by rw [e]))
      exact (h.logs z hz).other (h.logs x hx) hF hap.1 hap.2
  · intro y hy
    obtain ⟨z, hz, rfl⟩ := List.mem_map.1 hy
    rw [(hm z).2.1, (hm z).2.2]
    exact h.off z hz
  · rw [List.pairwise_map]
    refine h.apart.imp (fun {a b} hab => ?_)
    rw [(hm a).2.1, (hm a).2.2, (hm b).2.1, (hm b).2.2]
    exact hab
  · unfold RisZ
    rw [List.pairwise_map]
    refine h.ris.imp (fun {a b} hab => ?_)
    rw [(hm a).1, (hm b).1]
    exact hab
  · intro y hy
    obtain ⟨z, hz, rfl⟩ := List.mem_map.1 hy
    rw [(hm z).1]
    exact h.ids z hz
  · exact hF.mono (fun k hk => .inr (.inr ⟨x, hx, hk⟩))
  · rintro k (rfl | rfl | ⟨y, hy, hk⟩)
    · exact .inl (.inl rfl)
    · exact .inl (.inr (.inl rfl))
    · obtain ⟨z, hz, rfl⟩ := List.mem_map.1 hy
      rw [(hm z).2.1, (hm z).2.2] at hk
      exact .inl (.inr (.inr ⟨z, hz, hk⟩))
/-- A new log is put under a number that has none. -/
theorem LedAt.add {W W1 W' : World} {e M : Nat} {F : List LE} {x : LE} (h : LedAt W e M F) (hB : Below W.heap.size W W1) (hL : LogS W1 x.d x.m x.L) (hn : W.heap.size ≤ x.d ∧ W.heap.size ≤ x.m) (hid : 0 ≤ x.k ∧ x.k ≤ 999) (hno : getZ LE.k F x.k = none) (hF : FrameT (fun k => k = M) W1 W') (hm : HasLm W' M (putZ LE.k x F)) : OpLg W e M F (putZ LE.k x F) W' := by
  have h1 := h.below hB
  have hne := h.eM
  have hlt := h.lt (.inr (.inl rfl))
  have hle := h.lt (.inl rfl)
  have hMr : ∀ (a : Option Addr) (l : List EntryC), RowV W1 a l.length 3 (entryCells l) → ∀ k, inBlkE a l.length k → ¬ k = M := fun a l hr k hk hkm => h1.row hr hk (.inr (.inl hkm))
  have hmem : ∀ y, y ∈ putZ LE.k x F ↔ y = x ∨ y ∈ F := fun y => by
    rw [mem_putZ]
    constructor
    · rintro (h | h)
      · exact .inl h
      · exact .inr h.1
    · rintro (h | h)
      · exact .inl h
      · exact .inr ⟨h, getZ_none hno y h⟩
  have hxlt := hL.lt
  refine ⟨⟨hF.get h1.box hne, hm, ?_, ?_, ?_, risZ_put h.ris x, ?_⟩, ?_, ?_⟩
  · intro y hy
    rcases (hmem y).1 hy with rfl | hy
    · exact hL.frame hF (by omega) (by omega) hMr
    · have ho := h.off y hy
      exact (h1.logs y hy).frame hF ho.2.1 ho.2.2 hMr
  · intro y hy
    rcases (hmem y).1 hy with rfl | hy
    · omega
    · exact h.off y hy
  · have hp : (x :: F).Perm (putZ LE.k x F) := by
      unfold putZ
      have hd : delZ LE.k F x.k = F := List.filter_eq_self.2 (fun y hy => by simpa using getZ_none hno y hy)
      rw [hd]
      exact (insZ_perm LE.k x F).symm
    refine pairwise_perm apL_symm hp (List.pairwise_cons.2 ⟨fun y hy => ?_, h.apart⟩)
    have hy1 := h.lt (.inr (.inr ⟨y, hy, .inl rfl⟩))
    have hy2 := h.lt (.inr (.inr ⟨y, hy, .inr rfl⟩))
    show apL x y
    unfold apL
    omega
  · intro y hy
    rcases (hmem y).1 hy with rfl | hy
    · exact hid
    · exact h.ids y hy
  · exact (FrameT.below hB).trans (hF.mono (fun k hk => .inr (.inl hk)))
  · rintro k (rfl | rfl | ⟨y, hy, hk⟩)
    · exact .inl (.inl rfl)
    · exact .inl (.inr (.inl rfl))
    · rcases (hmem y).1 hy with rfl | hy
      · right; omega
      · exact .inl (.inr (.inr ⟨y, hy, hk⟩))
/-- A log is taken out. -/
theorem LedAt.cut {W W' : World} {e M : Nat} {F : List LE} (h : LedAt W e M F) (s : Int) (hF : FrameT (fun k => k = M) W W') (hm : HasLm W' M (delZ LE.k F s)) : OpLg W e M F (delZ LE.k F s) W' := by
  have hMr : ∀ (a : Option Addr) (l : List EntryC), RowV W a l.length 3 (entryCells l) → ∀ k, inBlkE a l.length k → ¬ k = M := fun a l hr k hk hkm => h.row hr hk (.inr (.inl hkm))
  have hsub : ∀ y, y ∈ delZ LE.k F s → y ∈ F := fun y hy => (mem_delZ.1 hy).1
  refine ⟨⟨hF.get h.box h.eM, hm, fun y hy => ?_, fun y hy => h.off y (hsub y hy), h.apart.sublist List.filter_sublist, risZ_del h.ris s, fun y hy => h.ids y (hsub y hy)⟩, hF.mono (fun k hk => .inr (.inl hk)), ?_⟩
  · have ho := h.off y (hsub y hy)
    exact (h.logs y (hsub y hy)).frame hF ho.2.1 ho.2.2 hMr
  · rintro k (rfl | rfl | ⟨y, hy, hk⟩)
    · exact .inl (.inl rfl)
    · exact .inl (.inr (.inl rfl))
    · exact .inl (.inr (.inr ⟨y, hsub y hy, hk⟩))

/-! ### What is done, as plain data -/
def ldo1 (A : List LG) (x : PL) (s t : Int) : List LG := if isB x.1 x.2 = true then (if x.1.k = 5 then delZ LG.n A x.1.g else putZ LG.n (doLG ((getZ LG.n A x.1.g).getD ⟨newP x.1.g, []⟩) x.1 x.2 s t) A) else A
def ldo (A : List LG) (l : List PL) (s t : Int) : List LG := l.foldl (fun A x => ldo1 A x s t) A
def okA (N : Nat) (A : List LG) : Prop := ∀ L ∈ A, okLG N L
theorem okLG_mono {N N' : Nat} {L : LG} (h : okLG N L) (hN : N ≤ N') : okLG N' L := ⟨h.1, Nat.le_trans h.2.1 hN, Nat.le_trans h.2.2 hN⟩
theorem ldo1_ok {N c : Nat} {A : List LG} (h : okA N A) (x : PL) (s t : Int) (hc : x.2.length ≤ c) : okA (N + (c + 2)) (ldo1 A x s t) := by
  unfold ldo1
  split
  · rename_i hb
    split
    · intro L hL; exact okLG_mono (h L (mem_delZ.1 hL).1) (by omega)
    · intro L hL
      rcases mem_putZ.1 hL with rfl | hL
      · refine okLG_mono (doLG_ok (N := N) ?_ x.1 x.2 s t) (by omega)
        cases hg : getZ LG.n A x.1.g with
        | none => exact okLG_mono (newP_ok ((isB_iff _ _).1 hb).1) (Nat.zero_le _)
        | some L => exact h L (getZ_some hg).1
      · exact okLG_mono (h L hL.1) (by omega)
  · intro L hL; exact okLG_mono (h L hL) (by omega)
theorem ldo1_id {A : List LG} (hA : ∀ L ∈ A, 0 ≤ L.n ∧ L.n ≤ 999) (x : PL) (s t : Int) : ∀ L ∈ ldo1 A x s t, 0 ≤ L.n ∧ L.n ≤ 999 := by
  unfold ldo1
  split
  · rename_i hb
    split
    · intro L hL; exact hA L (mem_delZ.1 hL).1
    · intro L hL
      rcases mem_putZ.1 hL with rfl | hL
      · show 0 ≤ (doLG _ x.1 x.2 s t).g.id ∧ (doLG _ x.1 x.2 s t).g.id ≤ 999
        rw [doLG_id]
        cases hg : getZ LG.n A x.1.g with
        | none => exact ((isB_iff _ _).1 hb).1
        | some L => exact hA L (getZ_some hg).1
      · exact hA L hL.1
  · exact hA
/-- In a rising row, an element is put in the place of the one of its number. -/
theorem put_turn {A : List LG} (hr : RisZ LG.n A) {L a : LG} (ha : a ∈ A) (hn : a.n = L.n) : (A.map fun y => if y.n = L.n then L else y) = putZ LG.n L A := by
  have hg : ∀ y : LG, LG.n (if y.n = L.n then L else y) = y.n := fun y => by
    split
    · rename_i h; exact h.symm
    · rfl
  refine risZ_ext (nm := LG.n) ?_ (risZ_put hr L) (fun i => ?_)
  · unfold RisZ
    rw [List.pairwise_map]
    exact hr.imp (fun {a b} h => by rw [hg, hg]; exact h)
  · rw [← getZ_map (nm := LG.n) (nb := LG.n) hg]
    by_cases hi : i = L.n
    · subst hi
      rw [getZ_put_same, show getZ LG.n A L.n = some a by rw [← hn]; exact risZ_get hr ha]
      show some (if a.n = L.n then L else a) = some L
      rw [if_pos hn]
    · rw [getZ_put_other LG.n (fun e => hi e.symm)]
      cases h : getZ LG.n A i with
      | none => rfl
      | some y =>
        have := (getZ_some h).2
        show some (if y.n = L.n then L else y) = some y
        rw [if_neg (by rw [this]; exact hi)]

end Go.Proofs.Ytdncdlbhgaehmaa

/- The contracts of package ledger's New, log. -/
namespace Go.Proofs.Ytdncdlbhgaehmaa
open Go.RowKit Go.Shelf
set_option linter.unusedVariables false
attribute [local go_sem] Oper.semAt_some wide_fn wide_round_fn

theorem grown_frame {w w' : World} {m : Nat} (g : w.grownBy w' (some m)) : FrameT (fun k => k = m) w w' := ⟨g.os, g.tape, g.output, g.size, fun k hk hT => g.block k hk (fun e => hT (Option.some.inj e))⟩
theorem lnew_any (W : World) : Calls Try.prog 26 #[] W fun e w' => e = .returned (.pointer (some ⟨W.heap.size + 1, 0, none⟩)) ∧ LedAt w' (W.heap.size + 1) W.heap.size [] ∧ Below W.heap.size W w' := by
  have hmm := @run_makeMap Try.prog
  go_enter Try.func26, Try.ntmps26
  go_wp2
  have hB := bel_alloc (bel_alloc (Below.refl W.heap.size W) (.map #[] 0)) (.cells #[.map (some W.heap.size)] 89)
  have hb := World.alloc_heap_new (W.alloc (.map #[] 0)) (.cells #[.map (some W.heap.size)] 89)
  rw [World.size_alloc] at hb
  refine bodyPost_ret (results_tmp rfl _ _ _) rfl ⟨rfl, ⟨hb, ?_, (fun x hx => by cases hx), (fun x hx => by cases hx), List.Pairwise.nil, List.Pairwise.nil, (fun x hx => by cases hx)⟩, hB⟩
  exact (World.ownsMap_made W Try.prog 3 plcElem).alloc _
/-- What log leaves: the log is there, x; it was there, or it is new. -/
def LogPost (W : World) (e M : Nat) (F : List LE) (id : Int) (r : Ending) (w' : World) : Prop :=
  ∃ x F', r = .returned (.pointer (some ⟨x.d, 0, none⟩)) ∧ OpLg W e M F F' w' ∧ x ∈ F' ∧ x.k = id ∧ (getZ LE.k F id = some x ∧ F' = F ∨ getZ LE.k F id = none ∧ x.L = ⟨newP id, []⟩ ∧ F' = putZ LE.k x F)
set_option maxRecDepth 100000 in
set_option maxHeartbeats 1000000 in
theorem llog_any {W : World} {e M : Nat} {F : List LE} (h : LedAt W e M F) (hF : F.length < 100000) (id : Int) (hid : 0 ≤ id ∧ id ≤ 999) : Calls Try.prog 45 #[.pointer (some ⟨e, 0, none⟩), .int .i64 id] W (LogPost W e M F id) := by
  have c0 : W.cell? ⟨e, 0, none⟩ = some (.map (some M)) := cell_of_row _ _ 0 _ _ _ h.box
  have hw := wfP (n := id) ⟨by omega, by omega⟩
  have hlk := h.map.look id hw
  have HM := Lib.hid h
  cases hg : getZ LE.k F id with
  | some x =>
    obtain ⟨hx, hk⟩ := getZ_some hg
    rw [hg, show lookL F id = x.val by unfold lookL; rw [hg]] at hlk
    have HX := Lib.hid (show LogPost W e M F id (.returned x.val) W from ⟨x, F, rfl, OpLg.refl h, hx, hk, .inl ⟨hg, rfl⟩⟩)
    clear h hx hk hg HM
    dsimp only [LE.val] at *
    go_enter Try.func45, Try.ntmps45
    go_wp2
    go_ret
    exact HX.out
  | none =>
    rw [hg, show lookL F id = .pointer none by unfold lookL; rw [hg]] at hlk
    have HG := Lib.hid hg
    have GN := Lib.hid (fun W => pnewS_any id W)
    have hkey := Maps.keyOf_int_mk Try.underlying3 hw
    have hFm : F.length < maxLen := by unfold maxLen; omega
    have HID := Lib.hid hid
    clear h hg hid hw
    go_enter Try.func45, Try.ntmps45
    go_wp2_with (first
      | (go_at_call 70; ((with_reducible refine (GN.out _).mono ?_); rintro r w1 ⟨d, m, rfl, h1, h2, hL, hB1⟩; have HL := Lib.hid hL; have HB1 := Lib.hid hB1; have hM1 := HM.out.below hB1; have HM1 := Lib.hid hM1; have hown := Lib.hid hM1.map; have c1 : w1.cell? ⟨e, 0, none⟩ = some (.map (some M)) := cell_of_row _ _ 0 _ _ _ hM1.box; clear hM1 hL hB1))
      | (at_mapUpdate; refine wpList_mapUpdate_own _ rfl _ _ _ 87 rfl 3 91 lawP Try.underlying87 plcElem M F.length (lmap F) rfl hown.out hFm _ (.pointer (some ⟨d, 0, none⟩)) _ rfl rfl hkey _ [] rfl ?_; intro w4 hown4 hturn4))
    go_ret
    have hF4 := grown_frame hturn4
    have hop := LedAt.add (x := ⟨d, m, ⟨newP id, []⟩⟩) HM.out HB1.out HL.out ⟨(show W.heap.size ≤ d by omega), h1⟩ HID.out HG.out hF4 (HasLm.put ⟨d, m, ⟨newP id, []⟩⟩ hown4)
    exact ⟨⟨d, m, ⟨newP id, []⟩⟩, _, rfl, hop, mem_putZ.2 (.inl rfl), rfl, .inr ⟨HG.out, rfl, rfl⟩⟩

end Go.Proofs.Ytdncdlbhgaehmaa

/- What a list of parts does to a ledger: words for package ledger's Do. -/
namespace Go.Proofs.Ytdncdlbhgaehmaa
open Go.RowKit Go.Shelf
set_option linter.unusedVariables false
attribute [local go_sem] Oper.semAt_some wide_fn wide_round_fn

theorem putZ_putZ {α : Type} {nm : α → Int} {F : List α} (hr : RisZ nm F) {x y : α} (h : nm x = nm y) : putZ nm x (putZ nm y F) = putZ nm x F := by
  refine risZ_ext (nm := nm) (risZ_put (risZ_put hr y) x) (risZ_put hr x) (fun i => ?_)
  by_cases hi : nm x = i
  · subst hi; rw [getZ_put_same, getZ_put_same]
  · rw [getZ_put_other nm hi, getZ_put_other nm hi, getZ_put_other nm (by rw [← h]; exact hi)]
theorem LedAt.risL {W : World} {e M : Nat} {F : List LE} (h : LedAt W e M F) : RisZ LG.n (F.map LE.L) := by
  unfold RisZ
  rw [List.pairwise_map]
  exact h.ris
theorem ldo_plain {W : World} {e M : Nat} {F : List LE} (h : LedAt W e M F) {p : PartC} {pl : List EntryC} {s t : Int} (hB : isB p pl = true) (hk : p.k ≠ 5) {x : LE} {F5 : List LE} {w5 : World} (h5 : LedAt w5 e M F5) (hx : x ∈ F5) (hxk : x.k = p.g)
    (hc : getZ LE.k F p.g = some x ∧ F5 = F ∨ getZ LE.k F p.g = none ∧ x.L = ⟨newP p.g, []⟩ ∧ F5 = putZ LE.k x F) :
    (F5.map fun y => if y.k = x.k then { y with L := doLG x.L p pl s t } else y).map LE.L = ldo1 (F.map LE.L) (p, pl) s t := by
  have hid : (doLG x.L p pl s t).n = x.L.n := doLG_id x.L p pl s t
  have e1 : (F5.map fun y => if y.k = x.k then { y with L := doLG x.L p pl s t } else y).map LE.L = (F5.map LE.L).map (fun y => if y.n = (doLG x.L p pl s t).n then doLG x.L p pl s t else y) := by
    rw [List.map_map, List.map_map]
    apply List.map_congr_left
    intro y _
    show (if y.k = x.k then ({ y with L := doLG x.L p pl s t } : LE) else y).L = if y.L.n = (doLG x.L p pl s t).n then doLG x.L p pl s t else y.L
    rw [hid]
    by_cases hy : y.k = x.k
    · rw [if_pos hy, if_pos hy]
    · rw [if_neg hy, if_neg hy]
  rw [e1, put_turn h5.risL (a := x.L) (List.mem_map.2 ⟨x, hx, rfl⟩) hid.symm]
  unfold ldo1
  rw [if_pos hB, if_neg hk]
  rcases hc with ⟨hg, rfl⟩ | ⟨hg, hL, rfl⟩
  · rw [show getZ LG.n (F5.map LE.L) p.g = some x.L by rw [← getZ_map (nm := LE.k) (nb := LG.n) (g := LE.L) (fun _ => rfl), hg]; rfl]
    rfl
  · rw [show getZ LG.n (F.map LE.L) p.g = none by rw [← getZ_map (nm := LE.k) (nb := LG.n) (g := LE.L) (fun _ => rfl), hg]; rfl]
    rw [putZ_map (nm := LE.k) (nb := LG.n) (g := LE.L) (fun _ => rfl), putZ_putZ h.risL hid]
    rw [hL]; rfl
theorem LedAt.prow {W : World} {e M : Nat} {F : List LE} (h : LedAt W e M F) {a : Option Addr} {l : List PL} (hr : RowV W a l.length 10 (partCells l)) {k : Nat} (hk : inBlkE a l.length k) : ¬ ownLg F e M k := by
  obtain ⟨b', off, he, h0, rfl⟩ := hk
  obtain ⟨b2, off2, e2, _, hc⟩ := hr.2.2 h0
  rw [he] at e2
  cases e2
  have hl : (partCells l).length = l.length * 10 := hr.1
  have h9 := hc 9 (by omega)
  obtain ⟨o, ho, hcl⟩ := isCells_of_cell h9
  rintro (rfl | rfl | ⟨x, hx, rfl | rfl⟩)
  · rw [Lib.cell_of_heap h.box] at h9
    have := (Array.getElem?_eq_some_iff.1 h9).1
    simp at this
  · obtain ⟨es, ck, hb⟩ := h.map.block
    rw [hb] at ho; cases ho; cases hcl
  · obtain ⟨_, a2, c2, h2⟩ := h.logs x hx
    rw [Lib.cell_of_heap h2.1] at h9
    have := (Array.getElem?_eq_some_iff.1 h9).1
    simp [logArr] at this
    omega
  · obtain ⟨_, a2, c2, h2⟩ := h.logs x hx
    obtain ⟨es, ck, hb⟩ := h2.2.1.block
    rw [hb] at ho; cases ho; cases hcl
theorem HasP.led {W W' : World} {e M : Nat} {F : List LE} {a : Option Addr} {len : Nat} {L : List PL} (hp : HasP W a len L) (h : LedAt W e M F) (hF : FrameT (ownLg F e M) W W') : HasP W' a len L := by
  obtain ⟨h1, h2, h3, h4⟩ := hp
  subst h1
  exact ⟨rfl, h2, rowV_frame h3 hF (fun k hk => h.prow h3 hk), fun x hx => by
    obtain ⟨g1, g2, g3⟩ := h4 x hx
    exact ⟨g1, g2, rowV_frame g3 hF (fun k hk => by rw [← g1] at hk g3; exact h.row g3 hk)⟩⟩
theorem ldo_take (A : List LG) (L : List PL) (s t : Int) {j : Nat} (hj : j < L.length) : ldo A (L.take (j + 1)) s t = ldo1 (ldo A (L.take j) s t) L[j] s t := by
  unfold ldo
  rw [List.take_succ_eq_append_getElem hj, List.foldl_append]; rfl
/-- Behind the first j parts. -/
def LdoJ (W : World) (e M : Nat) (F : List LE) (N c : Nat) (L : List PL) (s t : Int) (j : Nat) (w' : World) : Prop :=
  ∃ F', OpLg W e M F F' w' ∧ F'.map LE.L = ldo (F.map LE.L) (L.take j) s t ∧ okA (N + j * (c + 2)) (F'.map LE.L) ∧ F'.length ≤ F.length + j
theorem ldo1_len (A : List LG) (x : PL) (s t : Int) : (ldo1 A x s t).length ≤ A.length + 1 := by
  unfold ldo1
  split
  · split
    · have := delZ_len LG.n A x.1.g; omega
    · exact putZ_len _ _ _
  · omega
theorem LdoJ.next {W w1 w2 : World} {e M : Nat} {F F1 F2 : List LE} {N c : Nat} {L : List PL} {s t : Int} {j : Nat} (hj : j < L.length) (hc : L[j].2.length ≤ c) (h : OpLg W e M F F1 w1) (h1 : F1.map LE.L = ldo (F.map LE.L) (L.take j) s t) (h3 : okA (N + j * (c + 2)) (F1.map LE.L)) (h4 : F1.length ≤ F.length + j) (h2 : OpLg w1 e M F1 F2 w2) (he : F2.map LE.L = ldo1 (F1.map LE.L) L[j] s t) : LdoJ W e M F N c L s t (j + 1) w2 := by
  refine ⟨F2, h.trans h2, by rw [ldo_take _ _ _ _ hj, he, h1], ?_, ?_⟩
  · rw [he]
    have := ldo1_ok h3 L[j] s t hc
    rw [Nat.succ_mul, ← Nat.add_assoc]
    exact this
  · have := ldo1_len (F1.map LE.L) L[j] s t
    rw [← he, List.length_map, List.length_map] at this
    omega

theorem hasE_led {W W' : World} {e M : Nat} {F : List LE} {p : PartC} {pl : List EntryC} (hE : HasE W p pl) (h : LedAt W e M F) (hF : FrameT (ownLg F e M) W W') : HasE W' p pl := by
  obtain ⟨g1, g2, g3⟩ := hE
  exact ⟨g1, g2, rowV_frame g3 hF (fun k hk => by rw [← g1] at hk g3; exact h.row g3 hk)⟩
/-- Within a round: the ledger, the part's box, the place's box. -/
def DoB (W0 : World) (e M : Nat) (F0 : List LE) (Bp B0 : Nat) (A : Array Value) (s t : Int) (p : PartC) (pl : List EntryC) (F : List LE) (W : World) : Prop :=
  OpLg W0 e M F0 F W ∧ (W.heap[Bp]? = some (.cells A 41 (0, 0)) ∧ W.heap[B0]? = some (.cells #[.int .i64 s, .int .i64 t] 34 (0, 0))) ∧ HasE W p pl ∧ ¬ ownLg F e M Bp ∧ ¬ ownLg F e M B0
theorem DoB.op {W0 W W' : World} {e M : Nat} {F0 F F' : List LE} {Bp B0 : Nat} {A : Array Value} {s t : Int} {p : PartC} {pl : List EntryC} (h : DoB W0 e M F0 Bp B0 A s t p pl F W) (ho : OpLg W e M F F' W') : DoB W0 e M F0 Bp B0 A s t p pl F' W' := by
  obtain ⟨h1, ⟨h2, h3⟩, h4, h5, h6⟩ := h
  refine ⟨h1.trans ho, ⟨ho.2.1.get h2 h5, ho.2.1.get h3 h6⟩, hasE_led h4 h1.1 ho.2.1, fun hk => ?_, fun hk => ?_⟩
  · rcases ho.2.2 _ hk with h | h
    · exact h5 h
    · have := heap_lt h2; omega
  · rcases ho.2.2 _ hk with h | h
    · exact h6 h
    · have := heap_lt h3; omega
theorem DoB.below {W0 W W' : World} {e M : Nat} {F0 F : List LE} {Bp B0 : Nat} {A : Array Value} {s t : Int} {p : PartC} {pl : List EntryC} (h : DoB W0 e M F0 Bp B0 A s t p pl F W) (hB : Below W.heap.size W W') : DoB W0 e M F0 Bp B0 A s t p pl F W' := h.op (OpLg.below h.1.1 hB)
theorem DoB.drew {W0 W : World} {e M : Nat} {F0 F : List LE} {Bp B0 : Nat} {A : Array Value} {s t : Int} {p : PartC} {pl : List EntryC} (h : DoB W0 e M F0 Bp B0 A s t p pl F W) : DoB W0 e M F0 Bp B0 A s t p pl F W.drew := h.below (Below.refl _ _).drew
theorem dolog {W0 W : World} {e M : Nat} {F0 F : List LE} {Bp B0 : Nat} {A : Array Value} {s t : Int} {p : PartC} {pl : List EntryC} (h : DoB W0 e M F0 Bp B0 A s t p pl F W) (hF : F.length < 100000) (id : Int) (hid : 0 ≤ id ∧ id ≤ 999) : Calls Try.prog 45 #[.pointer (some ⟨e, 0, none⟩), .int .i64 id] W fun r w' => ∃ x F5, r = .returned (.pointer (some ⟨x.d, 0, none⟩)) ∧ DoB W0 e M F0 Bp B0 A s t p pl F5 w' ∧ x ∈ F5 ∧ x.k = id ∧ (getZ LE.k F id = some x ∧ F5 = F ∨ getZ LE.k F id = none ∧ x.L = ⟨newP id, []⟩ ∧ F5 = putZ LE.k x F) := by
  refine (llog_any h.1.1 hF id hid).mono ?_
  rintro r w' ⟨x, F5, rfl, h1, h2, h3, h4⟩
  exact ⟨x, F5, rfl, h.op h1, h2, h3, h4⟩
theorem dodo {W0 W : World} {e M N : Nat} {F0 F : List LE} {Bp B0 : Nat} {A : Array Value} {s t : Int} {p : PartC} {pl : List EntryC} (x : LE) (h : DoB W0 e M F0 Bp B0 A s t p pl F W) (hx : x ∈ F) (hok : okLG N x.L) (hN : N ≤ 100000) (hpc : pl.length ≤ p.cap) (hpl : pl.length < 100000) : Calls Try.prog 46 #[.pointer (some ⟨x.d, 0, none⟩), p.val, .agg #[.int .i64 s, .int .i64 t]] W fun r w' => (∃ v, r = .returned v) ∧ DoB W0 e M F0 Bp B0 A s t p pl (F.map fun y => if y.k = x.k then { y with L := doLG x.L p pl s t } else y) w' := by
  refine (pdo_any (h.1.1.logs x hx) hok hN p pl h.2.2.1 hpc hpl s t).mono ?_
  rintro r w' ⟨h1, h2, h3⟩
  exact ⟨h1, h.op (LedAt.turn h.1.1 hx h3 h2 (doLG_id x.L _ _ _ _))⟩

end Go.Proofs.Ytdncdlbhgaehmaa

/- The contract of package ledger's Do. -/
namespace Go.Proofs.Ytdncdlbhgaehmaa
open Go.RowKit Go.Shelf
set_option linter.unusedVariables false
attribute [local go_sem] Oper.semAt_some wide_fn wide_round_fn

set_option maxRecDepth 100000 in
set_option maxHeartbeats 4000000 in
theorem ldo_any {W : World} {e M N c : Nat} {F : List LE} (h : LedAt W e M F) (hok : okA N (F.map LE.L)) (a : Option Addr) (len cap : Nat) (L : List PL) (hp : HasP W a len L) (hc : ∀ x ∈ L, x.2.length ≤ c ∧ x.2.length ≤ x.1.cap) (hN : N + len * (c + 2) ≤ 100000) (hFl : F.length + len < 100000) (s t : Int) :
    Calls Try.prog 27 #[.pointer (some ⟨e, 0, none⟩), .slice a len cap, .agg #[.int .i64 s, .int .i64 t]] W fun r w' => (∃ v, r = .returned v) ∧ ∃ F', OpLg W e M F F' w' ∧ F'.map LE.L = ldo (F.map LE.L) L s t ∧ okA (N + len * (c + 2)) (F'.map LE.L) ∧ F'.length ≤ F.length + len := by
  have hlen := hp.1
  have hl9 := hp.2.1
  have hA := bel_alloc (Below.refl W.heap.size W) (.cells #[.int .i64 s, .int .i64 t] 34)
  have hpl := World.alloc_heap_new W (.cells #[.int .i64 s, .int .i64 t] 34)
  have HE := Lib.hid (fun w' (hB : LdoJ (W.alloc (.cells #[.int .i64 s, .int .i64 t] 34)) e M F N c L s t len w') => (show ∃ F', OpLg W e M F F' w' ∧ F'.map LE.L = ldo (F.map LE.L) L s t ∧ okA (N + len * (c + 2)) (F'.map LE.L) ∧ F'.length ≤ F.length + len from by
    obtain ⟨F', h1, h2, h3, h4⟩ := hB
    exact ⟨F', (OpLg.below h hA).trans h1, by rw [h2, List.take_of_length_le (by omega)], h3, h4⟩))
  have HLed := Lib.hid (h.below hA)
  have HP := Lib.hid (hp.below hA)
  have HPl := Lib.hid hpl
  have HOut := Lib.hid (show ¬ ownLg F e M W.heap.size from fun hk => by have := h.lt hk; omega)
  have HOK := Lib.hid hok
  have HC := Lib.hid hc
  have HLen := Lib.hid hlen
  have HN := Lib.hid hN
  have HFl := Lib.hid hFl
  clear hA hpl h hp hok hc hlen hN hFl
  go_enter Try.func27, Try.ntmps27
  go_wp2
  obtain ⟨B0, hB0⟩ : ∃ B0, B0 = W.heap.size := ⟨_, rfl⟩
  rw [← hB0] at HPl HOut ⊢
  generalize W.alloc (.cells #[.int .i64 s, .int .i64 t] 34) = wa at *
  clear hB0
  go_loopw [10] (fun s10 wr => ∃ j : Nat, j ≤ len ∧ s10 = .int .i64 j ∧ LdoJ wa e M F N c L s t j wr) (fun s10 _ => len - (intOf s10).toNat)
  case atStart => exact ⟨0, by omega, rfl, F, OpLg.refl HLed.out, by simp [ldo], by simpa using HOK.out, by omega⟩
  case round =>
    obtain ⟨j, hj, rfl, hJ⟩ := hrel
    by_cases hlt : j < len
    · obtain ⟨F1, hop, hpl1, hok1, hlen1⟩ := hJ
      have hp1 := HP.out.led HLed.out hop.2.1
      have hpl0 := hop.2.1.get HPl.out HOut.out
      have hjL : j < L.length := by have := HLen.out; omega
      obtain ⟨b, off, ha, hb, hx⟩ := hp1.2.2.1.2.2 (by omega)
      subst ha
      obtain ⟨p0, p1, p2, p3, p4, p5, p6, p7, p8, p9⟩ := part_at10 hb (Below.refl _ _) hx hjL
      have hcj := HC.out L[j] (List.getElem_mem hjL)
      have hpe := hp1.2.2.2 L[j] (List.getElem_mem hjL)
      have HNx := Lib.hid (fun w1 w2 F2 (h2 : OpLg w1 e M F1 F2 w2) (h : OpLg wa e M F F1 w1) (he : F2.map LE.L = ldo1 (F1.map LE.L) L[j] s t) => LdoJ.next (N := N) (c := c) hjL hcj.1 h hpl1 hok1 hlen1 h2 he)
      have hji : (j : Int) < (len : Int) := by omega
      have hj0 : (0 : Int) ≤ (j : Int) := by omega
      clear hp1 hx
      generalize L[j] = y at *
      obtain ⟨⟨pg, pk, pa, plen, pcap, pht, phv, phc, pi, pt, pm, ph⟩, pl⟩ := y
      dsimp only at *
      have HOp := Lib.hid hop
      have HF1 := Lib.hid (show F1.length < 100000 by have := HFl.out; omega)
      have HCJ := Lib.hid hcj
      have HOK1 := Lib.hid hok1
      have HN1 := Lib.hid (show N + j * (c + 2) ≤ 100000 ∧ c + 2 ≤ 100000 by
        have h1 := HN.out
        have h2 : (j + 1) * (c + 2) ≤ len * (c + 2) := Nat.mul_le_mul_right _ (by omega)
        rw [Nat.succ_mul] at h2
        omega)
      clear hop hcj hok1 hpl1 hlen1
      have HB0 := Lib.hid hpl0
      have HHE := Lib.hid hpe
      clear hpl0 hpe hb
      go_upto_region 5 with (fail)
      clear p0 p1 p2 p3 p4 p5 p6 p7 p8 p9
      have hbp := World.alloc_heap_new wr (.cells #[.int .i64 pg, .int .i64 pk, .slice pa plen pcap, .int .i64 pht, .int .i64 phv, .int .i64 phc, .int .i64 pi, .int .i64 pt, .bool pm, .bool ph] 41)
      have hAp := bel_alloc (Below.refl wr.heap.size wr) (.cells #[.int .i64 pg, .int .i64 pk, .slice pa plen pcap, .int .i64 pht, .int .i64 phv, .int .i64 phc, .int .i64 pi, .int .i64 pt, .bool pm, .bool ph] 41)
      generalize wr.alloc (.cells #[.int .i64 pg, .int .i64 pk, .slice pa plen pcap, .int .i64 pht, .int .i64 phv, .int .i64 phc, .int .i64 pi, .int .i64 pt, .bool pm, .bool ph] 41) = wb at *
      have HWZ := Lib.hid (show ¬ ownLg F1 e M B0 ∧ (∀ k, ownLg F1 e M k → k < wr.heap.size) from ⟨fun hk => by
          rcases HOp.out.2.2 _ hk with h | h
          · exact HOut.out h
          · have := heap_lt HPl.out; omega, fun k hk => HOp.out.1.lt hk⟩)
      obtain ⟨Bp, hBp⟩ : ∃ Bp, Bp = wr.heap.size := ⟨_, rfl⟩
      have HBp := Lib.hid hBp
      rw [← hBp] at hbp ⊢
      clear hBp
      have HOb := Lib.hid (show DoB wr e M F1 Bp B0 #[.int .i64 pg, .int .i64 pk, .slice pa plen pcap, .int .i64 pht, .int .i64 phv, .int .i64 phc, .int .i64 pi, .int .i64 pt, .bool pm, .bool ph] s t ⟨pg, pk, pa, plen, pcap, pht, phv, phc, pi, pt, pm, ph⟩ pl F1 wb from ⟨OpLg.below HOp.out.1 hAp, ⟨hbp, (hAp.block _ (heap_lt HB0.out)).trans HB0.out⟩, HHE.out.below hAp, fun hk => by have := HWZ.out.2 _ hk; have := HBp.out; omega, HWZ.out.1⟩)
      have GI := Lib.hid (fun W' (hB : Below wb.heap.size wb W') => (show Gives Try.prog 44 #[.agg #[.int .i64 pg, .int .i64 pk, .slice pa plen pcap, .int .i64 pht, .int .i64 phv, .int .i64 phc, .int .i64 pi, .int .i64 pt, .bool pm, .bool ph]] W' (.bool (isB ⟨pg, pk, pa, plen, pcap, pht, phv, phc, pi, pt, pm, ph⟩ pl)) from is_any ⟨pg, pk, pa, plen, pcap, pht, phv, phc, pi, pt, pm, ph⟩ pl W' (HOb.out.below hB).2.2.1))
      obtain ⟨p0, p1, p2, p3, p4, p5, p6, p7, p8, p9⟩ := arr10p hbp
      clear hbp hAp
      cases hb : isB ⟨pg, pk, pa, plen, pcap, pht, phv, phc, pi, pt, pm, ph⟩ pl
      · rw [hb] at GI
        have HEq := Lib.hid (show F1.map LE.L = ldo1 (F1.map LE.L) (⟨pg, pk, pa, plen, pcap, pht, phv, phc, pi, pt, pm, ph⟩, pl) s t from by unfold ldo1; rw [if_neg (by rw [hb]; simp)])
        clear hb
        go_wp2_with (go_at_call 44; ((with_reducible refine (GI.out _ (Below.refl _ _)).mono ?_); rintro r w5 ⟨rfl, hB5⟩))
        exact ⟨⟨j + 1, by omega, by go_num, HNx.out wr w5 F1 (HOb.out.below hB5).1 HOp.out HEq.out⟩, by simp [intOf]; omega⟩
      · rw [hb] at GI
        have hgid := ((isB_iff _ _).1 hb).1
        dsimp only at hgid
        by_cases hk : pk = 5
        · subst hk
          have HEq := Lib.hid (show delZ LG.n (F1.map LE.L) pg = ldo1 (F1.map LE.L) (⟨pg, 5, pa, plen, pcap, pht, phv, phc, pi, pt, pm, ph⟩, pl) s t from by unfold ldo1; rw [if_pos hb, if_pos rfl])
          clear hb
          have hkey := Maps.keyOf_int_mk Try.underlying3 (wfP (n := pg) ⟨by omega, by omega⟩)
          clear hgid
          go_wp2_with (go_at_call 44; ((with_reducible refine (GI.out _ (Below.refl _ _)).mono ?_); rintro r w5 ⟨rfl, hB5⟩; have HO5 := Lib.hid (HOb.out.below hB5); have hPb5 := HO5.out.2.1.1; clear p0 p1 p2 p3 p4 p5 p6 p7 p8 p9; obtain ⟨p0, p1, p2, p3, p4, p5, p6, p7, p8, p9⟩ := arr10p hPb5; have c0 : w5.cell? ⟨e, 0, none⟩ = some (.map (some M)) := cell_of_row _ _ 0 _ _ _ HO5.out.1.1.box; clear hPb5 hB5))
          go_still_tail 6, (by kernel_rfl)
          change wpList _ _ _ _ _ w5.drew
          have HO6 := Lib.hid HO5.out.drew.1
          have hown := Lib.hid HO6.out.1.map
          go_wp2_with (at_delete; refine wpList_delete_own _ rfl _ _ 87 3 rfl 91 lawP Try.underlying87 plcElem M F1.length (lmap F1) rfl hown.out _ _ rfl hkey ?_; intro w7 hown7 hturn7)
          have hF7 := turned_frame hturn7
          have ho7 := HO6.out.trans (LedAt.cut HO6.out.1 pg hF7 (HasLm.del pg hown7))
          exact ⟨⟨j + 1, by omega, by go_num, HNx.out wr w7 _ ho7 HOp.out (by rw [← HEq.out]; exact delZ_map (nm := LE.k) (nb := LG.n) (g := LE.L) (fun _ => rfl) F1 pg)⟩, by simp [intOf]; omega⟩
        · have hkb : (pk == 5) = false := by rw [beq_eq_false_iff_ne]; exact hk
          have HEq := Lib.hid (fun w5 (hL : LedAt w5 e M F1) x F5 w6 h5 hx hxk hc => ldo_plain (s := s) (t := t) hL hb hk (x := x) (F5 := F5) (w5 := w6) h5 hx hxk hc)
          clear hb hk
          have HG := Lib.hid hgid
          have GL := Lib.hid (fun w5 (hL : DoB wr e M F1 Bp B0 #[.int .i64 pg, .int .i64 pk, .slice pa plen pcap, .int .i64 pht, .int .i64 phv, .int .i64 phc, .int .i64 pi, .int .i64 pt, .bool pm, .bool ph] s t ⟨pg, pk, pa, plen, pcap, pht, phv, phc, pi, pt, pm, ph⟩ pl F1 w5) => dolog hL HF1.out pg HG.out)
          have GD := Lib.hid (fun w6 x F5 (h6 : DoB wr e M F1 Bp B0 #[.int .i64 pg, .int .i64 pk, .slice pa plen pcap, .int .i64 pht, .int .i64 phv, .int .i64 phc, .int .i64 pi, .int .i64 pt, .bool pm, .bool ph] s t ⟨pg, pk, pa, plen, pcap, pht, phv, phc, pi, pt, pm, ph⟩ pl F5 w6) (hx : x ∈ F5) (hok : okLG (N + j * (c + 2)) x.L) => (show Calls Try.prog 46 #[.pointer (some ⟨x.d, 0, none⟩), .agg #[.int .i64 pg, .int .i64 pk, .slice pa plen pcap, .int .i64 pht, .int .i64 phv, .int .i64 phc, .int .i64 pi, .int .i64 pt, .bool pm, .bool ph], .agg #[.int .i64 s, .int .i64 t]] w6 (fun r w' => (∃ v, r = .returned v) ∧ DoB wr e M F1 Bp B0 #[.int .i64 pg, .int .i64 pk, .slice pa plen pcap, .int .i64 pht, .int .i64 phv, .int .i64 phc, .int .i64 pi, .int .i64 pt, .bool pm, .bool ph] s t ⟨pg, pk, pa, plen, pcap, pht, phv, phc, pi, pt, pm, ph⟩ pl (F5.map fun y => if y.k = x.k then { y with L := doLG x.L ⟨pg, pk, pa, plen, pcap, pht, phv, phc, pi, pt, pm, ph⟩ pl s t } else y) w') from dodo x h6 hx hok (by have := HN1.out; omega) HCJ.out.2 (by have := HN1.out; have := HCJ.out; omega)))
          clear hgid
          go_wp2_with (go_at_call 44; ((with_reducible refine (GI.out _ (Below.refl _ _)).mono ?_); rintro r w5 ⟨rfl, hB5⟩; have HO5 := Lib.hid (HOb.out.below hB5); have hPb5 := HO5.out.2.1.1; clear p0 p1 p2 p3 p4 p5 p6 p7 p8 p9; obtain ⟨p0, p1, p2, p3, p4, p5, p6, p7, p8, p9⟩ := arr10p hPb5; have hq5 := HO5.out.2.1.2; have q0 : w5.cell? ⟨B0, 0, none⟩ = some (.int .i64 s) := cell_of_row _ _ 0 _ _ _ hq5; have q1 : w5.cell? ⟨B0, 1, none⟩ = some (.int .i64 t) := cell_of_row _ _ 1 _ _ _ hq5; clear hq5 hPb5 hB5))
          go_region_held3 (fun W' => W'.cell? ⟨Bp, 0, none⟩ = some (.int .i64 pg) ∧ W'.cell? ⟨Bp, 1, none⟩ = some (.int .i64 pk) ∧ W'.cell? ⟨Bp, 2, none⟩ = some (.slice pa plen pcap) ∧ W'.cell? ⟨Bp, 3, none⟩ = some (.int .i64 pht) ∧ W'.cell? ⟨Bp, 4, none⟩ = some (.int .i64 phv) ∧ W'.cell? ⟨Bp, 5, none⟩ = some (.int .i64 phc) ∧ W'.cell? ⟨Bp, 6, none⟩ = some (.int .i64 pi) ∧ W'.cell? ⟨Bp, 7, none⟩ = some (.int .i64 pt) ∧ W'.cell? ⟨Bp, 8, none⟩ = some (.bool pm) ∧ W'.cell? ⟨Bp, 9, none⟩ = some (.bool ph) ∧ W'.cell? ⟨B0, 0, none⟩ = some (.int .i64 s) ∧ W'.cell? ⟨B0, 1, none⟩ = some (.int .i64 t)) (go_keep) (first
            | (go_at_call 46; ((with_reducible refine (GD.out _ x F5 ?h6 hx6 hcx).mono ?_); (case h6 => first | exact hop6 | exact hop6.drew); rintro r w7 ⟨⟨v7, rfl⟩, hop7⟩; obtain ⟨y0, y1, y2, y3, y4, y5, y6, y7, y8, y9⟩ := arr10p hop7.2.1.1; have yq := hop7.2.1.2; have yq0 : w7.cell? ⟨B0, 0, none⟩ = some (.int .i64 s) := cell_of_row _ _ 0 _ _ _ yq; have yq1 : w7.cell? ⟨B0, 1, none⟩ = some (.int .i64 t) := cell_of_row _ _ 1 _ _ _ yq; clear yq))
            | (go_at_call 45; ((with_reducible refine (GL.out _ ?hl).mono ?_); (case hl => first | exact HO5.out | exact HO5.out.drew); rintro r w6 ⟨x, F5, rfl, hop6, hx6, hxk6, hc6⟩; have hcx : okLG (N + j * (c + 2)) x.L := (by rcases hc6 with ⟨g1, g2⟩ | ⟨g1, g2, g3⟩ <;> first | exact HOK1.out _ (List.mem_map.2 ⟨x, (getZ_some g1).1, rfl⟩) | (rw [g2]; exact okLG_mono (newP_ok HG.out) (Nat.zero_le _))); obtain ⟨x0, x1, x2, x3, x4, x5, x6, x7, x8, x9⟩ := arr10p hop6.2.1.1; have xq := hop6.2.1.2; have xq0 : w6.cell? ⟨B0, 0, none⟩ = some (.int .i64 s) := cell_of_row _ _ 0 _ _ _ xq; have xq1 : w6.cell? ⟨B0, 1, none⟩ = some (.int .i64 t) := cell_of_row _ _ 1 _ _ _ xq; clear xq)))
          all_goals
            clear x0 x1 x2 x3 x4 x5 x6 x7 x8 x9 y0 y1 y2 y3 y4 y5 y6 y7 y8 y9 xq0 xq1 yq0 yq1
            go_wp2
            exact ⟨⟨j + 1, by omega, by go_num, HNx.out wr _ _ hop7.1 HOp.out (HEq.out _ HO5.out.1.1 x F5 _ hop6.1.1 hx6 hxk6 hc6)⟩, by simp [intOf]; omega⟩
    · obtain rfl : j = len := by omega
      have HJ := Lib.hid hJ
      clear hJ
      go_wp2
      exact bodyPost_end (results_none rfl _ _ _) rfl ⟨⟨_, rfl⟩, HE.out _ HJ.out⟩

end Go.Proofs.Ytdncdlbhgaehmaa
