/- What a disk holds, as plain data: its files by their names, in rising order. -/
import Derived.Test.YtieekahlknmkfaaKit
import Derived.Test.YtieekahlknmkfaaIterK
import Derived.Maps.OwnSet
import Derived.Maps.OwnOps
import Derived.Maps.Views
namespace Go.Proofs.Ytieekahlknmkfaa
open Go.RowKit Go.Shelf
set_option linter.unusedVariables false

/-! ### Lists by names -/
def insK {α : Type} (nm : α → ByteArray) (x : α) : List α → List α
  | [] => [x]
  | y :: r => if Lit.before (.string (nm x).data.toList) (.string (nm y).data.toList) then x :: y :: r else y :: insK nm x r
def delK {α : Type} (nm : α → ByteArray) (F : List α) (s : ByteArray) : List α := F.filter fun f => !decide (nm f = s)
def getK {α : Type} (nm : α → ByteArray) (F : List α) (s : ByteArray) : Option α := F.find? fun f => decide (nm f = s)
def putK {α : Type} (nm : α → ByteArray) (x : α) (F : List α) : List α := insK nm x (delK nm F (nm x))
def setK {α : Type} (nm : α → ByteArray) (x : α) (F : List α) : List α := F.map fun f => if nm f = nm x then x else f
theorem insK_perm {α : Type} (nm : α → ByteArray) (x : α) : ∀ F : List α, (insK nm x F).Perm (x :: F)
  | [] => List.Perm.refl _
  | y :: r => by
    unfold insK
    split
    · exact List.Perm.refl _
    · exact ((insK_perm nm x r).cons y).trans (List.Perm.swap x y r)
theorem insK_len {α : Type} (nm : α → ByteArray) (x : α) (F : List α) : (insK nm x F).length = F.length + 1 := (insK_perm nm x F).length_eq
theorem mem_insK {α : Type} {nm : α → ByteArray} {x y : α} {F : List α} : y ∈ insK nm x F ↔ y = x ∨ y ∈ F := by rw [(insK_perm nm x F).mem_iff, List.mem_cons]
theorem insK_map {α β : Type} {nm : α → ByteArray} {nb : β → ByteArray} {g : α → β} (h : ∀ x, nb (g x) = nm x) (x : α) : ∀ F : List α, (insK nm x F).map g = insK nb (g x) (F.map g)
  | [] => rfl
  | y :: r => by
    simp only [insK, List.map_cons, h]
    split
    · rfl
    · rw [List.map_cons, insK_map h x r]
theorem delK_map {α β : Type} {nm : α → ByteArray} {nb : β → ByteArray} {g : α → β} (h : ∀ x, nb (g x) = nm x) (F : List α) (s : ByteArray) : (delK nm F s).map g = delK nb (F.map g) s := by
  unfold delK; rw [List.filter_map]; congr 1; apply List.filter_congr; intro x _; simp [h]
theorem getK_map {α β : Type} {nm : α → ByteArray} {nb : β → ByteArray} {g : α → β} (h : ∀ x, nb (g x) = nm x) (F : List α) (s : ByteArray) : (getK nm F s).map g = getK nb (F.map g) s := by
  unfold getK; rw [List.find?_map]; congr 2; funext x; simp [h]
theorem putK_map {α β : Type} {nm : α → ByteArray} {nb : β → ByteArray} {g : α → β} (h : ∀ x, nb (g x) = nm x) (x : α) (F : List α) : (putK nm x F).map g = putK nb (g x) (F.map g) := by
  unfold putK; rw [insK_map h, delK_map h, h]
theorem setK_map {α β : Type} {nm : α → ByteArray} {nb : β → ByteArray} {g : α → β} (h : ∀ x, nb (g x) = nm x) (x : α) (F : List α) : (setK nm x F).map g = setK nb (g x) (F.map g) := by
  unfold setK
  rw [List.map_map, List.map_map]
  apply List.map_congr_left
  intro f _
  simp only [Function.comp, h]
  split <;> rfl
theorem getK_some {α : Type} {nm : α → ByteArray} {F : List α} {s : ByteArray} {f : α} (h : getK nm F s = some f) : f ∈ F ∧ nm f = s := by
  unfold getK at h
  exact ⟨List.mem_of_find?_eq_some h, by simpa using List.find?_some h⟩
theorem getK_none {α : Type} {nm : α → ByteArray} {F : List α} {s : ByteArray} (h : getK nm F s = none) : ∀ f ∈ F, nm f ≠ s := by
  unfold getK at h
  intro f hf e
  have := List.find?_eq_none.1 h f hf
  simp [e] at this
theorem delK_none {α : Type} {nm : α → ByteArray} {F : List α} {s : ByteArray} (h : getK nm F s = none) : delK nm F s = F := by
  unfold delK
  rw [List.filter_eq_self]
  intro f hf
  simp [getK_none h f hf]
theorem mem_delK {α : Type} {nm : α → ByteArray} {F : List α} {s : ByteArray} {f : α} : f ∈ delK nm F s ↔ f ∈ F ∧ nm f ≠ s := by
  unfold delK; simp [List.mem_filter]

/-! ### A file, a disk -/
structure PF where
  n : ByteArray
  b : List UInt8
  k : Nat
/-- What a disk is, without its memory. -/
structure PD where
  L : List PF
  room : Nat
  steps : Nat
  lim : Bool
  left : Nat
/-- A file in memory: its name, its block, the slice of its bytes. -/
structure FileC where
  n : ByteArray
  fb : Nat
  v : Value
  b : List UInt8
  k : Nat
def FileC.core (f : FileC) : PF := ⟨f.n, f.b, f.k⟩
def usedL (L : List PF) : Nat := (L.map fun f => f.b.length).sum
theorem used_mem {L : List PF} {f : PF} (h : f ∈ L) : f.b.length ≤ usedL L := by
  unfold usedL
  induction L with
  | nil => cases h
  | cons x r ih =>
    rw [List.map_cons, List.sum_cons]
    rcases List.mem_cons.1 h with rfl | h
    · omega
    · have := ih h; omega
/-- How a pointer to a file reads: as its block. -/
def ptrElem : Value → Option (DataW Unit × List MemPlace)
  | .pointer (some ⟨b, 0, none⟩) => some (.lit (.int .i64 b), [])
  | .pointer none => some (.nil, [])
  | _ => none
theorem ptrElem_some {v : Value} {b : Nat} {ps : List MemPlace} (h : ptrElem v = some (.lit (.int .i64 b), ps)) : v = .pointer (some ⟨b, 0, none⟩) := by
  unfold ptrElem at h
  split at h
  · simp only [Option.some.injEq, Prod.mk.injEq, DataW.lit.injEq, Lit.int.injEq, true_and] at h
    have : (_ : Nat) = b := Int.ofNat.inj h.1
    rw [this]
  · simp at h
  · cases h
theorem ptrElem_nil {v : Value} {ps : List MemPlace} (h : ptrElem v = some (.nil, ps)) : v = .pointer none := by
  unfold ptrElem at h
  split at h
  · simp at h
  · rfl
  · cases h
def fent (f : FileC) : Lit × DataW Unit := (.string f.n.data.toList, .lit (.int .i64 f.fb))
def dmap (F : List FileC) : DataW Unit := .map (F.map fent)
theorem ba_eq {a b : ByteArray} : a.data.toList = b.data.toList ↔ a = b := ⟨fun h => ByteArray.ext (Array.toList_inj.1 h), fun h => by rw [h]⟩
theorem same_name (a b : ByteArray) : (Lit.string a.data.toList).sameKey (.string b.data.toList) = decide (a = b) := by
  show (a.data.toList == b.data.toList) = _
  rw [Bool.eq_iff_iff, beq_iff_eq, decide_eq_true_iff, ba_eq]
theorem dmap_at (F : List FileC) (s : ByteArray) (z : DataW Unit) : (dmap F).atKey (.string s.data.toList) z = match getK FileC.n F s with | some f => .lit (.int .i64 f.fb) | none => z := by
  unfold dmap DataW.atKey getK
  dsimp only
  rw [List.find?_map]
  rw [show ((fun p : Lit × DataW Unit => p.1.sameKey (.string s.data.toList)) ∘ fent) = fun f : FileC => decide (f.n = s) from funext fun f => same_name f.n s]
  cases F.find? (fun f : FileC => decide (f.n = s)) <;> rfl
theorem dmap_has (F : List FileC) (s : ByteArray) : Maps.has (dmap F) (.string s.data.toList) = (getK FileC.n F s).isSome := by
  unfold dmap getK
  rw [Maps.has_eq, List.any_map, List.isSome_find?]
  congr 1
  funext f
  exact same_name f.n s
theorem dmap_size (F : List FileC) : Maps.size (dmap F) = F.length := by unfold dmap; rw [Maps.size_eq, List.length_map]
theorem insert_map (x : FileC) : ∀ F : List FileC, DataW.insert (fent x) (F.map fent) = (insK FileC.n x F).map fent
  | [] => rfl
  | y :: r => by
    simp only [List.map_cons, DataW.insert, insK]
    show (if Lit.before (.string x.n.data.toList) (.string y.n.data.toList) = true then _ else _) = _
    split
    · rfl
    · rw [insert_map x r]; rfl
theorem dmap_del (F : List FileC) (s : ByteArray) : (dmap F).del (.string s.data.toList) = dmap (delK FileC.n F s) := by
  unfold dmap DataW.del delK
  dsimp only
  rw [List.filter_map]
  congr 2
  apply List.filter_congr
  intro f _
  show (!(Lit.string f.n.data.toList).sameKey _) = _
  rw [same_name]
theorem dmap_put (F : List FileC) (x : FileC) : (dmap F).put (.string x.n.data.toList) (.lit (.int .i64 x.fb)) = dmap (putK FileC.n x F) := by
  have h := dmap_del F x.n
  unfold dmap DataW.del at h
  unfold dmap DataW.put
  dsimp only at h ⊢
  injection h with h
  rw [h]
  unfold putK
  rw [← insert_map]; rfl
theorem dmap_set {F : List FileC} {x : FileC} (h : ∀ f ∈ F, f.n = x.n → f.fb = x.fb) : dmap (setK FileC.n x F) = dmap F := by
  unfold dmap setK
  rw [List.map_map]
  congr 1
  apply List.map_congr_left
  intro f hf
  simp only [Function.comp]
  split
  · rename_i e; unfold fent; rw [e, h f hf e]
  · rfl
/-- The bound of a map is its number of entries. -/
theorem ins_len (x : Lit × DataW Unit) : ∀ l : List (Lit × DataW Unit), (DataW.insert x l).length = l.length + 1
  | [] => rfl
  | y :: r => by
    unfold DataW.insert
    split
    · rfl
    · rw [List.length_cons, ins_len x r]; rfl
theorem ownsMap_tight {P : Program} {k : TypeId} {R : Value → Option (DataW Unit × List MemPlace)} {w : World} {b n : Nat} {D : DataW Unit} (h : w.ownsMap P k R b n D) : w.ownsMap P k R b (Maps.size D) D := by
  obtain ⟨es, clock, h1, h2, h3, h4⟩ := h
  refine ⟨es, clock, h1, h2, ?_, h4⟩
  rw [h4, Maps.size_eq]
  have : ∀ l : List (Lit × DataW Unit), (l.foldr DataW.insert []).length = l.length := fun l => by
    induction l with
    | nil => rfl
    | cons x r ih => rw [List.foldr_cons, ins_len, ih]; rfl
  rw [this, List.length_map]
  simp

end Go.Proofs.Ytieekahlknmkfaa
