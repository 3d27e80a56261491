/- A disk's names, sorted as its files stand. -/
import Derived.Test.YtieekahlknmkfaaDskH
import Derived.Maps.Ext
import Derived.Sort.KeysCollected
namespace Go.Proofs.Ytieekahlknmkfaa
open Go.RowKit Go.Shelf
set_option linter.unusedVariables false

theorem before_lt : ∀ a b : List UInt8, bytesBefore a b = true → a < b
  | [], [], h => by simp [bytesBefore] at h
  | [], b :: s, _ => by simp
  | a :: r, [], h => by simp [bytesBefore] at h
  | a :: r, b :: s, h => by
    simp only [bytesBefore, Bool.or_eq_true, decide_eq_true_eq, Bool.and_eq_true, beq_iff_eq] at h
    rw [List.cons_lt_cons_iff]
    rcases h with h | ⟨h1, h2⟩
    · exact .inl h
    · exact .inr ⟨h1, before_lt r s h2⟩
theorem HasDisk.rising {W : World} {B d m : Nat} {D : PD} {F : List FileC} (h : HasDisk W B d m D F) : (F.map fun f => f.n.data.toList).Pairwise (fun a b => leB a b = true) := by
  obtain ⟨es, he, hp, -⟩ := h.map.canon lawStr
  unfold dmap at he
  injection he with he
  subst he
  rw [List.pairwise_map] at hp ⊢
  refine hp.imp fun {f g} h => ?_
  simp only [leB, decide_eq_true_eq]
  exact List.le_of_lt (before_lt _ _ h)
theorem names_sorted {W : World} {B d m : Nat} {D : PD} {F : List FileC} (h : HasDisk W B d m D F) {ss : List (List UInt8)} (hp : ss.Perm (strKeys (dmap F))) : (ss.mergeSort (fun x y => decide (x ≤ y))).map encStr = F.map (fun f => Value.string f.n) ∧ ss.length = F.length := by
  have e : strKeys (dmap F) = F.map fun f => f.n.data.toList := by unfold dmap strKeys; dsimp only; rw [List.map_map]; rfl
  rw [e] at hp
  constructor
  · rw [show ss.mergeSort (fun x y => decide (x ≤ y)) = ss.mergeSort leB from rfl, mergeSort_of_perm hp, List.mergeSort_of_pairwise h.rising, List.map_map]
    apply List.map_congr_left
    intro f _
    show encStr f.n.data.toList = _
    simp [encStr]
  · rw [hp.length_eq, List.length_map]

end Go.Proofs.Ytieekahlknmkfaa
