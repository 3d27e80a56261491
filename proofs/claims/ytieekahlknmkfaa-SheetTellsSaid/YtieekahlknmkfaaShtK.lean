/- What was written as a sheet is read as it (plain lists). -/
import Derived.Test.YtieekahlknmkfaaShtD
namespace Go.Proofs.Ytieekahlknmkfaa
set_option linter.unusedVariables false

theorem nums_flat : ∀ (l : List Int) (t : List UInt8), (∀ x ∈ l, 0 ≤ x ∧ x < 9223372036854775808) → nums l.length ((l.flatMap fun x => sevL x.toNat) ++ t) = l.map Int.toNat
  | [], t, _ => rfl
  | x :: r, t, h => by
    have hx := h x (List.mem_cons_self ..)
    have hg : getL (sevL x.toNat ++ ((r.flatMap fun x => sevL x.toNat) ++ t)) = (x.toNat, (sevL x.toNat).length, 0) := getL_sevL _ _ (by omega)
    show (if (getL _).2.2 = 0 then _ else _) = _
    rw [List.flatMap_cons, List.append_assoc, hg]
    rw [if_pos rfl, List.drop_left, nums_flat r t (fun y hy => h y (List.mem_cons_of_mem _ hy))]
    rfl
theorem shB_bd {l : List Int} (h : shB l = true) : l.length ≤ 200 ∧ ∀ x ∈ l, 0 < x ∧ x ≤ 99999999 := by
  unfold shB at h
  simp only [Bool.and_eq_true, decide_eq_true_eq] at h
  exact ⟨h.1.2, isA_bd h.2⟩
theorem shY_list {l : List Int} (h : shB l = true) : (shY l).data.toList = shS l := by unfold shY; rw [if_pos h]
theorem shS_len (l : List Int) : (shS l).length = 4 + (shL l).length := by
  unfold shS
  rw [List.length_append]; rfl
theorem rd_app {l : List Int} (h : shB l = true) (t : ByteArray) : rdHead (shY l ++ t) = true ∧ rdL (shY l ++ t) = l := by
  obtain ⟨h200, hbd⟩ := shB_bd h
  have hd : (shY l ++ t).data.toList = shS l ++ t.data.toList := by rw [ByteArray.data_append, Array.toList_append, shY_list h]
  have h4 : (shS l ++ t.data.toList).drop 4 = sevL l.length ++ ((l.flatMap fun x => sevL x.toNat) ++ t.data.toList) := by
    unfold shS shL
    rw [List.append_assoc, List.append_assoc]
    rfl
  have hg : getL ((shY l ++ t).data.toList.drop 4) = (l.length, (sevL l.length).length, 0) := by
    rw [hd, h4]; exact getL_sevL _ _ (by omega)
  have hsz : 4 ≤ (shY l ++ t).size := by
    have e : (shY l ++ t).data.toList.length = (shY l ++ t).size := by rw [Array.length_toList]; rfl
    rw [← e, hd, List.length_append, shS_len]; omega
  constructor
  · unfold rdHead rdG
    rw [hg, decide_eq_true hsz, decide_eq_true h200]; rfl
  · unfold rdL rdG
    rw [hg]
    dsimp only
    rw [hd, ← List.drop_drop, h4, List.drop_left, nums_flat l _ (fun x hx => by have := hbd x hx; omega), List.map_map]
    conv => rhs; rw [← List.map_id l]
    apply List.map_congr_left
    intro x hx
    have := hbd x hx
    show ((x.toNat : Nat) : Int) = x
    omega
theorem rd_back {l : List Int} (h : shB l = true) : rdOk (shY l) = true ∧ rdL (shY l) = l := by
  have e : shY l ++ ⟨#[]⟩ = shY l := by apply ByteArray.ext; rw [ByteArray.data_append]; simp
  have := rd_app h ⟨#[]⟩
  rw [e] at this
  refine ⟨?_, this.2⟩
  unfold rdOk
  rw [this.1, this.2, h, decide_eq_true rfl]; rfl
theorem rd_more {l : List Int} (h : shB l = true) (t : ByteArray) (ht : 0 < t.size) : rdOk (shY l ++ t) = false := by
  have := rd_app h t
  unfold rdOk
  rw [this.1, this.2, h, decide_eq_false]
  · rfl
  · intro e
    have := congrArg ByteArray.size e
    rw [ByteArray.size_append] at this
    omega

end Go.Proofs.Ytieekahlknmkfaa
