/- Bits of a sheet's bytes that are flipped within 32 in a row, behind the sum: none is read (plain lists). -/
import Derived.Test.YtieekahlknmkfaaShtK
import Derived.Test.YtieekahlknmkfaaCodeMath
namespace Go.Proofs.Ytieekahlknmkfaa
set_option linter.unusedVariables false

/-- The bits of the number that four bytes make. -/
theorem leN_bitS : ∀ (l : List UInt8) (j : Nat), (leN l).testBit j = bitB l j
  | [], j => by simp [leN, bitB]
  | c :: r, j => by
    have hc := c.toNat_lt
    have e : leN (c :: r) = 2 ^ 8 * leN r + c.toNat := by simp only [leN]; omega
    rw [e, Nat.testBit_two_pow_mul_add _ hc]
    by_cases h : j < 8
    · rw [if_pos h]
      unfold bitB
      rw [show j / 8 = 0 by omega, show j % 8 = j by omega]; rfl
    · rw [if_neg h, leN_bitS r (j - 8)]
      unfold bitB
      rw [show j / 8 = (j - 8) / 8 + 1 by omega, show j % 8 = (j - 8) % 8 by omega]; rfl
theorem eig_bit (n j : Nat) (hn : n < 4294967296) : bitB (eigL n) j = n.testBit j := by rw [← leN_bitS, leN_eigL n hn]
theorem eig_app_bit (n : Nat) (l : List UInt8) (j : Nat) (hj : j < 32) (hn : n < 4294967296) : bitB (eigL n ++ l) j = n.testBit j := by
  rw [bitB_left _ _ _ (by show j < 8 * 4; omega), eig_bit _ _ hn]
theorem eig_app_rest (n : Nat) (l : List UInt8) (j : Nat) : bitB (eigL n ++ l) (32 + j) = bitB l j := bitB_right (eigL n) l j
theorem burst_rd {l : List Int} (t : List UInt8) (hl : t.length = (shS l).length) (g : Nat → Bool) (s : Nat) (hs : 32 ≤ s)
    (hb : ∀ j, j < 8 * t.length → bitB t j = (bitB (shS l) j ^^ g j)) (hlo : ∀ j, j < s → g j = false) (hhi : ∀ j, s + 32 ≤ j → g j = false) (hend : ∀ j, 8 * t.length ≤ j → g j = false) (hne : ∃ j, g j = true) : rdOk ⟨t.toArray⟩ = false := by
  rw [Bool.eq_false_iff]
  intro ho
  unfold rdOk at ho
  simp only [Bool.and_eq_true, decide_eq_true_eq] at ho
  obtain ⟨⟨-, h1⟩, h2⟩ := ho
  have e : t = shS (rdL ⟨t.toArray⟩) := by
    have := congrArg (fun x : ByteArray => x.data.toList) h2
    simp only [shY_list h1] at this
    exact this.symm
  generalize rdL ⟨t.toArray⟩ = m at *
  subst e
  rw [shS_len] at hend hb
  rw [shS_len, shS_len] at hl
  have hcl : ∀ x : List Int, (crcM 0#32 (shL x)).toNat < 4294967296 := fun x => (crcM 0#32 (shL x)).isLt
  have hcrc : crcM 0#32 (shL m) = crcM 0#32 (shL l) := by
    refine BitVec.eq_of_getLsbD_eq fun i hi => ?_
    have := hb i (by omega)
    unfold shS at this
    rw [eig_app_bit _ _ _ hi (hcl _), eig_app_bit _ _ _ hi (hcl _), hlo i (by omega), Bool.xor_false] at this
    exact this
  have hrest : ∀ j, j < 8 * (shL m).length → bitB (shL m) j = (bitB (shL l) j ^^ g (32 + j)) := fun j hj => by
    have := hb (32 + j) (by omega)
    unfold shS at this
    rw [eig_app_rest, eig_app_rest] at this
    exact this
  obtain ⟨q, hq⟩ := hne
  have hq1 : s ≤ q := Nat.le_of_not_lt fun h => by rw [hlo q h] at hq; cases hq
  have hq2 : q < s + 32 := Nat.lt_of_not_le fun h => by rw [hhi q h] at hq; cases hq
  have hq3 : q < 8 * (4 + (shL m).length) := Nat.lt_of_not_le fun h => by rw [hend q h] at hq; cases hq
  refine crcM_bursts 0#32 (shL l ++ [0, 0, 0, 0]) (shL m ++ [0, 0, 0, 0]) (fun j => g (32 + j)) (s - 32) ?_ ?_ ?_ ?_ ?_ ?_ ?_
  · simp; omega
  · simp; omega
  · intro j hj
    by_cases h : j < 8 * (shL m).length
    · rw [bitB_left _ _ _ h, bitB_left _ _ _ (by omega), hrest j h]
    · obtain ⟨i, rfl⟩ : ∃ i, j = 8 * (shL m).length + i := ⟨j - 8 * (shL m).length, by omega⟩
      rw [bitB_right, hend _ (by omega), Bool.xor_false]
      rw [show (shL m).length = (shL l).length by omega, bitB_right]
  · intro j hj; exact hlo _ (by omega)
  · intro j hj; exact hhi _ (by omega)
  · exact ⟨q - 32, by omega, by omega, by rw [show 32 + (q - 32) = q by omega]; exact hq⟩
  · rw [crcM_append, crcM_append, hcrc]

end Go.Proofs.Ytieekahlknmkfaa
