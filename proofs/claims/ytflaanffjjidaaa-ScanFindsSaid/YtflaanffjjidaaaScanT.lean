/- Flips, Turned, ScnT: in one text. -/
import Derived.Test.YtflaanffjjidaaaRecs
import Derived.Test.YtflaanffjjidaaaKit
import Derived.Test.YtflaanffjjidaaaScan
/- A bit that is flipped: in a row of bytes, in a byte; a bit of a number. -/
namespace Go.Proofs.Ytflaanffjjidaaa
open Go.RowKit Go.Shelf
set_option linter.unusedVariables false

end Go.Proofs.Ytflaanffjjidaaa

/- A record with one byte turned is bad: on lists of bytes alone. -/
namespace Go.Proofs.Ytflaanffjjidaaa
open Go.RowKit Go.Shelf
set_option linter.unusedVariables false

theorem bitB_xor (l : List UInt8) (i : Nat) (y : UInt8) (hi : i < l.length) (j : Nat) : bitB (l.set i (l[i] ^^^ y)) j = (bitB l j ^^ (decide (j / 8 = i) && y.toNat.testBit (j % 8))) := by
  unfold bitB
  by_cases h : j / 8 = i
  · rw [h, List.getD_eq_getElem?_getD, List.getElem?_set_self hi, List.getD_eq_getElem?_getD, List.getElem?_eq_getElem hi]
    simp only [Option.getD_some, decide_true, Bool.true_and]
    rw [UInt8.toNat_xor, Nat.testBit_xor]
  · rw [List.getD_eq_getElem?_getD, List.getElem?_set_ne (Ne.symm h), ← List.getD_eq_getElem?_getD, decide_eq_false h, Bool.false_and, Bool.xor_false]
/-- A frame with one byte turned is bad, whatever stands behind it. -/
theorem wrap_turned (b u : ByteArray) (h1 : 1 ≤ b.size) (h2 : b.size ≤ 2000) (i : Nat) (hi : i < (wrapB b).data.toList.length) (y : UInt8) (hy : y ≠ 0) : readF (⟨((wrapB b).data.toList.set i ((wrapB b).data.toList[i] ^^^ y)).toArray⟩ ++ u) = (⟨#[]⟩, 0, 4) := by
  have hl : (wrapB b).data.toList.length = b.size + 12 := by rw [ba_size, wrapB_size]
  have hz : (⟨((wrapB b).data.toList.set i ((wrapB b).data.toList[i] ^^^ y)).toArray⟩ : ByteArray).size = b.size + 12 := by
    show ((wrapB b).data.toList.set i ((wrapB b).data.toList[i] ^^^ y)).toArray.size = _
    simp [← hl]
  have hy0 : y.toNat ≠ 0 := fun h => hy (UInt8.toNat_inj.1 h)
  obtain ⟨q, hq⟩ := Nat.exists_testBit_of_ne_zero hy0
  have hq8 : q < 8 := by
    rcases Nat.lt_or_ge q 8 with h | h
    · exact h
    · rw [Nat.testBit_lt_two_pow (Nat.lt_of_lt_of_le y.toNat_lt (Nat.pow_le_pow_right (n := 2) (by decide) h))] at hq; cases hq
  refine read_bursts b _ u h1 h2 hz (fun j => decide (j / 8 = i) && y.toNat.testBit (j % 8)) (min (8 * i) (8 * (b.size + 12) - 32)) (by omega) (fun j _ => ?_) (fun j hj => ?_) (fun j hj => ?_) ⟨8 * i + q, by omega, by omega, ?_⟩
  · rw [show (⟨((wrapB b).data.toList.set i ((wrapB b).data.toList[i] ^^^ y)).toArray⟩ : ByteArray).data.toList = (wrapB b).data.toList.set i ((wrapB b).data.toList[i] ^^^ y) by simp]
    exact bitB_xor _ _ _ hi j
  · rw [decide_eq_false (by omega), Bool.false_and]
  · rw [decide_eq_false (by omega), Bool.false_and]
  · rw [decide_eq_true (show (8 * i + q) / 8 = i by omega), show (8 * i + q) % 8 = q by omega, hq]; rfl
theorem recM_class {s : ByteArray} {c : Nat} (h : readF s = (⟨#[]⟩, 0, c)) (hc : c ≠ 1) : recM s = (0, [], 0, c) := by
  unfold recM; rw [h]; dsimp only; rw [if_pos hc]
/-- A record's bytes with one byte turned, whatever stands behind. -/
theorem recM_turned {s : Int} {L : List PL} (hl : ∀ x ∈ L, x.2.length = x.1.len) (h : recB s L = true) (i : Nat) (hi : i < (recS s L).data.toList.length) (y : UInt8) (hy : y ≠ 0) (t : List UInt8) : recM (mkBA ((recS s L).data.toList.set i ((recS s L).data.toList[i] ^^^ y) ++ t)) = (0, [], 0, 4) := by
  have hb := bodyL_len hl h
  rw [mkBA_app]
  simp only [recS_ok h] at hi ⊢
  exact recM_class (wrap_turned (bodyS s L) (mkBA t) (by show 1 ≤ (bodyL s L).length; omega) (by show (bodyL s L).length ≤ 2000; omega) i hi y hy) (by decide)
end Go.Proofs.Ytflaanffjjidaaa

/- A segment with one byte turned: what is found of it. -/
namespace Go.Proofs.Ytflaanffjjidaaa
open Go.RowKit Go.Shelf
set_option linter.unusedVariables false

def turnB (s : ByteArray) (q : Nat) (y : UInt8) : ByteArray := mkBA (s.data.toList.set q (s.data.toList.getD q 0 ^^^ y))
theorem turn_left {a b : ByteArray} {q : Nat} (y : UInt8) (h : q < a.data.toList.length) : turnB (a ++ b) q y = turnB a q y ++ b := by
  unfold turnB
  rw [ba_toList, List.set_append_left _ _ h, mkBA_app, mkBA_self]
  congr 3
  rw [List.getD_eq_getElem?_getD, List.getD_eq_getElem?_getD, List.getElem?_append_left h]
theorem turn_right {a b : ByteArray} {q : Nat} (y : UInt8) (h : a.data.toList.length ≤ q) : turnB (a ++ b) q y = a ++ turnB b (q - a.data.toList.length) y := by
  unfold turnB
  rw [ba_toList, List.set_append_right _ _ h, mkBA_app, mkBA_self]
  congr 3
  rw [List.getD_eq_getElem?_getD, List.getD_eq_getElem?_getD, List.getElem?_append_right h]
theorem scn_turn (id : Int) (y : UInt8) (hy : y ≠ 0) : ∀ (R : List RL) (h : ByteArray) (q : Nat), q < (laidL R).data.toList.length → (∀ x ∈ R, ∀ z ∈ x.2, z.2.length = z.1.len) →
    ∃ (i : Nat) (hi : i < (fcR id h.size R).length) (m : Nat), Scn (h ++ turnB (laidL R) q y) id h.size ((fcR id h.size R).take i) m 4 ∧ (fcR id h.size R)[i].t = (m : Int) ∧ m ≤ h.size + q
  | [], h, q, hq, _ => absurd hq (Nat.not_lt_zero q)
  | x :: R, h, q, hq, hl => by
    have e : laidL (x :: R) = recS x.1.s x.2 ++ laidL R := rfl
    have st : ∀ (p : Nat), fcR id p (x :: R) = if recB x.1.s x.2 = true then ⟨x.1.s, x.2.map core, id, p⟩ :: fcR id (p + (recS x.1.s x.2).size) R else fcR id p R := fun _ => rfl
    have ih := scn_turn id y hy R
    have hl' : ∀ x ∈ R, ∀ z ∈ x.2, z.2.length = z.1.len := fun z hz => hl z (List.mem_cons_of_mem _ hz)
    rw [e] at hq ⊢
    by_cases hx : recB x.1.s x.2 = true
    · have hst := (st h.size).trans (if_pos hx)
      rw [ba_toList, List.length_append] at hq
      by_cases hlt : q < (recS x.1.s x.2).data.toList.length
      · refine ⟨0, by rw [hst]; simp, h.size, ?_, ?_, by omega⟩
        · rw [List.take_zero]
          refine ⟨rfl, ?_, by decide⟩
          rw [turn_left y hlt, rest_app]
          have := recM_turned (hl x List.mem_cons_self) hx q hlt y hy (laidL R).data.toList
          rw [mkBA_app, mkBA_self] at this
          unfold turnB
          rw [List.getD_eq_getElem?_getD, List.getElem?_eq_getElem hlt, Option.getD_some, this]
        · simp only [hst, List.getElem_cons_zero]
      · obtain ⟨i, hi, m, h1, h2, h3⟩ := ih (h ++ recS x.1.s x.2) (q - (recS x.1.s x.2).data.toList.length) (by omega) hl'
        simp only [ByteArray.size_append] at hi h1 h2 h3
        have hzs := ba_size (recS x.1.s x.2)
        refine ⟨i + 1, by rw [hst, List.length_cons]; omega, m, ?_, ?_, by omega⟩
        · rw [turn_right y (by omega), hst, List.take_succ_cons]
          have hb := recM_back (hl x List.mem_cons_self) hx (turnB (laidL R) (q - (recS x.1.s x.2).data.toList.length) y)
          refine ⟨(recS x.1.s x.2).size, ?_, rfl, rfl, ?_, ?_, ?_⟩
          · rw [rest_app]; exact hb
          · have := recS_len (hl x List.mem_cons_self) hx; omega
          · rw [ByteArray.size_append, ByteArray.size_append]; omega
          · rw [← ba_assoc]; exact h1
        · simp only [hst, List.getElem_cons_succ]
          exact h2
    · have hst := (st h.size).trans (if_neg hx)
      have hn : recS x.1.s x.2 = ⟨#[]⟩ := recS_no (by simpa using hx)
      rw [hn, ba_nil_app] at hq ⊢
      obtain ⟨i, hi, m, h1, h2, h3⟩ := ih h q hq hl'
      refine ⟨i, by rw [hst]; exact hi, m, by rw [hst]; exact h1, ?_, h3⟩
      simp only [hst]
      exact h2
/-- The byte turned, as the bytes lie in a row. -/
theorem turn_set (h t : ByteArray) (q : Nat) (y : UInt8) (hh : h.data.toList.length = 16) (hq : 16 + q < (h ++ t).data.toList.length) : mkBA ((h ++ t).data.toList.set (16 + q) ((h ++ t).data.toList[16 + q] ^^^ y)) = h ++ turnB t q y := by
  have := turn_right (a := h) (b := t) (q := 16 + q) y (by omega)
  rw [hh, show 16 + q - 16 = q by omega] at this
  rw [← this]
  unfold turnB
  rw [List.getD_eq_getElem?_getD, List.getElem?_eq_getElem hq, Option.getD_some]

theorem xorB11 (x y : UInt8) : bits .xor .u8 (x.toNat : Int) (y.toNat : Int) = ((x ^^^ y).toNat : Int) := by
  have hx := x.toNat_lt
  have hy := y.toNat_lt
  show IntKind.u8.wrap ((BitVec.ofInt 8 (x.toNat : Int) ^^^ BitVec.ofInt 8 (y.toNat : Int)).toNat : Int) = _
  have h1 : (BitVec.ofInt 8 (x.toNat : Int)).toNat = x.toNat := by rw [BitVec.toNat_ofInt]; omega
  have h2 : (BitVec.ofInt 8 (y.toNat : Int)).toNat = y.toNat := by rw [BitVec.toNat_ofInt]; omega
  have hxy : x.toNat ^^^ y.toNat < 256 := Nat.xor_lt_two_pow (n := 8) hx hy
  rw [BitVec.toNat_xor, h1, h2, UInt8.toNat_xor]
  simp [IntKind.wrap, IntKind.bits, IntKind.signed]; omega

end Go.Proofs.Ytflaanffjjidaaa
