/- A bit that is flipped: in a row of bytes, in a byte; a bit of a number. -/
import Derived.Test.YtieekahlknmkfaaCrc
import Derived.Test.YtieekahlknmkfaaKit
namespace Go.Proofs.Ytieekahlknmkfaa
open Go.RowKit Go.Shelf
set_option linter.unusedVariables false

theorem bitB_flip (l : List UInt8) (n : Nat) (hn : n / 8 < l.length) (j : Nat) : bitB (l.set (n / 8) (UInt8.ofNat ((l[n / 8]).toNat ^^^ 2 ^ (n % 8)))) j = (bitB l j ^^ decide (j = n)) := by
  have hx : (l[n / 8]).toNat ^^^ 2 ^ (n % 8) < 256 := Nat.xor_lt_two_pow (n := 8) (l[n / 8]).toNat_lt (show 2 ^ (n % 8) < 2 ^ 8 from Nat.pow_lt_pow_right (by decide) (by omega))
  unfold bitB
  by_cases h : j / 8 = n / 8
  · rw [h, List.getD_eq_getElem?_getD, List.getElem?_set_self hn, List.getD_eq_getElem?_getD, List.getElem?_eq_getElem hn]
    simp only [Option.getD_some, UInt8.toNat_ofNat']
    rw [Nat.mod_eq_of_lt hx, Nat.testBit_xor, Nat.testBit_two_pow]
    congr 1
    exact decide_eq_decide.2 ⟨fun e => by omega, fun e => by omega⟩
  · rw [List.getD_eq_getElem?_getD, List.getElem?_set_ne (Ne.symm h), ← List.getD_eq_getElem?_getD, decide_eq_false (fun e => h (by rw [e])), Bool.xor_false]
theorem bit_at' (c k : Nat) (hc : c < 4294967296) : bits .and .u32 ((c : Int) / 2 ^ k) 1 = ((c.testBit k).toNat : Int) := by
  have h1 : (c : Int) / 2 ^ k = ((c / 2 ^ k : Nat) : Int) := by push_cast; rfl
  have h2 : c / 2 ^ k < 4294967296 := Nat.lt_of_le_of_lt (Nat.div_le_self _ _) (by omega)
  rw [h1, show (1 : Int) = ((1 : Nat) : Int) from rfl, u32_and_nat _ _ h2 (by decide), lsb_and]
  rw [Nat.testBit_zero, Nat.testBit_eq_decide_div_mod_eq]
theorem flip_val (c : UInt8) (q : Nat) (hq : q < 8) : bits .xor .u8 (c.toNat : Int) (2 ^ q % 256) = ((UInt8.ofNat (c.toNat ^^^ 2 ^ q)).toNat : Int) := by
  have hp : 2 ^ q < 2 ^ 8 := Nat.pow_lt_pow_right (by decide) hq
  have hx : c.toNat ^^^ 2 ^ q < 256 := Nat.xor_lt_two_pow (n := 8) c.toNat_lt hp
  have e : ((2 : Int) ^ q % 256) = ((2 ^ q : Nat) : Int) := by
    have h2 : ((2 ^ q : Nat) : Int) = (2 : Int) ^ q := by push_cast; rfl
    rw [← h2]
    generalize 2 ^ q = m at hp
    omega
  rw [e, UInt8.toNat_ofNat', Nat.mod_eq_of_lt hx]
  show IntKind.u8.wrap ((BitVec.ofInt 8 (c.toNat : Int) ^^^ BitVec.ofInt 8 ((2 ^ q : Nat) : Int)).toNat : Int) = _
  have h1 : (BitVec.ofInt 8 (c.toNat : Int)).toNat = c.toNat := by rw [BitVec.toNat_ofInt]; have := c.toNat_lt; omega
  have h2 : (BitVec.ofInt 8 ((2 ^ q : Nat) : Int)).toNat = 2 ^ q := by rw [BitVec.toNat_ofInt]; omega
  rw [BitVec.toNat_xor, h1, h2]
  simp [IntKind.wrap, IntKind.bits, IntKind.signed]; omega

end Go.Proofs.Ytieekahlknmkfaa
