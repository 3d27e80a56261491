/- What the second layer's laws hold by themselves: the examples; sums of numbers below 2^32. -/
import Derived.Test.YtcchbpjkejklaaaCrc
namespace Go.Proofs.Ytcchbpjkejklaaa
open Go.RowKit Go.Shelf
set_option linter.unusedVariables false

/-- The sum that goes on, on numbers. -/
def moreN (n : Nat) (s : ByteArray) : Nat := (crcM (BitVec.ofNat 32 n) s.data.toList).toNat
theorem moreN_lt (n : Nat) (s : ByteArray) : moreN n s < 4294967296 := (crcM (BitVec.ofNat 32 n) s.data.toList).isLt
theorem moreN_append (n : Nat) (s t : ByteArray) : moreN n (s ++ t) = moreN (moreN n s) t := by
  unfold moreN
  rw [show (s ++ t).data.toList = s.data.toList ++ t.data.toList by simp, crcM_append, BitVec.ofNat_toNat, BitVec.setWidth_eq]
theorem moreN_empty (n : Nat) (hn : n < 4294967296) : moreN n ⟨#[]⟩ = n := by
  unfold moreN
  rw [show (⟨#[]⟩ : ByteArray).data.toList = [] from rfl, crcM_nil, BitVec.toNat_ofNat, Nat.mod_eq_of_lt hn]
theorem more_at (n : Nat) (hn : n < 4294967296) (s : ByteArray) (hs : s.size < 9223372036854775808) (w : World) : Gives Try.prog 31 #[.int .u32 n, .string s] w (.int .u32 (moreN n s)) := by
  have := more_any (BitVec.ofNat 32 n) s hs w
  rwa [BitVec.toNat_ofNat, Nat.mod_eq_of_lt (show n < 2 ^ 32 from hn)] at this
theorem refmore_at (n : Nat) (hn : n < 4294967296) (s : ByteArray) (hs : s.size < 9223372036854775808) (w : World) : Gives Try.prog 30 #[.int .u32 n, .string s] w (.int .u32 (moreN n s)) := by
  have := refmore_any (BitVec.ofNat 32 n) s hs w
  rwa [BitVec.toNat_ofNat, Nat.mod_eq_of_lt (show n < 2 ^ 32 from hn)] at this
theorem of_at (s : ByteArray) (hs : s.size < 9223372036854775808) (w : World) : Gives Try.prog 29 #[.string s] w (.int .u32 (moreN 0 s)) := of_any s hs w

set_option maxRecDepth 100000 in
set_option maxHeartbeats 2000000 in
theorem crc_known (w : World) : Gives Try.prog 28 #[] w (.bool true) := by
  have h1 : moreN 0 ⟨#[49, 50, 51, 52, 53, 54, 55, 56, 57]⟩ = 3808858755 := by decide +kernel
  have h2 : moreN 0 ⟨#[]⟩ = 0 := moreN_empty 0 (by decide)
  have g1 := of_at ⟨#[49, 50, 51, 52, 53, 54, 55, 56, 57]⟩ (by decide)
  have g2 := of_at ⟨#[]⟩ (by decide)
  rw [h1] at g1
  rw [h2] at g2
  have G1 := Lib.hid g1; have G2 := Lib.hid g2
  clear g1 g2 h1 h2
  unfold Gives
  go_enter Try.func28, Try.ntmps28
  go_wp2_with (first
    | (go_at_call 29; ((with_reducible refine (G1.out _).mono ?_); rintro e w1 ⟨rfl, hB1⟩))
    | (go_at_call 29; ((with_reducible refine (G2.out _).mono ?_); rintro e w2 ⟨rfl, hB2⟩)))
  go_ret
  exact ⟨rfl, bel2 hB1 hB2⟩

end Go.Proofs.Ytcchbpjkejklaaa
