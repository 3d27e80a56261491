/- What the second layer's laws hold by themselves: the examples; sums of numbers below 2^32. -/
import Derived.Test.YtnkmaiipijmncaaDoorCrc
namespace Go.Proofs.YtnkmaiipijmncaaDoor
open Go.RowKit Go.Shelf
set_option linter.unusedVariables false

/-- The sum that goes on, on numbers. -/
def moreN (n : Nat) (s : ByteArray) : Nat := (crcM (BitVec.ofNat 32 n) s.data.toList).toNat
theorem moreN_lt (n : Nat) (s : ByteArray) : moreN n s < 4294967296 := (crcM (BitVec.ofNat 32 n) s.data.toList).isLt
theorem moreN_append (n : Nat) (s t : ByteArray) : moreN n (s ++ t) = moreN (moreN n s) t := by
  unfold moreN
  rw [show (s ++ t).data.toList = s.data.toList ++ t.data.toList by simp, crcM_append, BitVec.ofNat_toNat, BitVec.setWidth_eq]
theorem moreN_empty (n : Nat) (hn : n < 4294967296) : moreN n ⟨#[]⟩ = n := by
  unfold moreN
  rw [show (⟨#[]⟩ : ByteArray).data.toList = [] from rfl, crcM_nil, BitVec.toNat_ofNat, Nat.mod_eq_of_lt hn]
theorem more_at (n : Nat) (hn : n < 4294967296) (s : ByteArray) (hs : s.size < 9223372036854775808) (w : World) : Gives Tryd.prog 29 #[.int .u32 n, .string s] w (.int .u32 (moreN n s)) := by
  have := more_any (BitVec.ofNat 32 n) s hs w
  rwa [BitVec.toNat_ofNat, Nat.mod_eq_of_lt (show n < 2 ^ 32 from hn)] at this
theorem refmore_at (n : Nat) (hn : n < 4294967296) (s : ByteArray) (hs : s.size < 9223372036854775808) (w : World) : Gives Tryd.prog 23 #[.int .u32 n, .string s] w (.int .u32 (moreN n s)) := by
  have := refmore_any (BitVec.ofNat 32 n) s hs w
  rwa [BitVec.toNat_ofNat, Nat.mod_eq_of_lt (show n < 2 ^ 32 from hn)] at this
theorem of_at (s : ByteArray) (hs : s.size < 9223372036854775808) (w : World) : Gives Tryd.prog 20 #[.string s] w (.int .u32 (moreN 0 s)) := of_any s hs w

end Go.Proofs.YtnkmaiipijmncaaDoor
