/- What the first layer's laws hold by themselves: the examples. -/
import Derived.Test.YtoieacmipejfeaaGreatDoorRef
namespace Go.Proofs.YtoieacmipejfeaaGreatDoor
open Go.RowKit Go.Shelf
set_option linter.unusedVariables false

theorem put_at (n : Int) (l : List UInt8) (hn : n < 9223372036854775808) (h : sevL n.toNat = l) (w : World) : Gives Tryz.prog 71 #[.int .i64 n] w (.string ⟨l.toArray⟩) := by
  have := put_any n hn w
  rwa [h] at this
theorem fixed_at (n : Int) (l : List UInt8) (h0 : 0 ≤ n) (hn : n < 4294967296) (h : eigL n.toNat = l) (w : World) : Gives Tryz.prog 72 #[.int .u32 n] w (.string ⟨l.toArray⟩) := by
  have := fixed_any n.toNat (by omega) w
  rwa [h, Int.toNat_of_nonneg h0] at this
end Go.Proofs.YtoieacmipejfeaaGreatDoor
