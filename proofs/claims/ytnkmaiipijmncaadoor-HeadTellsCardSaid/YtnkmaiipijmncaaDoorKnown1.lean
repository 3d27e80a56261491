/- What the first layer's laws hold by themselves: the examples. -/
import Derived.Test.YtnkmaiipijmncaaDoorRefGet
namespace Go.Proofs.YtnkmaiipijmncaaDoor
open Go.RowKit Go.Shelf
set_option linter.unusedVariables false

theorem fixed_at (n : Int) (l : List UInt8) (h0 : 0 ≤ n) (hn : n < 4294967296) (h : eigL n.toNat = l) (w : World) : Gives Tryd.prog 18 #[.int .u32 n] w (.string ⟨l.toArray⟩) := by
  have := fixed_any n.toNat (by omega) w
  rwa [h, Int.toNat_of_nonneg h0] at this
end Go.Proofs.YtnkmaiipijmncaaDoor
