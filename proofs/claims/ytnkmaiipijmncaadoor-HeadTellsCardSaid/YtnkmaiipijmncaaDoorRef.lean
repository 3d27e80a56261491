/- The contracts of the reference's functions on numbers and texts: they come to the same. -/
import Derived.Test.YtnkmaiipijmncaaDoorKit
import Derived.Test.YtnkmaiipijmncaaDoorCode
import Derived.Test.YtnkmaiipijmncaaDoorRegion
import Derived.Test.YtnkmaiipijmncaaDoorRead
import Derived.Deep.QuietTactic
import Derived.BigQuiet
namespace Go.Proofs.YtnkmaiipijmncaaDoor
open Go.RowKit Go.Shelf
set_option linter.unusedVariables false
attribute [local go_sem] Oper.semAt_some wide_fn wide_round_fn

set_option maxRecDepth 100000 in
theorem refFixed_any (n : Nat) (hn : n < 4294967296) (w : World) : Gives Tryd.prog 22 #[.int .u32 n] w (.string ⟨(eigL n).toArray⟩) := by
  have hc := run_string_new (P := Tryd.prog) w (src := 30) (dst := 9) Tryd.underlying30 Tryd.underlying5 Tryd.underlying9 (eigL n) 4
  rw [show (eigL n).map vb = [Value.int .u8 ((n : Int) % 256), .int .u8 ((n : Int) / 256 % 256), .int .u8 ((n : Int) / 65536 % 256), .int .u8 ((n : Int) / 16777216)] from by simp [eigL, vb]; omega, show (eigL n).length = 4 from rfl] at hc
  unfold Gives
  go_enter Tryd.func22, Tryd.ntmps22
  go_wp2
  go_ret
  exact ⟨rfl, (Below.refl _ _).alloc (Nat.le_refl _) _⟩

end Go.Proofs.YtnkmaiipijmncaaDoor
