/- The contracts of the reference's functions on numbers and texts: they come to the same. -/
import Derived.Test.YtcchbpjkejklaabKit
import Derived.Test.YtcchbpjkejklaabCode
import Derived.Test.YtcchbpjkejklaabRegion
import Derived.Test.YtcchbpjkejklaabRead
import Derived.Deep.QuietTactic
import Derived.BigQuiet
namespace Go.Proofs.Ytcchbpjkejklaab
open Go.RowKit Go.Shelf
set_option linter.unusedVariables false
attribute [local go_sem] Oper.semAt_some wide_fn wide_round_fn

set_option maxRecDepth 100000 in
theorem refFixed_any (n : Nat) (hn : n < 4294967296) (w : World) : Gives Try.prog 12 #[.int .u32 n] w (.string ⟨(eigL n).toArray⟩) := by
  have hc := run_string_new (P := Try.prog) w (src := 32) (dst := 9) Try.underlying32 Try.underlying5 Try.underlying9 (eigL n) 4
  rw [show (eigL n).map vb = [Value.int .u8 ((n : Int) % 256), .int .u8 ((n : Int) / 256 % 256), .int .u8 ((n : Int) / 65536 % 256), .int .u8 ((n : Int) / 16777216)] from by simp [eigL, vb]; omega, show (eigL n).length = 4 from rfl] at hc
  unfold Gives
  go_enter Try.func12, Try.ntmps12
  go_wp2
  go_ret
  exact ⟨rfl, (Below.refl _ _).alloc (Nat.le_refl _) _⟩

end Go.Proofs.Ytcchbpjkejklaab
