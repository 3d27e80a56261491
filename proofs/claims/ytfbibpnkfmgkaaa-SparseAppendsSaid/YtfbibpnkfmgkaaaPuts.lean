/- The contracts of package part's puts, putHard, putForward. -/
import Derived.Test.YtfbibpnkfmgkaaaBuilder
import Derived.Test.YtfbibpnkfmgkaaaPartSame
namespace Go.Proofs.Ytfbibpnkfmgkaaa
open Go.RowKit Go.Shelf
set_option linter.unusedVariables false
attribute [local go_sem] Oper.semAt_some wide_fn wide_round_fn

def putL (l : List Int) : List UInt8 := l.flatMap fun n => sevL n.toNat
theorem byteCells_app (l m : List UInt8) : Lib.byteCells (l ++ m) = Lib.byteCells l ++ Lib.byteCells m := by simp [Lib.byteCells]
theorem byteCells_len (l : List UInt8) : (Lib.byteCells l).length = l.length := by simp [Lib.byteCells]
theorem putL_len (l : List Int) : (putL l).length ≤ 9 * l.length := by
  induction l with
  | nil => simp [putL]
  | cons x r ih => have := sevL_len x.toNat; simp [putL] at *; omega
def intCells (l : List Int) : List Value := l.map (.int .i64)

end Go.Proofs.Ytfbibpnkfmgkaaa
