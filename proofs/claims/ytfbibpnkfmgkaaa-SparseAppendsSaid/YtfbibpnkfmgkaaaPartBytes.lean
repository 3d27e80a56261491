/- Laws for Bytes: a builder in the rounds of a range. -/
import Derived.Test.YtfbibpnkfmgkaaaPartTexts
import Derived.Test.YtfbibpnkfmgkaaaPartIs6
namespace Go.Proofs.Ytfbibpnkfmgkaaa
open Go.RowKit Go.Shelf
set_option linter.unusedVariables false
attribute [local go_sem] Oper.semAt_some wide_fn wide_round_fn

end Go.Proofs.Ytfbibpnkfmgkaaa
