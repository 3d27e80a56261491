/- The contract of package part's Bytes: other kinds. -/
import Derived.Test.YtfbibpnkfmgkaaaPartBytes5
namespace Go.Proofs.Ytfbibpnkfmgkaaa
open Go.RowKit Go.Shelf
set_option linter.unusedVariables false
attribute [local go_sem] Oper.semAt_some wide_fn wide_round_fn

end Go.Proofs.Ytfbibpnkfmgkaaa
