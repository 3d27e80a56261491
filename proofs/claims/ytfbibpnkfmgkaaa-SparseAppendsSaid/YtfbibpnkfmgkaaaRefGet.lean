/- The contracts of the reference's functions that read numbers and texts. -/
import Derived.Test.YtfbibpnkfmgkaaaKit
import Derived.Test.YtfbibpnkfmgkaaaCode
import Derived.Test.YtfbibpnkfmgkaaaRegion
import Derived.Test.YtfbibpnkfmgkaaaRef
import Derived.Deep.QuietTactic
import Derived.BigQuiet
namespace Go.Proofs.Ytfbibpnkfmgkaaa
open Go.RowKit Go.Shelf
set_option linter.unusedVariables false
attribute [local go_sem] Oper.semAt_some wide_fn wide_round_fn

end Go.Proofs.Ytfbibpnkfmgkaaa
