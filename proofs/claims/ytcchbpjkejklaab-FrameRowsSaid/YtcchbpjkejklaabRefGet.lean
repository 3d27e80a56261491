/- The contracts of the reference's functions that read numbers and texts. -/
import Derived.Test.YtcchbpjkejklaabKit
import Derived.Test.YtcchbpjkejklaabCode
import Derived.Test.YtcchbpjkejklaabRegion
import Derived.Test.YtcchbpjkejklaabRef
import Derived.Deep.QuietTactic
import Derived.BigQuiet
namespace Go.Proofs.Ytcchbpjkejklaab
open Go.RowKit Go.Shelf
set_option linter.unusedVariables false
attribute [local go_sem] Oper.semAt_some wide_fn wide_round_fn

end Go.Proofs.Ytcchbpjkejklaab
