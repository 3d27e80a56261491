/- The contracts of the reference's functions that read numbers and texts. -/
import Derived.Test.YtnkmaiipijmncaaDoorKit
import Derived.Test.YtnkmaiipijmncaaDoorCode
import Derived.Test.YtnkmaiipijmncaaDoorRegion
import Derived.Test.YtnkmaiipijmncaaDoorRef
import Derived.Deep.QuietTactic
import Derived.BigQuiet
namespace Go.Proofs.YtnkmaiipijmncaaDoor
open Go.RowKit Go.Shelf
set_option linter.unusedVariables false
attribute [local go_sem] Oper.semAt_some wide_fn wide_round_fn

end Go.Proofs.YtnkmaiipijmncaaDoor
