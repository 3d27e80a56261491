/- The contracts of the reference's functions that read numbers and texts. -/
import Derived.Test.YtfmcebmkclaafaaKit
import Derived.Test.YtfmcebmkclaafaaCode
import Derived.Test.YtfmcebmkclaafaaRegion
import Derived.Test.YtfmcebmkclaafaaRef
import Derived.Deep.QuietTactic
import Derived.BigQuiet
namespace Go.Proofs.Ytfmcebmkclaafaa
open Go.RowKit Go.Shelf
set_option linter.unusedVariables false
attribute [local go_sem] Oper.semAt_some wide_fn wide_round_fn

end Go.Proofs.Ytfmcebmkclaafaa
