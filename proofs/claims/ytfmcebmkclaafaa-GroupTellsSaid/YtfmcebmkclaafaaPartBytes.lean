/- Laws for Bytes: a builder in the rounds of a range. -/
import Derived.Test.YtfmcebmkclaafaaPartTexts
import Derived.Test.YtfmcebmkclaafaaPartIs6
namespace Go.Proofs.Ytfmcebmkclaafaa
open Go.RowKit Go.Shelf
set_option linter.unusedVariables false
attribute [local go_sem] Oper.semAt_some wide_fn wide_round_fn

end Go.Proofs.Ytfmcebmkclaafaa
