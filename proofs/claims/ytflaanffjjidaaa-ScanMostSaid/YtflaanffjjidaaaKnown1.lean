/- What the first layer's laws hold by themselves: the examples. -/
import Derived.Test.YtflaanffjjidaaaRef
namespace Go.Proofs.Ytflaanffjjidaaa
open Go.RowKit Go.Shelf
set_option linter.unusedVariables false

end Go.Proofs.Ytflaanffjjidaaa
