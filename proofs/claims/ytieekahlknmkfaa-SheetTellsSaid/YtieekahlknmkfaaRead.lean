/- The contracts of package code's functions that read: Fix, Get, Texts; and Text. -/
import Derived.Test.YtieekahlknmkfaaKit
import Derived.Test.YtieekahlknmkfaaCode
import Derived.Test.YtieekahlknmkfaaRegion
import Derived.Test.YtieekahlknmkfaaGet
namespace Go.Proofs.Ytieekahlknmkfaa
open Go.RowKit Go.Shelf
set_option linter.unusedVariables false
attribute [local go_sem] Oper.semAt_some wide_fn wide_round_fn

/-- The text at the beginning of bytes, how many bytes it takes with its number, what is wrong. -/
def textsB (s : ByteArray) (most : Int) : ByteArray × Nat × Nat :=
  if (getL s.data.toList).2.2 ≠ 0 then (⟨#[]⟩, 0, (getL s.data.toList).2.2)
  else if max most 0 < (getL s.data.toList).1 then (⟨#[]⟩, 0, 12)
  else if s.size < (getL s.data.toList).1 + (getL s.data.toList).2.1 then (⟨#[]⟩, 0, 10)
  else (s.extract (getL s.data.toList).2.1 ((getL s.data.toList).2.1 + (getL s.data.toList).1), (getL s.data.toList).2.1 + (getL s.data.toList).1, 0)

end Go.Proofs.Ytieekahlknmkfaa
