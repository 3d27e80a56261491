/- Grp, GrpBtw, GrpIs: in one text. -/
import Derived.Test.YtflaanffjjidaaaPartIs
import Derived.Test.YtflaanffjjidaaaCollect
import Derived.Test.YtflaanffjjidaaaPartFacts
/- A group as plain data: whether it is one, its last index, the terms, what a part makes of it. -/
namespace Go.Proofs.Ytflaanffjjidaaa
open Go.RowKit Go.Shelf
set_option linter.unusedVariables false

/-- A group, but for where its entries lie. -/
structure GM where
  id : Int
  fi : Int
  te : Int
  ht : Int
  hv : Int
  hc : Int
  l : List EntryC
  deriving DecidableEq
/-- .. as a flat value. -/
abbrev GM.val (g : GM) (a : Option Addr) (cap : Nat) : Value := .agg #[.int .i64 g.id, .int .i64 g.fi, .int .i64 g.te, .int .i64 g.ht, .int .i64 g.hv, .int .i64 g.hc, .slice a g.l.length cap]
abbrev GM.arr (g : GM) (a : Option Addr) (cap : Nat) : Array Value := #[.int .i64 g.id, .int .i64 g.fi, .int .i64 g.te, .int .i64 g.ht, .int .i64 g.hv, .int .i64 g.hc, .slice a g.l.length cap]
/-- What is in a group. -/
def HasG (w : World) (a : Option Addr) (g : GM) : Prop := g.l.length < 1000000 ∧ RowV w a g.l.length 3 (entryCells g.l)
theorem HasG.below {w W : World} {a : Option Addr} {g : GM} (h : HasG w a g) (hB : Below w.heap.size w W) : HasG W a g := ⟨h.1, h.2.below hB⟩
end Go.Proofs.Ytflaanffjjidaaa

/- The contracts of package group's between and of its iterator, of entryTerm. -/
namespace Go.Proofs.Ytflaanffjjidaaa
open Go.RowKit Go.Shelf
set_option linter.unusedVariables false
attribute [local go_sem] Oper.semAt_some wide_fn wide_round_fn

end Go.Proofs.Ytflaanffjjidaaa

/- The contracts of package group's Is, Last, New. -/
namespace Go.Proofs.Ytflaanffjjidaaa
open Go.RowKit Go.Shelf
set_option linter.unusedVariables false
attribute [local go_sem] Oper.semAt_some wide_fn wide_round_fn

end Go.Proofs.Ytflaanffjjidaaa
