/- Puts, PutFwd, PartTexts: in one text. -/
import Derived.Test.YtfbibpnkfmgkaaaBuilder
import Derived.Test.YtfbibpnkfmgkaaaPartSame
import Derived.Test.YtfbibpnkfmgkaaaPartSteps
import Derived.Test.YtfbibpnkfmgkaaaGet
import Derived.Stop.RegionWithIn
/- The contracts of package part's puts, putHard, putForward. -/
namespace Go.Proofs.Ytfbibpnkfmgkaaa
open Go.RowKit Go.Shelf
set_option linter.unusedVariables false
attribute [local go_sem] Oper.semAt_some wide_fn wide_round_fn

def putL (l : List Int) : List UInt8 := l.flatMap fun n => sevL n.toNat
theorem byteCells_app (l m : List UInt8) : Lib.byteCells (l ++ m) = Lib.byteCells l ++ Lib.byteCells m := by simp [Lib.byteCells]
theorem byteCells_len (l : List UInt8) : (Lib.byteCells l).length = l.length := by simp [Lib.byteCells]
theorem putL_len (l : List Int) : (putL l).length ≤ 9 * l.length := by
  induction l with
  | nil => simp [putL]
  | cons x r ih => have := sevL_len x.toNat; simp [putL] at *; omega
def intCells (l : List Int) : List Value := l.map (.int .i64)

end Go.Proofs.Ytfbibpnkfmgkaaa

/- The contract of package part's putForward. -/
namespace Go.Proofs.Ytfbibpnkfmgkaaa
open Go.RowKit Go.Shelf
set_option linter.unusedVariables false
attribute [local go_sem] Oper.semAt_some wide_fn wide_round_fn

theorem putL_app (l m : List Int) : putL (l ++ m) = putL l ++ putL m := by simp [putL]
def flagN (p : PartC) : Int := (if p.m then 1 else 0) + (if p.h then 2 else 0)
def fwdN (p : PartC) : List Int := [flagN p] ++ ((if p.m then [p.i, p.t] else []) ++ ((if p.h then [p.ht, p.hv, p.hc] else []) ++ [(p.len : Int)]))

end Go.Proofs.Ytfbibpnkfmgkaaa

/- The contract of package part's texts. -/
namespace Go.Proofs.Ytfbibpnkfmgkaaa
open Go.RowKit Go.Shelf
set_option linter.unusedVariables false
attribute [local go_sem] Oper.semAt_some wide_fn wide_round_fn

def putS (n : Int) : ByteArray := ⟨(sevL n.toNat).toArray⟩
def textS (d : ByteArray) : ByteArray := ⟨(sevL d.size).toArray⟩ ++ d
def textOf (k : Int) (e : EntryC) : ByteArray := if k = 6 then putS e.i ++ (putS e.t ++ textS e.d) else putS e.t ++ textS e.d
def entryR (e : EntryC) : Prop := e.i < 9223372036854775808 ∧ e.t < 9223372036854775808 ∧ e.d.size < 1000000000

end Go.Proofs.Ytfbibpnkfmgkaaa
