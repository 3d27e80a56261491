/- The contract of package part's texts. -/
import Derived.Test.YtfbibpnkfmgkaaaPutFwd
import Derived.Test.YtfbibpnkfmgkaaaPartSteps
import Derived.Test.YtfbibpnkfmgkaaaRead
import Derived.Stop.RegionWithIn
namespace Go.Proofs.Ytfbibpnkfmgkaaa
open Go.RowKit Go.Shelf
set_option linter.unusedVariables false
attribute [local go_sem] Oper.semAt_some wide_fn wide_round_fn

def putS (n : Int) : ByteArray := ⟨(sevL n.toNat).toArray⟩
def textS (d : ByteArray) : ByteArray := ⟨(sevL d.size).toArray⟩ ++ d
def textOf (k : Int) (e : EntryC) : ByteArray := if k = 6 then putS e.i ++ (putS e.t ++ textS e.d) else putS e.t ++ textS e.d
def entryR (e : EntryC) : Prop := e.i < 9223372036854775808 ∧ e.t < 9223372036854775808 ∧ e.d.size < 1000000000

end Go.Proofs.Ytfbibpnkfmgkaaa
