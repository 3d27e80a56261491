/- RefBytes, RefBytes1: in one text. -/
import Derived.Test.YtbhhbjgdkcfagaaQuietC
import Derived.Test.YtbhhbjgdkcfagaaPartFacts
import Derived.Test.YtbhhbjgdkcfagaaRef
/- The bytes that the document's PartBytes tells. -/
namespace Go.Proofs.Ytbhhbjgdkcfagaa
open Go.RowKit Go.Shelf
set_option linter.unusedVariables false
attribute [local go_sem] Oper.semAt_some wide_fn wide_round_fn

def mkB (l : List UInt8) : ByteArray := ⟨l.toArray⟩
theorem mkB_app (l m : List UInt8) : mkB l ++ mkB m = mkB (l ++ m) := by
  apply ByteArray.ext; simp [mkB]
theorem mkB_list (b : ByteArray) : mkB b.data.toList = b := by apply ByteArray.ext; simp [mkB]
theorem list_mkB (l : List UInt8) : (mkB l).data.toList = l := by simp [mkB]
theorem size_mkB (l : List UInt8) : (mkB l).size = l.length := by simp [mkB, ByteArray.size]
theorem app_list (a b : ByteArray) : (a ++ b).data.toList = a.data.toList ++ b.data.toList := by simp
theorem putL3 (t v c : Int) : putL [t, v, c] = (sevL t.toNat ++ sevL v.toNat) ++ sevL c.toNat := by simp [putL]
end Go.Proofs.Ytbhhbjgdkcfagaa

/- The contract of the document's PartBytes: the bytes that part.Bytes tells. -/
namespace Go.Proofs.Ytbhhbjgdkcfagaa
open Go.RowKit Go.Shelf
set_option linter.unusedVariables false
attribute [local go_sem] Oper.semAt_some wide_fn wide_round_fn

end Go.Proofs.Ytbhhbjgdkcfagaa
