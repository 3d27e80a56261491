/- What stands at the beginning of bytes: the contracts of package frame's Read and of the document's. -/
import Derived.Test.YtcchbpjkejklaabFrame
namespace Go.Proofs.Ytcchbpjkejklaab
open Go.RowKit Go.Shelf
set_option linter.unusedVariables false
attribute [local go_sem] Oper.semAt_some wide_fn wide_round_fn

def badN (A B : Nat) : Prop := A + B ≠ 4294967295 ∨ A = 0 ∨ 2000 < A
instance (A B : Nat) : Decidable (badN A B) := by unfold badN; infer_instance
/-- What the frame at the beginning of s holds, how many bytes it is, its class. -/
def readF (s : ByteArray) : ByteArray × Nat × Nat :=
  if s.size < 1 then (⟨#[]⟩, 0, 2)
  else if s.size < 8 then (⟨#[]⟩, 0, 3)
  else if badN (wordB s 0) (wordB s 4) then (⟨#[]⟩, 0, 4)
  else if s.size < wordB s 0 + 12 then (⟨#[]⟩, 0, 3)
  else if wordB s (8 + wordB s 0) ≠ moreN 0 (s.extract 8 (8 + wordB s 0)) then (⟨#[]⟩, 0, 4)
  else (s.extract 8 (8 + wordB s 0), wordB s 0 + 12, 1)
theorem ba_size' (s : ByteArray) : s.data.toList.length = s.size := by simp
theorem extract_drop (s : ByteArray) (k : Nat) : (s.extract k s.size).data.toList = s.data.toList.drop k := by
  rw [ByteArray.data_extract, Array.toList_extract, List.extract_eq_take_drop]
  exact List.take_of_length_le (by rw [List.length_drop, ba_size']; exact Nat.le_refl _)

end Go.Proofs.Ytcchbpjkejklaab
