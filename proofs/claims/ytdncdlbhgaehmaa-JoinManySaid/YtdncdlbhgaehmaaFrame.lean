/- Frame, FrameRead, FrameReads: in one text. -/
import Derived.Test.YtdncdlbhgaehmaaCrc
import Derived.Test.YtdncdlbhgaehmaaRef
import Derived.Deep.RegionHeld3
/- The contracts of package frame's functions: Size, number, Wrap; the document's Wrap. -/
namespace Go.Proofs.Ytdncdlbhgaehmaa
open Go.RowKit Go.Shelf
set_option linter.unusedVariables false
attribute [local go_sem] Oper.semAt_some wide_fn wide_round_fn

/-- The number that the four bytes from k on make. -/
def wordB (s : ByteArray) (k : Nat) : Nat := leN ((s.data.toList.drop k).take 4)
theorem wordB_lt (s : ByteArray) (k : Nat) : wordB s k < 4294967296 := by
  have h := leN_lt ((s.data.toList.drop k).take 4)
  have h2 : 256 ^ ((s.data.toList.drop k).take 4).length ≤ 256 ^ 4 := Nat.pow_le_pow_right (by decide) (by simp; omega)
  rw [pow256_4] at h2
  exact Nat.lt_of_lt_of_le h h2
theorem eigL_len (n : Nat) : (eigL n).length = 4 := rfl
theorem comp_nat (n : Nat) (hn : n < 4294967296) : bits .xor .u32 IntKind.u32.max (n : Int) = ((4294967295 - n : Nat) : Int) := by
  have h := comp_max (BitVec.ofNat 32 n)
  rw [BitVec.toNat_not, BitVec.toNat_ofNat, Nat.mod_eq_of_lt (show n < 2 ^ 32 from hn)] at h
  exact h

def wrapB (b : ByteArray) : ByteArray := ⟨(eigL b.size).toArray⟩ ++ ⟨(eigL (4294967295 - b.size)).toArray⟩ ++ b ++ ⟨(eigL (moreN 0 b)).toArray⟩
theorem wrapB_size (b : ByteArray) : (wrapB b).size = b.size + 12 := by
  unfold wrapB
  rw [ByteArray.size_append, ByteArray.size_append, ByteArray.size_append]
  show 4 + 4 + b.size + 4 = _
  omega

theorem notEmpty (b : ByteArray) (h : 0 < b.size) : b.toList.isEmpty = false := by
  rw [ByteArray.toList_eq, List.isEmpty_eq_false_iff, ← List.length_pos_iff]
  simpa using h

end Go.Proofs.Ytdncdlbhgaehmaa

/- What stands at the beginning of bytes: the contracts of package frame's Read and of the document's. -/
namespace Go.Proofs.Ytdncdlbhgaehmaa
open Go.RowKit Go.Shelf
set_option linter.unusedVariables false
attribute [local go_sem] Oper.semAt_some wide_fn wide_round_fn

def badN (A B : Nat) : Prop := A + B ≠ 4294967295 ∨ A = 0 ∨ 2000 < A
instance (A B : Nat) : Decidable (badN A B) := by unfold badN; infer_instance
/-- What the frame at the beginning of s holds, how many bytes it is, its class. -/
def readF (s : ByteArray) : ByteArray × Nat × Nat :=
  if s.size < 1 then (⟨#[]⟩, 0, 2)
  else if s.size < 8 then (⟨#[]⟩, 0, 3)
  else if badN (wordB s 0) (wordB s 4) then (⟨#[]⟩, 0, 4)
  else if s.size < wordB s 0 + 12 then (⟨#[]⟩, 0, 3)
  else if wordB s (8 + wordB s 0) ≠ moreN 0 (s.extract 8 (8 + wordB s 0)) then (⟨#[]⟩, 0, 4)
  else (s.extract 8 (8 + wordB s 0), wordB s 0 + 12, 1)
theorem ba_size' (s : ByteArray) : s.data.toList.length = s.size := by simp
theorem extract_drop (s : ByteArray) (k : Nat) : (s.extract k s.size).data.toList = s.data.toList.drop k := by
  rw [ByteArray.data_extract, Array.toList_extract, List.extract_eq_take_drop]
  exact List.take_of_length_le (by rw [List.length_drop, ba_size']; exact Nat.le_refl _)

end Go.Proofs.Ytdncdlbhgaehmaa

/- The contract of package frame's Read. -/
namespace Go.Proofs.Ytdncdlbhgaehmaa
open Go.RowKit Go.Shelf
set_option linter.unusedVariables false
attribute [local go_sem] Oper.semAt_some wide_fn wide_round_fn

theorem readF_end {s : ByteArray} (h : s.size < 1) : readF s = (⟨#[]⟩, 0, 2) := by unfold readF; rw [if_pos h]
theorem readF_torn {s : ByteArray} (h1 : 1 ≤ s.size) (h : s.size < 8) : readF s = (⟨#[]⟩, 0, 3) := by unfold readF; rw [if_neg (by omega), if_pos h]
theorem readF_bad {s : ByteArray} (h8 : 8 ≤ s.size) (h : badN (wordB s 0) (wordB s 4)) : readF s = (⟨#[]⟩, 0, 4) := by unfold readF; rw [if_neg (by omega), if_neg (by omega), if_pos h]
theorem readF_torn2 {s : ByteArray} (h8 : 8 ≤ s.size) (hb : ¬ badN (wordB s 0) (wordB s 4)) (h : s.size < wordB s 0 + 12) : readF s = (⟨#[]⟩, 0, 3) := by unfold readF; rw [if_neg (by omega), if_neg (by omega), if_neg hb, if_pos h]
theorem readF_bad2 {s : ByteArray} (h8 : 8 ≤ s.size) (hb : ¬ badN (wordB s 0) (wordB s 4)) (h : wordB s 0 + 12 ≤ s.size) (hc : wordB s (8 + wordB s 0) ≠ moreN 0 (s.extract 8 (8 + wordB s 0))) : readF s = (⟨#[]⟩, 0, 4) := by
  unfold readF; rw [if_neg (by omega), if_neg (by omega), if_neg hb, if_neg (by omega), if_pos hc]
theorem readF_whole {s : ByteArray} (h8 : 8 ≤ s.size) (hb : ¬ badN (wordB s 0) (wordB s 4)) (h : wordB s 0 + 12 ≤ s.size) (hc : wordB s (8 + wordB s 0) = moreN 0 (s.extract 8 (8 + wordB s 0))) : readF s = (s.extract 8 (8 + wordB s 0), wordB s 0 + 12, 1) := by
  unfold readF; rw [if_neg (by omega), if_neg (by omega), if_neg hb, if_neg (by omega), if_neg (by simp [hc])]

/-- What has been asked by round k. -/
def asked (s : ByteArray) (k : Nat) : Prop :=
  (k < 1 ∨ 1 ≤ s.size) ∧ (k < 2 ∨ 8 ≤ s.size) ∧ (k < 3 ∨ ¬ badN (wordB s 0) (wordB s 4)) ∧ (k < 4 ∨ wordB s 0 + 12 ≤ s.size) ∧ (k < 5 ∨ wordB s (8 + wordB s 0) = moreN 0 (s.extract 8 (8 + wordB s 0)))

end Go.Proofs.Ytdncdlbhgaehmaa
