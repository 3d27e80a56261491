/- What package part's reader tells, as plain mathematics: numbers, texts, entries, and how far it has come; no program is named here but by the words on numbers and texts. -/
import Derived.Test.YtbhhbjgdkcfagaaRead
import Derived.Test.YtbhhbjgdkcfagaaPart
namespace Go.Proofs.Ytbhhbjgdkcfagaa
set_option linter.unusedVariables false

/-- How far it has come, and its error. -/
structure RSt where
  at_ : Nat
  e : Nat
def restB (s : ByteArray) (k : Nat) : ByteArray := s.extract k s.size
theorem restB_list (s : ByteArray) (k : Nat) : (restB s k).data.toList = s.data.toList.drop k := by
  unfold restB
  rw [ByteArray.data_extract]
  simp [List.extract_eq_take_drop]
  rw [List.take_of_length_le]
  simp
theorem restB_size (s : ByteArray) (k : Nat) (h : k ≤ s.size) : (restB s k).size = s.size - k := by
  unfold restB; simp
def RSt.ok (s : ByteArray) (st : RSt) : Prop := st.at_ ≤ s.size ∧ st.e ≤ 12
def numM (s : ByteArray) (st : RSt) : Nat × RSt :=
  if st.e ≠ 0 then (0, st) else ((getL (s.data.toList.drop st.at_)).1, ⟨st.at_ + (getL (s.data.toList.drop st.at_)).2.1, (getL (s.data.toList.drop st.at_)).2.2⟩)
def numTo (s : ByteArray) (most : Nat) (st : RSt) : Nat × RSt :=
  if most < (numM s st).1 then (0, ⟨(numM s st).2.at_, 11⟩) else numM s st
def txtM (s : ByteArray) (st : RSt) : ByteArray × RSt :=
  if st.e ≠ 0 then (⟨#[]⟩, st) else ((textsB (restB s st.at_) 40).1, ⟨st.at_ + (textsB (restB s st.at_) 40).2.1, (textsB (restB s st.at_) 40).2.2⟩)
def hardM (s : ByteArray) (st : RSt) : (Nat × Nat × Nat) × RSt :=
  (((numM s st).1, (numM s (numM s st).2).1, (numM s (numM s (numM s st).2).2).1), (numM s (numM s (numM s st).2).2).2)
/-- m entries, from the i-th one on; what tells their Indexes. -/
def entM (s : ByteArray) (idx : Nat → RSt → Int × RSt) : Nat → Nat → RSt → List EntryC × RSt
  | 0, _, st => ([], st)
  | m + 1, i, st =>
    if (txtM s (numM s (idx i st).2).2).2.e ≠ 0 then ([], (txtM s (numM s (idx i st).2).2).2)
    else (⟨(idx i st).1, (numM s (idx i st).2).1, (txtM s (numM s (idx i st).2).2).1⟩ :: (entM s idx m (i + 1) (txtM s (numM s (idx i st).2).2).2).1, (entM s idx m (i + 1) (txtM s (numM s (idx i st).2).2).2).2)
def idxFrom (first : Nat) (i : Nat) (st : RSt) : Int × RSt := (Go.RowKit.wrap64 ((first : Int) + i), st)
def idxRead (s : ByteArray) (i : Nat) (st : RSt) : Int × RSt := (((numM s st).1 : Int), (numM s st).2)

theorem textsB_bound (s : ByteArray) (most : Int) : (textsB s most).2.1 ≤ s.size ∧ (textsB s most).2.2 ≤ 12 := by
  have h := getL_bound s.data.toList
  unfold textsB
  split
  · exact ⟨Nat.zero_le _, by dsimp only; omega⟩
  · split
    · exact ⟨Nat.zero_le _, by dsimp only; omega⟩
    · split
      · exact ⟨Nat.zero_le _, by dsimp only; omega⟩
      · exact ⟨by dsimp only; omega, by dsimp only; omega⟩
theorem numM_ok {s : ByteArray} {st : RSt} (h : st.ok s) : (numM s st).2.ok s := by
  unfold numM
  split
  · exact h
  · have h2 := getL_bound (s.data.toList.drop st.at_)
    have h3 := h.1
    rw [List.length_drop] at h2
    have h4 : s.data.toList.length = s.size := by simp
    refine ⟨?_, ?_⟩
    · dsimp only; omega
    · dsimp only; omega
theorem numM_lt (s : ByteArray) (st : RSt) : (numM s st).1 < 9223372036854775808 := by
  unfold numM
  split
  · exact (by decide : 0 < 9223372036854775808)
  · exact (getL_bound _).1
theorem numTo_ok {s : ByteArray} {most : Nat} {st : RSt} (h : st.ok s) : (numTo s most st).2.ok s := by
  unfold numTo
  split
  · exact ⟨(numM_ok h).1, (by decide : 11 ≤ 12)⟩
  · exact numM_ok h
theorem numTo_le (s : ByteArray) (most : Nat) (st : RSt) : (numTo s most st).1 ≤ most := by
  unfold numTo
  split
  · exact Nat.zero_le _
  · omega
theorem txtM_ok {s : ByteArray} {st : RSt} (h : st.ok s) : (txtM s st).2.ok s := by
  unfold txtM
  split
  · exact h
  · have h2 := textsB_bound (restB s st.at_) 40
    have h3 := h.1
    rw [restB_size s _ h3] at h2
    exact ⟨by dsimp only; omega, h2.2⟩
theorem hardM_ok {s : ByteArray} {st : RSt} (h : st.ok s) : (hardM s st).2.ok s := numM_ok (numM_ok (numM_ok h))
def IdxOk (s : ByteArray) (idx : Nat → RSt → Int × RSt) : Prop := ∀ i st, st.ok s → (idx i st).2.ok s
theorem idxFrom_ok (s : ByteArray) (first : Nat) : IdxOk s (idxFrom first) := fun _ _ h => h
theorem idxRead_ok (s : ByteArray) : IdxOk s (idxRead s) := fun _ _ h => numM_ok h
theorem entM_ok {s : ByteArray} {idx : Nat → RSt → Int × RSt} (hi : IdxOk s idx) : ∀ (m i : Nat) (st : RSt), st.ok s → (entM s idx m i st).2.ok s
  | 0, _, _, h => h
  | m + 1, i, st, h => by
    rw [entM]
    split
    · exact txtM_ok (numM_ok (hi i st h))
    · exact entM_ok hi m (i + 1) _ (txtM_ok (numM_ok (hi i st h)))
theorem entM_len {s : ByteArray} {idx : Nat → RSt → Int × RSt} : ∀ (m i : Nat) (st : RSt), (entM s idx m i st).1.length ≤ m
  | 0, _, _ => Nat.le_refl _
  | m + 1, i, st => by
    rw [entM]
    split
    · exact Nat.zero_le _
    · have := entM_len (s := s) (idx := idx) m (i + 1) (txtM s (numM s (idx i st).2).2).2
      simp only [List.length_cons]; omega


end Go.Proofs.Ytbhhbjgdkcfagaa
