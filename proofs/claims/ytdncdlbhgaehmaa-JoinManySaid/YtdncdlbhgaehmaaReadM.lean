/- ReadMath, ReadM2: in one text. -/
import Derived.Test.YtdncdlbhgaehmaaGet
import Derived.Test.YtdncdlbhgaehmaaPart
import Derived.Test.YtdncdlbhgaehmaaPartIs
/- What package part's reader tells, as plain mathematics: numbers, texts, entries, and how far it has come; no program is named here but by the words on numbers and texts. -/
namespace Go.Proofs.Ytdncdlbhgaehmaa
set_option linter.unusedVariables false

/-- How far it has come, and its error. -/
structure RSt where
  at_ : Nat
  e : Nat
def restB (s : ByteArray) (k : Nat) : ByteArray := s.extract k s.size
theorem restB_list (s : ByteArray) (k : Nat) : (restB s k).data.toList = s.data.toList.drop k := by
  unfold restB
  rw [ByteArray.data_extract]
  simp [List.extract_eq_take_drop]
  rw [List.take_of_length_le]
  simp
theorem restB_size (s : ByteArray) (k : Nat) (h : k ≤ s.size) : (restB s k).size = s.size - k := by
  unfold restB; simp
def RSt.ok (s : ByteArray) (st : RSt) : Prop := st.at_ ≤ s.size ∧ st.e ≤ 12
def numM (s : ByteArray) (st : RSt) : Nat × RSt :=
  if st.e ≠ 0 then (0, st) else ((getL (s.data.toList.drop st.at_)).1, ⟨st.at_ + (getL (s.data.toList.drop st.at_)).2.1, (getL (s.data.toList.drop st.at_)).2.2⟩)
def numTo (s : ByteArray) (most : Nat) (st : RSt) : Nat × RSt :=
  if most < (numM s st).1 then (0, ⟨(numM s st).2.at_, 11⟩) else numM s st
def txtM (s : ByteArray) (st : RSt) : ByteArray × RSt :=
  if st.e ≠ 0 then (⟨#[]⟩, st) else ((textsB (restB s st.at_) 40).1, ⟨st.at_ + (textsB (restB s st.at_) 40).2.1, (textsB (restB s st.at_) 40).2.2⟩)
def hardM (s : ByteArray) (st : RSt) : (Nat × Nat × Nat) × RSt :=
  (((numM s st).1, (numM s (numM s st).2).1, (numM s (numM s (numM s st).2).2).1), (numM s (numM s (numM s st).2).2).2)
/-- m entries, from the i-th one on; what tells their Indexes. -/
def entM (s : ByteArray) (idx : Nat → RSt → Int × RSt) : Nat → Nat → RSt → List EntryC × RSt
  | 0, _, st => ([], st)
  | m + 1, i, st =>
    if (txtM s (numM s (idx i st).2).2).2.e ≠ 0 then ([], (txtM s (numM s (idx i st).2).2).2)
    else (⟨(idx i st).1, (numM s (idx i st).2).1, (txtM s (numM s (idx i st).2).2).1⟩ :: (entM s idx m (i + 1) (txtM s (numM s (idx i st).2).2).2).1, (entM s idx m (i + 1) (txtM s (numM s (idx i st).2).2).2).2)
def idxFrom (first : Nat) (i : Nat) (st : RSt) : Int × RSt := (Go.RowKit.wrap64 ((first : Int) + i), st)
def idxRead (s : ByteArray) (i : Nat) (st : RSt) : Int × RSt := (((numM s st).1 : Int), (numM s st).2)

theorem textsB_bound (s : ByteArray) (most : Int) : (textsB s most).2.1 ≤ s.size ∧ (textsB s most).2.2 ≤ 12 := by
  have h := getL_bound s.data.toList
  unfold textsB
  split
  · exact ⟨Nat.zero_le _, by dsimp only; omega⟩
  · split
    · exact ⟨Nat.zero_le _, by dsimp only; omega⟩
    · split
      · exact ⟨Nat.zero_le _, by dsimp only; omega⟩
      · exact ⟨by dsimp only; omega, by dsimp only; omega⟩
theorem numM_ok {s : ByteArray} {st : RSt} (h : st.ok s) : (numM s st).2.ok s := by
  unfold numM
  split
  · exact h
  · have h2 := getL_bound (s.data.toList.drop st.at_)
    have h3 := h.1
    rw [List.length_drop] at h2
    have h4 : s.data.toList.length = s.size := by simp
    refine ⟨?_, ?_⟩
    · dsimp only; omega
    · dsimp only; omega
theorem numM_lt (s : ByteArray) (st : RSt) : (numM s st).1 < 9223372036854775808 := by
  unfold numM
  split
  · exact (by decide : 0 < 9223372036854775808)
  · exact (getL_bound _).1
theorem numTo_ok {s : ByteArray} {most : Nat} {st : RSt} (h : st.ok s) : (numTo s most st).2.ok s := by
  unfold numTo
  split
  · exact ⟨(numM_ok h).1, (by decide : 11 ≤ 12)⟩
  · exact numM_ok h
theorem numTo_le (s : ByteArray) (most : Nat) (st : RSt) : (numTo s most st).1 ≤ most := by
  unfold numTo
  split
  · exact Nat.zero_le _
  · omega
theorem txtM_ok {s : ByteArray} {st : RSt} (h : st.ok s) : (txtM s st).2.ok s := by
  unfold txtM
  split
  · exact h
  · have h2 := textsB_bound (restB s st.at_) 40
    have h3 := h.1
    rw [restB_size s _ h3] at h2
    exact ⟨by dsimp only; omega, h2.2⟩
theorem hardM_ok {s : ByteArray} {st : RSt} (h : st.ok s) : (hardM s st).2.ok s := numM_ok (numM_ok (numM_ok h))
def IdxOk (s : ByteArray) (idx : Nat → RSt → Int × RSt) : Prop := ∀ i st, st.ok s → (idx i st).2.ok s
theorem idxFrom_ok (s : ByteArray) (first : Nat) : IdxOk s (idxFrom first) := fun _ _ h => h
theorem idxRead_ok (s : ByteArray) : IdxOk s (idxRead s) := fun _ _ h => numM_ok h
theorem entM_ok {s : ByteArray} {idx : Nat → RSt → Int × RSt} (hi : IdxOk s idx) : ∀ (m i : Nat) (st : RSt), st.ok s → (entM s idx m i st).2.ok s
  | 0, _, _, h => h
  | m + 1, i, st, h => by
    rw [entM]
    split
    · exact txtM_ok (numM_ok (hi i st h))
    · exact entM_ok hi m (i + 1) _ (txtM_ok (numM_ok (hi i st h)))
theorem entM_len {s : ByteArray} {idx : Nat → RSt → Int × RSt} : ∀ (m i : Nat) (st : RSt), (entM s idx m i st).1.length ≤ m
  | 0, _, _ => Nat.le_refl _
  | m + 1, i, st => by
    rw [entM]
    split
    · exact Nat.zero_le _
    · have := entM_len (s := s) (idx := idx) m (i + 1) (txtM s (numM s (idx i st).2).2).2
      simp only [List.length_cons]; omega


end Go.Proofs.Ytdncdlbhgaehmaa

/- What package part's Read tells, as plain mathematics. -/
namespace Go.Proofs.Ytdncdlbhgaehmaa
set_option linter.unusedVariables false

/-- A part as it was read, how far it has come, the error. -/
structure ReadC where
  g : Int
  k : Int
  l : List EntryC
  ht : Int
  hv : Int
  hc : Int
  i : Int
  t : Int
  m : Bool
  h : Bool
def ReadC.part (r : ReadC) (a : Option Addr) (cap : Nat) : PartC := ⟨r.g, r.k, a, r.l.length, cap, r.ht, r.hv, r.hc, r.i, r.t, r.m, r.h⟩
def zeroR : ReadC := ⟨0, 0, [], 0, 0, 0, 0, 0, false, false⟩
/-- What a KForward has. -/
def fwdM (s : ByteArray) (g : Int) (st0 : RSt) : ReadC × RSt :=
  let f := numTo s 3 st0
  let mk := f.1 % 2 == 1
  let hd := f.1 / 2 == 1
  let i := if mk then numM s f.2 else (0, f.2)
  let t := if mk then numM s i.2 else (0, i.2)
  let h := if hd then hardM s t.2 else ((0, 0, 0), t.2)
  let n := numTo s 6 h.2
  let l := entM s (idxRead s) n.1 0 n.2
  (⟨g, 6, l.1, h.1.1, h.1.2.1, h.1.2.2, i.1, t.1, mk, hd⟩, l.2)
def bodyM (s : ByteArray) (g k : Nat) (st : RSt) : ReadC × RSt :=
  if k = 1 then
    let n := numTo s 6 st
    let f := numM s n.2
    let l := entM s (idxFrom f.1) n.1 0 f.2
    (⟨g, 1, l.1, 0, 0, 0, 0, 0, false, false⟩, l.2)
  else if k = 2 then
    let h := hardM s st
    (⟨g, 2, [], h.1.1, h.1.2.1, h.1.2.2, 0, 0, false, false⟩, h.2)
  else if k = 3 ∨ k = 4 then
    let i := numM s st
    let t := numM s i.2
    (⟨g, k, [], 0, 0, 0, i.1, t.1, false, false⟩, t.2)
  else if k = 6 then fwdM s g st
  else (⟨g, k, [], 0, 0, 0, 0, 0, false, false⟩, st)
def rawM (s : ByteArray) : ReadC × RSt := bodyM s (numM s ⟨0, 0⟩).1 (numTo s 6 (numM s ⟨0, 0⟩).2).1 (numTo s 6 (numM s ⟨0, 0⟩).2).2
def errM (r : ReadC × RSt) : Nat := if r.2.e = 0 ∧ isB (r.1.part none 0) r.1.l = false then 11 else r.2.e
def readM (s : ByteArray) : ReadC × Nat × Nat := if errM (rawM s) ≠ 0 then (zeroR, 0, errM (rawM s)) else ((rawM s).1, (rawM s).2.at_, 0)

/-- Whether a part is well-formed doesn't ask where its entries lie. -/
theorem isB_addr (g k : Int) (a : Option Addr) (len cap : Nat) (ht hv hc i t : Int) (m h : Bool) (l : List EntryC) : isB ⟨g, k, a, len, cap, ht, hv, hc, i, t, m, h⟩ l = isB ⟨g, k, none, len, 0, ht, hv, hc, i, t, m, h⟩ l := by
  by_cases h1 : k = 1
  · subst h1; rfl
  by_cases h2 : k = 2
  · subst h2; rfl
  by_cases h3 : k = 3
  · subst h3; rfl
  by_cases h4 : k = 4
  · subst h4; rfl
  by_cases h5 : k = 5
  · subst h5; rfl
  by_cases h6 : k = 6
  · subst h6; cases m <;> cases h <;> rfl
  simp [isB, okB, h1, h2, h3, h4, h5, h6]

end Go.Proofs.Ytdncdlbhgaehmaa
