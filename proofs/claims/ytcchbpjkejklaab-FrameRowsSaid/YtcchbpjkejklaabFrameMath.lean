/- What was framed is read; cut off it is torn; bits that are flipped within 32 in a row are seen: on lists of bytes alone. -/
import Derived.Test.YtcchbpjkejklaabFrameReads
import Derived.Test.YtcchbpjkejklaabCodeMath
namespace Go.Proofs.Ytcchbpjkejklaab
open Go.RowKit Go.Shelf
set_option linter.unusedVariables false

theorem wordB_of (s : ByteArray) (pre suf : List UInt8) (n k : Nat) (hn : n < 4294967296) (hk : k = pre.length) (h : s.data.toList = pre ++ (eigL n ++ suf)) : wordB s k = n := by
  unfold wordB
  rw [h, hk, List.drop_left, List.take_left' (eigL_len n)]
  exact leN_eigL n hn
theorem wrapB_list (b : ByteArray) : (wrapB b).data.toList = eigL b.size ++ (eigL (4294967295 - b.size) ++ (b.data.toList ++ eigL (moreN 0 b))) := by
  unfold wrapB
  rw [ba_toList, ba_toList, ba_toList]
  simp only [List.append_assoc]
theorem ba_of_list {s t : ByteArray} (h : s.data.toList = t.data.toList) : s = t := ByteArray.ext (Array.toList_inj.1 h)
theorem extract_at (s : ByteArray) (pre : List UInt8) (b : ByteArray) (suf : List UInt8) (i j : Nat) (hi : i = pre.length) (hj : j = i + b.size) (h : s.data.toList = pre ++ (b.data.toList ++ suf)) : s.extract i j = b := by
  apply ba_of_list
  rw [ByteArray.data_extract, Array.toList_extract, List.extract_eq_take_drop, h, hi, List.drop_left, List.take_left' (by rw [ba_size]; omega)]
theorem read_wrap (b t : ByteArray) (h1 : 1 ≤ b.size) (h2 : b.size ≤ 2000) : readF (wrapB b ++ t) = (b, b.size + 12, 1) := by
  have hL : (wrapB b ++ t).data.toList = eigL b.size ++ (eigL (4294967295 - b.size) ++ (b.data.toList ++ (eigL (moreN 0 b) ++ t.data.toList))) := by
    rw [ba_toList, wrapB_list]; simp only [List.append_assoc]
  have hs : (wrapB b ++ t).size = b.size + 12 + t.size := by rw [ByteArray.size_append, wrapB_size]
  have w0 : wordB (wrapB b ++ t) 0 = b.size := wordB_of _ [] _ b.size 0 (by omega) rfl hL
  have w4 : wordB (wrapB b ++ t) 4 = 4294967295 - b.size := wordB_of _ (eigL b.size) _ _ 4 (by omega) rfl hL
  have hb : (wrapB b ++ t).extract 8 (8 + b.size) = b := extract_at _ (eigL b.size ++ eigL (4294967295 - b.size)) b (eigL (moreN 0 b) ++ t.data.toList) 8 _ rfl rfl (by rw [hL]; simp only [List.append_assoc])
  have wc : wordB (wrapB b ++ t) (8 + b.size) = moreN 0 b := wordB_of _ (eigL b.size ++ eigL (4294967295 - b.size) ++ b.data.toList) t.data.toList _ _ (moreN_lt _ _) (by rw [List.length_append, List.length_append, eigL_len, eigL_len, ba_size]) (by rw [hL]; simp only [List.append_assoc])
  have hnb : ¬ badN (wordB (wrapB b ++ t) 0) (wordB (wrapB b ++ t) 4) := by rw [w0, w4]; unfold badN; omega
  rw [readF_whole (by omega) hnb (by rw [w0]; omega) (by rw [w0, hb, wc]), w0, hb]
theorem wordB_take (s : ByteArray) (m k : Nat) (h : k + 4 ≤ m) : wordB (s.extract 0 m) k = wordB s k := by
  unfold wordB
  have e : (s.extract 0 m).data.toList = s.data.toList.take m := by simp
  rw [e, List.drop_take, List.take_take, Nat.min_eq_left (by omega)]
theorem read_cut (b : ByteArray) (h1 : 1 ≤ b.size) (h2 : b.size ≤ 2000) (m : Nat) (h0 : 1 ≤ m) (hm : m < b.size + 12) : readF ((wrapB b).extract 0 m) = (⟨#[]⟩, 0, 3) := by
  have hs : ((wrapB b).extract 0 m).size = m := by rw [ByteArray.size_extract, wrapB_size]; omega
  by_cases h8 : m < 8
  · exact readF_torn (by omega) (by omega)
  · have w0 : wordB (wrapB b) 0 = b.size := wordB_of _ [] _ b.size 0 (by omega) rfl (wrapB_list b)
    have w4 : wordB (wrapB b) 4 = 4294967295 - b.size := wordB_of _ (eigL b.size) _ _ 4 (by omega) rfl (wrapB_list b)
    exact readF_torn2 (by omega) (by rw [wordB_take _ _ _ (by omega), wordB_take _ _ _ (by omega), w0, w4]; unfold badN; omega) (by rw [wordB_take _ _ _ (by omega), w0]; omega)

/-- The bits of the number that four bytes make. -/
theorem leN_bit : ∀ (l : List UInt8) (j : Nat), (leN l).testBit j = bitB l j
  | [], j => by simp [leN, bitB]
  | c :: r, j => by
    have hc := c.toNat_lt
    have e : leN (c :: r) = 2 ^ 8 * leN r + c.toNat := by simp only [leN]; omega
    rw [e, Nat.testBit_two_pow_mul_add _ hc]
    by_cases h : j < 8
    · rw [if_pos h]
      unfold bitB
      rw [show j / 8 = 0 by omega, show j % 8 = j by omega]; rfl
    · rw [if_neg h, leN_bit r (j - 8)]
      unfold bitB
      rw [show j / 8 = (j - 8) / 8 + 1 by omega, show j % 8 = (j - 8) % 8 by omega]; rfl
theorem bitB_drop (l : List UInt8) (k j : Nat) : bitB (l.drop k) j = bitB l (8 * k + j) := by
  unfold bitB
  rw [List.getD_eq_getElem?_getD, List.getElem?_drop, ← List.getD_eq_getElem?_getD, show k + j / 8 = (8 * k + j) / 8 by omega, show j % 8 = (8 * k + j) % 8 by omega]
theorem bitB_take (l : List UInt8) (k j : Nat) (h : j < 8 * k) : bitB (l.take k) j = bitB l j := by
  unfold bitB
  rw [List.getD_eq_getElem?_getD, List.getElem?_take, if_pos (by omega), ← List.getD_eq_getElem?_getD]
theorem wordB_bit (s : ByteArray) (k j : Nat) (h : j < 32) : (wordB s k).testBit j = bitB s.data.toList (8 * k + j) := by
  unfold wordB
  rw [leN_bit, bitB_take _ _ _ (by omega), bitB_drop]
theorem leN_eq_of_len : ∀ (l m : List UInt8), l.length = m.length → leN l = leN m → l = m
  | [], [], _, _ => rfl
  | c :: r, d :: s, hl, h => by
    have hc := c.toNat_lt
    have hd := d.toNat_lt
    simp only [leN] at h
    have h1 : c.toNat = d.toNat := by omega
    have h2 : leN r = leN s := by omega
    rw [UInt8.toNat_inj.1 h1, leN_eq_of_len r s (by simpa using hl) h2]
theorem eigL_leN (l : List UInt8) (h : l.length = 4) : eigL (leN l) = l := by
  refine leN_eq_of_len _ _ (by rw [h]; rfl) (leN_eigL _ ?_)
  have := leN_lt l
  rw [h, pow256_4] at this
  exact this

/-- A sum that is fed with itself. -/
theorem crcM_self (l : List UInt8) : crcM 0#32 (l ++ eigL (crcM 0#32 l).toNat) = ~~~ (Zit 32 (BitVec.allOnes 32)) := by
  rw [crcM_append]
  generalize crcM 0#32 l = c
  unfold crcM
  rw [eigL_len, regF_val _ _ _ (by omega)]
  have hv : valF (bitB (eigL c.toNat)) (8 * 4) = c := by
    refine BitVec.eq_of_getLsbD_eq fun i hi => ?_
    rw [valF_get _ _ _ hi, decide_eq_true (by omega), Bool.true_and, ← leN_bit, leN_eigL _ c.isLt]; rfl
  rw [hv]
  congr 2
  refine BitVec.eq_of_getLsbD_eq fun i hi => ?_
  rw [BitVec.getLsbD_xor, BitVec.getLsbD_not, BitVec.getLsbD_allOnes]
  simp [hi]

/-- Bits of a frame that are flipped within 32 in a row: it is bad, whatever stands behind. -/
theorem read_bursts (b t u : ByteArray) (h1 : 1 ≤ b.size) (h2 : b.size ≤ 2000) (hz : t.size = b.size + 12) (g : Nat → Bool) (s : Nat) (hs : s + 32 ≤ 8 * (b.size + 12)) (h : ∀ j, j < 8 * (b.size + 12) → bitB t.data.toList j = (bitB (wrapB b).data.toList j ^^ g j))
    (hlo : ∀ j, j < s → g j = false) (hhi : ∀ j, s + 32 ≤ j → g j = false) (hne : ∃ j, s ≤ j ∧ j < s + 32 ∧ g j = true) : readF (t ++ u) = (⟨#[]⟩, 0, 4) := by
  have hsz : (t ++ u).size = b.size + 12 + u.size := by rw [ByteArray.size_append, hz]
  have htl : t.data.toList.length = b.size + 12 := by rw [ba_size, hz]
  have wk : ∀ k, k + 4 ≤ b.size + 12 → ∀ j, j < 32 → (wordB (t ++ u) k).testBit j = ((wordB (wrapB b) k).testBit j ^^ g (8 * k + j)) := fun k hk j hj => by
    rw [wordB_bit _ _ _ hj, wordB_bit _ _ _ hj, ba_toList, bitB_left _ _ _ (by omega), h _ (by omega)]
  have w0 : wordB (wrapB b) 0 = b.size := wordB_of _ [] _ b.size 0 (by omega) rfl (wrapB_list b)
  have w4 : wordB (wrapB b) 4 = 4294967295 - b.size := wordB_of _ (eigL b.size) _ _ 4 (by omega) rfl (wrapB_list b)
  by_cases hbad : badN (wordB (t ++ u) 0) (wordB (t ++ u) 4)
  · exact readF_bad (by omega) hbad
  have hsum : wordB (t ++ u) 0 + wordB (t ++ u) 4 = 4294967295 := by unfold badN at hbad; omega
  have comp : ∀ A B : Nat, A + B = 4294967295 → ∀ j, j < 32 → B.testBit j = !A.testBit j := fun A B hAB j hj => by
    have e : B = 2 ^ 32 - (A + 1) := by omega
    rw [e, Nat.testBit_two_pow_sub_succ (by omega), decide_eq_true hj, Bool.true_and]
  have g64 : ∀ j, j < 32 → g j = false ∧ g (32 + j) = false := fun j hj => by
    have a0 := wk 0 (by omega) j hj
    have a4 := wk 4 (by omega) j hj
    rw [comp _ _ hsum j hj, comp (wordB (wrapB b) 0) (wordB (wrapB b) 4) (by rw [w0, w4]; omega) j hj, a0, show 8 * 0 + j = j by omega, show 8 * 4 + j = 32 + j by omega] at a4
    have hgg : g j = g (32 + j) := by
      generalize (wordB (wrapB b) 0).testBit j = p at a4
      generalize g j = q at a4
      generalize g (32 + j) = r at a4
      cases p <;> cases q <;> cases r <;> simp at a4 ⊢
    by_cases hj2 : j < s
    · exact ⟨hlo j hj2, by rw [← hgg]; exact hlo j hj2⟩
    · have := hhi (32 + j) (by omega)
      exact ⟨by rw [hgg]; exact this, this⟩
  have gz : ∀ j, j < 64 → g j = false := fun j hj => by
    by_cases h32 : j < 32
    · exact (g64 j h32).1
    · have := (g64 (j - 32) (by omega)).2
      rwa [show 32 + (j - 32) = j by omega] at this
  have e0 : wordB (t ++ u) 0 = b.size := by
    rw [← w0]
    refine Nat.eq_of_testBit_eq fun j => ?_
    by_cases hj : j < 32
    · rw [wk 0 (by omega) j hj, gz _ (by omega), Bool.xor_false]
    · rw [Nat.testBit_lt_two_pow (Nat.lt_of_lt_of_le (wordB_lt _ _) (show 2 ^ 32 ≤ 2 ^ j from Nat.pow_le_pow_right (by decide) (by omega))), Nat.testBit_lt_two_pow (Nat.lt_of_lt_of_le (wordB_lt _ _) (show 2 ^ 32 ≤ 2 ^ j from Nat.pow_le_pow_right (by decide) (by omega)))]
  refine readF_bad2 (by omega) hbad (by rw [e0]; omega) ?_
  rw [e0]
  intro hc
  -- the bytes behind the numbers: what the frame holds, and its sum
  have hb1 : ((t ++ u).extract 8 (8 + b.size)).data.toList = (t.data.toList.drop 8).take b.size := by
    rw [ByteArray.data_extract, Array.toList_extract, List.extract_eq_take_drop, ba_toList, List.drop_append_of_le_length (by omega), List.take_append_of_le_length (by rw [List.length_drop]; omega)]
    congr 1; omega
  have hw1 : wordB (t ++ u) (8 + b.size) = leN ((t.data.toList.drop 8).drop b.size) := by
    unfold wordB
    rw [ba_toList, List.drop_append_of_le_length (by omega), List.take_append_of_le_length (by rw [List.length_drop]; omega), List.drop_drop, List.take_of_length_le (by rw [List.length_drop]; omega)]
  have hlen4 : ((t.data.toList.drop 8).drop b.size).length = 4 := by rw [List.length_drop, List.length_drop]; omega
  have hsum2 : crcM 0#32 (t.data.toList.drop 8) = ~~~ (Zit 32 (BitVec.allOnes 32)) := by
    rw [← crcM_self ((t.data.toList.drop 8).take b.size)]
    congr 1
    have hm : (crcM 0#32 ((t.data.toList.drop 8).take b.size)).toNat = leN ((t.data.toList.drop 8).drop b.size) := by
      rw [← hw1, hc]; unfold moreN; rw [hb1]
    rw [hm, eigL_leN _ hlen4, List.take_append_drop]
  have hsum3 : crcM 0#32 ((wrapB b).data.toList.drop 8) = ~~~ (Zit 32 (BitVec.allOnes 32)) := by
    rw [← crcM_self b.data.toList]
    exact congrArg (crcM 0#32) (by rw [wrapB_list]; rfl)
  have hwl : (wrapB b).data.toList.length = b.size + 12 := by rw [ba_size, wrapB_size]
  obtain ⟨j, hj1, hj2, hj3⟩ := hne
  have hj64 : 64 ≤ j := by
    rcases Nat.lt_or_ge j 64 with hlt | hge
    · rw [gz j hlt] at hj3; cases hj3
    · exact hge
  refine crcM_bursts 0#32 ((wrapB b).data.toList.drop 8) (t.data.toList.drop 8) (fun i => g (64 + i)) (s - 64) (by rw [List.length_drop, List.length_drop]; omega) (by rw [List.length_drop]; omega)
    (fun i hi => ?_) (fun i hi => ?_) (fun i hi => ?_) ⟨j - 64, by omega, by omega, ?_⟩ (by rw [hsum2, hsum3])
  · rw [List.length_drop] at hi
    rw [bitB_drop, bitB_drop, h _ (by omega)]
  · exact hlo _ (by omega)
  · exact hhi _ (by omega)
  · show g (64 + (j - 64)) = true
    rw [show 64 + (j - 64) = j by omega]; exact hj3

end Go.Proofs.Ytcchbpjkejklaab
