/- The contracts of the document's ID, Head, Check (package laderef9). -/
import Derived.Test.YtnkmaiipijmncaaDoorHeadId
import Derived.Deep.QuietTactic
import Derived.BigQuiet
namespace Go.Proofs.YtnkmaiipijmncaaDoor
open Go.RowKit Go.Shelf
set_option linter.unusedVariables false
attribute [local go_sem] Oper.semAt_some wide_fn wide_round_fn

def refIdM (l : List UInt8) : Int × Bool :=
  if l.length = 12 ∧ l.take 4 = [115, 101, 103, 45] ∧ (l.drop 4).all isDig = true then ((numL (l.drop 4) : Int), decide (0 < numL (l.drop 4))) else (0, false)
theorem refIdM_id (l : List UInt8) : (refIdM l).2 = (idM l).2 ∧ ((idM l).2 = true → (refIdM l).1 = (idM l).1) ∧ ((idM l).2 = false → (idM l).1 = 0) := by
  rcases idM_cases l with ⟨n, h1, h2, rfl, h⟩ | ⟨h, hf⟩
  · have hr : refIdM (nameL n) = ((n : Int), true) := by
      unfold refIdM
      rw [if_pos ⟨rfl, rfl, by rw [List.all_eq_true]; intro c hc; simp only [show (nameL n).drop 4 = digL n from rfl, digL, List.mem_cons, List.not_mem_nil, or_false] at hc; rcases hc with rfl | rfl | rfl | rfl | rfl | rfl | rfl | rfl <;> exact dg_isDig _ _⟩]
      rw [show (nameL n).drop 4 = digL n from rfl, numL_dig h2]
      simp; omega
    rw [hr, h]; exact ⟨rfl, fun _ => rfl, fun e => by cases e⟩
  · rw [hf]
    refine ⟨?_, fun e => (by cases e), fun _ => rfl⟩
    unfold refIdM
    split
    · rename_i hc
      obtain ⟨c1, c2, c3⟩ := hc
      have hl : (l.drop 4).length = 8 := by rw [List.length_drop, c1]
      obtain ⟨d1, d2⟩ := digL_num hl (List.all_eq_true.1 c3)
      have he : l = nameL (numL (l.drop 4)) := by
        unfold nameL; rw [d2, ← c2, List.take_append_drop]
      show decide _ = false
      rw [decide_eq_false]
      intro h0
      exact h _ h0 d1 he
    · rfl
theorem numL_snoc (l : List UInt8) (c : UInt8) : numL (l ++ [c]) = 10 * numL l + (c.toNat - 48) := by simp [numL]
theorem numF_lt : ∀ (l : List UInt8) (a : Nat), (∀ c ∈ l, isDig c = true) → l.foldl (fun a c => 10 * a + (c.toNat - 48)) a < (a + 1) * 10 ^ l.length
  | [], a, _ => by simp
  | c :: l, a, h => by
    have ih := numF_lt l (10 * a + (c.toNat - 48)) (fun x hx => h x (List.mem_cons_of_mem _ hx))
    have h2 := h c List.mem_cons_self
    simp only [isDig, Bool.and_eq_true, decide_eq_true_eq] at h2
    rw [List.foldl_cons, List.length_cons, Nat.pow_succ]
    refine Nat.lt_of_lt_of_le ih ?_
    rw [Nat.mul_comm (10 ^ l.length) 10, ← Nat.mul_assoc]
    exact Nat.mul_le_mul_right _ (by omega)
theorem numL_lt (l : List UInt8) (h : ∀ c ∈ l, isDig c = true) : numL l < 10 ^ l.length := by
  have := numF_lt l 0 h; simpa [numL] using this
theorem preEq (s : ByteArray) : ((s.extract 0 4).toList == [115, 101, 103, 45]) = decide (s.data.toList.take 4 = [115, 101, 103, 45]) := by
  rw [Bool.eq_iff_iff, decide_eq_true_iff, beq_iff_eq, ByteArray.toList_eq, Lib.extract_data]
  simp

theorem take_at4 (s : ByteArray) (j : Nat) (h4 : 4 ≤ j) (h : j < s.size) : (s.data.toList.drop 4).take (j + 1 - 4) = (s.data.toList.drop 4).take (j - 4) ++ [s[j]] := by
  have hl : s.data.toList.length = s.size := by simp
  rw [show j + 1 - 4 = (j - 4) + 1 by omega, List.take_succ_eq_append_getElem (by rw [List.length_drop]; omega), List.getElem_drop]
  simp only [show 4 + (j - 4) = j by omega]
  rfl

set_option maxRecDepth 100000 in
set_option maxHeartbeats 1000000 in
theorem refHead_any (i : Int) (w : World) : Gives Tryd.prog 13 #[.int .i64 i] w (.string (headS (heldN i))) := by
  have HH := Lib.hid (heldN_eq2 i)
  have hb := heldN_bd i
  have G1 := Lib.hid (refFixed_any (heldN i) (by omega))
  have G2 := Lib.hid (show ∀ w, Gives Tryd.prog 23 #[.int .u32 0, .string (headA (heldN i))] w (.int .u32 (moreN 0 (headA (heldN i)))) from fun w => refmore_at 0 (by decide) (headA (heldN i)) (by rw [headA_size]; decide) w)
  have G3 := Lib.hid (refFixed_any (moreN 0 (headA (heldN i))) (moreN_lt _ _))
  have HS := Lib.hid (show headA (heldN i) ++ ⟨(eigL (moreN 0 (headA (heldN i)))).toArray⟩ = headS (heldN i) from rfl)
  have HA := Lib.hid (show (⟨#[76, 65, 68, 69]⟩ : ByteArray) ++ ⟨(eigL (heldN i)).toArray⟩ ++ ⟨#[0, 0, 0, 0]⟩ = headA (heldN i) from rfl)
  have hx1 : (1 : Int) ≤ max 1 (min i 99999999) := by omega
  have hx2 : max 1 (min i 99999999) ≤ 99999999 := by omega
  have hs1 : (((⟨(eigL (heldN i)).toArray⟩ : ByteArray).size : Nat) : Int) ≤ 4 := by show ((4 : Nat) : Int) ≤ 4; omega
  have hs2 : (((⟨(eigL (moreN 0 (headA (heldN i)))).toArray⟩ : ByteArray).size : Nat) : Int) ≤ 4 := by show ((4 : Nat) : Int) ≤ 4; omega
  have hs3 : (((headA (heldN i)).size : Nat) : Int) ≤ 12 := by rw [headA_size]; omega
  generalize headS (heldN i) = s at *
  generalize headA (heldN i) = a at *
  generalize hm : moreN 0 a = m at *
  generalize heldN i = q at *
  rw [HH.out] at G1
  generalize (⟨(eigL q).toArray⟩ : ByteArray) = e1 at *
  generalize (⟨(eigL m).toArray⟩ : ByteArray) = e2 at *
  clear hb hm
  unfold Gives
  go_enter Tryd.func13, Tryd.ntmps13
  go_wp2_with (first
    | (go_at_call 22; ((with_reducible refine (G1.out _).mono ?_); rintro e w1 ⟨rfl, hB1⟩))
    | (go_at_call 23; (rw [HA.out]; (with_reducible refine (G2.out _).mono ?_); rintro e w2 ⟨rfl, hB2⟩))
    | (go_at_call 22; ((with_reducible refine (G3.out _).mono ?_); rintro e w3 ⟨rfl, hB3⟩)))
  go_ret
  exact ⟨by rw [HS.out]; rfl, bel2 (bel2 hB1 hB2) hB3⟩

set_option maxRecDepth 100000 in
set_option maxHeartbeats 1000000 in
theorem refID_no (s : ByteArray) (hs : s.size ≤ 281474976710656) (h : s.size ≠ 12) (w : World) : Gives Tryd.prog 9 #[.string s] w (.tuple #[.int .i64 0, .bool false]) := by
  have h1 : ((s.size : Int) == 12) = false := by rw [beq_eq_false_iff_ne]; omega
  have h2 : ((s.size : Int) != 12) = true := by rw [bne_iff_ne]; omega
  clear h
  unfold Gives
  go_enter Tryd.func9, Tryd.ntmps9
  go_wp2
  go_ret2
  exact ⟨rfl, Below.refl _ _⟩
set_option maxRecDepth 100000 in
set_option maxHeartbeats 1000000 in
theorem refID_pre (s : ByteArray) (h : s.size = 12) (w : World) : Gives Tryd.prog 9 #[.string s] w (.tuple #[.int .i64 (refIdM s.data.toList).1, .bool (refIdM s.data.toList).2]) := by
  have h1 : (s.size : Int) = 12 := by omega
  have hp := preEq s
  have hll : s.data.toList.length = 12 := by simpa using h
  by_cases hq : s.data.toList.take 4 = [115, 101, 103, 45]
  · rw [decide_eq_true hq] at hp
    have HQ := Lib.hid hq
    have HLL := Lib.hid hll
    clear hq h hll
    unfold Gives
    go_enter Tryd.func9, Tryd.ntmps9
    go_wp2
    go_loop [4, 5] (fun n i => ∃ (j : Nat), 4 ≤ j ∧ j ≤ 12 ∧ i = .int .i64 j ∧ n = .int .i64 (numL ((s.data.toList.drop 4).take (j - 4)) : Nat) ∧ ∀ c ∈ (s.data.toList.drop 4).take (j - 4), isDig c = true) (fun _ i => 12 - (intOf i).toNat)
    case atStart => exact ⟨4, by omega, by omega, rfl, rfl, fun c hc => by simp at hc⟩
    case round =>
      obtain ⟨j, hj4, hj, rfl, rfl, hd⟩ := hrel
      have hlt := numL_lt _ hd
      by_cases h12 : j < 12
      · have hjs : j < s.size := by omega
        have ht := take_at4 s j hj4 hjs
        have hn := numL_snoc ((s.data.toList.drop 4).take (j - 4)) s[j]
        rw [← ht] at hn
        have hl7 : ((s.data.toList.drop 4).take (j - 4)).length ≤ 7 := by rw [List.length_take]; omega
        have hp7 := Nat.pow_le_pow_right (n := 10) (by omega) hl7
        have HT := Lib.hid ht
        have HN := Lib.hid hn
        have HD := Lib.hid hd
        have hc := s[j].toNat_lt
        have hm : numL ((s.data.toList.drop 4).take (j - 4)) ≤ 9999999 := by omega
        generalize numL ((s.data.toList.drop 4).take (j - 4)) = m at *
        clear ht hn hd hl7 hp7 hlt
        by_cases hdig : isDig s[j] = true
        · have hq1 : (48 : Int) ≤ (s[j].toNat : Int) := by simp only [isDig, Bool.and_eq_true, decide_eq_true_eq] at hdig; omega
          have hq2 : (s[j].toNat : Int) ≤ 57 := by simp only [isDig, Bool.and_eq_true, decide_eq_true_eq] at hdig; omega
          have HG := Lib.hid hdig
          clear hdig
          go_wp2
          go_round
          case rel =>
            refine ⟨j + 1, by omega, by omega, by go_num, by rw [HN.out]; congr 1; omega, fun c hc => ?_⟩
            rw [HT.out] at hc
            rcases List.mem_append.1 hc with hc | hc
            · exact HD.out c hc
            · rw [List.mem_singleton.1 hc]; exact HG.out
          case measure => simp [intOf]; omega
        · have HI := Lib.hid (show refIdM s.data.toList = (0, false) by
            unfold refIdM
            rw [if_neg]
            rintro ⟨_, _, ha⟩
            refine hdig (List.all_eq_true.1 ha _ ?_)
            have : s[j] ∈ (s.data.toList.drop 4).take (j + 1 - 4) := by rw [HT.out]; simp
            exact List.mem_of_mem_take this)
          simp only [isDig, Bool.and_eq_true, decide_eq_true_eq, not_and, Nat.not_le] at hdig
          by_cases hq1 : s[j].toNat < 48
          · have hq2 : (s[j].toNat : Int) < 48 := by omega
            clear hdig hq1
            go_wp2
            go_ret2
            exact ⟨by rw [HI.out]; rfl, Below.refl _ _⟩
          · have hq2 : (57 : Int) < (s[j].toNat : Int) := by have := hdig (by omega); omega
            have hq3 : (48 : Int) ≤ (s[j].toNat : Int) := by omega
            clear hdig hq1
            go_wp2
            go_ret2
            exact ⟨by rw [HI.out]; rfl, Below.refl _ _⟩
      · obtain rfl : j = 12 := by omega
        have he : (s.data.toList.drop 4).take (12 - 4) = s.data.toList.drop 4 := List.take_of_length_le (by rw [List.length_drop, HLL.out]; omega)
        rw [he] at hd hlt
        have HI := Lib.hid (show refIdM s.data.toList = ((numL (s.data.toList.drop 4) : Int), decide (0 < numL (s.data.toList.drop 4))) by
          unfold refIdM; rw [if_pos ⟨HLL.out, HQ.out, List.all_eq_true.2 hd⟩])
        rw [he, show ((12 : Nat) : Int) = 12 from rfl]
        generalize numL (s.data.toList.drop 4) = m at *
        clear hd hlt he
        go_wp2
        go_ret2
        exact ⟨by rw [HI.out]; simp, Below.refl _ _⟩
  · rw [decide_eq_false hq] at hp
    have HI := Lib.hid (show refIdM s.data.toList = (0, false) by unfold refIdM; rw [if_neg (fun e => hq e.2.1)])
    clear hq h hll
    unfold Gives
    rw [HI.out]
    go_enter Tryd.func9, Tryd.ntmps9
    go_wp2
    go_ret2
    exact ⟨rfl, Below.refl _ _⟩

theorem refID_any (s : ByteArray) (hs : s.size ≤ 281474976710656) (w : World) : Gives Tryd.prog 9 #[.string s] w (.tuple #[.int .i64 (refIdM s.data.toList).1, .bool (refIdM s.data.toList).2]) := by
  by_cases h : s.size = 12
  · exact refID_pre s h w
  · have := refID_no s hs h w
    rwa [show refIdM s.data.toList = (0, false) by unfold refIdM; rw [if_neg (fun e => h (by have := e.1; simpa using this))]]

/-! ### Check -/
theorem pre_len {a b : List UInt8} (h : Lib.hasPrefix a b = true) : b.length ≤ a.length := by
  unfold Lib.hasPrefix at h; exact (List.isPrefixOf_iff_prefix.1 h).length_le
theorem hchk_bad {s h : List UInt8} (hx : s.take (min s.length h.length) ≠ h.take (min s.length h.length)) : chkM s h = 4 := by
  unfold chkM
  rw [if_neg, if_neg]
  · intro e
    obtain ⟨t, rfl⟩ := List.isPrefixOf_iff_prefix.1 e
    apply hx; simp
  · intro e
    obtain ⟨t, rfl⟩ := List.isPrefixOf_iff_prefix.1 e
    apply hx; simp
theorem hchk_torn {s h : List UInt8} (hx : s.take (min s.length h.length) = h.take (min s.length h.length)) (hl : s.length < h.length) : chkM s h = 3 := by
  rw [Nat.min_eq_left (by omega), List.take_length] at hx
  unfold chkM
  rw [if_neg, if_pos]
  · exact List.isPrefixOf_iff_prefix.2 (hx ▸ List.take_prefix _ _)
  · intro e; have := pre_len e; omega
theorem hchk_whole {s h : List UInt8} (hx : s.take (min s.length h.length) = h.take (min s.length h.length)) (hl : h.length ≤ s.length) : chkM s h = 1 := by
  rw [Nat.min_eq_right hl, List.take_length] at hx
  unfold chkM
  rw [if_pos]
  exact List.isPrefixOf_iff_prefix.2 (hx ▸ List.take_prefix _ _)
set_option maxRecDepth 100000 in
set_option maxHeartbeats 1000000 in
theorem refCheck_any (s : ByteArray) (hs : s.size ≤ 281474976710656) (i : Int) (w : World) : Gives Tryd.prog 15 #[.string s, .int .i64 i] w (.int .i64 (chkM s.data.toList (headS (heldN i)).data.toList)) := by
  have GH := Lib.hid (refHead_any i)
  have hz := headS_size (heldN i)
  generalize headS (heldN i) = h at *
  have hl1 : s.data.toList.length = s.size := by simp
  have hl2 : h.data.toList.length = 16 := by simpa using hz
  obtain ⟨m, hm⟩ : ∃ m, m = min s.size 16 := ⟨_, rfl⟩
  have hx : ((s.extract 0 m).toList == (h.extract 0 m).toList) = decide (s.data.toList.take (min s.data.toList.length h.data.toList.length) = h.data.toList.take (min s.data.toList.length h.data.toList.length)) := by
    rw [Bool.eq_iff_iff, decide_eq_true_iff, beq_iff_eq, ByteArray.toList_eq, ByteArray.toList_eq, Lib.extract_data, Lib.extract_data, hl1, hl2, hm]
    simp
  have hzi : (h.size : Int) = 16 := by omega
  have hmi : min (s.size : Int) 16 = (m : Int) := by omega
  have HW := Lib.hid (fun (a : s.data.toList.take (min s.data.toList.length h.data.toList.length) ≠ h.data.toList.take (min s.data.toList.length h.data.toList.length)) => hchk_bad a)
  have HT := Lib.hid (fun (a : s.data.toList.take (min s.data.toList.length h.data.toList.length) = h.data.toList.take (min s.data.toList.length h.data.toList.length)) (b : m < 16) => hchk_torn a (by omega))
  have HB := Lib.hid (fun (a : s.data.toList.take (min s.data.toList.length h.data.toList.length) = h.data.toList.take (min s.data.toList.length h.data.toList.length)) (b : ¬ m < 16) => hchk_whole a (by omega))
  have hm0 : (0 : Int) ≤ (m : Int) := by omega
  have hm1 : (m : Int) ≤ (s.size : Int) := by omega
  have hm2 : (m : Int) ≤ 16 := by omega
  clear hm hz hl1 hl2
  generalize chkM s.data.toList h.data.toList = z at *
  by_cases hc : s.data.toList.take (min s.data.toList.length h.data.toList.length) = h.data.toList.take (min s.data.toList.length h.data.toList.length)
  · rw [decide_eq_true hc] at hx
    by_cases h16 : m < 16
    · have HZ := Lib.hid (HT.out hc h16)
      have h16i : (m : Int) < 16 := by omega
      clear hc HW HT HB h16
      unfold Gives
      go_enter Tryd.func15, Tryd.ntmps15
      go_wp2_with (go_at_call 13; ((with_reducible refine (GH.out _).mono ?_); rintro e w1 ⟨rfl, hB1⟩))
      go_quiet ((fail))
      go_wp2
      go_ret
      exact ⟨by rw [HZ.out]; rfl, hbel_drewN hB1 _⟩
    · have HZ := Lib.hid (HB.out hc h16)
      obtain rfl : m = 16 := by omega
      clear hc HW HT HB h16
      unfold Gives
      go_enter Tryd.func15, Tryd.ntmps15
      go_wp2_with (go_at_call 13; ((with_reducible refine (GH.out _).mono ?_); rintro e w1 ⟨rfl, hB1⟩))
      go_quiet ((fail))
      go_wp2
      go_ret
      exact ⟨by rw [HZ.out]; rfl, hbel_drewN hB1 _⟩
  · rw [decide_eq_false hc] at hx
    have HZ := Lib.hid (HW.out hc)
    clear hc HW HT HB
    unfold Gives
    go_enter Tryd.func15, Tryd.ntmps15
    go_wp2_with (go_at_call 13; ((with_reducible refine (GH.out _).mono ?_); rintro e w1 ⟨rfl, hB1⟩))
    go_quiet ((fail))
    go_wp2
    go_ret
    exact ⟨by rw [HZ.out]; rfl, hbel_drewN hB1 _⟩

end Go.Proofs.YtnkmaiipijmncaaDoor
