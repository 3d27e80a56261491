/- The contracts of the document's ID, Head, Check (package laderef9). -/
import Derived.Test.YtoieacmipejfeaaGreatDoorLaid
import Derived.Deep.QuietTactic
import Derived.BigQuiet
namespace Go.Proofs.YtoieacmipejfeaaGreatDoor
open Go.RowKit Go.Shelf
set_option linter.unusedVariables false
attribute [local go_sem] Oper.semAt_some wide_fn wide_round_fn

def refIdM (l : List UInt8) : Int × Bool :=
  if l.length = 12 ∧ l.take 4 = [115, 101, 103, 45] ∧ (l.drop 4).all isDig = true then ((numL (l.drop 4) : Int), decide (0 < numL (l.drop 4))) else (0, false)
theorem refIdM_id (l : List UInt8) : (refIdM l).2 = (idM l).2 ∧ ((idM l).2 = true → (refIdM l).1 = (idM l).1) ∧ ((idM l).2 = false → (idM l).1 = 0) := by
  rcases idM_cases l with ⟨n, h1, h2, rfl, h⟩ | ⟨h, hf⟩
  · have hr : refIdM (nameL n) = ((n : Int), true) := by
      unfold refIdM
      rw [if_pos ⟨rfl, rfl, by rw [List.all_eq_true]; intro c hc; simp only [show (nameL n).drop 4 = digL n from rfl, digL, List.mem_cons, List.not_mem_nil, or_false] at hc; rcases hc with rfl | rfl | rfl | rfl | rfl | rfl | rfl | rfl <;> exact dg_isDig _ _⟩]
      rw [show (nameL n).drop 4 = digL n from rfl, numL_dig h2]
      simp; omega
    rw [hr, h]; exact ⟨rfl, fun _ => rfl, fun e => by cases e⟩
  · rw [hf]
    refine ⟨?_, fun e => (by cases e), fun _ => rfl⟩
    unfold refIdM
    split
    · rename_i hc
      obtain ⟨c1, c2, c3⟩ := hc
      have hl : (l.drop 4).length = 8 := by rw [List.length_drop, c1]
      obtain ⟨d1, d2⟩ := digL_num hl (List.all_eq_true.1 c3)
      have he : l = nameL (numL (l.drop 4)) := by
        unfold nameL; rw [d2, ← c2, List.take_append_drop]
      show decide _ = false
      rw [decide_eq_false]
      intro h0
      exact h _ h0 d1 he
    · rfl
theorem numL_snoc (l : List UInt8) (c : UInt8) : numL (l ++ [c]) = 10 * numL l + (c.toNat - 48) := by simp [numL]
theorem numF_lt : ∀ (l : List UInt8) (a : Nat), (∀ c ∈ l, isDig c = true) → l.foldl (fun a c => 10 * a + (c.toNat - 48)) a < (a + 1) * 10 ^ l.length
  | [], a, _ => by simp
  | c :: l, a, h => by
    have ih := numF_lt l (10 * a + (c.toNat - 48)) (fun x hx => h x (List.mem_cons_of_mem _ hx))
    have h2 := h c List.mem_cons_self
    simp only [isDig, Bool.and_eq_true, decide_eq_true_eq] at h2
    rw [List.foldl_cons, List.length_cons, Nat.pow_succ]
    refine Nat.lt_of_lt_of_le ih ?_
    rw [Nat.mul_comm (10 ^ l.length) 10, ← Nat.mul_assoc]
    exact Nat.mul_le_mul_right _ (by omega)
theorem numL_lt (l : List UInt8) (h : ∀ c ∈ l, isDig c = true) : numL l < 10 ^ l.length := by
  have := numF_lt l 0 h; simpa [numL] using this
theorem preEq (s : ByteArray) : ((s.extract 0 4).toList == [115, 101, 103, 45]) = decide (s.data.toList.take 4 = [115, 101, 103, 45]) := by
  rw [Bool.eq_iff_iff, decide_eq_true_iff, beq_iff_eq, ByteArray.toList_eq, Lib.extract_data]
  simp

theorem take_at4 (s : ByteArray) (j : Nat) (h4 : 4 ≤ j) (h : j < s.size) : (s.data.toList.drop 4).take (j + 1 - 4) = (s.data.toList.drop 4).take (j - 4) ++ [s[j]] := by
  have hl : s.data.toList.length = s.size := by simp
  rw [show j + 1 - 4 = (j - 4) + 1 by omega, List.take_succ_eq_append_getElem (by rw [List.length_drop]; omega), List.getElem_drop]
  simp only [show 4 + (j - 4) = j by omega]
  rfl

set_option maxRecDepth 100000 in
set_option maxHeartbeats 1000000 in
theorem refHead_any (i : Int) (w : World) : Gives Tryz.prog 12 #[.int .i64 i] w (.string (headS (heldN i))) := by
  have HH := Lib.hid (heldN_eq2 i)
  have hb := heldN_bd i
  have G1 := Lib.hid (refFixed_any (heldN i) (by omega))
  have G2 := Lib.hid (show ∀ w, Gives Tryz.prog 35 #[.int .u32 0, .string (headA (heldN i))] w (.int .u32 (moreN 0 (headA (heldN i)))) from fun w => refmore_at 0 (by decide) (headA (heldN i)) (by rw [headA_size]; decide) w)
  have G3 := Lib.hid (refFixed_any (moreN 0 (headA (heldN i))) (moreN_lt _ _))
  have HS := Lib.hid (show headA (heldN i) ++ ⟨(eigL (moreN 0 (headA (heldN i)))).toArray⟩ = headS (heldN i) from rfl)
  have HA := Lib.hid (show (⟨#[76, 65, 68, 69]⟩ : ByteArray) ++ ⟨(eigL (heldN i)).toArray⟩ ++ ⟨#[0, 0, 0, 0]⟩ = headA (heldN i) from rfl)
  have hx1 : (1 : Int) ≤ max 1 (min i 99999999) := by omega
  have hx2 : max 1 (min i 99999999) ≤ 99999999 := by omega
  have hs1 : (((⟨(eigL (heldN i)).toArray⟩ : ByteArray).size : Nat) : Int) ≤ 4 := by show ((4 : Nat) : Int) ≤ 4; omega
  have hs2 : (((⟨(eigL (moreN 0 (headA (heldN i)))).toArray⟩ : ByteArray).size : Nat) : Int) ≤ 4 := by show ((4 : Nat) : Int) ≤ 4; omega
  have hs3 : (((headA (heldN i)).size : Nat) : Int) ≤ 12 := by rw [headA_size]; omega
  generalize headS (heldN i) = s at *
  generalize headA (heldN i) = a at *
  generalize hm : moreN 0 a = m at *
  generalize heldN i = q at *
  rw [HH.out] at G1
  generalize (⟨(eigL q).toArray⟩ : ByteArray) = e1 at *
  generalize (⟨(eigL m).toArray⟩ : ByteArray) = e2 at *
  clear hb hm
  unfold Gives
  go_enter Tryz.func12, Tryz.ntmps12
  go_wp2_with (first
    | (go_at_call 34; ((with_reducible refine (G1.out _).mono ?_); rintro e w1 ⟨rfl, hB1⟩))
    | (go_at_call 35; (rw [HA.out]; (with_reducible refine (G2.out _).mono ?_); rintro e w2 ⟨rfl, hB2⟩))
    | (go_at_call 34; ((with_reducible refine (G3.out _).mono ?_); rintro e w3 ⟨rfl, hB3⟩)))
  go_ret
  exact ⟨by rw [HS.out]; rfl, bel2 (bel2 hB1 hB2) hB3⟩

/-! ### Check -/
theorem pre_len {a b : List UInt8} (h : Lib.hasPrefix a b = true) : b.length ≤ a.length := by
  unfold Lib.hasPrefix at h; exact (List.isPrefixOf_iff_prefix.1 h).length_le
theorem hchk_bad {s h : List UInt8} (hx : s.take (min s.length h.length) ≠ h.take (min s.length h.length)) : chkM s h = 4 := by
  unfold chkM
  rw [if_neg, if_neg]
  · intro e
    obtain ⟨t, rfl⟩ := List.isPrefixOf_iff_prefix.1 e
    apply hx; simp
  · intro e
    obtain ⟨t, rfl⟩ := List.isPrefixOf_iff_prefix.1 e
    apply hx; simp
theorem hchk_torn {s h : List UInt8} (hx : s.take (min s.length h.length) = h.take (min s.length h.length)) (hl : s.length < h.length) : chkM s h = 3 := by
  rw [Nat.min_eq_left (by omega), List.take_length] at hx
  unfold chkM
  rw [if_neg, if_pos]
  · exact List.isPrefixOf_iff_prefix.2 (hx ▸ List.take_prefix _ _)
  · intro e; have := pre_len e; omega
theorem hchk_whole {s h : List UInt8} (hx : s.take (min s.length h.length) = h.take (min s.length h.length)) (hl : h.length ≤ s.length) : chkM s h = 1 := by
  rw [Nat.min_eq_right hl, List.take_length] at hx
  unfold chkM
  rw [if_pos]
  exact List.isPrefixOf_iff_prefix.2 (hx ▸ List.take_prefix _ _)
end Go.Proofs.YtoieacmipejfeaaGreatDoor
