/- Ref, RefGet, CodeMath: in one text. -/
import Derived.Test.YtoieacmipejfeaaGreatDoorKit
import Derived.Test.YtoieacmipejfeaaGreatDoorCode
import Derived.Test.YtoieacmipejfeaaGreatDoorRegion
import Derived.Test.YtoieacmipejfeaaGreatDoorGet
import Derived.Deep.QuietTactic
import Derived.BigQuiet
/- The contracts of the reference's functions on numbers and texts: they come to the same. -/
namespace Go.Proofs.YtoieacmipejfeaaGreatDoor
open Go.RowKit Go.Shelf
set_option linter.unusedVariables false
attribute [local go_sem] Oper.semAt_some wide_fn wide_round_fn

set_option maxRecDepth 100000 in
set_option maxHeartbeats 1000000 in
theorem refPut_any (n : Int) (hn : n < 9223372036854775808) (w : World) : Gives Tryz.prog 65 #[.int .i64 n] w (.string ⟨(sevL n.toNat).toArray⟩) := by
  unfold Gives
  obtain ⟨q, hq⟩ : ∃ q : Nat, q = n.toNat := ⟨_, rfl⟩
  rw [← hq]
  have HQ := Lib.hid hq
  clear hq
  go_enter Tryz.func65, Tryz.ntmps65
  go_wp2
  all_goals
    go_loopw [3, 4] (fun p s wr => ∃ (pre : List UInt8) (f m : Nat), p = .int .i64 m ∧ s = .string ⟨pre.toArray⟩ ∧ sevL q = pre ++ sevF f m ∧ m < 128 ^ (f + 1) ∧ m < 9223372036854775808 ∧ Below w.heap.size w wr)
      (fun p _ _ => (intOf p).toNat)
    case atStart =>
      have := HQ.out
      exact ⟨[], 8, q, by go_num, rfl, rfl, by omega, by omega, Below.refl _ _⟩
    case round =>
      obtain ⟨pre, f, m, rfl, rfl, hx, hm, hm2, hB⟩ := hrel
      have HX := Lib.hid hx
      clear hx
      have hpl : pre.length ≤ 9 := by
        have := congrArg List.length HX.out
        have h9 := sevL_len q
        simp at this; omega
      have hps : (⟨pre.toArray⟩ : ByteArray).size = pre.length := rfl
      by_cases h128 : m < 128
      · have hc := run_string_new (P := Tryz.prog) wr (src := 55) (dst := 9) Tryz.underlying55 Tryz.underlying5 Tryz.underlying9 [UInt8.ofNat m] 1
        rw [show [UInt8.ofNat m].map vb = [Value.int .u8 m] from by simp [vb]; omega, show [UInt8.ofNat m].length = 1 from rfl] at hc
        go_wp2
        go_ret
        refine ⟨?_, hB.alloc hB.size _⟩
        rw [HX.out, show sevF f m = [UInt8.ofNat m] from by cases f <;> simp [sevF, h128], ← ba_append]
        rfl
      · obtain ⟨f, rfl⟩ : ∃ k', f = k' + 1 := by
          cases f with
          | zero => simp at hm; omega
          | succ k => exact ⟨k, rfl⟩
        have hc := run_string_new (P := Tryz.prog) wr (src := 55) (dst := 9) Tryz.underlying55 Tryz.underlying5 Tryz.underlying9 [UInt8.ofNat (m % 128 + 128)] 1
        rw [show [UInt8.ofNat (m % 128 + 128)].map vb = [Value.int .u8 (bits .or .u8 (bits .and .i64 (m : Int) 127 % 256) 128)] from by rw [seven_set m hm2]; rfl, show [UInt8.ofNat (m % 128 + 128)].length = 1 from rfl] at hc
        go_wp2
        go_roundw
        case rel =>
          refine ⟨pre ++ [UInt8.ofNat (m % 128 + 128)], f, m / 128, by go_num, by rw [← ba_append]; simp, by rw [HX.out]; simp [sevF, h128], ?_, by omega, hB.alloc hB.size _⟩
          rw [Nat.pow_succ] at hm
          omega
        case measure => simp [intOf]; omega

set_option maxRecDepth 100000 in
theorem refFixed_any (n : Nat) (hn : n < 4294967296) (w : World) : Gives Tryz.prog 34 #[.int .u32 n] w (.string ⟨(eigL n).toArray⟩) := by
  have hc := run_string_new (P := Tryz.prog) w (src := 55) (dst := 9) Tryz.underlying55 Tryz.underlying5 Tryz.underlying9 (eigL n) 4
  rw [show (eigL n).map vb = [Value.int .u8 ((n : Int) % 256), .int .u8 ((n : Int) / 256 % 256), .int .u8 ((n : Int) / 65536 % 256), .int .u8 ((n : Int) / 16777216)] from by simp [eigL, vb]; omega, show (eigL n).length = 4 from rfl] at hc
  unfold Gives
  go_enter Tryz.func34, Tryz.ntmps34
  go_wp2
  go_ret
  exact ⟨rfl, (Below.refl _ _).alloc (Nat.le_refl _) _⟩

end Go.Proofs.YtoieacmipejfeaaGreatDoor

/- The contracts of the reference's functions that read numbers and texts. -/
namespace Go.Proofs.YtoieacmipejfeaaGreatDoor
open Go.RowKit Go.Shelf
set_option linter.unusedVariables false
attribute [local go_sem] Oper.semAt_some wide_fn wide_round_fn

set_option maxRecDepth 100000 in
set_option maxHeartbeats 1000000 in
theorem refGet_any (s : ByteArray) (hm : s.size < 9223372036854775808) (w : World) : Gives Tryz.prog 52 #[.string s] w (.tuple #[.int .i64 (getL s.data.toList).1, .int .i64 (getL s.data.toList).2.1, .int .i64 (getL s.data.toList).2.2]) := by
  unfold Gives
  go_enter Tryz.func52, Tryz.ntmps52
  go_wp2
  go_loop [5, 6] (fun n i => ∃ (k N : Nat), i = .int .i64 k ∧ n = .int .i64 N ∧ getL s.data.toList = getA k N (s.data.toList.drop k) ∧ N < 128 ^ k ∧ k ≤ 8 ∧ k ≤ s.size)
    (fun _ i => s.size - (intOf i).toNat)
  case atStart => exact ⟨0, 0, rfl, rfl, by simp [getL], by simp, by simp, by simp⟩
  case round =>
    obtain ⟨k, N, rfl, rfl, hg, hN, hk, hks⟩ := hrel
    have Hg := Lib.hid hg
    clear hg
    have hsl : s.data.toList.length = s.size := by simp
    by_cases hlt : k < s.size
    · have hd := Lib.hid (show s.data.toList.drop k = s[k] :: s.data.toList.drop (k + 1) by
        rw [← List.getElem_cons_drop (by omega)]; simp; rfl)
      have hc0 := (s[k]).toNat_lt
      by_cases hc1 : s[k].toNat < 128
      · by_cases hc2 : s[k].toNat = 0 ∧ 0 < k
        · have hv := Lib.hid (show getL s.data.toList = (0, 0, 11) by rw [Hg.out, hd.out]; simp [getA, hc2])
          by_cases hk8 : k = 8
          · subst hk8
            obtain ⟨hz, hkp⟩ := hc2
            go_wp2
            go_ret3
            exact ⟨by rw [hv.out]; rfl, Below.refl _ _⟩
          · obtain ⟨hz, hkp⟩ := hc2
            go_wp2
            go_ret3
            exact ⟨by rw [hv.out]; rfl, Below.refl _ _⟩
        · have hv := Lib.hid (show getL s.data.toList = (N + s[k].toNat * 128 ^ k, k + 1, 0) by rw [Hg.out, hd.out]; simp [getA, hc1, hc2])
          have hmd := Lib.hid (show N + s[k].toNat % 128 * 128 ^ k = N + s[k].toNat * 128 ^ k by rw [Nat.mod_eq_of_lt hc1])
          by_cases hk8 : k = 8
          · subst hk8
            have hz : 0 < s[8].toNat := by omega
            clear hc2
            go_wp2
            go_ret3
            exact ⟨by rw [hv.out, ← hmd.out]; exact ret3_eq (or_seven_w8 hN hc0) rfl rfl, Below.refl _ _⟩
          · by_cases hz : 0 < s[k].toNat
            · clear hc2
              go_wp2
              go_ret3
              exact ⟨by rw [hv.out, ← hmd.out]; exact ret3_eq (or_seven_w hN hc0 hk) (by push_cast; rfl) rfl, Below.refl _ _⟩
            · obtain rfl : k = 0 := by omega
              have hz0 : s[0].toNat = 0 := by omega
              clear hc2 hz
              go_wp2
              go_ret3
              have := or_seven_w0 (c := s[0].toNat) hN hc0
              rw [hz0] at this
              exact ⟨by rw [hv.out, ← hmd.out]; exact ret3_eq (by rw [hz0]; exact this) rfl rfl, Below.refl _ _⟩
      · by_cases hc8 : k = 8
        · have hv := Lib.hid (show getL s.data.toList = (0, 0, 11) by rw [Hg.out, hd.out]; simp only [getA, if_neg hc1, if_pos hc8])
          have h8 : 8 ≤ k := by omega
          clear hc8
          go_wp2
          go_ret3
          exact ⟨by rw [hv.out]; rfl, Below.refl _ _⟩
        · have hv := Lib.hid (show getL s.data.toList = getA (k + 1) (N + s[k].toNat % 128 * 128 ^ k) (s.data.toList.drop (k + 1)) by rw [Hg.out, hd.out]; simp [getA, hc1, hc8])
          go_wp2
          go_round
          case rel =>
            refine ⟨k + 1, _, by go_num, by rw [or_seven_w hN hc0 hk], hv.out, ?_, by omega, by omega⟩
            have hp := pow128_le hk
            have hm' : s[k].toNat % 128 < 128 := Nat.mod_lt _ (by decide)
            have : s[k].toNat % 128 * 128 ^ k ≤ 127 * 128 ^ k := Nat.mul_le_mul_right _ (by omega)
            rw [Nat.pow_succ]; omega
          case measure => simp [intOf]; omega
    · have hv := Lib.hid (show getL s.data.toList = (0, 0, 10) by rw [Hg.out, List.drop_of_length_le (by omega)]; simp [getA])
      go_wp2
      go_ret3
      exact ⟨by rw [hv.out]; rfl, Below.refl _ _⟩

end Go.Proofs.YtoieacmipejfeaaGreatDoor

/- What was written is read: on lists of bytes alone. -/
namespace Go.Proofs.YtoieacmipejfeaaGreatDoor
open Go.RowKit Go.Shelf
set_option linter.unusedVariables false

theorem toNat_ofNat_lt {n : Nat} (h : n < 256) : (UInt8.ofNat n).toNat = n := by simp; omega
theorem getA_sevF : ∀ (f q k N : Nat) (t : List UInt8), q < 128 ^ (f + 1) → k + f ≤ 8 → (0 < k → 0 < q) → getA k N (sevF f q ++ t) = (N + q * 128 ^ k, k + (sevF f q).length, 0) := by
  intro f
  induction f with
  | zero =>
    intro q k N t hq hk h0
    have hq' : q < 128 := by simpa using hq
    simp only [sevF, List.cons_append, List.nil_append, getA, toNat_ofNat_lt (show q < 256 by omega)]
    rw [if_pos hq', if_neg (by omega)]
    simp
  | succ f ih =>
    intro q k N t hq hk h0
    by_cases h : q < 128
    · simp only [sevF, if_pos h, List.cons_append, List.nil_append, getA, toNat_ofNat_lt (show q < 256 by omega)]
      rw [if_neg (by omega)]
      simp
    · simp only [sevF, if_neg h, List.cons_append, getA, toNat_ofNat_lt (show q % 128 + 128 < 256 by omega)]
      rw [if_neg (by omega), if_neg (by omega), ih (q / 128) (k + 1) _ t (by rw [Nat.pow_succ] at hq; omega) (by omega) (by omega)]
      have e : (q % 128 + 128) % 128 = q % 128 := by omega
      rw [e, Nat.pow_succ, List.length_cons]
      have e2 : q % 128 * 128 ^ k + q / 128 * (128 ^ k * 128) = q * 128 ^ k := by
        rw [← Nat.mul_assoc, Nat.mul_right_comm, ← Nat.add_mul]
        congr 1; omega
      refine Prod.ext ?_ (Prod.ext ?_ rfl)
      · dsimp only; omega
      · dsimp only; omega
theorem getL_sevL (q : Nat) (t : List UInt8) (hq : q < 9223372036854775808) : getL (sevL q ++ t) = (q, (sevL q).length, 0) := by
  have := getA_sevF 8 q 0 0 t (by rw [pow128_9]; exact hq) (by omega) (by omega)
  simpa [getL, sevL] using this
theorem getA_short : ∀ (f q k N j : Nat), q < 128 ^ (f + 1) → k + f ≤ 8 → j < (sevF f q).length → getA k N ((sevF f q).take j) = (0, 0, 10) := by
  intro f
  induction f with
  | zero =>
    intro q k N j hq hk hj
    obtain rfl : j = 0 := by simp [sevF] at hj; omega
    simp [getA]
  | succ f ih =>
    intro q k N j hq hk hj
    by_cases h : q < 128
    · obtain rfl : j = 0 := by simp [sevF, h] at hj; omega
      simp [getA]
    · cases j with
      | zero => simp [getA]
      | succ j =>
        simp only [sevF, if_neg h, List.length_cons] at hj
        simp only [sevF, if_neg h, List.take_succ_cons, getA, toNat_ofNat_lt (show q % 128 + 128 < 256 by omega)]
        rw [if_neg (by omega), if_neg (by omega)]
        exact ih (q / 128) (k + 1) _ j (by rw [Nat.pow_succ] at hq; omega) (by omega) (by omega)
theorem getL_short (q j : Nat) (hq : q < 9223372036854775808) (hj : j < (sevL q).length) : getL ((sevL q).take j) = (0, 0, 10) :=
  getA_short 8 q 0 0 j (by rw [pow128_9]; exact hq) (by omega) hj
theorem sevF_pos (f q : Nat) : 0 < (sevF f q).length := by cases f <;> simp only [sevF] <;> (try split) <;> simp
theorem sevL_pos (q : Nat) : 0 < (sevL q).length := sevF_pos 8 q
theorem leN_eigL (u : Nat) (hu : u < 4294967296) : leN (eigL u) = u := by
  simp only [eigL, leN, UInt8.toNat_ofNat']
  omega
theorem ba_toList (s t : ByteArray) : (s ++ t).data.toList = s.data.toList ++ t.data.toList := by simp
theorem ba_size (s : ByteArray) : s.data.toList.length = s.size := by simp
theorem textsB_most (s t : ByteArray) (m : Int) (hm : (s.size : Int) ≤ max m 0) (hs : s.size < 9223372036854775808) : textsB (⟨(sevL s.size).toArray⟩ ++ s ++ t) m = (s, (sevL s.size).length + s.size, 0) := by
  have hg : getL (⟨(sevL s.size).toArray⟩ ++ s ++ t : ByteArray).data.toList = (s.size, (sevL s.size).length, 0) := by
    rw [ba_toList, ba_toList, List.append_assoc]; exact getL_sevL _ _ hs
  have hz : (⟨(sevL s.size).toArray⟩ ++ s ++ t : ByteArray).size = (sevL s.size).length + s.size + t.size := by
    rw [ByteArray.size_append, ByteArray.size_append]; rfl
  unfold textsB
  rw [hg, hz]
  dsimp only
  rw [if_neg (by simp), if_neg (by omega), if_neg (by omega)]
  refine Prod.ext ?_ rfl
  apply ByteArray.ext
  apply Array.toList_inj.1
  simp
  exact List.take_of_length_le (by simp)
theorem textsB_text (s t : ByteArray) (hs : s.size < 9223372036854775808) : textsB (⟨(sevL s.size).toArray⟩ ++ s ++ t) s.size = (s, (sevL s.size).length + s.size, 0) := textsB_most s t s.size (by omega) hs
theorem textsB_large (s t : ByteArray) (m : Int) (hs : s.size < 9223372036854775808) (hm : max m 0 < (s.size : Int)) : textsB (⟨(sevL s.size).toArray⟩ ++ s ++ t) m = (⟨#[]⟩, 0, 12) := by
  have hg : getL (⟨(sevL s.size).toArray⟩ ++ s ++ t : ByteArray).data.toList = (s.size, (sevL s.size).length, 0) := by
    rw [ba_toList, ba_toList, List.append_assoc]; exact getL_sevL _ _ hs
  unfold textsB
  rw [hg]
  dsimp only
  rw [if_neg (by simp), if_pos hm]

end Go.Proofs.YtoieacmipejfeaaGreatDoor
