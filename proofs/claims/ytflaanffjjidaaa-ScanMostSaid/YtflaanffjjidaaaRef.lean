/- Ref, RefGet, CodeMath: in one text. -/
import Derived.Test.YtflaanffjjidaaaKit
import Derived.Test.YtflaanffjjidaaaCode
import Derived.Test.YtflaanffjjidaaaRegion
import Derived.Test.YtflaanffjjidaaaGet
import Derived.Deep.QuietTactic
import Derived.BigQuiet
/- The contracts of the reference's functions on numbers and texts: they come to the same. -/
namespace Go.Proofs.Ytflaanffjjidaaa
open Go.RowKit Go.Shelf
set_option linter.unusedVariables false
attribute [local go_sem] Oper.semAt_some wide_fn wide_round_fn

set_option maxRecDepth 100000 in
set_option maxHeartbeats 1000000 in
theorem refPut_any (n : Int) (hn : n < 9223372036854775808) (w : World) : Gives Try.prog 44 #[.int .i64 n] w (.string ⟨(sevL n.toNat).toArray⟩) := by
  unfold Gives
  obtain ⟨q, hq⟩ : ∃ q : Nat, q = n.toNat := ⟨_, rfl⟩
  rw [← hq]
  have HQ := Lib.hid hq
  clear hq
  go_enter Try.func44, Try.ntmps44
  go_wp2
  all_goals
    go_loopw [3, 4] (fun p s wr => ∃ (pre : List UInt8) (f m : Nat), p = .int .i64 m ∧ s = .string ⟨pre.toArray⟩ ∧ sevL q = pre ++ sevF f m ∧ m < 128 ^ (f + 1) ∧ m < 9223372036854775808 ∧ Below w.heap.size w wr)
      (fun p _ _ => (intOf p).toNat)
    case atStart =>
      have := HQ.out
      exact ⟨[], 8, q, by go_num, rfl, rfl, by omega, by omega, Below.refl _ _⟩
    case round =>
      obtain ⟨pre, f, m, rfl, rfl, hx, hm, hm2, hB⟩ := hrel
      have HX := Lib.hid hx
      clear hx
      have hpl : pre.length ≤ 9 := by
        have := congrArg List.length HX.out
        have h9 := sevL_len q
        simp at this; omega
      have hps : (⟨pre.toArray⟩ : ByteArray).size = pre.length := rfl
      by_cases h128 : m < 128
      · have hc := run_string_new (P := Try.prog) wr (src := 31) (dst := 9) Try.underlying31 Try.underlying5 Try.underlying9 [UInt8.ofNat m] 1
        rw [show [UInt8.ofNat m].map vb = [Value.int .u8 m] from by simp [vb]; omega, show [UInt8.ofNat m].length = 1 from rfl] at hc
        go_wp2
        go_ret
        refine ⟨?_, hB.alloc hB.size _⟩
        rw [HX.out, show sevF f m = [UInt8.ofNat m] from by cases f <;> simp [sevF, h128], ← ba_append]
        rfl
      · obtain ⟨f, rfl⟩ : ∃ k', f = k' + 1 := by
          cases f with
          | zero => simp at hm; omega
          | succ k => exact ⟨k, rfl⟩
        have hc := run_string_new (P := Try.prog) wr (src := 31) (dst := 9) Try.underlying31 Try.underlying5 Try.underlying9 [UInt8.ofNat (m % 128 + 128)] 1
        rw [show [UInt8.ofNat (m % 128 + 128)].map vb = [Value.int .u8 (bits .or .u8 (bits .and .i64 (m : Int) 127 % 256) 128)] from by rw [seven_set m hm2]; rfl, show [UInt8.ofNat (m % 128 + 128)].length = 1 from rfl] at hc
        go_wp2
        go_roundw
        case rel =>
          refine ⟨pre ++ [UInt8.ofNat (m % 128 + 128)], f, m / 128, by go_num, by rw [← ba_append]; simp, by rw [HX.out]; simp [sevF, h128], ?_, by omega, hB.alloc hB.size _⟩
          rw [Nat.pow_succ] at hm
          omega
        case measure => simp [intOf]; omega

set_option maxRecDepth 100000 in
theorem refFixed_any (n : Nat) (hn : n < 4294967296) (w : World) : Gives Try.prog 42 #[.int .u32 n] w (.string ⟨(eigL n).toArray⟩) := by
  have hc := run_string_new (P := Try.prog) w (src := 31) (dst := 9) Try.underlying31 Try.underlying5 Try.underlying9 (eigL n) 4
  rw [show (eigL n).map vb = [Value.int .u8 ((n : Int) % 256), .int .u8 ((n : Int) / 256 % 256), .int .u8 ((n : Int) / 65536 % 256), .int .u8 ((n : Int) / 16777216)] from by simp [eigL, vb]; omega, show (eigL n).length = 4 from rfl] at hc
  unfold Gives
  go_enter Try.func42, Try.ntmps42
  go_wp2
  go_ret
  exact ⟨rfl, (Below.refl _ _).alloc (Nat.le_refl _) _⟩

theorem refText_any (s : ByteArray) (hs : s.size + 9 < 9223372036854775808) (w : World) : Gives Try.prog 73 #[.string s] w (.string (⟨(sevL s.size).toArray⟩ ++ s)) := by
  have hl := sevL_len s.size
  have hl2 : (⟨(sevL s.size).toArray⟩ : ByteArray).size = (sevL s.size).length := rfl
  unfold Gives
  go_enter Try.func73, Try.ntmps73
  go_wp2_with (go_at_call 44; refine (refPut_any _ (by omega) _).mono ?_; rintro e w' ⟨rfl, hB⟩)
  go_ret
  exact ⟨rfl, hB⟩

end Go.Proofs.Ytflaanffjjidaaa

/- The contracts of the reference's functions that read numbers and texts. -/
namespace Go.Proofs.Ytflaanffjjidaaa
open Go.RowKit Go.Shelf
set_option linter.unusedVariables false
attribute [local go_sem] Oper.semAt_some wide_fn wide_round_fn

end Go.Proofs.Ytflaanffjjidaaa

/- What was written is read: on lists of bytes alone. -/
namespace Go.Proofs.Ytflaanffjjidaaa
open Go.RowKit Go.Shelf
set_option linter.unusedVariables false

theorem toNat_ofNat_lt {n : Nat} (h : n < 256) : (UInt8.ofNat n).toNat = n := by simp; omega
theorem getA_sevF : ∀ (f q k N : Nat) (t : List UInt8), q < 128 ^ (f + 1) → k + f ≤ 8 → (0 < k → 0 < q) → getA k N (sevF f q ++ t) = (N + q * 128 ^ k, k + (sevF f q).length, 0) := by
  intro f
  induction f with
  | zero =>
    intro q k N t hq hk h0
    have hq' : q < 128 := by simpa using hq
    simp only [sevF, List.cons_append, List.nil_append, getA, toNat_ofNat_lt (show q < 256 by omega)]
    rw [if_pos hq', if_neg (by omega)]
    simp
  | succ f ih =>
    intro q k N t hq hk h0
    by_cases h : q < 128
    · simp only [sevF, if_pos h, List.cons_append, List.nil_append, getA, toNat_ofNat_lt (show q < 256 by omega)]
      rw [if_neg (by omega)]
      simp
    · simp only [sevF, if_neg h, List.cons_append, getA, toNat_ofNat_lt (show q % 128 + 128 < 256 by omega)]
      rw [if_neg (by omega), if_neg (by omega), ih (q / 128) (k + 1) _ t (by rw [Nat.pow_succ] at hq; omega) (by omega) (by omega)]
      have e : (q % 128 + 128) % 128 = q % 128 := by omega
      rw [e, Nat.pow_succ, List.length_cons]
      have e2 : q % 128 * 128 ^ k + q / 128 * (128 ^ k * 128) = q * 128 ^ k := by
        rw [← Nat.mul_assoc, Nat.mul_right_comm, ← Nat.add_mul]
        congr 1; omega
      refine Prod.ext ?_ (Prod.ext ?_ rfl)
      · dsimp only; omega
      · dsimp only; omega
theorem getL_sevL (q : Nat) (t : List UInt8) (hq : q < 9223372036854775808) : getL (sevL q ++ t) = (q, (sevL q).length, 0) := by
  have := getA_sevF 8 q 0 0 t (by rw [pow128_9]; exact hq) (by omega) (by omega)
  simpa [getL, sevL] using this
theorem sevF_pos (f q : Nat) : 0 < (sevF f q).length := by cases f <;> simp only [sevF] <;> (try split) <;> simp
theorem sevL_pos (q : Nat) : 0 < (sevL q).length := sevF_pos 8 q
theorem leN_eigL (u : Nat) (hu : u < 4294967296) : leN (eigL u) = u := by
  simp only [eigL, leN, UInt8.toNat_ofNat']
  omega
theorem ba_toList (s t : ByteArray) : (s ++ t).data.toList = s.data.toList ++ t.data.toList := by simp
theorem ba_size (s : ByteArray) : s.data.toList.length = s.size := by simp
theorem textsB_most (s t : ByteArray) (m : Int) (hm : (s.size : Int) ≤ max m 0) (hs : s.size < 9223372036854775808) : textsB (⟨(sevL s.size).toArray⟩ ++ s ++ t) m = (s, (sevL s.size).length + s.size, 0) := by
  have hg : getL (⟨(sevL s.size).toArray⟩ ++ s ++ t : ByteArray).data.toList = (s.size, (sevL s.size).length, 0) := by
    rw [ba_toList, ba_toList, List.append_assoc]; exact getL_sevL _ _ hs
  have hz : (⟨(sevL s.size).toArray⟩ ++ s ++ t : ByteArray).size = (sevL s.size).length + s.size + t.size := by
    rw [ByteArray.size_append, ByteArray.size_append]; rfl
  unfold textsB
  rw [hg, hz]
  dsimp only
  rw [if_neg (by simp), if_neg (by omega), if_neg (by omega)]
  refine Prod.ext ?_ rfl
  apply ByteArray.ext
  apply Array.toList_inj.1
  simp
  exact List.take_of_length_le (by simp)
end Go.Proofs.Ytflaanffjjidaaa
