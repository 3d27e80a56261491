/- The contracts of the reference's functions on numbers and texts: they come to the same. -/
import Derived.Test.YtieekahlknmkfaaKit
import Derived.Test.YtieekahlknmkfaaCode
import Derived.Test.YtieekahlknmkfaaRegion
import Derived.Test.YtieekahlknmkfaaRead
import Derived.Deep.QuietTactic
import Derived.BigQuiet
namespace Go.Proofs.Ytieekahlknmkfaa
open Go.RowKit Go.Shelf
set_option linter.unusedVariables false
attribute [local go_sem] Oper.semAt_some wide_fn wide_round_fn

set_option maxRecDepth 100000 in
set_option maxHeartbeats 1000000 in
theorem refPut_any (n : Int) (hn : n < 9223372036854775808) (w : World) : Gives Try.prog 69 #[.int .i64 n] w (.string ⟨(sevL n.toNat).toArray⟩) := by
  unfold Gives
  obtain ⟨q, hq⟩ : ∃ q : Nat, q = n.toNat := ⟨_, rfl⟩
  rw [← hq]
  have HQ := Lib.hid hq
  clear hq
  go_enter Try.func69, Try.ntmps69
  go_wp2
  all_goals
    go_loopw [3, 4] (fun p s wr => ∃ (pre : List UInt8) (f m : Nat), p = .int .i64 m ∧ s = .string ⟨pre.toArray⟩ ∧ sevL q = pre ++ sevF f m ∧ m < 128 ^ (f + 1) ∧ m < 9223372036854775808 ∧ Below w.heap.size w wr)
      (fun p _ _ => (intOf p).toNat)
    case atStart =>
      have := HQ.out
      exact ⟨[], 8, q, by go_num, rfl, rfl, by omega, by omega, Below.refl _ _⟩
    case round =>
      obtain ⟨pre, f, m, rfl, rfl, hx, hm, hm2, hB⟩ := hrel
      have HX := Lib.hid hx
      clear hx
      have hpl : pre.length ≤ 9 := by
        have := congrArg List.length HX.out
        have h9 := sevL_len q
        simp at this; omega
      have hps : (⟨pre.toArray⟩ : ByteArray).size = pre.length := rfl
      by_cases h128 : m < 128
      · have hc := run_string_new (P := Try.prog) wr (src := 64) (dst := 9) Try.underlying64 Try.underlying5 Try.underlying9 [UInt8.ofNat m] 1
        rw [show [UInt8.ofNat m].map vb = [Value.int .u8 m] from by simp [vb]; omega, show [UInt8.ofNat m].length = 1 from rfl] at hc
        go_wp2
        go_ret
        refine ⟨?_, hB.alloc hB.size _⟩
        rw [HX.out, show sevF f m = [UInt8.ofNat m] from by cases f <;> simp [sevF, h128], ← ba_append]
        rfl
      · obtain ⟨f, rfl⟩ : ∃ k', f = k' + 1 := by
          cases f with
          | zero => simp at hm; omega
          | succ k => exact ⟨k, rfl⟩
        have hc := run_string_new (P := Try.prog) wr (src := 64) (dst := 9) Try.underlying64 Try.underlying5 Try.underlying9 [UInt8.ofNat (m % 128 + 128)] 1
        rw [show [UInt8.ofNat (m % 128 + 128)].map vb = [Value.int .u8 (bits .or .u8 (bits .and .i64 (m : Int) 127 % 256) 128)] from by rw [seven_set m hm2]; rfl, show [UInt8.ofNat (m % 128 + 128)].length = 1 from rfl] at hc
        go_wp2
        go_roundw
        case rel =>
          refine ⟨pre ++ [UInt8.ofNat (m % 128 + 128)], f, m / 128, by go_num, by rw [← ba_append]; simp, by rw [HX.out]; simp [sevF, h128], ?_, by omega, hB.alloc hB.size _⟩
          rw [Nat.pow_succ] at hm
          omega
        case measure => simp [intOf]; omega

set_option maxRecDepth 100000 in
theorem refFixed_any (n : Nat) (hn : n < 4294967296) (w : World) : Gives Try.prog 70 #[.int .u32 n] w (.string ⟨(eigL n).toArray⟩) := by
  have hc := run_string_new (P := Try.prog) w (src := 64) (dst := 9) Try.underlying64 Try.underlying5 Try.underlying9 (eigL n) 4
  rw [show (eigL n).map vb = [Value.int .u8 ((n : Int) % 256), .int .u8 ((n : Int) / 256 % 256), .int .u8 ((n : Int) / 65536 % 256), .int .u8 ((n : Int) / 16777216)] from by simp [eigL, vb]; omega, show (eigL n).length = 4 from rfl] at hc
  unfold Gives
  go_enter Try.func70, Try.ntmps70
  go_wp2
  go_ret
  exact ⟨rfl, (Below.refl _ _).alloc (Nat.le_refl _) _⟩

end Go.Proofs.Ytieekahlknmkfaa
