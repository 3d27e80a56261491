/- The contracts of the reference's functions that read numbers and texts. -/
import Derived.Test.YtieekahlknmkfaaKit
import Derived.Test.YtieekahlknmkfaaCode
import Derived.Test.YtieekahlknmkfaaRegion
import Derived.Test.YtieekahlknmkfaaRef
import Derived.Deep.QuietTactic
import Derived.BigQuiet
namespace Go.Proofs.Ytieekahlknmkfaa
open Go.RowKit Go.Shelf
set_option linter.unusedVariables false
attribute [local go_sem] Oper.semAt_some wide_fn wide_round_fn

set_option maxRecDepth 100000 in
set_option maxHeartbeats 1000000 in
theorem refGet_any (s : ByteArray) (hm : s.size < 9223372036854775808) (w : World) : Gives Try.prog 84 #[.string s] w (.tuple #[.int .i64 (getL s.data.toList).1, .int .i64 (getL s.data.toList).2.1, .int .i64 (getL s.data.toList).2.2]) := by
  unfold Gives
  go_enter Try.func84, Try.ntmps84
  go_wp2
  go_loop [5, 6] (fun n i => ∃ (k N : Nat), i = .int .i64 k ∧ n = .int .i64 N ∧ getL s.data.toList = getA k N (s.data.toList.drop k) ∧ N < 128 ^ k ∧ k ≤ 8 ∧ k ≤ s.size)
    (fun _ i => s.size - (intOf i).toNat)
  case atStart => exact ⟨0, 0, rfl, rfl, by simp [getL], by simp, by simp, by simp⟩
  case round =>
    obtain ⟨k, N, rfl, rfl, hg, hN, hk, hks⟩ := hrel
    have Hg := Lib.hid hg
    clear hg
    have hsl : s.data.toList.length = s.size := by simp
    by_cases hlt : k < s.size
    · have hd := Lib.hid (show s.data.toList.drop k = s[k] :: s.data.toList.drop (k + 1) by
        rw [← List.getElem_cons_drop (by omega)]; simp; rfl)
      have hc0 := (s[k]).toNat_lt
      by_cases hc1 : s[k].toNat < 128
      · by_cases hc2 : s[k].toNat = 0 ∧ 0 < k
        · have hv := Lib.hid (show getL s.data.toList = (0, 0, 11) by rw [Hg.out, hd.out]; simp [getA, hc2])
          by_cases hk8 : k = 8
          · subst hk8
            obtain ⟨hz, hkp⟩ := hc2
            go_wp2
            go_ret3
            exact ⟨by rw [hv.out]; rfl, Below.refl _ _⟩
          · obtain ⟨hz, hkp⟩ := hc2
            go_wp2
            go_ret3
            exact ⟨by rw [hv.out]; rfl, Below.refl _ _⟩
        · have hv := Lib.hid (show getL s.data.toList = (N + s[k].toNat * 128 ^ k, k + 1, 0) by rw [Hg.out, hd.out]; simp [getA, hc1, hc2])
          have hmd := Lib.hid (show N + s[k].toNat % 128 * 128 ^ k = N + s[k].toNat * 128 ^ k by rw [Nat.mod_eq_of_lt hc1])
          by_cases hk8 : k = 8
          · subst hk8
            have hz : 0 < s[8].toNat := by omega
            clear hc2
            go_wp2
            go_ret3
            exact ⟨by rw [hv.out, ← hmd.out]; exact ret3_eq (or_seven_w8 hN hc0) rfl rfl, Below.refl _ _⟩
          · by_cases hz : 0 < s[k].toNat
            · clear hc2
              go_wp2
              go_ret3
              exact ⟨by rw [hv.out, ← hmd.out]; exact ret3_eq (or_seven_w hN hc0 hk) (by push_cast; rfl) rfl, Below.refl _ _⟩
            · obtain rfl : k = 0 := by omega
              have hz0 : s[0].toNat = 0 := by omega
              clear hc2 hz
              go_wp2
              go_ret3
              have := or_seven_w0 (c := s[0].toNat) hN hc0
              rw [hz0] at this
              exact ⟨by rw [hv.out, ← hmd.out]; exact ret3_eq (by rw [hz0]; exact this) rfl rfl, Below.refl _ _⟩
      · by_cases hc8 : k = 8
        · have hv := Lib.hid (show getL s.data.toList = (0, 0, 11) by rw [Hg.out, hd.out]; simp only [getA, if_neg hc1, if_pos hc8])
          have h8 : 8 ≤ k := by omega
          clear hc8
          go_wp2
          go_ret3
          exact ⟨by rw [hv.out]; rfl, Below.refl _ _⟩
        · have hv := Lib.hid (show getL s.data.toList = getA (k + 1) (N + s[k].toNat % 128 * 128 ^ k) (s.data.toList.drop (k + 1)) by rw [Hg.out, hd.out]; simp [getA, hc1, hc8])
          go_wp2
          go_round
          case rel =>
            refine ⟨k + 1, _, by go_num, by rw [or_seven_w hN hc0 hk], hv.out, ?_, by omega, by omega⟩
            have hp := pow128_le hk
            have hm' : s[k].toNat % 128 < 128 := Nat.mod_lt _ (by decide)
            have : s[k].toNat % 128 * 128 ^ k ≤ 127 * 128 ^ k := Nat.mul_le_mul_right _ (by omega)
            rw [Nat.pow_succ]; omega
          case measure => simp [intOf]; omega
    · have hv := Lib.hid (show getL s.data.toList = (0, 0, 10) by rw [Hg.out, List.drop_of_length_le (by omega)]; simp [getA])
      go_wp2
      go_ret3
      exact ⟨by rw [hv.out]; rfl, Below.refl _ _⟩

end Go.Proofs.Ytieekahlknmkfaa
