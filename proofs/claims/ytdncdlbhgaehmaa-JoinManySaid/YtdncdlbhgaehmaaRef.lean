/- Ref, RefGet, CodeMath: in one text. -/
import Derived.Test.YtdncdlbhgaehmaaKit
import Derived.Test.YtdncdlbhgaehmaaCode
import Derived.Test.YtdncdlbhgaehmaaRegion
import Derived.Test.YtdncdlbhgaehmaaGet
import Derived.Deep.QuietTactic
import Derived.BigQuiet
/- The contracts of the reference's functions on numbers and texts: they come to the same. -/
namespace Go.Proofs.Ytdncdlbhgaehmaa
open Go.RowKit Go.Shelf
set_option linter.unusedVariables false
attribute [local go_sem] Oper.semAt_some wide_fn wide_round_fn

end Go.Proofs.Ytdncdlbhgaehmaa

/- The contracts of the reference's functions that read numbers and texts. -/
namespace Go.Proofs.Ytdncdlbhgaehmaa
open Go.RowKit Go.Shelf
set_option linter.unusedVariables false
attribute [local go_sem] Oper.semAt_some wide_fn wide_round_fn

end Go.Proofs.Ytdncdlbhgaehmaa

/- What was written is read: on lists of bytes alone. -/
namespace Go.Proofs.Ytdncdlbhgaehmaa
open Go.RowKit Go.Shelf
set_option linter.unusedVariables false

theorem toNat_ofNat_lt {n : Nat} (h : n < 256) : (UInt8.ofNat n).toNat = n := by simp; omega
theorem getA_sevF : ∀ (f q k N : Nat) (t : List UInt8), q < 128 ^ (f + 1) → k + f ≤ 8 → (0 < k → 0 < q) → getA k N (sevF f q ++ t) = (N + q * 128 ^ k, k + (sevF f q).length, 0) := by
  intro f
  induction f with
  | zero =>
    intro q k N t hq hk h0
    have hq' : q < 128 := by simpa using hq
    simp only [sevF, List.cons_append, List.nil_append, getA, toNat_ofNat_lt (show q < 256 by omega)]
    rw [if_pos hq', if_neg (by omega)]
    simp
  | succ f ih =>
    intro q k N t hq hk h0
    by_cases h : q < 128
    · simp only [sevF, if_pos h, List.cons_append, List.nil_append, getA, toNat_ofNat_lt (show q < 256 by omega)]
      rw [if_neg (by omega)]
      simp
    · simp only [sevF, if_neg h, List.cons_append, getA, toNat_ofNat_lt (show q % 128 + 128 < 256 by omega)]
      rw [if_neg (by omega), if_neg (by omega), ih (q / 128) (k + 1) _ t (by rw [Nat.pow_succ] at hq; omega) (by omega) (by omega)]
      have e : (q % 128 + 128) % 128 = q % 128 := by omega
      rw [e, Nat.pow_succ, List.length_cons]
      have e2 : q % 128 * 128 ^ k + q / 128 * (128 ^ k * 128) = q * 128 ^ k := by
        rw [← Nat.mul_assoc, Nat.mul_right_comm, ← Nat.add_mul]
        congr 1; omega
      refine Prod.ext ?_ (Prod.ext ?_ rfl)
      · dsimp only; omega
      · dsimp only; omega
theorem getL_sevL (q : Nat) (t : List UInt8) (hq : q < 9223372036854775808) : getL (sevL q ++ t) = (q, (sevL q).length, 0) := by
  have := getA_sevF 8 q 0 0 t (by rw [pow128_9]; exact hq) (by omega) (by omega)
  simpa [getL, sevL] using this
theorem getA_short : ∀ (f q k N j : Nat), q < 128 ^ (f + 1) → k + f ≤ 8 → j < (sevF f q).length → getA k N ((sevF f q).take j) = (0, 0, 10) := by
  intro f
  induction f with
  | zero =>
    intro q k N j hq hk hj
    obtain rfl : j = 0 := by simp [sevF] at hj; omega
    simp [getA]
  | succ f ih =>
    intro q k N j hq hk hj
    by_cases h : q < 128
    · obtain rfl : j = 0 := by simp [sevF, h] at hj; omega
      simp [getA]
    · cases j with
      | zero => simp [getA]
      | succ j =>
        simp only [sevF, if_neg h, List.length_cons] at hj
        simp only [sevF, if_neg h, List.take_succ_cons, getA, toNat_ofNat_lt (show q % 128 + 128 < 256 by omega)]
        rw [if_neg (by omega), if_neg (by omega)]
        exact ih (q / 128) (k + 1) _ j (by rw [Nat.pow_succ] at hq; omega) (by omega) (by omega)
theorem getL_short (q j : Nat) (hq : q < 9223372036854775808) (hj : j < (sevL q).length) : getL ((sevL q).take j) = (0, 0, 10) :=
  getA_short 8 q 0 0 j (by rw [pow128_9]; exact hq) (by omega) hj
theorem sevF_pos (f q : Nat) : 0 < (sevF f q).length := by cases f <;> simp only [sevF] <;> (try split) <;> simp
theorem sevL_pos (q : Nat) : 0 < (sevL q).length := sevF_pos 8 q
theorem leN_eigL (u : Nat) (hu : u < 4294967296) : leN (eigL u) = u := by
  simp only [eigL, leN, UInt8.toNat_ofNat']
  omega
theorem ba_toList (s t : ByteArray) : (s ++ t).data.toList = s.data.toList ++ t.data.toList := by simp
theorem ba_size (s : ByteArray) : s.data.toList.length = s.size := by simp
theorem textsB_most (s t : ByteArray) (m : Int) (hm : (s.size : Int) ≤ max m 0) (hs : s.size < 9223372036854775808) : textsB (⟨(sevL s.size).toArray⟩ ++ s ++ t) m = (s, (sevL s.size).length + s.size, 0) := by
  have hg : getL (⟨(sevL s.size).toArray⟩ ++ s ++ t : ByteArray).data.toList = (s.size, (sevL s.size).length, 0) := by
    rw [ba_toList, ba_toList, List.append_assoc]; exact getL_sevL _ _ hs
  have hz : (⟨(sevL s.size).toArray⟩ ++ s ++ t : ByteArray).size = (sevL s.size).length + s.size + t.size := by
    rw [ByteArray.size_append, ByteArray.size_append]; rfl
  unfold textsB
  rw [hg, hz]
  dsimp only
  rw [if_neg (by simp), if_neg (by omega), if_neg (by omega)]
  refine Prod.ext ?_ rfl
  apply ByteArray.ext
  apply Array.toList_inj.1
  simp
  exact List.take_of_length_le (by simp)
theorem textsB_text (s t : ByteArray) (hs : s.size < 9223372036854775808) : textsB (⟨(sevL s.size).toArray⟩ ++ s ++ t) s.size = (s, (sevL s.size).length + s.size, 0) := textsB_most s t s.size (by omega) hs
theorem textsB_large (s t : ByteArray) (m : Int) (hs : s.size < 9223372036854775808) (hm : max m 0 < (s.size : Int)) : textsB (⟨(sevL s.size).toArray⟩ ++ s ++ t) m = (⟨#[]⟩, 0, 12) := by
  have hg : getL (⟨(sevL s.size).toArray⟩ ++ s ++ t : ByteArray).data.toList = (s.size, (sevL s.size).length, 0) := by
    rw [ba_toList, ba_toList, List.append_assoc]; exact getL_sevL _ _ hs
  unfold textsB
  rw [hg]
  dsimp only
  rw [if_neg (by simp), if_pos hm]

end Go.Proofs.Ytdncdlbhgaehmaa
