/- Rising numbers as plain data: a sheet; with two swapped it is none. -/
import Derived.Test.YtieekahlknmkfaaShtK
namespace Go.Proofs.Ytieekahlknmkfaa
open Go.RowKit Go.Shelf
set_option linter.unusedVariables false

/-- n numbers from a on, each two more. -/
def rng (a : Int) : Nat → List Int
  | 0 => []
  | n + 1 => rng a n ++ [a + 2 * n]
theorem rng_len (a : Int) : ∀ n, (rng a n).length = n
  | 0 => rfl
  | n + 1 => by show (rng a n ++ [_]).length = _; rw [List.length_append, rng_len a n]; rfl
theorem rng_mem (a : Int) : ∀ n, ∀ x ∈ rng a n, a ≤ x ∧ x < a + 2 * n
  | 0, x, h => by cases h
  | n + 1, x, h => by
    rcases List.mem_append.1 h with h | h
    · have := rng_mem a n x h; omega
    · rw [List.mem_singleton.1 h]; omega
theorem isA_app : ∀ (l : List Int) (b x : Int), isA b l = true → b < x → (∀ y ∈ l, y < x) → x ≤ 99999999 → isA b (l ++ [x]) = true
  | [], b, x, _, h, _, hx => by simp [isA, h, hx]
  | y :: r, b, x, h, hb, hm, hx => by
    simp only [isA, Bool.and_eq_true, decide_eq_true_eq] at h
    show (decide (b < y) && decide (y ≤ 99999999) && isA y (r ++ [x])) = true
    rw [isA_app r y x h.2 (hm y List.mem_cons_self) (fun z hz => hm z (List.mem_cons_of_mem _ hz)) hx]
    simp [h.1.1, h.1.2]
theorem rng_isA {a b : Int} (hb : b < a) : ∀ n : Nat, a + 2 * n ≤ 99999999 → isA b (rng a n) = true
  | 0, _ => rfl
  | n + 1, h => by
    refine isA_app _ _ _ (rng_isA hb n (by omega)) (by omega) (fun y hy => ?_) (by omega)
    have := rng_mem a n y hy; omega
theorem rng_shB {a : Int} (ha : 0 < a) {n : Nat} (h1 : 1 ≤ n) (h : n ≤ 200) (hb : a + 2 * n ≤ 99999999) : shB (rng a n) = true := by
  unfold shB
  rw [rng_isA ha n hb, rng_len]
  simp [h1, h]
theorem rng_big (a : Int) {n : Nat} (h : 200 < n) : shB (rng a n) = false := by
  unfold shB
  rw [rng_len, show decide (n ≤ 200) = false by simp; omega]
  simp
theorem rng_get (a : Int) : ∀ (n i : Nat) (h : i < (rng a n).length), (rng a n)[i] = a + 2 * i
  | 0, i, h => by cases h
  | n + 1, i, h => by
    have hl := rng_len a n
    have h' : i < n + 1 := by rw [rng_len] at h; exact h
    by_cases e : i < n
    · rw [show (rng a (n + 1))[i] = (rng a n)[i]'(by omega) from List.getElem_append_left (by omega)]
      exact rng_get a n i _
    · obtain rfl : i = n := by omega
      rw [show (rng a (i + 1))[i] = [a + 2 * (i : Int)][i - (rng a i).length]'(by simp [hl]) from List.getElem_append_right (by omega)]
      simp [hl]
/-- Where two neighbours fall it is no sheet. -/
theorem isA_falls : ∀ (l : List Int) (b : Int) (i : Nat) (h : i + 1 < l.length), l[i + 1] ≤ l[i] → isA b l = false
  | [], _, _, h, _ => by cases h
  | [x], _, i, h, _ => by simp at h
  | x :: y :: r, b, 0, _, hf => by
    have hf' : y ≤ x := hf
    have : isA x (y :: r) = false := by simp [isA]; omega
    show (decide (b < x) && decide (x ≤ 99999999) && isA x (y :: r)) = false
    rw [this, Bool.and_false]
  | x :: y :: r, b, i + 1, h, hf => by
    show (decide (b < x) && decide (x ≤ 99999999) && isA x (y :: r)) = false
    rw [isA_falls (y :: r) x i (by simp at h ⊢; omega) hf, Bool.and_false]
theorem swap_shB (l : List Int) (i : Nat) (h : i + 1 < l.length) (hr : l[i] < l[i + 1]) : shB ((l.set i l[i + 1]).set (i + 1) l[i]) = false := by
  unfold shB
  rw [isA_falls _ 0 i (by simp; exact h) (by simp; omega), Bool.and_false]

end Go.Proofs.Ytieekahlknmkfaa
