/- What stands at the beginning of bytes: the contracts of package frame's Read and of the document's. -/
import Derived.Test.YtcchbpjkejklaaaFrame
namespace Go.Proofs.Ytcchbpjkejklaaa
open Go.RowKit Go.Shelf
set_option linter.unusedVariables false
attribute [local go_sem] Oper.semAt_some wide_fn wide_round_fn

def badN (A B : Nat) : Prop := A + B ≠ 4294967295 ∨ A = 0 ∨ 2000 < A
instance (A B : Nat) : Decidable (badN A B) := by unfold badN; infer_instance
/-- What the frame at the beginning of s holds, how many bytes it is, its class. -/
def readF (s : ByteArray) : ByteArray × Nat × Nat :=
  if s.size < 1 then (⟨#[]⟩, 0, 2)
  else if s.size < 8 then (⟨#[]⟩, 0, 3)
  else if badN (wordB s 0) (wordB s 4) then (⟨#[]⟩, 0, 4)
  else if s.size < wordB s 0 + 12 then (⟨#[]⟩, 0, 3)
  else if wordB s (8 + wordB s 0) ≠ moreN 0 (s.extract 8 (8 + wordB s 0)) then (⟨#[]⟩, 0, 4)
  else (s.extract 8 (8 + wordB s 0), wordB s 0 + 12, 1)
theorem ba_size' (s : ByteArray) : s.data.toList.length = s.size := by simp
theorem extract_drop (s : ByteArray) (k : Nat) : (s.extract k s.size).data.toList = s.data.toList.drop k := by
  rw [ByteArray.data_extract, Array.toList_extract, List.extract_eq_take_drop]
  exact List.take_of_length_le (by rw [List.length_drop, ba_size']; exact Nat.le_refl _)

set_option maxRecDepth 100000 in
set_option maxHeartbeats 2000000 in
theorem refRead_any (s : ByteArray) (hs : s.size < 9223372036854775808) (w : World) : Gives Try.prog 36 #[.string s] w (.tuple #[.string (readF s).1, .int .i64 (readF s).2.1, .int .i64 (readF s).2.2]) := by
  obtain ⟨R, hR⟩ : ∃ R, R = readF s := ⟨_, rfl⟩
  rw [← hR]
  unfold readF at hR
  by_cases h1 : s.size < 1
  · rw [if_pos h1] at hR
    subst hR
    obtain rfl : s = ⟨#[]⟩ := ByteArray.ext (Array.eq_empty_of_size_eq_zero (by show s.size = 0; omega))
    unfold Gives
    go_enter Try.func36, Try.ntmps36
    go_wp2
    go_ret3
    exact ⟨rfl, Below.refl _ _⟩
  rw [if_neg h1] at hR
  have hne := notEmpty s (by omega)
  by_cases h8 : s.size < 8
  · rw [if_pos h8] at hR
    subst hR
    unfold Gives
    go_enter Try.func36, Try.ntmps36
    go_wp2
    go_ret3
    exact ⟨rfl, Below.refl _ _⟩
  rw [if_neg h8] at hR
  have h8' : 8 ≤ s.size := by omega
  have h4i : (4 : Int) ≤ (s.size : Int) := by omega
  have g1 : ∀ w, Gives Try.prog 21 #[.string s] w (.int .u32 (wordB s 0)) := fun w => refFix_ok s (by omega) hs w
  have g2 : ∀ w, Gives Try.prog 21 #[.string (s.extract 4 s.size)] w (.int .u32 (wordB s 4)) := fun w => by
    have := refFix_ok (s.extract 4 s.size) (by rw [ByteArray.size_extract]; omega) (by rw [ByteArray.size_extract]; omega) w
    rwa [extract_drop] at this
  have hA := wordB_lt s 0
  have hB := wordB_lt s 4
  have G1 := Lib.hid g1; have G2 := Lib.hid g2
  clear g1 g2
  by_cases hbad : badN (wordB s 0) (wordB s 4)
  · rw [if_pos hbad] at hR
    subst hR
    unfold badN at hbad
    generalize wordB s 0 = A at *
    generalize wordB s 4 = B at *
    have hcn := comp_nat A hA
    unfold Gives
    go_enter Try.func36, Try.ntmps36
    go_wp2
    go_region_held3 (fun W' => Below w.heap.size w W')
      (first | assumption | exact (Below.refl _ _).drew | exact bel2 (by assumption) (by assumption))
      (first
        | (go_at_call 21; ((with_reducible refine (G1.out _).mono ?_); rintro e w4 ⟨rfl, hB4⟩))
        | (go_at_call 21; ((with_reducible refine (G2.out _).mono ?_); rintro e w5 ⟨rfl, hB5⟩)))
    have hS : Below w.heap.size w w5 := by assumption
    by_cases e1 : A + B = 4294967295
    · have t1 : ((B : Int) != ((4294967295 - A : Nat) : Int)) = false := by rw [bne_eq_false_iff_eq]; omega
      by_cases e2 : A < 1
      · have t2 : ((A : Int) == 0) = true := by rw [beq_iff_eq]; omega
        go_wp2
        go_ret3
        exact ⟨rfl, hS⟩
      · have t2 : ((A : Int) == 0) = false := by rw [beq_eq_false_iff_ne]; omega
        have t3 : 2000 < A := by omega
        go_wp2
        go_ret3
        exact ⟨rfl, hS⟩
    · have t1 : ((B : Int) != ((4294967295 - A : Nat) : Int)) = true := by rw [bne_iff_ne]; omega
      go_wp2
      go_ret3
      exact ⟨rfl, hS⟩
  · rw [if_neg hbad] at hR
    unfold badN at hbad
    have hA1 : 1 ≤ wordB s 0 := by omega
    have hA2 : wordB s 0 ≤ 2000 := by omega
    have hAB : wordB s 0 + wordB s 4 = 4294967295 := by omega
    have hcn := comp_nat (wordB s 0) hA
    have t1 : ((wordB s 4 : Int) != ((4294967295 - wordB s 0 : Nat) : Int)) = false := by rw [bne_eq_false_iff_eq]; omega
    have t2 : ((wordB s 0 : Int) == 0) = false := by rw [beq_eq_false_iff_ne]; omega
    clear hbad
    by_cases hsz : s.size < wordB s 0 + 12
    · rw [if_pos hsz] at hR
      subst hR
      generalize wordB s 0 = A at *
      generalize wordB s 4 = B at *
      unfold Gives
      go_enter Try.func36, Try.ntmps36
      go_wp2
      go_region_held3 (fun W' => Below w.heap.size w W')
        (first | assumption | exact (Below.refl _ _).drew | exact bel2 (by assumption) (by assumption))
        (first
          | (go_at_call 21; ((with_reducible refine (G1.out _).mono ?_); rintro e w4 ⟨rfl, hB4⟩))
          | (go_at_call 21; ((with_reducible refine (G2.out _).mono ?_); rintro e w5 ⟨rfl, hB5⟩)))
      have hS : Below w.heap.size w w5 := by assumption
      go_wp2
      go_ret3
      exact ⟨rfl, hS⟩
    · rw [if_neg hsz] at hR
      have hsz' : wordB s 0 + 12 ≤ s.size := by omega
      have g3 : ∀ w, Gives Try.prog 21 #[.string (s.extract (8 + wordB s 0) s.size)] w (.int .u32 (wordB s (8 + wordB s 0))) := fun w => by
        have := refFix_ok (s.extract (8 + wordB s 0) s.size) (by rw [ByteArray.size_extract]; omega) (by rw [ByteArray.size_extract]; omega) w
        rwa [extract_drop] at this
      have g4 : ∀ w, Gives Try.prog 30 #[.int .u32 0, .string (s.extract 8 (8 + wordB s 0))] w (.int .u32 (moreN 0 (s.extract 8 (8 + wordB s 0)))) := fun w =>
        refmore_at 0 (by decide) _ (by rw [ByteArray.size_extract]; omega) w
      have G3 := Lib.hid g3; have G4 := Lib.hid g4
      clear g3 g4
      generalize hw3 : wordB s (8 + wordB s 0) = C at *
      generalize hw4 : moreN 0 (s.extract 8 (8 + wordB s 0)) = D at *
      clear hw3 hw4
      generalize wordB s 0 = A at *
      generalize wordB s 4 = B at *
      by_cases hCD : C = D
      · rw [if_neg (by simp [hCD])] at hR
        subst hR
        have t5 : ((C : Int) != (D : Int)) = false := by rw [bne_eq_false_iff_eq]; omega
        clear hCD
        unfold Gives
        go_enter Try.func36, Try.ntmps36
        go_wp2
        go_region_held3 (fun W' => Below w.heap.size w W')
          (first | assumption | exact (Below.refl _ _).drew | exact bel2 (by assumption) (by assumption))
          (first
            | (go_at_call 21; ((with_reducible refine (G1.out _).mono ?_); rintro e w4 ⟨rfl, hB4⟩))
            | (go_at_call 21; ((with_reducible refine (G2.out _).mono ?_); rintro e w5 ⟨rfl, hB5⟩)))
        have hS : Below w.heap.size w w5 := by assumption
        go_wp2_with (first
            | (go_at_call 21; ((with_reducible refine (G3.out _).mono ?_); rintro e w6 ⟨rfl, hB6⟩))
            | (go_at_call 30; ((with_reducible refine (G4.out _).mono ?_); rintro e w7 ⟨rfl, hB7⟩)))
        go_ret3
        exact ⟨rfl, bel2 (bel2 hS hB6) hB7⟩
      · rw [if_pos hCD] at hR
        subst hR
        have t5 : ((C : Int) != (D : Int)) = true := by rw [bne_iff_ne]; omega
        clear hCD
        unfold Gives
        go_enter Try.func36, Try.ntmps36
        go_wp2
        go_region_held3 (fun W' => Below w.heap.size w W')
          (first | assumption | exact (Below.refl _ _).drew | exact bel2 (by assumption) (by assumption))
          (first
            | (go_at_call 21; ((with_reducible refine (G1.out _).mono ?_); rintro e w4 ⟨rfl, hB4⟩))
            | (go_at_call 21; ((with_reducible refine (G2.out _).mono ?_); rintro e w5 ⟨rfl, hB5⟩)))
        have hS : Below w.heap.size w w5 := by assumption
        go_wp2_with (first
            | (go_at_call 21; ((with_reducible refine (G3.out _).mono ?_); rintro e w6 ⟨rfl, hB6⟩))
            | (go_at_call 30; ((with_reducible refine (G4.out _).mono ?_); rintro e w7 ⟨rfl, hB7⟩)))
        go_ret3
        exact ⟨rfl, bel2 (bel2 hS hB6) hB7⟩

end Go.Proofs.Ytcchbpjkejklaaa
