/- What the third layer's laws hold by themselves: the examples. -/
import Derived.Test.YtcchbpjkejklaabFrameMath
import Derived.Test.YtcchbpjkejklaabBytes
namespace Go.Proofs.Ytcchbpjkejklaab
open Go.RowKit Go.Shelf
set_option linter.unusedVariables false

theorem read_at (s x : ByteArray) (n c : Nat) (hs : s.size < 9223372036854775808) (h : readF s = (x, n, c)) (w : World) : Gives Try.prog 10 #[.string s] w (.tuple #[.string x, .int .i64 n, .int .i64 c]) := by
  have := read_any s hs w
  rwa [h] at this

set_option maxRecDepth 100000 in
set_option maxHeartbeats 2000000 in
theorem frame_known (w : World) : Gives Try.prog 8 #[] w (.bool true) := by
  obtain ⟨i0, hi, hz0, hz1, hz2⟩ := info_parts Try.infoU8
  obtain ⟨X, hX, hXs⟩ : ∃ X, X = wrapB ⟨#[97, 98]⟩ ∧ X.size = 14 := ⟨_, rfl, by rw [wrapB_size]; rfl⟩
  have g1 : ∀ w, Gives Try.prog 9 #[.string ⟨#[97, 98]⟩] w (.tuple #[.string X, .int .i64 0]) := fun w => by rw [hX]; exact wrap_ok ⟨#[97, 98]⟩ (by decide) (by decide) w
  have hXx : (X ++ ⟨#[120]⟩).size = 15 := by rw [ByteArray.size_append, hXs]; rfl
  have g2 := read_at (X ++ ⟨#[120]⟩) ⟨#[97, 98]⟩ 14 1 (by rw [hXx]; decide) (by rw [hX]; exact read_wrap _ _ (by decide) (by decide))
  have g3 := read_at ⟨#[]⟩ ⟨#[]⟩ 0 2 (by decide) (readF_end (by decide))
  have g4 := read_at ⟨#[97, 98, 99]⟩ ⟨#[]⟩ 0 3 (by decide) (readF_torn (by decide) (by decide))
  have g5 := wrap_large ⟨(List.replicate 2001 0).toArray⟩ (by show 2000 < (List.replicate 2001 (0 : UInt8)).toArray.size; simp) (by show (List.replicate 2001 (0 : UInt8)).toArray.size < _; simp)
  have g6 : ∀ w, Gives Try.prog 11 #[.int .i64 2] w (.int .i64 14) := size_at 2 (by decide) (by decide)
  obtain ⟨Z, hZ⟩ : ∃ Z : ByteArray, Z = ⟨(List.replicate 2001 0).toArray⟩ := ⟨_, rfl⟩
  rw [← hZ] at g5
  have HZ := Lib.hid hZ
  clear hZ
  have hXx' : (X.size : Int) + 1 ≤ 9223372036854775807 := by omega
  have G1 := Lib.hid g1; have G2 := Lib.hid g2; have G3 := Lib.hid g3; have G4 := Lib.hid g4; have G5 := Lib.hid g5; have G6 := Lib.hid g6; have G7 := Lib.hid wrap_empty
  clear g1 g2 g3 g4 g5 g6 hX hXx
  unfold Gives
  go_enter Try.func8, Try.ntmps8
  go_wp2_with (first
    | (go_at_call 9; ((with_reducible refine (G1.out _).mono ?_); rintro e w1 ⟨rfl, hB1⟩))
    | (go_at_call 10; ((with_reducible refine (G2.out _).mono ?_); rintro e w2 ⟨rfl, hB2⟩))
    | (go_at_call 10; ((with_reducible refine (G3.out _).mono ?_); rintro e w3 ⟨rfl, hB3⟩))
    | (go_at_call 10; ((with_reducible refine (G4.out _).mono ?_); rintro e w4 ⟨rfl, hB4⟩))
    | (go_at_call 9; ((with_reducible refine (G7.out _).mono ?_); rintro e w5 ⟨rfl, hB5⟩; obtain ⟨w6, hmk0, hB6, hby⟩ := bytes_made (P := Try.prog) (t := 32) (e := 5) i0 Try.underlying32 hi hz0 hz1 hz2 2001 (by omega) w5; have hmk : (Instr.makeSlice 32 (.int .i64 2001) (.int .i64 2001)).run Try.prog w5 = .ok (.slice (some ⟨w5.heap.size, 0, none⟩) 2001 2001) w6 := hmk0; have hcv := string_of (P := Try.prog) (src := 32) (dst := 9) Try.underlying32 Try.underlying5 Try.underlying9 hby 2001 2001 (by simp); rw [← HZ.out] at hcv; clear hby))
    | (go_at_call 9; ((with_reducible refine (G5.out _).mono ?_); rintro e w7 ⟨rfl, hB7⟩))
    | (go_at_call 11; ((with_reducible refine (G6.out _).mono ?_); rintro e w8 ⟨rfl, hB8⟩)))
  go_ret
  exact ⟨rfl, by repeat (first | assumption | refine bel2 ?_ (by assumption))⟩

end Go.Proofs.Ytcchbpjkejklaab
