/- Law FrameBack: for every input the call answers true; its arguments read as they did. No condition. -/
import Derived.Test.YtcchbpjkejklaabLaw
import Derived.Test.YtcchbpjkejklaabKnown3
namespace Go.Proofs.Ytcchbpjkejklaab.frameBack
open Go.ChangeShapes Go.WideShapes Go.ChangeAt Go.RowKit Go.Shelf
open Go.ChangeMaps (open_string shut_string)
set_option linter.unusedVariables false
attribute [local go_sem] Oper.semAt_some wide_fn wide_round_fn


set_option maxRecDepth 100000 in
set_option maxHeartbeats 2000000 in
theorem walk (b : ByteArray) (hb : b.size ≤ maxLen) (t : ByteArray) (ht : t.size ≤ maxLen) (cut : Nat) (hcut : cut < 65536) (w : World) :
    Calls Try.prog 3 #[.string b, .string t, .int .u16 cut] w fun e w' => e = .returned (.bool true) ∧ Below w.heap.size w w' := by
  unfold maxLen at hb ht
  by_cases h1 : b.size < 1
  · go_enter Try.func3, Try.ntmps3
    go_wp2_with (go_at_call 8; refine (frame_known _).mono ?_; rintro e w1 ⟨rfl, hB1⟩)
    go_ret
    exact ⟨rfl, hB1⟩
  by_cases h2 : 2000 < b.size
  · go_enter Try.func3, Try.ntmps3
    go_wp2_with (go_at_call 8; refine (frame_known _).mono ?_; rintro e w1 ⟨rfl, hB1⟩)
    go_ret
    exact ⟨rfl, hB1⟩
  by_cases h3 : 100 < t.size
  · go_enter Try.func3, Try.ntmps3
    go_wp2_with (go_at_call 8; refine (frame_known _).mono ?_; rintro e w1 ⟨rfl, hB1⟩)
    go_ret
    exact ⟨rfl, hB1⟩
  have h1' : 1 ≤ b.size := by omega
  have h2' : b.size ≤ 2000 := by omega
  have h3' : t.size ≤ 100 := by omega
  clear h1 h2 h3
  have hcut0 := read_cut b h1' h2'
  obtain ⟨m, hm⟩ : ∃ m, m = cut % (b.size + 12) := ⟨_, rfl⟩
  have hml : m < b.size + 12 := by rw [hm]; exact Nat.mod_lt _ (by omega)
  have g1 := wrap_ok b (by omega) h2'
  have g2 := read_at (wrapB b ++ t) b (b.size + 12) 1 (by rw [ByteArray.size_append, wrapB_size]; omega) (read_wrap b t h1' h2')
  have hX := wrapB_size b
  generalize wrapB b = X at *
  have hmi : (cut : Int) % (X.size : Int) = (m : Int) := by rw [hX, hm]; omega
  have hm2 : (m : Int) ≤ (X.size : Int) := by omega
  have hm3 : m ≤ X.size := by omega
  have g3 : ∀ w, Gives Try.prog 10 #[.string (X.extract 0 m)] w (.tuple #[.string ⟨#[]⟩, .int .i64 0, .int .i64 (if m < 1 then 2 else 3 : Nat)]) := fun w =>
    read_at (X.extract 0 m) ⟨#[]⟩ 0 _ (by rw [ByteArray.size_extract]; omega) (by
      split
      · exact readF_end (by rw [ByteArray.size_extract]; omega)
      · exact hcut0 m (by omega) hml) w
  have g4 : ∀ w, Gives Try.prog 11 #[.int .i64 b.size] w (.int .i64 X.size) := fun w => by
    have := size_at b.size (by omega) (by omega) w
    rwa [show (b.size : Int) + 12 = (X.size : Int) by omega] at this
  rw [← hX] at g2
  have hcat : (X.size : Int) + (t.size : Int) ≤ 9223372036854775807 := by omega
  have hXp : 0 < X.size := by omega
  have HX := Lib.hid hX
  clear hX hcut0 hm
  have G1 := Lib.hid g1; have G2 := Lib.hid g2; have G4 := Lib.hid g4
  clear g1 g2 g4
  by_cases hm0 : m < 1
  · rw [if_pos hm0] at g3
    have t1 : ((m : Int) == 0) = true := by rw [beq_iff_eq]; omega
    have G3 := Lib.hid g3
    clear g3
    go_enter Try.func3, Try.ntmps3
    go_wp2_with (first
      | (go_at_call 8; refine (frame_known _).mono ?_; rintro e w1 ⟨rfl, hB1⟩)
      | (go_at_call 9; ((with_reducible refine (G1.out _).mono ?_); rintro e w2 ⟨rfl, hB2⟩))
      | (go_at_call 10; ((with_reducible refine (G2.out _).mono ?_); rintro e w3 ⟨rfl, hB3⟩))
      | (go_at_call 11; ((with_reducible refine (G4.out _).mono ?_); rintro e w4 ⟨rfl, hB4⟩))
      | (go_at_call 10; ((with_reducible refine (G3.out _).mono ?_); rintro e w5 ⟨rfl, hB5⟩)))
    go_ret
    exact ⟨rfl, by repeat (first | assumption | refine bel2 ?_ (by assumption))⟩
  · rw [if_neg hm0] at g3
    have t1 : ((m : Int) == 0) = false := by rw [beq_eq_false_iff_ne]; omega
    have G3 := Lib.hid g3
    clear g3
    go_enter Try.func3, Try.ntmps3
    go_wp2_with (first
      | (go_at_call 8; refine (frame_known _).mono ?_; rintro e w1 ⟨rfl, hB1⟩)
      | (go_at_call 9; ((with_reducible refine (G1.out _).mono ?_); rintro e w2 ⟨rfl, hB2⟩))
      | (go_at_call 10; ((with_reducible refine (G2.out _).mono ?_); rintro e w3 ⟨rfl, hB3⟩))
      | (go_at_call 11; ((with_reducible refine (G4.out _).mono ?_); rintro e w4 ⟨rfl, hB4⟩))
      | (go_at_call 10; ((with_reducible refine (G3.out _).mono ?_); rintro e w5 ⟨rfl, hB5⟩)))
    go_ret
    exact ⟨rfl, by repeat (first | assumption | refine bel2 ?_ (by assumption))⟩

set_option maxRecDepth 100000 in
theorem lifted (os : Os) (started : os.Started) (H : Type) (enc : TypeId × Value → H) :
    ReturnsInHanded {} Try.checked os 3 .any (Rows.frameBackSpec.pre6 enc Try.prog Try.f3 Rows.frameBackRow.domain false) (Rows.frameBackSpec.post enc Try.prog Try.f3 false true false false) := by
  refine returnsInHanded_of_change (C := Try.checked) Try.own started (by kernel_rfl) Try.func3
    (ChangeSpec.witness6 (enc := enc) (C := Try.checked) false ⟨#[], #[.string ⟨#[]⟩, .string ⟨#[]⟩, .int .u16 0], []⟩ 8 (by kernel_rfl) (by kernel_rfl) (by kernel_rfl) (by kernel_rfl)) ?_
  intro W base args ds gs before hval hW _ _
  refine law_contract (T := 4) (n := 3) Try.laid Try.underlying4 rfl rfl ⟨rfl, fun H ds h => by match ds, h with | [_, _, _], _ => rfl⟩ (of_all (by kernel_rfl)) hW ?_
  intro ps hA
  rw [Try.params3] at hA hval
  obtain ⟨v0, vs0, d0, ds0, p0, q0, hargs, rfl, rfl, h0, r0⟩ := trodAll_cons hA
  obtain ⟨v1, vs1, d1, ds1, p1, q1, rfl, rfl, rfl, h1, r1⟩ := trodAll_cons r0
  obtain ⟨v2, vs2, d2, ds2, p2, q2, rfl, rfl, rfl, h2, r2⟩ := trodAll_cons r1
  obtain ⟨rfl, rfl, rfl⟩ := trodAll_nil r2
  obtain rfl : args = #[v0, v1, v2] := by cases args; simp_all
  obtain ⟨a0, rfl, rfl, rfl, w0⟩ := open_string Try.underlying9 (hval 0 9 v0 rfl rfl) h0
  obtain ⟨a1, rfl, rfl, rfl, w1⟩ := open_string Try.underlying9 (hval 1 9 v1 rfl rfl) h1
  obtain ⟨a2, rfl, rfl, rfl, w2⟩ := open_int Try.underlying22 (hval 2 22 v2 rfl rfl) h2
  obtain ⟨n2, rfl, b2⟩ := nat_of_u16 w2
  exact walk a0 w0 a1 w1 n2 b2 W

theorem holds : Rows.FrameBackSaid :=
  OpenClaim.holds_of_wide 3 Try.f3 rfl rfl rfl rfl rfl rfl rfl ⟨rfl, rfl, rfl, rfl, rfl⟩ rfl rfl rfl rfl rfl (by kernel_rfl) Try.func3 (by kernel_rfl)
    (of_decide_eq_true (by kernel_rfl)) (by unfold Func.isWrapper; first | (rw [if_pos (by decide +kernel)]; kernel_rfl) | (rw [if_neg (by decide +kernel)]; exact ⟨rfl, rfl⟩))
    (fun os started H enc _ => lifted os started H enc)
end Go.Proofs.Ytcchbpjkejklaab.frameBack
