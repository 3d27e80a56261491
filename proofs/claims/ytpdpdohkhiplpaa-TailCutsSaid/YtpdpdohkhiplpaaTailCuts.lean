/- Law TailCuts: for every input the call answers true; its arguments read as they did. No condition. -/
import Derived.Test.YtpdpdohkhiplpaaLaw
import Derived.Test.YtpdpdohkhiplpaaKnown21
namespace Go.Proofs.Ytpdpdohkhiplpaa.tailCuts
open Go.ChangeShapes Go.WideShapes Go.ChangeAt Go.RowKit Go.Shelf
open Go.ChangeMaps (open_string shut_string)
set_option linter.unusedVariables false
attribute [local go_sem] Oper.semAt_some wide_fn wide_round_fn


set_option maxRecDepth 100000 in
set_option maxHeartbeats 2000000 in
theorem walk (n : Nat) (hn : n < 65536) (m : Nat) (hm : m < 256) (w : World) :
    Calls Try.prog 10 #[.int .u16 n, .int .u8 m] w fun e w' => e = .returned (.bool true) ∧ Below w.heap.size w w' := by
  have none_ : ∀ (last : Bool) (c : Int), c ≠ 2 → c ≠ 3 → c ≠ 4 → judgeB last n c = (0, 21) := fun last c h2 h3 h4 => by unfold judgeB; rw [if_neg h2, if_neg (by omega)]
  have far : ∀ c : Int, c = 3 ∨ c = 4 → 16 ≤ n → judgeB true n c = (↑n, 0) := fun c h h16 => by unfold judgeB; rw [if_neg (by omega), if_pos h, if_pos ⟨rfl, by omega⟩]
  have near : ∀ c : Int, c = 3 ∨ c = 4 → n < 16 → judgeB true n c = (0, 21) := fun c h h16 => by unfold judgeB; rw [if_neg (by omega), if_pos h, if_neg (by omega)]
  have elder : ∀ c : Int, c = 3 ∨ c = 4 → judgeB false n c = (0, 21) := fun c h => by unfold judgeB; rw [if_neg (by omega), if_pos h, if_neg (by simp)]
  have ends : ∀ last : Bool, judgeB last n 2 = (↑n, 0) := fun last => by unfold judgeB; rw [if_pos rfl]
  rcases (show (m : Int) % 6 = 0 ∨ (m : Int) % 6 = 1 ∨ (m : Int) % 6 = 2 ∨ (m : Int) % 6 = 3 ∨ (m : Int) % 6 = 4 ∨ (m : Int) % 6 = 5 by omega) with hq | hq | hq | hq | hq | hq
  · have J1 := Lib.hid (judge_at true n 0 _ _ (none_ true 0 (by decide) (by decide) (by decide)))
    have J2 := Lib.hid (judge_at false n 0 _ _ (none_ false 0 (by decide) (by decide) (by decide)))
    clear none_ far near elder ends
    go_enter Try.func10, Try.ntmps10
    go_wp2_with (first
      | (go_at_call 24; refine (tail_known _).mono ?_; rintro e w1 ⟨rfl, hB1⟩)
      | (go_at_call 26; ((with_reducible refine (J1.out _).mono ?_); rintro e w2 ⟨rfl, hB2⟩))
      | (go_at_call 26; ((with_reducible refine (J2.out _).mono ?_); rintro e w3 ⟨rfl, hB3⟩)))
    go_ret
    exact ⟨rfl, bel2 (bel2 hB1 hB2) hB3⟩
  · have J1 := Lib.hid (judge_at true n 1 _ _ (none_ true 1 (by decide) (by decide) (by decide)))
    have J2 := Lib.hid (judge_at false n 1 _ _ (none_ false 1 (by decide) (by decide) (by decide)))
    clear none_ far near elder ends
    go_enter Try.func10, Try.ntmps10
    go_wp2_with (first
      | (go_at_call 24; refine (tail_known _).mono ?_; rintro e w1 ⟨rfl, hB1⟩)
      | (go_at_call 26; ((with_reducible refine (J1.out _).mono ?_); rintro e w2 ⟨rfl, hB2⟩))
      | (go_at_call 26; ((with_reducible refine (J2.out _).mono ?_); rintro e w3 ⟨rfl, hB3⟩)))
    go_ret
    exact ⟨rfl, bel2 (bel2 hB1 hB2) hB3⟩
  · have J1 := Lib.hid (judge_at true n 2 _ _ (ends true))
    have J2 := Lib.hid (judge_at false n 2 _ _ (ends false))
    clear none_ far near elder ends
    go_enter Try.func10, Try.ntmps10
    go_wp2_with (first
      | (go_at_call 24; refine (tail_known _).mono ?_; rintro e w1 ⟨rfl, hB1⟩)
      | (go_at_call 26; ((with_reducible refine (J1.out _).mono ?_); rintro e w2 ⟨rfl, hB2⟩))
      | (go_at_call 26; ((with_reducible refine (J2.out _).mono ?_); rintro e w3 ⟨rfl, hB3⟩)))
    go_ret
    exact ⟨rfl, bel2 (bel2 hB1 hB2) hB3⟩
  · have J2 := Lib.hid (judge_at false n 3 _ _ (elder 3 (.inl rfl)))
    by_cases h16 : 16 ≤ n
    · have J1 := Lib.hid (judge_at true n 3 _ _ (far 3 (.inl rfl) h16))
      clear none_ far near elder ends
      go_enter Try.func10, Try.ntmps10
      go_wp2_with (first
        | (go_at_call 24; refine (tail_known _).mono ?_; rintro e w1 ⟨rfl, hB1⟩)
        | (go_at_call 26; ((with_reducible refine (J1.out _).mono ?_); rintro e w2 ⟨rfl, hB2⟩))
        | (go_at_call 26; ((with_reducible refine (J2.out _).mono ?_); rintro e w3 ⟨rfl, hB3⟩)))
      go_ret
      exact ⟨rfl, bel2 (bel2 hB1 hB2) hB3⟩
    · have h16' : n < 16 := by omega
      have hd : decide ((16 : Int) ≤ (n : Int)) = false := by rw [decide_eq_false_iff_not]; omega
      have J1 := Lib.hid (judge_at true n 3 _ _ (near 3 (.inl rfl) h16'))
      clear none_ far near elder ends
      go_enter Try.func10, Try.ntmps10
      go_wp2_with (first
        | (go_at_call 24; refine (tail_known _).mono ?_; rintro e w1 ⟨rfl, hB1⟩)
        | (go_at_call 26; ((with_reducible refine (J1.out _).mono ?_); rintro e w2 ⟨rfl, hB2⟩))
        | (go_at_call 26; ((with_reducible refine (J2.out _).mono ?_); rintro e w3 ⟨rfl, hB3⟩)))
      go_ret
      exact ⟨rfl, bel2 (bel2 hB1 hB2) hB3⟩
  · have J2 := Lib.hid (judge_at false n 4 _ _ (elder 4 (.inr rfl)))
    by_cases h16 : 16 ≤ n
    · have J1 := Lib.hid (judge_at true n 4 _ _ (far 4 (.inr rfl) h16))
      clear none_ far near elder ends
      go_enter Try.func10, Try.ntmps10
      go_wp2_with (first
        | (go_at_call 24; refine (tail_known _).mono ?_; rintro e w1 ⟨rfl, hB1⟩)
        | (go_at_call 26; ((with_reducible refine (J1.out _).mono ?_); rintro e w2 ⟨rfl, hB2⟩))
        | (go_at_call 26; ((with_reducible refine (J2.out _).mono ?_); rintro e w3 ⟨rfl, hB3⟩)))
      go_ret
      exact ⟨rfl, bel2 (bel2 hB1 hB2) hB3⟩
    · have h16' : n < 16 := by omega
      have hd : decide ((16 : Int) ≤ (n : Int)) = false := by rw [decide_eq_false_iff_not]; omega
      have J1 := Lib.hid (judge_at true n 4 _ _ (near 4 (.inr rfl) h16'))
      clear none_ far near elder ends
      go_enter Try.func10, Try.ntmps10
      go_wp2_with (first
        | (go_at_call 24; refine (tail_known _).mono ?_; rintro e w1 ⟨rfl, hB1⟩)
        | (go_at_call 26; ((with_reducible refine (J1.out _).mono ?_); rintro e w2 ⟨rfl, hB2⟩))
        | (go_at_call 26; ((with_reducible refine (J2.out _).mono ?_); rintro e w3 ⟨rfl, hB3⟩)))
      go_ret
      exact ⟨rfl, bel2 (bel2 hB1 hB2) hB3⟩
  · have J1 := Lib.hid (judge_at true n 5 _ _ (none_ true 5 (by decide) (by decide) (by decide)))
    have J2 := Lib.hid (judge_at false n 5 _ _ (none_ false 5 (by decide) (by decide) (by decide)))
    clear none_ far near elder ends
    go_enter Try.func10, Try.ntmps10
    go_wp2_with (first
      | (go_at_call 24; refine (tail_known _).mono ?_; rintro e w1 ⟨rfl, hB1⟩)
      | (go_at_call 26; ((with_reducible refine (J1.out _).mono ?_); rintro e w2 ⟨rfl, hB2⟩))
      | (go_at_call 26; ((with_reducible refine (J2.out _).mono ?_); rintro e w3 ⟨rfl, hB3⟩)))
    go_ret
    exact ⟨rfl, bel2 (bel2 hB1 hB2) hB3⟩

set_option maxRecDepth 100000 in
theorem lifted (os : Os) (started : os.Started) (H : Type) (enc : TypeId × Value → H) :
    ReturnsInHanded {} Try.checked os 10 .any (Rows.tailCutsSpec.pre6 enc Try.prog Try.f10 Rows.tailCutsRow.domain false) (Rows.tailCutsSpec.post enc Try.prog Try.f10 false true false false) := by
  refine returnsInHanded_of_change (C := Try.checked) Try.own started (by kernel_rfl) Try.func10
    (ChangeSpec.witness6 (enc := enc) (C := Try.checked) false ⟨#[], #[.int .u16 0, .int .u8 0], []⟩ 8 (by kernel_rfl) (by kernel_rfl) (by kernel_rfl) (by kernel_rfl)) ?_
  intro W base args ds gs before hval hW _ _
  refine law_contract (T := 4) (n := 2) Try.laid Try.underlying4 rfl rfl ⟨rfl, fun H ds h => by match ds, h with | [_, _], _ => rfl⟩ (of_all (by kernel_rfl)) hW ?_
  intro ps hA
  rw [Try.params10] at hA hval
  obtain ⟨v0, vs0, d0, ds0, p0, q0, hargs, rfl, rfl, h0, r0⟩ := trodAll_cons hA
  obtain ⟨v1, vs1, d1, ds1, p1, q1, rfl, rfl, rfl, h1, r1⟩ := trodAll_cons r0
  obtain ⟨rfl, rfl, rfl⟩ := trodAll_nil r1
  obtain rfl : args = #[v0, v1] := by cases args; simp_all
  obtain ⟨a0, rfl, rfl, rfl, w0⟩ := open_int Try.underlying44 (hval 0 44 v0 rfl rfl) h0
  obtain ⟨a1, rfl, rfl, rfl, w1⟩ := open_int Try.underlying5 (hval 1 5 v1 rfl rfl) h1
  obtain ⟨n0, rfl, b0⟩ := nat_of_u16 w0
  obtain ⟨n1, rfl, b1⟩ := nat_of_u8 w1
  exact walk n0 b0 n1 b1 W

theorem holds : Rows.TailCutsSaid :=
  OpenClaim.holds_of_wide 10 Try.f10 rfl rfl rfl rfl rfl rfl rfl ⟨rfl, rfl, rfl, rfl, rfl⟩ rfl rfl rfl rfl rfl (by kernel_rfl) Try.func10 (by kernel_rfl)
    (of_decide_eq_true (by kernel_rfl)) (by unfold Func.isWrapper; first | (rw [if_pos (by decide +kernel)]; kernel_rfl) | (rw [if_neg (by decide +kernel)]; exact ⟨rfl, rfl⟩))
    (fun os started H enc _ => lifted os started H enc)
end Go.Proofs.Ytpdpdohkhiplpaa.tailCuts
