/- Law CodeTells: for every input the call answers true; its arguments read as they did. No condition. -/
import Derived.Test.YtcchbpjkejklaaaLaw
import Derived.Test.YtcchbpjkejklaaaKnown1
namespace Go.Proofs.Ytcchbpjkejklaaa.codeTells
open Go.ChangeShapes Go.WideShapes Go.ChangeAt Go.RowKit
open Go.ChangeMaps (open_string shut_string)
set_option linter.unusedVariables false

set_option maxRecDepth 100000 in
set_option maxHeartbeats 2000000 in
theorem walk (n : Int) (hn : n < 9223372036854775808) (u : Nat) (hu : u < 4294967296) (s : ByteArray) (hs : s.size ≤ maxLen) (most : Int) (w : World) :
    Calls Try.prog 3 #[.int .i64 n, .int .u32 u, .string s, .int .i64 most] w fun e w' => e = .returned (.bool true) ∧ Below w.heap.size w w' := by
  have hs2 : s.size < 9223372036854775808 := by unfold maxLen at hs; omega
  by_cases hbig : 400 < s.size
  · go_enter Try.func3, Try.ntmps3
    go_wp2_with (go_at_call 15; refine (code_known _).mono ?_; rintro e w1 ⟨rfl, hB1⟩)
    go_ret
    exact ⟨rfl, hB1⟩
  · have hs4 : s.size ≤ 400 := by omega
    by_cases h4 : s.size < 4
    · go_enter Try.func3, Try.ntmps3
      go_wp2_with (first
        | (go_at_call 15; refine (code_known _).mono ?_; rintro e w1 ⟨rfl, hB1⟩)
        | (go_at_call 16; refine (get_any s hs2 _).mono ?_; rintro e w2 ⟨rfl, hB2⟩)
        | (go_at_call 17; refine (refGet_any s hs2 _).mono ?_; rintro e w3 ⟨rfl, hB3⟩)
        | (go_at_call 18; refine (texts_any s hs2 most _).mono ?_; rintro e w4 ⟨rfl, hB4⟩)
        | (go_at_call 19; refine (refTexts_any s hs2 most _).mono ?_; rintro e w5 ⟨rfl, hB5⟩)
        | (go_at_call 20; refine (fix_short s h4 _).mono ?_; rintro e w6 ⟨rfl, hB6⟩)
        | (go_at_call 22; refine (put_any n hn _).mono ?_; rintro e w7 ⟨rfl, hB7⟩)
        | (go_at_call 23; refine (refPut_any n hn _).mono ?_; rintro e w8 ⟨rfl, hB8⟩)
        | (go_at_call 24; refine (text_any s (by omega) _).mono ?_; rintro e w9 ⟨rfl, hB9⟩)
        | (go_at_call 25; refine (refText_any s (by omega) _).mono ?_; rintro e w10 ⟨rfl, hB10⟩)
        | (go_at_call 26; refine (fixed_any u hu _).mono ?_; rintro e w11 ⟨rfl, hB11⟩)
        | (go_at_call 27; refine (refFixed_any u hu _).mono ?_; rintro e w12 ⟨rfl, hB12⟩))
      go_ret
      exact ⟨rfl, bel2 (bel2 (bel2 (bel2 (bel2 (bel2 (bel2 (bel2 (bel2 (bel2 (bel2 hB1 hB2) hB3) hB4) hB5) hB6) hB7) hB8) hB9) hB10) hB11) hB12⟩
    · have h4' : 4 ≤ s.size := by omega
      clear h4
      go_enter Try.func3, Try.ntmps3
      go_wp2_with (first
        | (go_at_call 15; refine (code_known _).mono ?_; rintro e w1 ⟨rfl, hB1⟩)
        | (go_at_call 16; refine (get_any s hs2 _).mono ?_; rintro e w2 ⟨rfl, hB2⟩)
        | (go_at_call 17; refine (refGet_any s hs2 _).mono ?_; rintro e w3 ⟨rfl, hB3⟩)
        | (go_at_call 18; refine (texts_any s hs2 most _).mono ?_; rintro e w4 ⟨rfl, hB4⟩)
        | (go_at_call 19; refine (refTexts_any s hs2 most _).mono ?_; rintro e w5 ⟨rfl, hB5⟩)
        | (go_at_call 20; refine (fix_ok s h4' hs2 _).mono ?_; rintro e w6 ⟨rfl, hB6⟩)
        | (go_at_call 21; refine (refFix_ok s h4' hs2 _).mono ?_; rintro e w6a ⟨rfl, hB6a⟩)
        | (go_at_call 22; refine (put_any n hn _).mono ?_; rintro e w7 ⟨rfl, hB7⟩)
        | (go_at_call 23; refine (refPut_any n hn _).mono ?_; rintro e w8 ⟨rfl, hB8⟩)
        | (go_at_call 24; refine (text_any s (by omega) _).mono ?_; rintro e w9 ⟨rfl, hB9⟩)
        | (go_at_call 25; refine (refText_any s (by omega) _).mono ?_; rintro e w10 ⟨rfl, hB10⟩)
        | (go_at_call 26; refine (fixed_any u hu _).mono ?_; rintro e w11 ⟨rfl, hB11⟩)
        | (go_at_call 27; refine (refFixed_any u hu _).mono ?_; rintro e w12 ⟨rfl, hB12⟩))
      go_ret
      exact ⟨rfl, bel2 (bel2 (bel2 (bel2 (bel2 (bel2 (bel2 (bel2 (bel2 (bel2 (bel2 (bel2 hB1 hB2) hB3) hB4) hB5) hB6) hB6a) hB7) hB8) hB9) hB10) hB11) hB12⟩

set_option maxRecDepth 100000 in
theorem lifted (os : Os) (started : os.Started) (H : Type) (enc : TypeId × Value → H) :
    ReturnsInHanded {} Try.checked os 3 .any (Rows.codeTellsSpec.pre6 enc Try.prog Try.f3 Rows.codeTellsRow.domain false) (Rows.codeTellsSpec.post enc Try.prog Try.f3 false true false false) := by
  refine returnsInHanded_of_change (C := Try.checked) Try.own started (by kernel_rfl) Try.func3
    (ChangeSpec.witness6 (enc := enc) (C := Try.checked) false ⟨#[], #[.int .i64 0, .int .u32 0, .string ⟨#[]⟩, .int .i64 0], []⟩ 8 (by kernel_rfl) (by kernel_rfl) (by kernel_rfl) (by kernel_rfl)) ?_
  intro W base args ds gs before hval hW _ _
  refine law_contract (T := 4) (n := 4) Try.laid Try.underlying4 rfl rfl ⟨rfl, fun H ds h => by match ds, h with | [_, _, _, _], _ => rfl⟩ (of_all (by kernel_rfl)) hW ?_
  intro ps hA
  rw [Try.params3] at hA hval
  obtain ⟨v0, vs0, d0, ds0, p0, q0, hargs, rfl, rfl, h0, r0⟩ := trodAll_cons hA
  obtain ⟨v1, vs1, d1, ds1, p1, q1, rfl, rfl, rfl, h1, r1⟩ := trodAll_cons r0
  obtain ⟨v2, vs2, d2, ds2, p2, q2, rfl, rfl, rfl, h2, r2⟩ := trodAll_cons r1
  obtain ⟨v3, vs3, d3, ds3, p3, q3, rfl, rfl, rfl, h3, r3⟩ := trodAll_cons r2
  obtain ⟨rfl, rfl, rfl⟩ := trodAll_nil r3
  obtain rfl : args = #[v0, v1, v2, v3] := by cases args; simp_all
  obtain ⟨a0, rfl, rfl, rfl, w0⟩ := open_int Try.underlying3 (hval 0 3 v0 rfl rfl) h0
  obtain ⟨a1, rfl, rfl, rfl, w1⟩ := open_int Try.underlying22 (hval 1 22 v1 rfl rfl) h1
  obtain ⟨a2, rfl, rfl, rfl, w2⟩ := open_string Try.underlying9 (hval 2 9 v2 rfl rfl) h2
  obtain ⟨a3, rfl, rfl, rfl, w3⟩ := open_int Try.underlying3 (hval 3 3 v3 rfl rfl) h3
  simp only [Lit.wf, IntKind.min, IntKind.max, IntKind.signed, IntKind.bits, Bool.and_eq_true, decide_eq_true_eq] at w0 w1 w3
  obtain ⟨u, rfl⟩ := Int.eq_ofNat_of_zero_le (a := a1) (by simpa using w1.1)
  exact walk a0 (by simp at w0; omega) u (by simp at w1; omega) a2 w2 a3 W

theorem holds : Rows.CodeTellsSaid :=
  OpenClaim.holds_of_wide 3 Try.f3 rfl rfl rfl rfl rfl rfl rfl ⟨rfl, rfl, rfl, rfl, rfl⟩ rfl rfl rfl rfl rfl (by kernel_rfl) Try.func3 (by kernel_rfl)
    (of_decide_eq_true (by kernel_rfl)) (by unfold Func.isWrapper; first | (rw [if_pos (by decide +kernel)]; kernel_rfl) | (rw [if_neg (by decide +kernel)]; exact ⟨rfl, rfl⟩))
    (fun os started H enc _ => lifted os started H enc)

end Go.Proofs.Ytcchbpjkejklaaa.codeTells
