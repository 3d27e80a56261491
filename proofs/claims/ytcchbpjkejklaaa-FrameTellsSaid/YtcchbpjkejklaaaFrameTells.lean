/- Law FrameTells: for every input the call answers true; its arguments read as they did. No condition. -/
import Derived.Test.YtcchbpjkejklaaaLaw
import Derived.Test.YtcchbpjkejklaaaKnown3
namespace Go.Proofs.Ytcchbpjkejklaaa.frameTells
open Go.ChangeShapes Go.WideShapes Go.ChangeAt Go.RowKit Go.Shelf
open Go.ChangeMaps (open_string shut_string)
set_option linter.unusedVariables false
attribute [local go_sem] Oper.semAt_some wide_fn wide_round_fn


theorem wrapAll (b : ByteArray) (hb : b.size < 9223372036854775808) : ∃ (x : ByteArray) (n : Nat), (∀ w, Gives Try.prog 33 #[.string b] w (.tuple #[.string x, .int .i64 n])) ∧ ∀ w, Gives Try.prog 34 #[.string b] w (.tuple #[.string x, .int .i64 n]) := by
  by_cases h0 : b.size < 1
  · obtain rfl : b = ⟨#[]⟩ := ByteArray.ext (Array.eq_empty_of_size_eq_zero (by show b.size = 0; omega))
    exact ⟨_, 11, wrap_empty, refWrap_empty⟩
  · by_cases h1 : 2000 < b.size
    · exact ⟨_, 12, wrap_large b h1 hb, refWrap_large b h1 hb⟩
    · exact ⟨_, 0, wrap_ok b (by omega) (by omega), refWrap_ok b (by omega) (by omega)⟩

set_option maxRecDepth 100000 in
set_option maxHeartbeats 2000000 in
theorem walk (b : ByteArray) (hb : b.size ≤ maxLen) (s : ByteArray) (hs : s.size ≤ maxLen) (n : Int) (hn : -32768 ≤ n ∧ n < 32768) (w : World) :
    Calls Try.prog 14 #[.string b, .string s, .int .i16 n] w fun e w' => e = .returned (.bool true) ∧ Below w.heap.size w w' := by
  unfold maxLen at hb hs
  by_cases hbig : b.size ≤ 2100 ∧ s.size ≤ 2100
  · obtain ⟨hb1, hs1⟩ := hbig
    obtain ⟨x, k, g1, g2⟩ := wrapAll b (by omega)
    have g3 := read_any s (by omega)
    have g4 := refRead_any s (by omega)
    have g5 := size_at n (by omega) (by omega)
    generalize (readF s).1 = y at *
    generalize (readF s).2.1 = m at *
    generalize (readF s).2.2 = c at *
    have G1 := Lib.hid g1; have G2 := Lib.hid g2; have G3 := Lib.hid g3; have G4 := Lib.hid g4; have G5 := Lib.hid g5
    clear g1 g2 g3 g4 g5
    go_enter Try.func14, Try.ntmps14
    go_wp2_with (first
      | (go_at_call 32; refine (frame_known _).mono ?_; rintro e w1 ⟨rfl, hB1⟩)
      | (go_at_call 33; ((with_reducible refine (G1.out _).mono ?_); rintro e w2 ⟨rfl, hB2⟩))
      | (go_at_call 34; ((with_reducible refine (G2.out _).mono ?_); rintro e w3 ⟨rfl, hB3⟩))
      | (go_at_call 35; ((with_reducible refine (G3.out _).mono ?_); rintro e w4 ⟨rfl, hB4⟩))
      | (go_at_call 36; ((with_reducible refine (G4.out _).mono ?_); rintro e w5 ⟨rfl, hB5⟩))
      | (go_at_call 37; ((with_reducible refine (G5.out _).mono ?_); rintro e w6 ⟨rfl, hB6⟩)))
    go_ret
    exact ⟨rfl, by repeat (first | assumption | refine bel2 ?_ (by assumption))⟩
  · by_cases h1 : b.size ≤ 2100
    · have h2 : 2100 < s.size := by omega
      go_enter Try.func14, Try.ntmps14
      go_wp2_with (go_at_call 32; refine (frame_known _).mono ?_; rintro e w1 ⟨rfl, hB1⟩)
      go_ret
      exact ⟨rfl, hB1⟩
    · have h2 : 2100 < b.size := by omega
      go_enter Try.func14, Try.ntmps14
      go_wp2_with (go_at_call 32; refine (frame_known _).mono ?_; rintro e w1 ⟨rfl, hB1⟩)
      go_ret
      exact ⟨rfl, hB1⟩

set_option maxRecDepth 100000 in
theorem lifted (os : Os) (started : os.Started) (H : Type) (enc : TypeId × Value → H) :
    ReturnsInHanded {} Try.checked os 14 .any (Rows.frameTellsSpec.pre6 enc Try.prog Try.f14 Rows.frameTellsRow.domain false) (Rows.frameTellsSpec.post enc Try.prog Try.f14 false true false false) := by
  refine returnsInHanded_of_change (C := Try.checked) Try.own started (by kernel_rfl) Try.func14
    (ChangeSpec.witness6 (enc := enc) (C := Try.checked) false ⟨#[], #[.string ⟨#[]⟩, .string ⟨#[]⟩, .int .i16 0], []⟩ 8 (by kernel_rfl) (by kernel_rfl) (by kernel_rfl) (by kernel_rfl)) ?_
  intro W base args ds gs before hval hW _ _
  refine law_contract (T := 4) (n := 3) Try.laid Try.underlying4 rfl rfl ⟨rfl, fun H ds h => by match ds, h with | [_, _, _], _ => rfl⟩ (of_all (by kernel_rfl)) hW ?_
  intro ps hA
  rw [Try.params14] at hA hval
  obtain ⟨v0, vs0, d0, ds0, p0, q0, hargs, rfl, rfl, h0, r0⟩ := trodAll_cons hA
  obtain ⟨v1, vs1, d1, ds1, p1, q1, rfl, rfl, rfl, h1, r1⟩ := trodAll_cons r0
  obtain ⟨v2, vs2, d2, ds2, p2, q2, rfl, rfl, rfl, h2, r2⟩ := trodAll_cons r1
  obtain ⟨rfl, rfl, rfl⟩ := trodAll_nil r2
  obtain rfl : args = #[v0, v1, v2] := by cases args; simp_all
  obtain ⟨a0, rfl, rfl, rfl, w0⟩ := open_string Try.underlying9 (hval 0 9 v0 rfl rfl) h0
  obtain ⟨a1, rfl, rfl, rfl, w1⟩ := open_string Try.underlying9 (hval 1 9 v1 rfl rfl) h1
  obtain ⟨a2, rfl, rfl, rfl, w2⟩ := open_int Try.underlying56 (hval 2 56 v2 rfl rfl) h2
  exact walk a0 w0 a1 w1 a2 (bounds_i16 w2) W

theorem holds : Rows.FrameTellsSaid :=
  OpenClaim.holds_of_wide 14 Try.f14 rfl rfl rfl rfl rfl rfl rfl ⟨rfl, rfl, rfl, rfl, rfl⟩ rfl rfl rfl rfl rfl (by kernel_rfl) Try.func14 (by kernel_rfl)
    (of_decide_eq_true (by kernel_rfl)) (by unfold Func.isWrapper; first | (rw [if_pos (by decide +kernel)]; kernel_rfl) | (rw [if_neg (by decide +kernel)]; exact ⟨rfl, rfl⟩))
    (fun os started H enc _ => lifted os started H enc)
end Go.Proofs.Ytcchbpjkejklaaa.frameTells
