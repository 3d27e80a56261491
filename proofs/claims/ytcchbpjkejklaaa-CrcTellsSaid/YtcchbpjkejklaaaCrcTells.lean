/- Law CrcTells: for every input the call answers true; its arguments read as they did. No condition. -/
import Derived.Test.YtcchbpjkejklaaaLaw
import Derived.Test.YtcchbpjkejklaaaKnown2
namespace Go.Proofs.Ytcchbpjkejklaaa.crcTells
open Go.ChangeShapes Go.WideShapes Go.ChangeAt Go.RowKit Go.Shelf
open Go.ChangeMaps (open_string shut_string)
set_option linter.unusedVariables false
attribute [local go_sem] Oper.semAt_some wide_fn wide_round_fn


set_option maxRecDepth 100000 in
set_option maxHeartbeats 2000000 in
theorem walk (c : Nat) (hc : c < 4294967296) (b : ByteArray) (hb : b.size ≤ maxLen) (w : World) :
    Calls Try.prog 9 #[.int .u32 c, .string b] w fun e w' => e = .returned (.bool true) ∧ Below w.heap.size w w' := by
  unfold maxLen at hb
  by_cases hbig : b.size ≤ 500
  · have G1 := Lib.hid (of_at b (by omega)); have G2 := Lib.hid (show ∀ w, Gives Try.prog 30 #[.int .u32 0, .string b] w (.int .u32 (moreN 0 b)) from refmore_at 0 (by decide) b (by omega))
    have G3 := Lib.hid (more_at c hc b (by omega)); have G4 := Lib.hid (refmore_at c hc b (by omega))
    generalize moreN 0 b = v0 at *
    generalize moreN c b = v1 at *
    go_enter Try.func9, Try.ntmps9
    go_wp2_with (first
      | (go_at_call 28; refine (crc_known _).mono ?_; rintro e w1 ⟨rfl, hB1⟩)
      | (go_at_call 29; ((with_reducible refine (G1.out _).mono ?_); rintro e w2 ⟨rfl, hB2⟩))
      | (go_at_call 30; ((with_reducible refine (G2.out _).mono ?_); rintro e w3 ⟨rfl, hB3⟩))
      | (go_at_call 31; ((with_reducible refine (G3.out _).mono ?_); rintro e w4 ⟨rfl, hB4⟩))
      | (go_at_call 30; ((with_reducible refine (G4.out _).mono ?_); rintro e w5 ⟨rfl, hB5⟩)))
    go_ret
    exact ⟨rfl, bel2 (bel2 (bel2 (bel2 hB1 hB2) hB3) hB4) hB5⟩
  · have hbig' : 500 < b.size := by omega
    go_enter Try.func9, Try.ntmps9
    go_wp2_with (go_at_call 28; refine (crc_known _).mono ?_; rintro e w1 ⟨rfl, hB1⟩)
    go_ret
    exact ⟨rfl, hB1⟩

set_option maxRecDepth 100000 in
theorem lifted (os : Os) (started : os.Started) (H : Type) (enc : TypeId × Value → H) :
    ReturnsInHanded {} Try.checked os 9 .any (Rows.crcTellsSpec.pre6 enc Try.prog Try.f9 Rows.crcTellsRow.domain false) (Rows.crcTellsSpec.post enc Try.prog Try.f9 false true false false) := by
  refine returnsInHanded_of_change (C := Try.checked) Try.own started (by kernel_rfl) Try.func9
    (ChangeSpec.witness6 (enc := enc) (C := Try.checked) false ⟨#[], #[.int .u32 0, .string ⟨#[]⟩], []⟩ 8 (by kernel_rfl) (by kernel_rfl) (by kernel_rfl) (by kernel_rfl)) ?_
  intro W base args ds gs before hval hW _ _
  refine law_contract (T := 4) (n := 2) Try.laid Try.underlying4 rfl rfl ⟨rfl, fun H ds h => by match ds, h with | [_, _], _ => rfl⟩ (of_all (by kernel_rfl)) hW ?_
  intro ps hA
  rw [Try.params9] at hA hval
  obtain ⟨v0, vs0, d0, ds0, p0, q0, hargs, rfl, rfl, h0, r0⟩ := trodAll_cons hA
  obtain ⟨v1, vs1, d1, ds1, p1, q1, rfl, rfl, rfl, h1, r1⟩ := trodAll_cons r0
  obtain ⟨rfl, rfl, rfl⟩ := trodAll_nil r1
  obtain rfl : args = #[v0, v1] := by cases args; simp_all
  obtain ⟨a0, rfl, rfl, rfl, w0⟩ := open_int Try.underlying22 (hval 0 22 v0 rfl rfl) h0
  obtain ⟨a1, rfl, rfl, rfl, w1⟩ := open_string Try.underlying9 (hval 1 9 v1 rfl rfl) h1
  obtain ⟨n0, rfl, b0⟩ := nat_of_u32 w0
  exact walk n0 b0 a1 w1 W

theorem holds : Rows.CrcTellsSaid :=
  OpenClaim.holds_of_wide 9 Try.f9 rfl rfl rfl rfl rfl rfl rfl ⟨rfl, rfl, rfl, rfl, rfl⟩ rfl rfl rfl rfl rfl (by kernel_rfl) Try.func9 (by kernel_rfl)
    (of_decide_eq_true (by kernel_rfl)) (by unfold Func.isWrapper; first | (rw [if_pos (by decide +kernel)]; kernel_rfl) | (rw [if_neg (by decide +kernel)]; exact ⟨rfl, rfl⟩))
    (fun os started H enc _ => lifted os started H enc)
end Go.Proofs.Ytcchbpjkejklaaa.crcTells
