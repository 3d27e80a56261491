/- Law CrcGoes: for every input the call answers true; its arguments read as they did. No condition. -/
import Derived.Test.YtcchbpjkejklaaaLaw
import Derived.Test.YtcchbpjkejklaaaKnown2
import Derived.Test.YtcchbpjkejklaaaSized
namespace Go.Proofs.Ytcchbpjkejklaaa.crcGoes
open Go.ChangeShapes Go.WideShapes Go.ChangeAt Go.RowKit Go.Shelf
open Go.ChangeMaps (open_string shut_string)
set_option linter.unusedVariables false
attribute [local go_sem] Oper.semAt_some wide_fn wide_round_fn


set_option maxRecDepth 100000 in
set_option maxHeartbeats 2000000 in
theorem walk (a : ByteArray) (ha : a.size < 140737488355328) (b : ByteArray) (hb : b.size < 140737488355328) (c : ByteArray) (hc : c.size < 140737488355328) (n : Nat) (hn : n < 4294967296) (w : World) :
    Calls Try.prog 10 #[.string a, .string b, .string c, .int .u32 n] w fun e w' => e = .returned (.bool true) ∧ Below w.heap.size w w' := by
  by_cases hbig : a.size + b.size + c.size ≤ 600
  · have s1 : (a ++ b).size = a.size + b.size := ByteArray.size_append
    have s2 : (a ++ b ++ c).size = a.size + b.size + c.size := by rw [ByteArray.size_append, ByteArray.size_append]
    have s3 : (b ++ c).size = b.size + c.size := ByteArray.size_append
    have g1 := of_at (a ++ b) (by omega); have g2 := of_at a (by omega)
    have g3 := more_at (moreN 0 a) (moreN_lt _ _) b (by omega)
    have g4 := more_at n hn (a ++ b ++ c) (by omega); have g5 := more_at n hn a (by omega)
    have g6 := more_at (moreN n a) (moreN_lt _ _) (b ++ c) (by omega)
    have g7 := more_at n hn ⟨#[]⟩ (by decide)
    rw [moreN_append] at g1
    rw [show a ++ b ++ c = a ++ (b ++ c) from ByteArray.append_assoc, moreN_append, ← show a ++ b ++ c = a ++ (b ++ c) from ByteArray.append_assoc] at g4
    rw [moreN_empty n hn] at g7
    generalize moreN (moreN n a) (b ++ c) = v6 at *
    generalize moreN (moreN 0 a) b = v3 at *
    generalize moreN n a = v5 at *
    generalize moreN 0 a = v2 at *
    have G1 := Lib.hid g1; have G2 := Lib.hid g2; have G3 := Lib.hid g3; have G4 := Lib.hid g4; have G5 := Lib.hid g5; have G6 := Lib.hid g6; have G7 := Lib.hid g7
    clear g1 g2 g3 g4 g5 g6 g7
    go_enter Try.func10, Try.ntmps10
    go_wp2_with (first
      | (go_at_call 28; refine (crc_known _).mono ?_; rintro e w1 ⟨rfl, hB1⟩)
      | (go_at_call 29; ((with_reducible refine (G1.out _).mono ?_); rintro e w2 ⟨rfl, hB2⟩))
      | (go_at_call 29; ((with_reducible refine (G2.out _).mono ?_); rintro e w3 ⟨rfl, hB3⟩))
      | (go_at_call 31; ((with_reducible refine (G3.out _).mono ?_); rintro e w4 ⟨rfl, hB4⟩))
      | (go_at_call 31; ((with_reducible refine (G4.out _).mono ?_); rintro e w5 ⟨rfl, hB5⟩))
      | (go_at_call 31; ((with_reducible refine (G5.out _).mono ?_); rintro e w6 ⟨rfl, hB6⟩))
      | (go_at_call 31; ((with_reducible refine (G6.out _).mono ?_); rintro e w7 ⟨rfl, hB7⟩))
      | (go_at_call 31; ((with_reducible refine (G7.out _).mono ?_); rintro e w8 ⟨rfl, hB8⟩)))
    go_ret
    exact ⟨rfl, by repeat (first | assumption | refine bel2 ?_ (by assumption))⟩
  · have hbig' : 600 < a.size + b.size + c.size := by omega
    go_enter Try.func10, Try.ntmps10
    go_wp2_with (go_at_call 28; refine (crc_known _).mono ?_; rintro e w1 ⟨rfl, hB1⟩)
    go_ret
    exact ⟨rfl, hB1⟩

set_option maxRecDepth 100000 in
theorem lifted (os : Os) (started : os.Started) (H : Type) (enc : TypeId × Value → H) :
    ReturnsInHanded {} Try.checked os 10 .any (Rows.crcGoesSpec.pre6 enc Try.prog Try.f10 Rows.crcGoesRow.domain false) (Rows.crcGoesSpec.post enc Try.prog Try.f10 false true false false) := by
  refine returnsInHanded_of_change_sized (C := Try.checked) Try.own started (by kernel_rfl) Try.func10
    (ChangeSpec.witness6 (enc := enc) (C := Try.checked) false ⟨#[], #[.string ⟨#[]⟩, .string ⟨#[]⟩, .string ⟨#[]⟩, .int .u32 0], []⟩ 8 (by kernel_rfl) (by kernel_rfl) (by kernel_rfl) (by kernel_rfl)) ?_
  intro W base args ds gs before hval hW _ hz _
  refine law_contract (T := 4) (n := 4) Try.laid Try.underlying4 rfl rfl ⟨rfl, fun H ds h => by match ds, h with | [_, _, _, _], _ => rfl⟩ (of_all (by kernel_rfl)) hW ?_
  intro ps hA
  rw [Try.params10] at hA hval
  obtain ⟨v0, vs0, d0, ds0, p0, q0, hargs, rfl, rfl, h0, r0⟩ := trodAll_cons hA
  obtain ⟨v1, vs1, d1, ds1, p1, q1, rfl, rfl, rfl, h1, r1⟩ := trodAll_cons r0
  obtain ⟨v2, vs2, d2, ds2, p2, q2, rfl, rfl, rfl, h2, r2⟩ := trodAll_cons r1
  obtain ⟨v3, vs3, d3, ds3, p3, q3, rfl, rfl, rfl, h3, r3⟩ := trodAll_cons r2
  obtain ⟨rfl, rfl, rfl⟩ := trodAll_nil r3
  obtain rfl : args = #[v0, v1, v2, v3] := by cases args; simp_all
  obtain ⟨a0, rfl, rfl, rfl, w0⟩ := open_string Try.underlying9 (hval 0 9 v0 rfl rfl) h0
  obtain ⟨a1, rfl, rfl, rfl, w1⟩ := open_string Try.underlying9 (hval 1 9 v1 rfl rfl) h1
  obtain ⟨a2, rfl, rfl, rfl, w2⟩ := open_string Try.underlying9 (hval 2 9 v2 rfl rfl) h2
  obtain ⟨a3, rfl, rfl, rfl, w3⟩ := open_int Try.underlying22 (hval 3 22 v3 rfl rfl) h3
  replace w0 := size_of_sized (sized_string hz (j := 0) (t := 9) rfl rfl)
  replace w1 := size_of_sized (sized_string hz (j := 1) (t := 9) rfl rfl)
  replace w2 := size_of_sized (sized_string hz (j := 2) (t := 9) rfl rfl)
  obtain ⟨n3, rfl, b3⟩ := nat_of_u32 w3
  exact walk a0 w0 a1 w1 a2 w2 n3 b3 W

theorem holds : Rows.CrcGoesSaid :=
  OpenClaim.holds_of_wide 10 Try.f10 rfl rfl rfl rfl rfl rfl rfl ⟨rfl, rfl, rfl, rfl, rfl⟩ rfl rfl rfl rfl rfl (by kernel_rfl) Try.func10 (by kernel_rfl)
    (of_decide_eq_true (by kernel_rfl)) (by unfold Func.isWrapper; first | (rw [if_pos (by decide +kernel)]; kernel_rfl) | (rw [if_neg (by decide +kernel)]; exact ⟨rfl, rfl⟩))
    (fun os started H enc _ => lifted os started H enc)
end Go.Proofs.Ytcchbpjkejklaaa.crcGoes
