/- Law ScanMost: for every input the call answers true; its arguments read as they did. No condition. -/
import Derived.Test.YtflaanffjjidaaaLaw
import Derived.Test.YtflaanffjjidaaaScan
namespace Go.Proofs.Ytflaanffjjidaaa.scanMost
open Go.ChangeShapes Go.WideShapes Go.ChangeAt Go.RowKit Go.Shelf
open Go.ChangeMaps (open_string shut_string)
set_option linter.unusedVariables false
attribute [local go_sem] Oper.semAt_some wide_fn wide_round_fn

set_option maxRecDepth 100000 in
set_option maxHeartbeats 8000000 in
theorem most_few (w : World) (a : Option Addr) (len cap : Nat) (L : List RL) (hL : L.length = len) (hc : len ≤ cap) (hr : RowV w a len 2 (recCells L)) (hg : ∀ x ∈ L, GoodR w x.1 x.2) (mo : Nat) (hmo : mo < 256) (cut : Nat) (hcut : cut < 256) (hf : fewRs L = true) :
    Calls Try.prog 4 #[.slice a len cap, .int .u8 mo, .int .u8 cut] w fun e w' => e = .returned (.bool true) ∧ Below w.heap.size w w' := by
  obtain ⟨hP, h15⟩ := recs_at (a := a) (cap := cap) hL hg hf
  have GK := Lib.hid known11_any
  have GF := Lib.hid (fun W (hW : Below w.heap.size w W) => (show Gives Try.prog 9 #[.slice a len cap] W (.bool true) from hf ▸ few11_call cap hL hr hg W hW))
  have hEn : ∀ x ∈ L, ∀ y ∈ x.2, y.2.length = y.1.len := fun x hx y hy => ((hP x hx).2.2.2 y hy).1
  have hh : heldN 5 = 5 := rfl
  obtain ⟨S, hS⟩ : ∃ S, S = headS 5 ++ laidL L := ⟨_, rfl⟩
  obtain ⟨F, hF⟩ : ∃ F, F = fcR 5 16 L := ⟨_, rfl⟩
  have hz : 16 ≤ S.size ∧ S.size ≤ 40000 := by
    have := laidL_size L hEn
    rw [hS, ByteArray.size_append, headS_size]; omega
  have hsc : Scn S 5 16 F S.size 2 := by
    have := scn_laid 5 L (headS 5) hEn
    rw [headS_size] at this
    rw [hS, hF]; exact this
  have hFn : (anyR L).length = F.length := by rw [hF, fcR_len]
  have hF6 : F.length < 1000000 := by have := scn_end hsc hz.1; omega
  obtain ⟨p, hp, hp1⟩ : ∃ p : Nat, (mo : Int) % 20 = (p : Int) ∧ p < 20 := ⟨mo % 20, by omega, by omega⟩
  obtain ⟨j, hj, hj1⟩ : ∃ j : Nat, (cut : Int).tmod ((len + 1 : Nat) : Int) = (j : Int) ∧ j ≤ len := ⟨cut % (len + 1), by rw [Int.tmod_eq_emod_of_nonneg (by omega)]; norm_cast, by have := Nat.mod_lt cut (show len + 1 > 0 by omega); omega⟩
  have hwl : IntKind.i64.wrap ((len : Int) + 1) = ((len + 1 : Nat) : Int) := (IntWalk.i64_in _ (by omega)).trans (by push_cast; rfl)
  have hwj : IntKind.i64.wrap (j : Int) = (j : Int) := IntWalk.i64_in _ (by omega)
  -- the beginning of the row
  have hEn2 : ∀ x ∈ L.take j, ∀ y ∈ x.2, y.2.length = y.1.len := fun x hx => hEn x (List.mem_of_mem_take hx)
  obtain ⟨S2, hS2⟩ : ∃ S2, S2 = headS 5 ++ laidL (L.take j) := ⟨_, rfl⟩
  obtain ⟨F2, hF2⟩ : ∃ F2, F2 = fcR 5 16 (L.take j) := ⟨_, rfl⟩
  have hz2 : 16 ≤ S2.size ∧ S2.size ≤ 40000 := by
    have := laidL_size (L.take j) hEn2
    rw [List.length_take] at this
    rw [hS2, ByteArray.size_append, headS_size]; omega
  have hsc2 : Scn S2 5 16 F2 S2.size 2 := by
    have := scn_laid 5 (L.take j) (headS 5) hEn2
    rw [headS_size] at this
    rw [hS2, hF2]; exact this
  have hpre : F.take F2.length = F2 ∧ F2.length ≤ F.length := by rw [hF, hF2]; exact fcR_pre 5 16 L j
  have hFn2 : (anyR (L.take j)).length = F2.length := by rw [hF2, fcR_len]
  have GL := Lib.hid (fun W (hW : Below w.heap.size w W) => (show Gives Try.prog 10 #[.slice a len cap, .int .i64 5] W (.tuple #[.string S, .int .i64 (F.length : Int)]) from by
    have := laid11_any a len cap L 5 W hL (by omega) (hr.below hW) (fun x hx => (hP x hx).below hW)
    rwa [hh, ← hS, hFn] at this))
  have GL2 := Lib.hid (fun W (hW : Below w.heap.size w W) => (show Gives Try.prog 10 #[.slice a j cap, .int .i64 5] W (.tuple #[.string S2, .int .i64 (F2.length : Int)]) from by
    have := laid11_any a j cap (L.take j) 5 W (by rw [List.length_take]; omega) (by omega) ((rowR_take hr hL hj1).below hW) (fun x hx => (hP x (List.mem_of_mem_take hx)).below hW)
    rwa [hh, ← hS2, hFn2] at this))
  have GA := Lib.hid (fun W => all_whole S (by omega) 5 F S.size 2 (by rw [hS]; exact chk_same 5 _) hsc hz.1 hF6 W)
  have GA2 := Lib.hid (fun W => all_whole S2 (by omega) 5 F2 S2.size 2 (by rw [hS2]; exact chk_same 5 _) hsc2 hz2.1 (by omega) W)
  have GM := Lib.hid (fun W => first_any S (by omega) 5 (p : Int) F S.size 2 (by rw [hS]; exact chk_same 5 _) hsc hz.1 hF6 W)
  have hkk : mostN (p : Int) F.length = min F.length p := by unfold mostN; omega
  rw [hkk] at GM
  obtain ⟨K, hK⟩ : ∃ K, K = min F.length p := ⟨_, rfl⟩
  rw [← hK] at GM
  have hmn : min (p : Int) (F.length : Int) = (K : Int) := by omega
  have HKF := Lib.hid (show K ≤ F.length by omega)
  have HK := Lib.hid hK
  have HZ := Lib.hid hz
  have HZ2 := Lib.hid hz2
  have HPRE := Lib.hid hpre
  have HF6 := Lib.hid hF6
  have HJ1 := Lib.hid hj1
  have hjc : (j : Int) ≤ (cap : Int) := by omega
  have hj0 : (0 : Int) ≤ (j : Int) := by omega
  have hK0 : ¬ ((len + 1 : Nat) : Int) = 0 := by omega
  have hK1 : (((len + 1 : Nat) : Int) == 0) = false := by rw [beq_eq_false_iff_ne]; exact hK0
  generalize ((len + 1 : Nat) : Int) = Q at *
  clear hP hr hg hf hEn hEn2 hh hS hF hsc hFn hz hkk hK hS2 hF2 hz2 hsc2 hpre hFn2 hj1
  by_cases hge : F.length ≤ p
  · have hge' : (F.length : Int) ≤ (p : Int) := by omega
    have hKe : K = F.length := by have := HK.out; omega
    have GM2 := Lib.hid (fun W => (show Calls Try.prog 13 #[.string S, .int .i64 5, .int .i64 (p : Int)] W (fun x w' => ∃ (a : Option Addr) (cap : Nat) (M : List FV), x = .returned (.tuple #[.slice a K cap, .int .i64 (S.size : Int), .int .i64 2]) ∧ FNew W.heap.size w' a K M ∧ K ≤ cap ∧ M.map fcore = F.take K ∧ Below W.heap.size W w') from by
      have := GM.out W
      unfold FirstPost at this
      rw [show atP F S.size K = (S.size : Int) from hKe ▸ atP_all F _, show clP F 2 K = 2 from hKe ▸ clP_all F _] at this
      exact this))
    clear GM hge hKe
    go_enter Try.func4, Try.ntmps4
    go_wp2_with (first
      | (go_at_call 8; ((with_reducible refine (GK.out _).mono ?_); rintro e w1 ⟨rfl, hB1⟩))
      | (go_at_call 9; ((with_reducible refine (GF.out _ hB1).mono ?_); rintro e w2 ⟨rfl, hB2⟩; have hX2 := bel2 hB1 hB2))
      | (go_at_call 10; ((with_reducible refine (GL.out _ hX2).mono ?_); rintro e w3 ⟨rfl, hB3⟩; have hX3 := bel2 hX2 hB3))
      | (go_at_call 11; ((with_reducible refine (GA.out _).mono ?_); rintro e w4 ⟨ya, yc, M, rfl, hN, hcp, hM, hB4⟩; have hX4 := bel2 hX3 hB4; have HN := Lib.hid hN; have HM := Lib.hid hM; have HB4 := Lib.hid hB4; have hKy : (K : Int) ≤ (yc : Int) := (by have := HKF.out; omega); clear hN hM hB4))
      | (go_at_call 13; ((with_reducible refine (GM2.out _).mono ?_); rintro e w5 ⟨za, zc, M2, rfl, hN, hcp2, hM2, hB5⟩; have hX5 := bel2 hX4 hB5; have HB5 := Lib.hid hB5; have GS := Lib.hid (same_pre zc yc hN HN.out (Below.refl _ _) hB5 HKF.out (by rw [hM2, HM.out])); clear hN hM2 hB5))
      | (go_at_call 12; ((with_reducible refine GS.out.mono ?_); rintro e w6 ⟨rfl, hB6⟩; have hX6 := bel2 hX5 hB6; have HB6 := Lib.hid (bel2 HB5.out hB6); clear hB6)))
    go_ret
    exact ⟨by simp, hX6⟩
  · have hlt : p < F.length := by omega
    have hlt' : (p : Int) < (F.length : Int) := by omega
    have hge' : ¬ (F.length : Int) ≤ (p : Int) := by omega
    have hp0 : (0 : Int) ≤ (p : Int) := by omega
    have hKe : K = p := by have := HK.out; omega
    have GM2 := Lib.hid (fun W => (show Calls Try.prog 13 #[.string S, .int .i64 5, .int .i64 (p : Int)] W (fun x w' => ∃ (a : Option Addr) (cap : Nat) (M : List FV), x = .returned (.tuple #[.slice a K cap, .int .i64 F[p].t, .int .i64 1]) ∧ FNew W.heap.size w' a K M ∧ K ≤ cap ∧ M.map fcore = F.take K ∧ Below W.heap.size W w') from by
      have := GM.out W
      unfold FirstPost at this
      rw [show atP F S.size K = F[p].t from by unfold atP; rw [dif_pos (by omega)]; congr 2, show clP F 2 K = 1 from by unfold clP; rw [if_pos (by omega)]] at this
      exact this))
    clear GM hge hKe
    go_enter Try.func4, Try.ntmps4
    go_wp2_with (first
      | (go_at_call 8; ((with_reducible refine (GK.out _).mono ?_); rintro e w1 ⟨rfl, hB1⟩))
      | (go_at_call 9; ((with_reducible refine (GF.out _ hB1).mono ?_); rintro e w2 ⟨rfl, hB2⟩; have hX2 := bel2 hB1 hB2))
      | (go_at_call 10; ((with_reducible refine (GL.out _ hX2).mono ?_); rintro e w3 ⟨rfl, hB3⟩; have hX3 := bel2 hX2 hB3))
      | (go_at_call 11; ((with_reducible refine (GA.out _).mono ?_); rintro e w4 ⟨ya, yc, M, rfl, hN, hcp, hM, hB4⟩; have hX4 := bel2 hX3 hB4; have HN := Lib.hid hN; have HM := Lib.hid hM; have HB4 := Lib.hid hB4; have hKy : (K : Int) ≤ (yc : Int) := (by have := HKF.out; omega); obtain ⟨b, off, rfl, hcell⟩ := found_t hN hM hlt; have HCC := Lib.hid hcell; have hyl : (F2.length : Int) ≤ (yc : Int) := (by have := HPRE.out.2; omega); clear hcell; clear hN hM hB4))
      | (go_at_call 13; ((with_reducible refine (GM2.out _).mono ?_); rintro e w5 ⟨za, zc, M2, rfl, hN, hcp2, hM2, hB5⟩; have hX5 := bel2 hX4 hB5; have HB5 := Lib.hid hB5; have GS := Lib.hid (same_pre zc yc hN HN.out (Below.refl _ _) hB5 HKF.out (by rw [hM2, HM.out])); clear hN hM2 hB5))
      | (go_at_call 12; ((with_reducible refine GS.out.mono ?_); rintro e w6 ⟨rfl, hB6⟩; have hX6 := bel2 hX5 hB6; have c3 := HCC.out w6 (bel2 HB5.out hB6); have HB6 := Lib.hid (bel2 HB5.out hB6); clear hB6))
      | (go_at_call 10; ((with_reducible refine (GL2.out _ hX6).mono ?_); rintro e w7 ⟨rfl, hB7⟩; have hX7 := bel2 hX6 hB7; have HB7 := Lib.hid (bel2 HB6.out hB7); clear hB7 c3))
      | (go_at_call 11; ((with_reducible refine (GA2.out _).mono ?_); rintro e w8 ⟨ua, uc, M3, rfl, hN, hcp3, hM3, hB8⟩; have hX8 := bel2 hX7 hB8; have GS2 := Lib.hid (same_pre uc yc hN HN.out (Below.refl _ _) (bel2 HB7.out hB8) HPRE.out.2 (by rw [hM3, HM.out, HPRE.out.1])); have hle : (F2.length : Int) ≤ (F.length : Int) := (by have := HPRE.out.2; omega); clear hN hM3 hB8))
      | (go_at_call 12; ((with_reducible refine GS2.out.mono ?_); rintro e w9 ⟨rfl, hB9⟩; have hX9 := bel2 hX8 hB9)))
    go_ret
    exact ⟨by simp, hX9⟩
set_option maxRecDepth 100000 in
theorem walk (w : World) (a : Option Addr) (len cap : Nat) (L : List RL) (hL : L.length = len) (hc : len ≤ cap) (hr : RowV w a len 2 (recCells L)) (hg : ∀ x ∈ L, GoodR w x.1 x.2) (mo : Nat) (hmo : mo < 256) (cut : Nat) (hcut : cut < 256) :
    Calls Try.prog 4 #[.slice a len cap, .int .u8 mo, .int .u8 cut] w fun e w' => e = .returned (.bool true) ∧ Below w.heap.size w w' := by
  cases hf : fewRs L
  · have GK := Lib.hid known11_any
    have GF := Lib.hid (fun W (hW : Below w.heap.size w W) => (show Gives Try.prog 9 #[.slice a len cap] W (.bool false) from hf ▸ few11_call cap hL hr hg W hW))
    clear hr hg hf
    go_enter Try.func4, Try.ntmps4
    go_wp2_with (first
      | (go_at_call 8; ((with_reducible refine (GK.out _).mono ?_); rintro e w1 ⟨rfl, hB1⟩))
      | (go_at_call 9; ((with_reducible refine (GF.out _ hB1).mono ?_); rintro e w2 ⟨rfl, hB2⟩; have hX2 := bel2 hB1 hB2)))
    go_ret
    exact ⟨rfl, hX2⟩
  · exact most_few w a len cap L hL hc hr hg mo hmo cut hcut hf

set_option maxRecDepth 100000 in
theorem lifted (os : Os) (started : os.Started) (H : Type) (enc : TypeId × Value → H) :
    ReturnsInHanded {} Try.checked os 4 .any (Rows.scanMostSpec.pre6 enc Try.prog Try.f4 Rows.scanMostRow.domain false) (Rows.scanMostSpec.post enc Try.prog Try.f4 false true false false) := by
  refine returnsInHanded_of_change (C := Try.checked) Try.own started (by kernel_rfl) Try.func4
    (ChangeSpec.witness6 (enc := enc) (C := Try.checked) false ⟨#[], #[.slice none 0 0, .int .u8 0, .int .u8 0], []⟩ 8 (by kernel_rfl) (by kernel_rfl) (by kernel_rfl) (by kernel_rfl)) ?_
  intro W base args ds gs before hval hW _ _
  refine law_contract (T := 4) (n := 3) Try.laid Try.underlying4 rfl rfl ⟨rfl, fun H ds h => by match ds, h with | [_, _, _], _ => rfl⟩ (of_all (by kernel_rfl)) hW ?_
  intro ps hA
  rw [Try.params4] at hA hval
  obtain ⟨v0, vs0, d0, ds0, p0, q0, hargs, rfl, rfl, h0, r0⟩ := trodAll_cons hA
  obtain ⟨v1, vs1, d1, ds1, p1, q1, rfl, rfl, rfl, h1, r1⟩ := trodAll_cons r0
  obtain ⟨v2, vs2, d2, ds2, p2, q2, rfl, rfl, rfl, h2, r2⟩ := trodAll_cons r1
  obtain ⟨rfl, rfl, rfl⟩ := trodAll_nil r2
  obtain rfl : args = #[v0, v1, v2] := by cases args; simp_all
  obtain ⟨s0, l0, c0, rfl⟩ := okWide_slice Try.underlying22 (hval 0 22 v0 rfl rfl)
  obtain ⟨zs0, e0, g0, w0, b0⟩ := open_records h0
  obtain ⟨a1, rfl, rfl, rfl, w1⟩ := open_int Try.underlying5 (hval 1 5 v1 rfl rfl) h1
  obtain ⟨a2, rfl, rfl, rfl, w2⟩ := open_int Try.underlying5 (hval 2 5 v2 rfl rfl) h2
  obtain ⟨n1, rfl, b1⟩ := nat_of_u8 w1
  obtain ⟨n2, rfl, b2⟩ := nat_of_u8 w2
  exact walk W s0 l0 c0 zs0 e0 g0 w0 b0 n1 b1 n2 b2

theorem holds : Rows.ScanMostSaid :=
  OpenClaim.holds_of_wide 4 Try.f4 rfl rfl rfl rfl rfl rfl rfl ⟨rfl, rfl, rfl, rfl, rfl⟩ rfl rfl rfl rfl rfl (by kernel_rfl) Try.func4 (by kernel_rfl)
    (of_decide_eq_true (by kernel_rfl)) (by unfold Func.isWrapper; first | (rw [if_pos (by decide +kernel)]; kernel_rfl) | (rw [if_neg (by decide +kernel)]; exact ⟨rfl, rfl⟩))
    (fun os started H enc _ => lifted os started H enc)
end Go.Proofs.Ytflaanffjjidaaa.scanMost
