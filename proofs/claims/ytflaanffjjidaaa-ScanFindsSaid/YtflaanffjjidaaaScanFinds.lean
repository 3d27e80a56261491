/- Law ScanFinds: for every input the call answers true; its arguments read as they did. No condition. -/
import Derived.Test.YtflaanffjjidaaaLaw
import Derived.Test.YtflaanffjjidaaaScanT
import Derived.Test.YtflaanffjjidaaaBytes
namespace Go.Proofs.Ytflaanffjjidaaa.scanFinds
open Go.ChangeShapes Go.WideShapes Go.ChangeAt Go.RowKit Go.Shelf
open Go.ChangeMaps (open_string shut_string)
set_option linter.unusedVariables false
attribute [local go_sem] Oper.semAt_some wide_fn wide_round_fn

set_option maxRecDepth 100000 in
set_option maxHeartbeats 8000000 in
theorem finds_few (w : World) (a : Option Addr) (len cap : Nat) (L : List RL) (hL : L.length = len) (hc : len ≤ cap) (hr : RowV w a len 2 (recCells L)) (hg : ∀ x ∈ L, GoodR w x.1 x.2) (i : Nat) (hi : i < 65536) (at_ : Nat) (hat : at_ < 65536) (y : UInt8) (hf : fewRs L = true) :
    Calls Try.prog 3 #[.slice a len cap, .int .u16 i, .int .u16 at_, .int .u8 y.toNat] w fun e w' => e = .returned (.bool true) ∧ Below w.heap.size w w' := by
  obtain ⟨hP, h15⟩ := recs_at (a := a) (cap := cap) hL hg hf
  have GK := Lib.hid known11_any
  have GF := Lib.hid (fun W (hW : Below w.heap.size w W) => (show Gives Try.prog 9 #[.slice a len cap] W (.bool true) from hf ▸ few11_call cap hL hr hg W hW))
  have hEn : ∀ x ∈ L, ∀ y ∈ x.2, y.2.length = y.1.len := fun x hx y hy => ((hP x hx).2.2.2 y hy).1
  have hwx : IntKind.i64.wrap ((i : Int) + 1) = ((i + 1 : Nat) : Int) := (IntWalk.i64_in _ (by omega)).trans (by push_cast; rfl)
  have hh : heldN ((i + 1 : Nat) : Int) = i + 1 := heldN_self (by omega) (by omega)
  obtain ⟨X, hX⟩ : ∃ X : Int, X = ((i + 1 : Nat) : Int) := ⟨_, rfl⟩
  rw [← hX] at hh hwx
  obtain ⟨S, hS⟩ : ∃ S, S = headS (i + 1) ++ laidL L := ⟨_, rfl⟩
  obtain ⟨F, hF⟩ : ∃ F, F = fcR X 16 L := ⟨_, rfl⟩
  have hz : 16 ≤ S.size ∧ S.size ≤ 40000 := by
    have := laidL_size L hEn
    rw [hS, ByteArray.size_append, headS_size]; omega
  have hsc : Scn S X 16 F S.size 2 := by
    have := scn_laid X L (headS (i + 1)) hEn
    rw [headS_size] at this
    rw [hS, hF]; exact this
  have hFn : (anyR L).length = F.length := by rw [hF, fcR_len]
  have hF6 : F.length < 1000000 := by have := scn_end hsc hz.1; omega
  have GL := Lib.hid (fun W (hW : Below w.heap.size w W) => (show Gives Try.prog 10 #[.slice a len cap, .int .i64 X] W (.tuple #[.string S, .int .i64 (F.length : Int)]) from by
    have := laid11_any a len cap L X W hL (by omega) (hr.below hW) (fun x hx => (hP x hx).below hW)
    rwa [hh, ← hS, hFn] at this))
  have GA := Lib.hid (fun W => all_whole S (by omega) X F S.size 2 (by rw [hh, hS]; exact chk_same _ _) hsc hz.1 hF6 W)
  have HFL := Lib.hid hF6
  by_cases hearly : S.size = 16 ∨ y = 0
  · have HE := Lib.hid hearly
    clear hP hr hg hf hEn hh hS hF hsc hFn hX
    by_cases h16 : S.size = 16
    · have h16' : ((S.size : Int) == 16) = true := by rw [h16]; rfl
      have h16i : (S.size : Int) = 16 := by omega
      have HZ := Lib.hid h16
      clear hearly h16 hz
      go_enter Try.func3, Try.ntmps3
      go_wp2_with (first
        | (go_at_call 8; ((with_reducible refine (GK.out _).mono ?_); rintro e w1 ⟨rfl, hB1⟩))
        | (go_at_call 9; ((with_reducible refine (GF.out _ hB1).mono ?_); rintro e w2 ⟨rfl, hB2⟩; have hX2 := bel2 hB1 hB2))
        | (go_at_call 10; ((with_reducible refine (GL.out _ hX2).mono ?_); rintro e w3 ⟨rfl, hB3⟩; have hX3 := bel2 hX2 hB3))
        | (go_at_call 11; ((with_reducible refine (GA.out _).mono ?_); rintro e w4 ⟨ya, yc, M, rfl, hN, hcp, hM, hB4⟩; have hX4 := bel2 hX3 hB4; clear hN hM hB4)))
      go_ret
      exact ⟨rfl, hX4⟩
    · have hy0 : y = 0 := hearly.resolve_left h16
      subst hy0
      have h16' : ((S.size : Int) == 16) = false := by rw [beq_eq_false_iff_ne]; omega
      have h16i : ¬ (S.size : Int) = 16 := by omega
      have hyz : ((0 : UInt8).toNat : Int) = 0 := rfl
      clear hearly h16 hz
      go_enter Try.func3, Try.ntmps3
      go_wp2_with (first
        | (go_at_call 8; ((with_reducible refine (GK.out _).mono ?_); rintro e w1 ⟨rfl, hB1⟩))
        | (go_at_call 9; ((with_reducible refine (GF.out _ hB1).mono ?_); rintro e w2 ⟨rfl, hB2⟩; have hX2 := bel2 hB1 hB2))
        | (go_at_call 10; ((with_reducible refine (GL.out _ hX2).mono ?_); rintro e w3 ⟨rfl, hB3⟩; have hX3 := bel2 hX2 hB3))
        | (go_at_call 11; ((with_reducible refine (GA.out _).mono ?_); rintro e w4 ⟨ya, yc, M, rfl, hN, hcp, hM, hB4⟩; have hX4 := bel2 hX3 hB4; clear hN hM hB4)))
      go_ret
      exact ⟨rfl, hX4⟩
  · have h16 : ¬ S.size = 16 := fun h => hearly (.inl h)
    have hy : y ≠ 0 := fun h => hearly (.inr h)
    have hlz : (laidL L).data.toList.length = S.size - 16 := by rw [ba_size, hS, ByteArray.size_append, headS_size]; omega
    obtain ⟨q, hq, hq1⟩ : ∃ q : Nat, (at_ : Int).tmod ((S.size - 16 : Nat) : Int) = (q : Int) ∧ q < S.size - 16 := ⟨at_ % (S.size - 16), by rw [Int.tmod_eq_emod_of_nonneg (by omega)]; norm_cast, Nat.mod_lt _ (by omega)⟩
    obtain ⟨k, hk, m, hscT, htk, hmq⟩ := scn_turn X y hy L (headS (i + 1)) q (by omega) hEn
    rw [headS_size] at hscT hmq
    simp only [headS_size, ← hF] at hk hscT htk
    obtain ⟨T, hT⟩ : ∃ T, T = headS (i + 1) ++ turnB (laidL L) q y := ⟨_, rfl⟩
    rw [← hT] at hscT
    have hjl : 16 + q < S.data.toList.length := by rw [ba_size]; omega
    have hset : mkBA (S.data.toList.set (16 + q) (S.data.toList[16 + q] ^^^ y)) = T := by
      subst hS
      rw [hT]; exact turn_set _ _ q y (hd_len _) hjl
    have hTz : T.size = S.size := by
      rw [← hset, mkBA_size, List.length_set, ba_size]
    have hxv := xorB11 S.data.toList[16 + q] y
    obtain ⟨d, hd⟩ : ∃ d : UInt8, d = S.data.toList[16 + q] := ⟨_, rfl⟩
    rw [← hd] at hset hxv
    have GT := Lib.hid (fun W => (show Calls Try.prog 11 #[.string T, .int .i64 X] W (fun x w' => ∃ (a : Option Addr) (cap : Nat) (M : List FV), x = .returned (.tuple #[.slice a k cap, .int .i64 (m : Int), .int .i64 4]) ∧ FNew W.heap.size w' a k M ∧ M.map fcore = F.take k ∧ Below W.heap.size W w') from by
      have := all_whole T (by omega) X (F.take k) m 4 (by rw [hh, hT]; exact chk_same _ _) hscT (by omega) (by rw [List.length_take]; omega) W
      unfold AllPostS at this
      rw [List.length_take, Nat.min_eq_left (by omega)] at this
      exact this.mono fun x w' ⟨a, cap, M, q1, q2, _, q4, q5⟩ => ⟨a, cap, M, q1, q2, q4, q5⟩))
    have hws : IntKind.i64.wrap ((S.size : Int) - 16) = ((S.size - 16 : Nat) : Int) := (IntWalk.i64_in _ (by omega)).trans (by omega)
    have hwq : IntKind.i64.wrap (q : Int) = (q : Int) := IntWalk.i64_in _ (by omega)
    have hwj : IntKind.i64.wrap (16 + (q : Int)) = ((16 + q : Nat) : Int) := (IntWalk.i64_in _ (by omega)).trans (by push_cast; rfl)
    have h16' : ((S.size : Int) == 16) = false := by rw [beq_eq_false_iff_ne]; omega
    have h16i : ¬ (S.size : Int) = 16 := by omega
    have hyn : y.toNat ≠ 0 := fun e => hy (UInt8.toNat_inj.1 e)
    have hyz : ((y.toNat : Int) == 0) = false := by rw [beq_eq_false_iff_ne]; omega
    have hyz' : ¬ (y.toNat : Int) = 0 := by omega
    have hQ0 : ¬ ((S.size - 16 : Nat) : Int) = 0 := by omega
    have hQ1 : (((S.size - 16 : Nat) : Int) == 0) = false := by rw [beq_eq_false_iff_ne]; exact hQ0
    have hj0 : (0 : Int) ≤ ((16 + q : Nat) : Int) := by omega
    have hj1 : ((16 + q : Nat) : Int) < (S.size : Int) := by omega
    have hmj : ¬ ((16 + q : Nat) : Int) < (m : Int) := by omega
    have hkF : (k : Int) < (F.length : Int) := by omega
    have hkF' : ¬ (F.length : Int) ≤ (k : Int) := by omega
    have hk0 : (0 : Int) ≤ (k : Int) := by omega
    have HK := Lib.hid hk
    have HTK := Lib.hid (show ∀ h : k < F.length, F[k].t = (m : Int) from fun h => htk)
    have HSZ := Lib.hid (ba_size S)
    obtain ⟨z, hzz⟩ : ∃ z : UInt8, z = d ^^^ y := ⟨_, rfl⟩
    rw [← hzz] at hxv hset
    obtain ⟨j, hj⟩ : ∃ j : Nat, j = 16 + q := ⟨_, rfl⟩
    have hjl2 : j < S.data.toList.length := by omega
    have HJL := Lib.hid hjl2
    have HD := Lib.hid (show d = S.data.toList[j] by simp only [hj]; exact hd)
    have HSET := Lib.hid (show mkBA (S.data.toList.set j z) = T by rw [hj]; exact hset)
    rw [← hj] at hwj hj0 hj1 hmj
    generalize ((S.size - 16 : Nat) : Int) = Q at *
    clear hP hr hg hf hEn hh hS hF hsc hFn hX hearly h16 hy hlz hq1 hscT htk hmq hT hjl hjl2 hset hTz hd hyn hzz hj hz hk
    go_enter Try.func3, Try.ntmps3
    go_wp2_with (first
        | (go_at_call 8; ((with_reducible refine (GK.out _).mono ?_); rintro e w1 ⟨rfl, hB1⟩))
        | (go_at_call 9; ((with_reducible refine (GF.out _ hB1).mono ?_); rintro e w2 ⟨rfl, hB2⟩; have hX2 := bel2 hB1 hB2))
        | (go_at_call 10; ((with_reducible refine (GL.out _ hX2).mono ?_); rintro e w3 ⟨rfl, hB3⟩; have hX3 := bel2 hX2 hB3))
        | (go_at_call 11; ((with_reducible refine (GA.out _).mono ?_); rintro e w4 ⟨ya, yc, M, rfl, hN, hcp, hM, hB4⟩; have hX4 := bel2 hX3 hB4; have HN := Lib.hid hN; have HM := Lib.hid hM; have hky : (k : Int) ≤ (yc : Int) := (by omega); obtain ⟨b, off, rfl, hcell⟩ := found_t hN hM HK.out; have HCC := Lib.hid hcell; obtain ⟨bc, w5, hbc, hcv0, hB5, hby⟩ := bytes_of (P := Try.prog) (src := 9) (dst := 31) Try.underlying9 Try.underlying31 Try.underlying5 S w4; have hA5 := bel2 hX4 hB5; have hs4 := hX4.size; have hcb : w5.cell? ⟨w4.heap.size, j, none⟩ = some (.int .u8 d.toNat) := (by rw [HD.out]; exact hby.cell _ HJL.out); have hfb := hby.frozen _ HJL.out; have HC5 := Lib.hid (show Below w.heap.size w (w5.setCell ⟨w4.heap.size, j, none⟩ (.int .u8 z.toNat)) from hA5.setCell (p := ⟨w4.heap.size, j, none⟩) hs4 (vb z)); have HD5 := Lib.hid (show Below w4.heap.size w4 (w5.setCell ⟨w4.heap.size, j, none⟩ (.int .u8 z.toNat)) from hB5.setCell (p := ⟨w4.heap.size, j, none⟩) (Nat.le_refl _) (vb z)); have hcv2 := string_of (P := Try.prog) (src := 31) (dst := 9) Try.underlying31 Try.underlying5 Try.underlying9 (show BytesAt (w5.setCell ⟨w4.heap.size, j, none⟩ (.int .u8 z.toNat)) w4.heap.size (S.data.toList.set j z) from (hby.set _ HJL.out z)) S.size bc (by rw [List.length_set]; exact HSZ.out); rw [show (⟨(S.data.toList.set j z).toArray⟩ : ByteArray) = T from HSET.out] at hcv2; clear hN hM hB4 hcell hby hA5 hB5))
        | (go_at_call 11; ((with_reducible refine (GT.out _).mono ?_); rintro e w6 ⟨ta, tc, M2, rfl, hN2, hM2, hB6⟩; have hX6 := bel2 HC5.out hB6; have HD6 := Lib.hid (bel2 HD5.out hB6); have GS := Lib.hid (same_pre tc yc hN2 HN.out (Below.refl _ _) HD6.out (Nat.le_of_lt HK.out) (by rw [hM2, HM.out])); clear hN2 hM2 hB6 hcv2 hcv0 hcb hfb))
        | (go_at_call 12; ((with_reducible refine GS.out.mono ?_); rintro e w7 ⟨rfl, hB7⟩; have hX7 := bel2 hX6 hB7; have c3 := HCC.out w7 (bel2 HD6.out hB7); rw [HTK.out _] at c3)))
    go_ret
    exact ⟨by simp, hX7⟩
set_option maxRecDepth 100000 in
theorem walk (w : World) (a : Option Addr) (len cap : Nat) (L : List RL) (hL : L.length = len) (hc : len ≤ cap) (hr : RowV w a len 2 (recCells L)) (hg : ∀ x ∈ L, GoodR w x.1 x.2) (i : Nat) (hi : i < 65536) (at_ : Nat) (hat : at_ < 65536) (y : Nat) (hy : y < 256) :
    Calls Try.prog 3 #[.slice a len cap, .int .u16 i, .int .u16 at_, .int .u8 y] w fun e w' => e = .returned (.bool true) ∧ Below w.heap.size w w' := by
  cases hf : fewRs L
  · have GK := Lib.hid known11_any
    have GF := Lib.hid (fun W (hW : Below w.heap.size w W) => (show Gives Try.prog 9 #[.slice a len cap] W (.bool false) from hf ▸ few11_call cap hL hr hg W hW))
    clear hr hg hf
    go_enter Try.func3, Try.ntmps3
    go_wp2_with (first
      | (go_at_call 8; ((with_reducible refine (GK.out _).mono ?_); rintro e w1 ⟨rfl, hB1⟩))
      | (go_at_call 9; ((with_reducible refine (GF.out _ hB1).mono ?_); rintro e w2 ⟨rfl, hB2⟩; have hX2 := bel2 hB1 hB2)))
    go_ret
    exact ⟨rfl, hX2⟩
  · obtain ⟨z, rfl⟩ : ∃ z : UInt8, y = z.toNat := ⟨UInt8.ofNat y, by rw [UInt8.toNat_ofNat']; omega⟩
    exact finds_few w a len cap L hL hc hr hg i hi at_ hat z hf

set_option maxRecDepth 100000 in
theorem lifted (os : Os) (started : os.Started) (H : Type) (enc : TypeId × Value → H) :
    ReturnsInHanded {} Try.checked os 3 .any (Rows.scanFindsSpec.pre6 enc Try.prog Try.f3 Rows.scanFindsRow.domain false) (Rows.scanFindsSpec.post enc Try.prog Try.f3 false true false false) := by
  refine returnsInHanded_of_change (C := Try.checked) Try.own started (by kernel_rfl) Try.func3
    (ChangeSpec.witness6 (enc := enc) (C := Try.checked) false ⟨#[], #[.slice none 0 0, .int .u16 0, .int .u16 0, .int .u8 0], []⟩ 8 (by kernel_rfl) (by kernel_rfl) (by kernel_rfl) (by kernel_rfl)) ?_
  intro W base args ds gs before hval hW _ _
  refine law_contract (T := 4) (n := 4) Try.laid Try.underlying4 rfl rfl ⟨rfl, fun H ds h => by match ds, h with | [_, _, _, _], _ => rfl⟩ (of_all (by kernel_rfl)) hW ?_
  intro ps hA
  rw [Try.params3] at hA hval
  obtain ⟨v0, vs0, d0, ds0, p0, q0, hargs, rfl, rfl, h0, r0⟩ := trodAll_cons hA
  obtain ⟨v1, vs1, d1, ds1, p1, q1, rfl, rfl, rfl, h1, r1⟩ := trodAll_cons r0
  obtain ⟨v2, vs2, d2, ds2, p2, q2, rfl, rfl, rfl, h2, r2⟩ := trodAll_cons r1
  obtain ⟨v3, vs3, d3, ds3, p3, q3, rfl, rfl, rfl, h3, r3⟩ := trodAll_cons r2
  obtain ⟨rfl, rfl, rfl⟩ := trodAll_nil r3
  obtain rfl : args = #[v0, v1, v2, v3] := by cases args; simp_all
  obtain ⟨s0, l0, c0, rfl⟩ := okWide_slice Try.underlying22 (hval 0 22 v0 rfl rfl)
  obtain ⟨zs0, e0, g0, w0, b0⟩ := open_records h0
  obtain ⟨a1, rfl, rfl, rfl, w1⟩ := open_int Try.underlying23 (hval 1 23 v1 rfl rfl) h1
  obtain ⟨a2, rfl, rfl, rfl, w2⟩ := open_int Try.underlying23 (hval 2 23 v2 rfl rfl) h2
  obtain ⟨a3, rfl, rfl, rfl, w3⟩ := open_int Try.underlying5 (hval 3 5 v3 rfl rfl) h3
  obtain ⟨n1, rfl, b1⟩ := nat_of_u16 w1
  obtain ⟨n2, rfl, b2⟩ := nat_of_u16 w2
  obtain ⟨n3, rfl, b3⟩ := nat_of_u8 w3
  exact walk W s0 l0 c0 zs0 e0 g0 w0 b0 n1 b1 n2 b2 n3 b3

theorem holds : Rows.ScanFindsSaid :=
  OpenClaim.holds_of_wide 3 Try.f3 rfl rfl rfl rfl rfl rfl rfl ⟨rfl, rfl, rfl, rfl, rfl⟩ rfl rfl rfl rfl rfl (by kernel_rfl) Try.func3 (by kernel_rfl)
    (of_decide_eq_true (by kernel_rfl)) (by unfold Func.isWrapper; first | (rw [if_pos (by decide +kernel)]; kernel_rfl) | (rw [if_neg (by decide +kernel)]; exact ⟨rfl, rfl⟩))
    (fun os started H enc _ => lifted os started H enc)
end Go.Proofs.Ytflaanffjjidaaa.scanFinds
