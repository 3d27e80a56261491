/- Law ScanHead: for every input the call answers true; its arguments read as they did. No condition. -/
import Derived.Test.YtflaanffjjidaaaLaw
import Derived.Test.YtflaanffjjidaaaScan
import Derived.Test.YtflaanffjjidaaaRecRefs
namespace Go.Proofs.Ytflaanffjjidaaa.scanHead
open Go.ChangeShapes Go.WideShapes Go.ChangeAt Go.RowKit Go.Shelf
open Go.ChangeMaps (open_string shut_string)
set_option linter.unusedVariables false
attribute [local go_sem] Oper.semAt_some wide_fn wide_round_fn

set_option maxRecDepth 100000 in
set_option maxHeartbeats 8000000 in
/-- The segment is asked for by its own number. -/
theorem head_same (w : World) (a : Option Addr) (len cap : Nat) (L : List RL) (hL : L.length = len) (hc : len ≤ cap) (hr : RowV w a len 2 (recCells L)) (hg : ∀ x ∈ L, GoodR w x.1 x.2) (i : Nat) (hi : i < 65536) (cut : Nat) (hcut : cut < 256) (hf : fewRs L = true) :
    Calls Try.prog 5 #[.slice a len cap, .int .u16 i, .int .u16 i, .int .u8 cut] w fun e w' => e = .returned (.bool true) ∧ Below w.heap.size w w' := by
  obtain ⟨hP, h15⟩ := recs_at (a := a) (cap := cap) hL hg hf
  have GK := Lib.hid known11_any
  have GF := Lib.hid (fun W (hW : Below w.heap.size w W) => (show Gives Try.prog 9 #[.slice a len cap] W (.bool true) from hf ▸ few11_call cap hL hr hg W hW))
  have hEn : ∀ x ∈ L, ∀ y ∈ x.2, y.2.length = y.1.len := fun x hx y hy => ((hP x hx).2.2.2 y hy).1
  have hwx : IntKind.i64.wrap ((i : Int) + 1) = ((i + 1 : Nat) : Int) := (IntWalk.i64_in _ (by omega)).trans (by push_cast; rfl)
  have hh : heldN ((i + 1 : Nat) : Int) = i + 1 := heldN_self (by omega) (by omega)
  obtain ⟨S, hS⟩ : ∃ S, S = headS (i + 1) ++ laidL L := ⟨_, rfl⟩
  obtain ⟨F, hF⟩ : ∃ F, F = fcR ((i + 1 : Nat) : Int) 16 L := ⟨_, rfl⟩
  have hz : 16 ≤ S.size ∧ S.size ≤ 40000 := by
    have := laidL_size L hEn
    rw [hS, ByteArray.size_append, headS_size]; omega
  have hsc : Scn S ((i + 1 : Nat) : Int) 16 F S.size 2 := by
    have := scn_laid ((i + 1 : Nat) : Int) L (headS (i + 1)) hEn
    rw [headS_size] at this
    rw [hS, hF]; exact this
  have hFn : (anyR L).length = F.length := by rw [hF, fcR_len]
  have hF6 : F.length < 1000000 := by have := scn_end hsc hz.1; omega
  obtain ⟨p, hp, hp1⟩ : ∃ p : Nat, (cut : Int) % 16 = (p : Int) ∧ p < 16 := ⟨cut % 16, by omega, by omega⟩
  have GL := Lib.hid (fun W (hW : Below w.heap.size w W) => (show Gives Try.prog 10 #[.slice a len cap, .int .i64 ((i + 1 : Nat) : Int)] W (.tuple #[.string S, .int .i64 (F.length : Int)]) from by
    have := laid11_any a len cap L ((i + 1 : Nat) : Int) W hL (by omega) (hr.below hW) (fun x hx => (hP x hx).below hW)
    rwa [hh, ← hS, hFn] at this))
  have GA := Lib.hid (fun W => all_whole S (by omega) ((i + 1 : Nat) : Int) F S.size 2 (by rw [hh, hS]; exact chk_same _ _) hsc hz.1 hF6 W)
  have GB := Lib.hid (fun W => all_bad (S.extract 0 p) (by rw [ByteArray.size_extract]; omega) ((i + 1 : Nat) : Int) 3 (by rw [hh, hS]; exact chk_cut _ _ _ hp1) (by decide) W)
  have HSC := Lib.hid hsc
  have hps : (p : Int) ≤ (S.size : Int) := by omega
  have hp0 : (0 : Int) ≤ (p : Int) := by omega
  have HZ := Lib.hid hz
  clear hP hr hg hf hEn hh hS hF hsc hFn hz
  obtain ⟨X, hX⟩ : ∃ X : Int, X = ((i + 1 : Nat) : Int) := ⟨_, rfl⟩
  rw [← hX] at GL GA GB HSC hwx
  have HX := Lib.hid hX
  clear hX
  go_enter Try.func5, Try.ntmps5
  go_wp2_with (first
    | (go_at_call 8; ((with_reducible refine (GK.out _).mono ?_); rintro e w1 ⟨rfl, hB1⟩))
    | (go_at_call 9; ((with_reducible refine (GF.out _ hB1).mono ?_); rintro e w2 ⟨rfl, hB2⟩; have hX2 := bel2 hB1 hB2))
    | (go_at_call 10; ((with_reducible refine (GL.out _ hX2).mono ?_); rintro e w3 ⟨rfl, hB3⟩; have hX3 := bel2 hX2 hB3))
    | (go_at_call 11; ((with_reducible refine (GA.out _).mono ?_); rintro e w4 ⟨ya, yc, M, rfl, hN, hcp, hM, hB4⟩; have hX4 := bel2 hX3 hB4; have HN := Lib.hid hN; have HM := Lib.hid hM; clear hN hM hcp))
    | (go_at_call 11; ((with_reducible refine (GB.out _).mono ?_); rintro e w5 ⟨rfl, hB5⟩; have hX5 := bel2 hX4 hB5)))
  go_loopw [19] (fun v wr => ∃ k : Nat, k ≤ F.length ∧ v = .int .i64 k ∧ Below w5.heap.size w5 wr) (fun v _ => F.length - (intOf v).toNat)
  case atStart => exact ⟨0, Nat.zero_le _, rfl, Below.refl _ _⟩
  case round =>
    obtain ⟨k, hk, rfl, hB⟩ := hrel
    by_cases hlt : k < F.length
    · have hk0 : (0 : Int) ≤ (k : Int) := by omega
      have hk1 : (k : Int) < (F.length : Int) := by omega
      have hkM : k < M.length := by rw [HN.out.1]; exact hlt
      have hb5 : Below w4.heap.size w4 wr := bel2 hB5 hB
      obtain ⟨b, off, rfl, hcell⟩ := found_at HN.out hlt hkM
      obtain ⟨⟨c0, c1, c2, c3⟩, hH⟩ := hcell wr hb5
      have hfk : fcore M[k] = F[k] := by
        have h := HM.out
        have h2 : (M.map fcore)[k]? = F[k]? := by rw [h]
        rw [List.getElem?_map, List.getElem?_eq_getElem hkM, List.getElem?_eq_getElem hlt] at h2
        exact Option.some.inj h2
      obtain ⟨hrb, hsg⟩ := found_recB HSC.out hlt hfk (fun y hy => (hH.2.2.2 y hy).1)
      have HCC := Lib.hid (fun W (hW : Below wr.heap.size wr W) => (hcell W (bel2 hb5 hW)).1.2.2.1)
      have GI := Lib.hid (fun W (hW : Below wr.heap.size wr W) => (show Gives Try.prog 14 #[.agg #[.int .i64 M[k].q, .slice M[k].a M[k].len M[k].cap]] W (.bool true) from hrb ▸ refIsRec_any M[k].q M[k].a M[k].len M[k].cap M[k].L W (hH.below hW)))
      clear hcell hH hfk hrb
      rw [hsg] at HCC c2
      clear hsg
      generalize M[k] = x at *
      obtain ⟨xq, xa, xlen, xcap, xL, xs, xt⟩ := x
      dsimp only at *
      go_wp2_with (go_at_call 14; ((with_reducible refine (GI.out _ (Below.refl _ _)).mono ?_); rintro e w6 ⟨rfl, hB6⟩; have hX6 := bel2 hB hB6; have y2 := HCC.out w6 hB6; clear c0 c1 c2 c3))
      go_roundw
      case rel => exact ⟨k + 1, by omega, by go_num, hX6⟩
      case measure => simp [intOf]; omega
    · obtain rfl : k = F.length := by omega
      have hX6 := bel2 hX5 hB
      go_wp2
      go_ret
      exact ⟨rfl, hX6⟩

set_option maxRecDepth 100000 in
set_option maxHeartbeats 8000000 in
/-- It is asked for by another's. -/
theorem head_other (w : World) (a : Option Addr) (len cap : Nat) (L : List RL) (hL : L.length = len) (hc : len ≤ cap) (hr : RowV w a len 2 (recCells L)) (hg : ∀ x ∈ L, GoodR w x.1 x.2) (i : Nat) (hi : i < 65536) (j : Nat) (hj : j < 65536) (hne : i ≠ j) (cut : Nat) (hcut : cut < 256) (hf : fewRs L = true) :
    Calls Try.prog 5 #[.slice a len cap, .int .u16 i, .int .u16 j, .int .u8 cut] w fun e w' => e = .returned (.bool true) ∧ Below w.heap.size w w' := by
  obtain ⟨hP, h15⟩ := recs_at (a := a) (cap := cap) hL hg hf
  have GK := Lib.hid known11_any
  have GF := Lib.hid (fun W (hW : Below w.heap.size w W) => (show Gives Try.prog 9 #[.slice a len cap] W (.bool true) from hf ▸ few11_call cap hL hr hg W hW))
  have hEn : ∀ x ∈ L, ∀ y ∈ x.2, y.2.length = y.1.len := fun x hx y hy => ((hP x hx).2.2.2 y hy).1
  have hwx : IntKind.i64.wrap ((i : Int) + 1) = ((i + 1 : Nat) : Int) := (IntWalk.i64_in _ (by omega)).trans (by push_cast; rfl)
  have hwy : IntKind.i64.wrap ((j : Int) + 1) = ((j + 1 : Nat) : Int) := (IntWalk.i64_in _ (by omega)).trans (by push_cast; rfl)
  have hh : heldN ((i + 1 : Nat) : Int) = i + 1 := heldN_self (by omega) (by omega)
  have hh2 : heldN ((j + 1 : Nat) : Int) = j + 1 := heldN_self (by omega) (by omega)
  obtain ⟨S, hS⟩ : ∃ S, S = headS (i + 1) ++ laidL L := ⟨_, rfl⟩
  have hz : 16 ≤ S.size ∧ S.size ≤ 40000 := by
    have := laidL_size L hEn
    rw [hS, ByteArray.size_append, headS_size]; omega
  obtain ⟨n, hn⟩ : ∃ n, n = (anyR L).length := ⟨_, rfl⟩
  obtain ⟨p, hp, hp1⟩ : ∃ p : Nat, (cut : Int) % 16 = (p : Int) ∧ p < 16 := ⟨cut % 16, by omega, by omega⟩
  have GL := Lib.hid (fun W (hW : Below w.heap.size w W) => (show Gives Try.prog 10 #[.slice a len cap, .int .i64 ((i + 1 : Nat) : Int)] W (.tuple #[.string S, .int .i64 (n : Int)]) from by
    have := laid11_any a len cap L ((i + 1 : Nat) : Int) W hL (by omega) (hr.below hW) (fun x hx => (hP x hx).below hW)
    rwa [hh, ← hS, ← hn] at this))
  have GA := Lib.hid (fun W => all_bad S (by omega) ((j + 1 : Nat) : Int) 4 (by rw [hh2, hS]; exact chk_other (by omega) (by omega) (by omega) _) (by decide) W)
  have GB := Lib.hid (fun W => all_bad (S.extract 0 p) (by rw [ByteArray.size_extract]; omega) ((i + 1 : Nat) : Int) 3 (by rw [hh, hS]; exact chk_cut _ _ _ hp1) (by decide) W)
  have hps : (p : Int) ≤ (S.size : Int) := by omega
  have hp0 : (0 : Int) ≤ (p : Int) := by omega
  have HZ := Lib.hid hz
  clear hP hr hg hf hEn hh hh2 hS hn hz
  have hxy : (((i + 1 : Nat) : Int) == ((j + 1 : Nat) : Int)) = false := by rw [beq_eq_false_iff_ne]; omega
  have hxy2 : ¬ ((i + 1 : Nat) : Int) = ((j + 1 : Nat) : Int) := by omega
  generalize ((i + 1 : Nat) : Int) = X at *
  generalize ((j + 1 : Nat) : Int) = Y at *
  go_enter Try.func5, Try.ntmps5
  go_wp2_with (first
    | (go_at_call 8; ((with_reducible refine (GK.out _).mono ?_); rintro e w1 ⟨rfl, hB1⟩))
    | (go_at_call 9; ((with_reducible refine (GF.out _ hB1).mono ?_); rintro e w2 ⟨rfl, hB2⟩; have hX2 := bel2 hB1 hB2))
    | (go_at_call 10; ((with_reducible refine (GL.out _ hX2).mono ?_); rintro e w3 ⟨rfl, hB3⟩; have hX3 := bel2 hX2 hB3))
    | (go_at_call 11; ((with_reducible refine (GA.out _).mono ?_); rintro e w4 ⟨rfl, hB4⟩; have hX4 := bel2 hX3 hB4))
    | (go_at_call 11; ((with_reducible refine (GB.out _).mono ?_); rintro e w5 ⟨rfl, hB5⟩; have hX5 := bel2 hX4 hB5)))
  go_loopw [19] (fun v wr => v = .int .i64 0 ∧ Below w.heap.size w wr) (fun v _ => 0)
  case atStart => exact ⟨rfl, hX5⟩
  case round =>
    obtain ⟨rfl, hB⟩ := hrel
    go_wp2
    go_ret
    exact ⟨rfl, hB⟩
set_option maxRecDepth 100000 in
theorem walk (w : World) (a : Option Addr) (len cap : Nat) (L : List RL) (hL : L.length = len) (hc : len ≤ cap) (hr : RowV w a len 2 (recCells L)) (hg : ∀ x ∈ L, GoodR w x.1 x.2) (i : Nat) (hi : i < 65536) (j : Nat) (hj : j < 65536) (cut : Nat) (hcut : cut < 256) :
    Calls Try.prog 5 #[.slice a len cap, .int .u16 i, .int .u16 j, .int .u8 cut] w fun e w' => e = .returned (.bool true) ∧ Below w.heap.size w w' := by
  cases hf : fewRs L
  · have GK := Lib.hid known11_any
    have GF := Lib.hid (fun W (hW : Below w.heap.size w W) => (show Gives Try.prog 9 #[.slice a len cap] W (.bool false) from hf ▸ few11_call cap hL hr hg W hW))
    clear hr hg hf
    go_enter Try.func5, Try.ntmps5
    go_wp2_with (first
      | (go_at_call 8; ((with_reducible refine (GK.out _).mono ?_); rintro e w1 ⟨rfl, hB1⟩))
      | (go_at_call 9; ((with_reducible refine (GF.out _ hB1).mono ?_); rintro e w2 ⟨rfl, hB2⟩; have hX2 := bel2 hB1 hB2)))
    go_ret
    exact ⟨rfl, hX2⟩
  · by_cases hij : i = j
    · subst hij
      exact head_same w a len cap L hL hc hr hg i hi cut hcut hf
    · exact head_other w a len cap L hL hc hr hg i hi j hj hij cut hcut hf

set_option maxRecDepth 100000 in
theorem lifted (os : Os) (started : os.Started) (H : Type) (enc : TypeId × Value → H) :
    ReturnsInHanded {} Try.checked os 5 .any (Rows.scanHeadSpec.pre6 enc Try.prog Try.f5 Rows.scanHeadRow.domain false) (Rows.scanHeadSpec.post enc Try.prog Try.f5 false true false false) := by
  refine returnsInHanded_of_change (C := Try.checked) Try.own started (by kernel_rfl) Try.func5
    (ChangeSpec.witness6 (enc := enc) (C := Try.checked) false ⟨#[], #[.slice none 0 0, .int .u16 0, .int .u16 0, .int .u8 0], []⟩ 8 (by kernel_rfl) (by kernel_rfl) (by kernel_rfl) (by kernel_rfl)) ?_
  intro W base args ds gs before hval hW _ _
  refine law_contract (T := 4) (n := 4) Try.laid Try.underlying4 rfl rfl ⟨rfl, fun H ds h => by match ds, h with | [_, _, _, _], _ => rfl⟩ (of_all (by kernel_rfl)) hW ?_
  intro ps hA
  rw [Try.params5] at hA hval
  obtain ⟨v0, vs0, d0, ds0, p0, q0, hargs, rfl, rfl, h0, r0⟩ := trodAll_cons hA
  obtain ⟨v1, vs1, d1, ds1, p1, q1, rfl, rfl, rfl, h1, r1⟩ := trodAll_cons r0
  obtain ⟨v2, vs2, d2, ds2, p2, q2, rfl, rfl, rfl, h2, r2⟩ := trodAll_cons r1
  obtain ⟨v3, vs3, d3, ds3, p3, q3, rfl, rfl, rfl, h3, r3⟩ := trodAll_cons r2
  obtain ⟨rfl, rfl, rfl⟩ := trodAll_nil r3
  obtain rfl : args = #[v0, v1, v2, v3] := by cases args; simp_all
  obtain ⟨s0, l0, c0, rfl⟩ := okWide_slice Try.underlying22 (hval 0 22 v0 rfl rfl)
  obtain ⟨zs0, e0, g0, w0, b0⟩ := open_records h0
  obtain ⟨a1, rfl, rfl, rfl, w1⟩ := open_int Try.underlying23 (hval 1 23 v1 rfl rfl) h1
  obtain ⟨a2, rfl, rfl, rfl, w2⟩ := open_int Try.underlying23 (hval 2 23 v2 rfl rfl) h2
  obtain ⟨a3, rfl, rfl, rfl, w3⟩ := open_int Try.underlying5 (hval 3 5 v3 rfl rfl) h3
  obtain ⟨n1, rfl, b1⟩ := nat_of_u16 w1
  obtain ⟨n2, rfl, b2⟩ := nat_of_u16 w2
  obtain ⟨n3, rfl, b3⟩ := nat_of_u8 w3
  exact walk W s0 l0 c0 zs0 e0 g0 w0 b0 n1 b1 n2 b2 n3 b3

theorem holds : Rows.ScanHeadSaid :=
  OpenClaim.holds_of_wide 5 Try.f5 rfl rfl rfl rfl rfl rfl rfl ⟨rfl, rfl, rfl, rfl, rfl⟩ rfl rfl rfl rfl rfl (by kernel_rfl) Try.func5 (by kernel_rfl)
    (of_decide_eq_true (by kernel_rfl)) (by unfold Func.isWrapper; first | (rw [if_pos (by decide +kernel)]; kernel_rfl) | (rw [if_neg (by decide +kernel)]; exact ⟨rfl, rfl⟩))
    (fun os started H enc _ => lifted os started H enc)
end Go.Proofs.Ytflaanffjjidaaa.scanHead
