/- Law LiveTells: for every input the call answers true; its arguments read as they did. No condition. -/
import Derived.Test.YtpdpdohkhiplpaaLaw
import Derived.Test.YtpdpdohkhiplpaaLiveMath
import Derived.Test.YtpdpdohkhiplpaaOpenSpot
namespace Go.Proofs.Ytpdpdohkhiplpaa.liveTells
open Go.ChangeShapes Go.WideShapes Go.ChangeAt Go.RowKit Go.Shelf
open Go.ChangeMaps (open_string shut_string)
set_option linter.unusedVariables false
attribute [local go_sem] Oper.semAt_some wide_fn wide_round_fn


set_option maxRecDepth 100000 in
set_option maxHeartbeats 1000000 in
theorem same_any (a b : Option Addr) (n c1 c2 : Nat) (l : List SpotC) (hl : l.length = n) (hm : n < 1000000) (w : World) (h1 : RowV w a n 4 (spotCells l)) (h2 : RowV w b n 4 (spotCells l)) :
    Gives Try.prog 14 #[.slice a n c1, .slice b n c2] w (.bool true) := by
  have hc1 := h1.2.2
  have hc2 := h2.2.2
  clear h1 h2
  unfold Gives
  go_enter Try.func14, Try.ntmps14
  go_wp2
  go_loopw [5] (fun i wr => ∃ k : Nat, k ≤ n ∧ i = .int .i64 k ∧ Below w.heap.size w wr) (fun i _ => n - (intOf i).toNat)
  case atStart => exact ⟨0, by omega, rfl, Below.refl _ _⟩
  case round =>
    obtain ⟨k, hk, rfl, hB⟩ := hrel
    by_cases hlt : k < n
    · obtain ⟨b1, o1, rfl, hb1, hx1⟩ := hc1 (by omega)
      obtain ⟨b2, o2, rfl, hb2, hx2⟩ := hc2 (by omega)
      have hkl : k < l.length := by omega
      obtain ⟨d0, d1, d2, d3⟩ := spot_at hb1 hB hx1 hkl
      obtain ⟨f0, f1, f2, f3⟩ := spot_at hb2 hB hx2 hkl
      generalize l[k] = f at *
      clear hx1 hx2
      go_wp2
      go_quiet (fail)
      go_wp2
      exact ⟨⟨k + 1, by omega, by go_num, below_drewN hB _⟩, by simp [intOf]; omega⟩
    · obtain rfl : k = n := by omega
      go_wp2
      go_ret
      exact ⟨rfl, hB⟩

theorem beqC (a b : Int) : (a == b) = (b == a) := by rw [Bool.eq_iff_iff, beq_iff_eq, beq_iff_eq]; exact eq_comm
theorem eqPlace (a b c d : Int) (w : World) : (Op.equalIn 10000 31 (.agg #[.int .i64 a, .int .i64 b]) (.agg #[.int .i64 c, .int .i64 d])).run Try.prog w = .ok (a == c && b == d) w := by
  have hS : Try.prog.underlying 31 = some (.struct (Try.prog.fieldsOf 31)) := by kernel_rfl
  rw [show (10000 : Nat) = 9999 + 1 from rfl, run_equalIn_agg w 9999 31 _ _ hS (by kernel_rfl)]
  simp only [Program.fieldsOf, Try.underlying31]
  go_simp
  by_cases h1 : a = c <;> by_cases h2 : b = d <;> simp [h1, h2]
theorem neqPlace (a b c d : Int) (w : World) : (binOp .neq 31 (.agg #[.int .i64 a, .int .i64 b]) (.agg #[.int .i64 c, .int .i64 d])).run Try.prog w = .ok (.bool (!(a == c && b == d))) w := by
  rw [run_neq_struct, eqPlace]; rfl

set_option maxRecDepth 100000 in
set_option maxHeartbeats 2000000 in
theorem refRecords_any (a : Option Addr) (len cap : Nat) (l : List SpotC) (z : Int) (hl : l.length = len) (hm : len < 1000000) (w : World) (h : RowV w a len 4 (spotCells l)) :
    Gives Try.prog 18 #[.slice a len cap, .int .i64 z] w (.int .i64 (recs (inL l z))) := by
  have G := Lib.hid (refIn_any l z a len cap hl hm w h)
  have hMl : (inL l z).length < 1000000 := by have := cnt_le l z; unfold cnt at this; omega
  unfold cnt at G
  generalize inL l z = M at *
  clear h
  unfold Gives
  go_enter Try.func18, Try.ntmps18
  go_wp2_with (go_at_call 13; ((with_reducible refine (G.out).mono ?_); rintro e w1 ⟨v, rfl, hown, hB1⟩; obtain ⟨ma, mc, rfl, hmc, -, -, hmrow⟩ := rowV_own hown; clear hown))
  go_loopw [6, 7] (fun n i wr => ∃ k : Nat, k ≤ M.length ∧ i = .int .i64 k ∧ n = .int .i64 (recs (M.take k)) ∧ Below w1.heap.size w1 wr) (fun _ i _ => M.length - (intOf i).toNat)
  case atStart => exact ⟨0, by omega, rfl, rfl, Below.refl _ _⟩
  case round =>
    obtain ⟨k, hk, rfl, rfl, hB⟩ := hrel
    by_cases hlt : k < M.length
    · obtain ⟨b, off, rfl, hb, hc⟩ := hmrow (by omega)
      have HS := Lib.hid (show recs (M.take (k + 1)) = recs (M.take k) + if (M.take k).any (atPlace M[k]) then 0 else 1 by rw [List.take_succ_eq_append_getElem hlt, recs_snoc])
      have hrl := recs_le (M.take k)
      rw [List.length_take] at hrl
      generalize recs (M.take k) = R at *
      have HK := Lib.hid (fun (W : World) (hW : Below w1.heap.size w1 W) => (spot_at hb hW hc hlt).2.2)
      obtain ⟨wo, rfl⟩ : ∃ wo : World, wo = wr := ⟨_, rfl⟩
      go_wp2
      go_loopw [8, 9] (fun th i wr => ∃ (k2 : Nat) (t : Bool), k2 ≤ k ∧ i = .int .i64 k2 ∧ th = .bool t ∧ t = !((M.take k2).any (atPlace M[k])) ∧ Below wo.heap.size wo wr) (fun _ i _ => k - (intOf i).toNat)
      case atStart => exact ⟨0, true, by omega, rfl, rfl, rfl, Below.refl _ _⟩
      case round =>
        obtain ⟨k2, t, hk2, rfl, rfl, ht, hB2⟩ := hrel
        have hBw : Below w1.heap.size w1 wr := hB.trans (hB2.mono hB.size)
        by_cases hlt2 : k2 < k
        · have hk2l : k2 < M.length := by omega
          have hk2i : (k2 : Int) < (M.length : Int) := by omega
          have hki : (k : Int) < (M.length : Int) := by omega
          obtain ⟨d2, d3⟩ := HK.out wr hBw
          obtain ⟨_, _, f2, f3⟩ := spot_at hb hBw hc hk2l
          have HT := Lib.hid (show (!((M.take (k2 + 1)).any (atPlace M[k]))) = (t && !(M[k].s == M[k2].s && M[k].p == M[k2].p)) by rw [List.take_succ_eq_append_getElem hk2l, List.any_append, Bool.not_or, ← ht]; simp [atPlace])
          have HTT := Lib.hid ht
          clear ht
          generalize M[k2] = y at *
          generalize M[k] = x at *
          clear hc
          cases t with
          | false =>
            go_wp2
            go_quiet (fail)
            go_wp2
            exact ⟨⟨k2 + 1, false, by omega, by go_num, rfl, by rw [HT.out]; rfl, below_drewN hB2 _⟩, by simp [intOf]; omega⟩
          | true =>
            have hne := fun w => neqPlace y.s y.p x.s x.p w
            go_wp2
            go_quiet (fail)
            go_wp2
            exact ⟨⟨k2 + 1, _, by omega, by go_num, rfl, by rw [HT.out, beqC x.s, beqC x.p]; simp, below_drewN hB2 _⟩, by simp [intOf]; omega⟩
        · obtain rfl : k2 = k := by omega
          have HTT := Lib.hid ht
          clear ht
          cases t with
          | true =>
            have HV := Lib.hid (show recs (M.take (k2 + 1)) = R + 1 by
              rw [HS.out]
              have := HTT.out
              cases hany : (M.take k2).any (atPlace M[k2]) with
              | true => rw [hany] at this; cases this
              | false => rfl)
            go_wp2
            exact ⟨⟨k2 + 1, by omega, by go_num, by rw [HV.out]; go_num, hBw⟩, by simp [intOf]; omega⟩
          | false =>
            have HV := Lib.hid (show recs (M.take (k2 + 1)) = R by
              rw [HS.out]
              have := HTT.out
              cases hany : (M.take k2).any (atPlace M[k2]) with
              | true => rfl
              | false => rw [hany] at this; cases this)
            go_wp2
            exact ⟨⟨k2 + 1, by omega, by go_num, by rw [HV.out], hBw⟩, by simp [intOf]; omega⟩
    · obtain rfl : k = M.length := by omega
      rw [List.take_length]
      go_wp2
      go_ret
      exact ⟨rfl, bel2 hB1 hB⟩

set_option maxRecDepth 100000 in
set_option maxHeartbeats 4000000 in
theorem walk (w : World) (a : Option Addr) (len cap : Nat) (l : List SpotC) (hl : l.length = len) (hcap : len ≤ cap) (h : RowV w a len 4 (spotCells l)) (hg : ∀ f ∈ l, goodSpot f) (z : Int) (hz : -9223372036854775808 ≤ z ∧ z < 9223372036854775808) (b : Option Addr) (len2 cap2 : Nat) (zs : List Int) (hzs : RowI .i64 w b len2 zs) :
    Calls Try.prog 3 #[.slice a len cap, .int .i64 z, .slice b len2 cap2] w fun e w' => e = .returned (.bool true) ∧ Below w.heap.size w w' := by
  have hml2 := h.2.1
  have hml := hzs.2.1
  unfold maxLen at hml2 hml
  by_cases h1 : 60 < len
  · go_enter Try.func3, Try.ntmps3
    go_wp2_with (go_at_call 11; refine (live_known _).mono ?_; rintro e w1 ⟨rfl, hB1⟩)
    go_ret
    exact ⟨rfl, hB1⟩
  by_cases h2 : 20 < len2
  · go_enter Try.func3, Try.ntmps3
    go_wp2_with (go_at_call 11; refine (live_known _).mono ?_; rintro e w1 ⟨rfl, hB1⟩)
    go_ret
    exact ⟨rfl, hB1⟩
  have h1' : len ≤ 60 := by omega
  have h2' : len2 ≤ 20 := by omega
  clear h1 h2
  have hw : ∀ f ∈ l, wfP f := fun f hf => ⟨wf_i64 (hg f hf).2.2.1, wf_i64 (hg f hf).2.2.2⟩
  have HC := Lib.hid (fun (W : World) (hW : Below w.heap.size w W) => counts_any l zs (fun f hf => (hg f hf).2.2.1) a b len cap len2 cap2 hl (by omega) (by omega) W (h.below hW) (rowI_below hzs hW))
  have HI := Lib.hid (fun (y : Int) (W : World) (hW : Below w.heap.size w W) => refIn_any l y a len cap hl (by omega) W (h.below hW))
  have HN := Lib.hid (fun (W : World) (hW : Below w.heap.size w W) => in_any a len cap l z hl (by omega) W (h.below hW))
  have HK := Lib.hid (fun (W : World) (hW : Below w.heap.size w W) => count_any a len cap l z hl (by omega) W (h.below hW))
  have HR := Lib.hid (fun (W : World) (hW : Below w.heap.size w W) => records_any a len cap l z hl (by omega) hw W (h.below hW))
  have HS := Lib.hid (fun (W : World) (hW : Below w.heap.size w W) => refRecords_any a len cap l z hl (by omega) W (h.below hW))
  have hcl : cnt l z ≤ 60 := by have := cnt_le l z; omega
  have HM := Lib.hid (show (inL l z).length = cnt l z from rfl)
  obtain ⟨hzl, -, -, hcz⟩ := hzs
  clear h hg hw
  generalize hrr : recs (inL l z) = rr at *
  clear hrr
  generalize hcc : cnt l z = cc at *
  have HCC := Lib.hid hcc
  clear hcc
  go_enter Try.func3, Try.ntmps3
  go_wp2_with (first
    | (go_at_call 11; refine (live_known _).mono ?_; rintro e w1 ⟨rfl, hB1⟩)
    | (go_at_call 12; ((with_reducible refine (HC.out _ hB1).mono ?_); rintro e w2 ⟨v, rfl, hown, hB2⟩; obtain ⟨ca, cc2, rfl, hcc2, -, -, hcrow⟩ := rowV_own hown; clear hown)))
  have hB12 := bel2 hB1 hB2
  go_loopw [8] (fun i wr => ∃ k : Nat, k ≤ len2 ∧ i = .int .i64 k ∧ Below w2.heap.size w2 wr) (fun i _ => len2 - (intOf i).toNat)
  case atStart => exact ⟨0, by omega, rfl, Below.refl _ _⟩
  case round =>
    obtain ⟨k, hk, rfl, hB⟩ := hrel
    have hBw := hB12.trans (hB.mono hB12.size)
    by_cases hlt : k < len2
    · obtain ⟨b1, o1, rfl, hb1, hx1⟩ := hcrow (by omega)
      obtain ⟨b2, o2, rfl, hb2, hx2⟩ := hcz (by omega)
      have hkl : k < zs.length := by omega
      have K1 := Lib.hid (fun (W : World) (hW : Below wr.heap.size wr W) => show W.cell? ⟨b1, o1 + k, none⟩ = some (.int .i64 (cnt l zs[k])) from ((hB.trans (hW.mono hB.size)).cell (p := ⟨b1, o1 + k, none⟩) hb1).trans (RowV.at_ (len := len2) (sz := 1) hx1 (by simp [List.getElem?_eq_getElem hkl])))
      have K2 := Lib.hid (fun (W : World) (hW : Below wr.heap.size wr W) => show W.cell? ⟨b2, o2 + k, none⟩ = some (.int .i64 zs[k]) from ((hBw.trans (hW.mono hBw.size)).cell (p := ⟨b2, o2 + k, none⟩) hb2).trans (hx2 k hkl))
      have G := Lib.hid (fun (W : World) (hW : Below wr.heap.size wr W) => HI.out zs[k] W (hBw.trans (hW.mono hBw.size)))
      generalize cnt l zs[k] = m4 at *
      generalize zs[k] = y at *
      clear hx1 hx2
      go_wp2
      go_region_held3 (fun W' => W'.cell? ⟨b1, o1 + k, none⟩ = some (.int .i64 m4) ∧ W'.cell? ⟨b2, o2 + k, none⟩ = some (.int .i64 y) ∧ Below wr.heap.size wr W')
        (first | assumption | exact (Below.refl _ _).drew | (apply And.right; apply And.right; assumption) | (refine bel2 ?_ (by assumption); first | assumption | (apply And.right; apply And.right; assumption)) | (refine K1.out _ ?_; (first | assumption | exact (Below.refl _ _).drew | (refine bel2 ?_ (by assumption); first | assumption | (apply And.right; apply And.right; assumption)))) | (refine K2.out _ ?_; (first | assumption | exact (Below.refl _ _).drew | (refine bel2 ?_ (by assumption); first | assumption | (apply And.right; apply And.right; assumption)))) | (refine ⟨K1.out _ ?_, K2.out _ ?_, ?_⟩ <;> (first | assumption | exact (Below.refl _ _).drew | (refine bel2 ?_ (by assumption); first | assumption | (apply And.right; apply And.right; assumption)))))
        (first | (go_at_call 13; ((with_reducible refine (G.out _ ?_).mono ?_); (focus (first | assumption | (apply And.right; apply And.right; assumption))); rintro e w5 ⟨v, rfl, hown5, hB5⟩; obtain ⟨a5, c5, rfl, hc5, -⟩ := rowV_own hown5; clear hown5)))
      all_goals
        have hS : Below wr.heap.size wr w5 := by first | assumption | (apply And.right; apply And.right; assumption)
        go_wp2
        exact ⟨⟨k + 1, by omega, by go_num, hB.trans (hS.mono hB.size)⟩, by simp [intOf]; omega⟩
    · obtain rfl : k = len2 := by omega
      have G1 := HI.out z
      rw [HCC.out] at G1
      have G2 := Lib.hid G1
      have HMM := Lib.hid (fun (W : World) (p q : Option Addr) (c1 c2 : Nat) (r1 : RowV W p cc 4 (spotCells (inL l z))) (r2 : RowV W q cc 4 (spotCells (inL l z))) => same_any p q cc c1 c2 (inL l z) HM.out (by omega) W r1 r2)
      clear G1 hcrow hk hlt
      go_wp2_with (first
        | (go_at_call 15; ((with_reducible refine (HN.out _ hBw).mono ?_); rintro e w3 ⟨v, rfl, hown3, hB3⟩; obtain ⟨a3, c3, rfl, hc3, hr3⟩ := rowV_own hown3; clear hown3; have hBw3 := bel2 hBw hB3))
        | (go_at_call 13; ((with_reducible refine (G2.out _ hBw3).mono ?_); rintro e w4 ⟨v, rfl, hown4, hB4⟩; obtain ⟨a4, c4, rfl, hc4, hr4⟩ := rowV_own hown4; clear hown4; have hBw4 := bel2 hBw3 hB4))
        | (go_at_call 14; ((with_reducible refine (HMM.out _ a3 a4 c3 c4 (hr3.below hB4) hr4).mono ?_); rintro e w5 ⟨rfl, hB5⟩; have hBw5 := bel2 hBw4 hB5))
        | (go_at_call 16; ((with_reducible refine (HK.out _ hBw5).mono ?_); rintro e w6 ⟨rfl, hB6⟩; have hBw6 := bel2 hBw5 hB6))
        | (go_at_call 13; ((with_reducible refine (G2.out _ hBw6).mono ?_); rintro e w7 ⟨v, rfl, hown7, hB7⟩; obtain ⟨a7, c7, rfl, hc7, hr7⟩ := rowV_own hown7; clear hown7; have hBw7 := bel2 hBw6 hB7))
        | (go_at_call 17; ((with_reducible refine (HR.out _ hBw7).mono ?_); rintro e w8 ⟨rfl, hB8⟩; have hBw8 := bel2 hBw7 hB8))
        | (go_at_call 18; ((with_reducible refine (HS.out _ hBw8).mono ?_); rintro e w9 ⟨rfl, hB9⟩)))
      go_ret
      exact ⟨by simp, bel2 hBw8 hB9⟩

set_option maxRecDepth 100000 in
theorem lifted (os : Os) (started : os.Started) (H : Type) (enc : TypeId × Value → H) :
    ReturnsInHanded {} Try.checked os 3 .any (Rows.liveTellsSpec.pre6 enc Try.prog Try.f3 Rows.liveTellsRow.domain false) (Rows.liveTellsSpec.post enc Try.prog Try.f3 false true false false) := by
  refine returnsInHanded_of_change (C := Try.checked) Try.own started (by kernel_rfl) Try.func3
    (ChangeSpec.witness6 (enc := enc) (C := Try.checked) false ⟨#[], #[.slice none 0 0, .int .i64 0, .slice none 0 0], []⟩ 8 (by kernel_rfl) (by kernel_rfl) (by kernel_rfl) (by kernel_rfl)) ?_
  intro W base args ds gs before hval hW _ _
  refine law_contract (T := 4) (n := 3) Try.laid Try.underlying4 rfl rfl ⟨rfl, fun H ds h => by match ds, h with | [_, _, _], _ => rfl⟩ (of_all (by kernel_rfl)) hW ?_
  intro ps hA
  rw [Try.params3] at hA hval
  obtain ⟨v0, vs0, d0, ds0, p0, q0, hargs, rfl, rfl, h0, r0⟩ := trodAll_cons hA
  obtain ⟨v1, vs1, d1, ds1, p1, q1, rfl, rfl, rfl, h1, r1⟩ := trodAll_cons r0
  obtain ⟨v2, vs2, d2, ds2, p2, q2, rfl, rfl, rfl, h2, r2⟩ := trodAll_cons r1
  obtain ⟨rfl, rfl, rfl⟩ := trodAll_nil r2
  obtain rfl : args = #[v0, v1, v2] := by cases args; simp_all
  obtain ⟨s0, l0, c0, rfl⟩ := okWide_slice Try.underlying22 (hval 0 22 v0 rfl rfl)
  obtain ⟨zs0, e0, g0, w0, b0⟩ := open_spots h0
  obtain ⟨a1, rfl, rfl, rfl, w1⟩ := open_int Try.underlying3 (hval 1 3 v1 rfl rfl) h1
  obtain ⟨s2, l2, c2, rfl⟩ := okWide_slice Try.underlying23 (hval 2 23 v2 rfl rfl)
  obtain ⟨zs2, w2⟩ := isInts_of (k := .i64) Try.underlying23 Try.underlying3 (by kernel_rfl) h2
  exact walk W s0 l0 c0 zs0 e0 g0 w0 b0 a1 (bounds_i64 w1) s2 l2 c2 _ (rowI_of w2)

theorem holds : Rows.LiveTellsSaid :=
  OpenClaim.holds_of_wide 3 Try.f3 rfl rfl rfl rfl rfl rfl rfl ⟨rfl, rfl, rfl, rfl, rfl⟩ rfl rfl rfl rfl rfl (by kernel_rfl) Try.func3 (by kernel_rfl)
    (of_decide_eq_true (by kernel_rfl)) (by unfold Func.isWrapper; first | (rw [if_pos (by decide +kernel)]; kernel_rfl) | (rw [if_neg (by decide +kernel)]; exact ⟨rfl, rfl⟩))
    (fun os started H enc _ => lifted os started H enc)
end Go.Proofs.Ytpdpdohkhiplpaa.liveTells
