/- Law VictimTells: for every input the call answers true; its arguments read as they did. No condition. -/
import Derived.Test.YtpdpdohkhiplpaaLaw
import Derived.Test.YtpdpdohkhiplpaaKnown16
import Derived.Test.YtpdpdohkhiplpaaLiveRef
import Derived.Test.YtpdpdohkhiplpaaOpenSpot
namespace Go.Proofs.Ytpdpdohkhiplpaa.victimTells
open Go.ChangeShapes Go.WideShapes Go.ChangeAt Go.RowKit Go.Shelf
open Go.ChangeMaps (open_string shut_string)
set_option linter.unusedVariables false
attribute [local go_sem] Oper.semAt_some wide_fn wide_round_fn


theorem below_drewN {n : Nat} {w W : World} (h : Below n w W) (k : Nat) : Below n w (W.drewN k) := ⟨h.os, h.tape, h.output, h.size, h.block⟩

set_option maxRecDepth 100000 in
set_option maxHeartbeats 2000000 in
theorem walk (w : World) (b : Option Addr) (len2 cap2 : Nat) (zs : List Int) (hz : RowI .i64 w b len2 zs) (hcap2 : len2 ≤ cap2) (a : Option Addr) (len cap : Nat) (l : List SpotC) (hl : l.length = len) (hcap : len ≤ cap) (h : RowV w a len 4 (spotCells l)) (hg : ∀ f ∈ l, goodSpot f) :
    Calls Try.prog 7 #[.slice b len2 cap2, .slice a len cap] w fun e w' => e = .returned (.bool true) ∧ Below w.heap.size w w' := by
  have hml := hz.2.1
  have hml2 := h.2.1
  unfold maxLen at hml hml2
  by_cases h1 : 60 < len2
  · go_enter Try.func7, Try.ntmps7
    go_wp2_with (go_at_call 19; refine (victim_known _).mono ?_; rintro e w1 ⟨rfl, hB1⟩)
    go_ret
    exact ⟨rfl, hB1⟩
  by_cases h2 : 60 < len
  · go_enter Try.func7, Try.ntmps7
    go_wp2_with (go_at_call 19; refine (victim_known _).mono ?_; rintro e w1 ⟨rfl, hB1⟩)
    go_ret
    exact ⟨rfl, hB1⟩
  have h1' : len2 ≤ 60 := by omega
  have h2' : len ≤ 60 := by omega
  clear h1 h2
  have hzl := hz.1
  have HR1 := Lib.hid (fun (W : World) (hB : Below w.heap.size w W) => rounds_any l zs (fun f hf => (hg f hf).2.2.1) a b len cap len2 cap2 hl (by omega) (by omega) hcap2 W (h.below hB) (rowI_below hz hB))
  have HR2 := Lib.hid (fun (W : World) (hB : Below w.heap.size w W) => refRounds_any l zs a b len cap len2 cap2 hl (by omega) (by omega) W (h.below hB) (rowI_below hz hB))
  have HS := Lib.hid (fun (W : World) (hB : Below w.heap.size w W) => sealed_any b len2 cap2 zs (by omega) hcap2 W (rowI_below hz hB))
  have HP0 := Lib.hid (fun (h0 : len2 ≤ 1) (W : World) (hB : Below w.heap.size w W) => pick_none b len2 cap2 zs h0 hcap2 W (rowI_below hz hB))
  have HP1 := Lib.hid (fun (z : Int) (zs' : List Int) (hzz : zs = z :: zs') (h0 : 2 ≤ len2) (W : World) (hB : Below w.heap.size w W) => pick_some b len2 cap2 z zs' h0 (by omega) hcap2 W (by rw [← hzz]; exact rowI_below hz hB))
  have hcz := hz.2.2.2
  have hwz := hz.2.2.1
  clear h hg hz
  go_enter Try.func7, Try.ntmps7
  go_wp2_with (go_at_call 19; refine (victim_known _).mono ?_; rintro e w1 ⟨rfl, hB1⟩)
  go_loopw [5] (fun q wr => ∃ k : Nat, 1 ≤ k ∧ (k ≤ len2 ∨ k = 1) ∧ q = .int .i64 k ∧ Below w.heap.size w wr) (fun q _ => len2 - (intOf q).toNat)
  case atStart => exact ⟨1, by omega, .inr rfl, rfl, hB1⟩
  case round =>
    obtain ⟨k, hk1, hk, rfl, hB⟩ := hrel
    by_cases hlt : k < len2
    · obtain ⟨bb, off, rfl, hb, hc⟩ := hcz (by omega)
      obtain ⟨k, rfl⟩ : ∃ k', k = k' + 1 := ⟨k - 1, by omega⟩
      have hc0 := (hB.cell (p := ⟨bb, off + k, none⟩) hb).trans (hc k (by omega))
      have hc1 := (hB.cell (p := ⟨bb, off + (k + 1), none⟩) hb).trans (hc (k + 1) (by omega))
      generalize zs[k] = x at *
      generalize zs[k + 1] = y at *
      clear hc hk
      go_wp2
      go_quiet (fail)
      go_wp2
      · go_ret
        exact ⟨rfl, below_drewN hB _⟩
      · exact ⟨⟨k + 1 + 1, by omega, .inl (by omega), by go_num, below_drewN hB _⟩, by simp [intOf]; omega⟩
    · have hge : len2 ≤ k := by omega
      have hkm : k < 100 := by omega
      clear hk hk1 hlt
      by_cases h2l : 2 ≤ len2
      · obtain ⟨z, zs', hzz⟩ : ∃ z zs', zs = z :: zs' := by
          cases zs with
          | nil => simp at hzl; omega
          | cons z zs' => exact ⟨z, zs', rfl⟩
        obtain ⟨bb, off, rfl, hb, hc⟩ := hcz (by omega)
        have HC := Lib.hid (fun (W : World) (hW : Below w.heap.size w W) (i : Nat) (hi : i < zs.length) => (hW.cell (p := ⟨bb, off + i, none⟩) hb).trans (hc i hi))
        have HC0 := Lib.hid (fun (W : World) (hW : Below w.heap.size w W) => show W.cell? ⟨bb, off, none⟩ = some (.int .i64 z) from by
          have := HC.out W hW 0 (by omega)
          simp only [hzz, List.getElem_cons_zero, Nat.add_zero] at this
          exact this)
        have G1 := Lib.hid (HP1.out z zs' hzz h2l wr hB)
        have hmx : (0 : Int) < (len2 : Int) - 1 := by omega
        have hl1 : (1 : Int) < (len2 : Int) := by omega
        have hne : (((len2 - 1 : Nat) : Int) != (len2 : Int) - 1) = false := by rw [bne_eq_false_iff_eq]; omega
        have hn60 : len2 - 1 ≤ 60 := by omega
        have HLZ := Lib.hid (show len2 - 1 ≤ zs.length by omega)
        have HLL := Lib.hid (show len2 - 1 < len2 by omega)
        clear hc hzz
        go_wp2_with (first
          | (go_at_call 20; ((with_reducible refine (G1.out).mono ?_); rintro e w2 ⟨rfl, hB2⟩; have hc0 := HC0.out w2 (bel2 hB hB2); have hB12 := bel2 hB hB2; clear hc0))
          | (go_at_call 21; ((with_reducible refine (HS.out w2 hB12).mono ?_); rintro e w3 ⟨v, rfl, hown, hB3⟩; obtain ⟨a2, c2, rfl, hn2, -, -, hrow⟩ := rowV_own hown; clear hown; have hB123 := bel2 hB12 hB3; have hc0 := HC0.out w3 hB123)))
        obtain ⟨wo, rfl⟩ : ∃ wo : World, wo = wr := ⟨_, rfl⟩
        go_loopw [9] (fun q wr => ∃ k2 : Nat, k2 ≤ len2 - 1 ∧ q = .int .i64 k2 ∧ Below w3.heap.size w3 wr) (fun q _ => (len2 - 1) - (intOf q).toNat)
        case atStart => exact ⟨0, by omega, rfl, Below.refl _ _⟩
        case round =>
          obtain ⟨k2, hk2, rfl, hBr⟩ := hrel
          by_cases hlt2 : k2 < len2 - 1
          · obtain ⟨b3, off3, rfl, hb3, hc3⟩ := hrow (by omega)
            have hkz : k2 < zs.length := by have := HLZ.out; omega
            have hd1 : wr.cell? ⟨b3, off3 + k2, none⟩ = some (.int .i64 zs[k2]) := (hBr.cell (p := ⟨b3, off3 + k2, none⟩) hb3).trans (RowV.at_ (len := len2 - 1) (sz := 1) hc3 (by simp [hlt2, List.getElem?_eq_getElem hkz]))
            have hd2 := HC.out wr (hB123.trans (hBr.mono hB123.size)) k2 hkz
            have hk2l : (k2 : Int) < (len2 : Int) := by have := HLL.out; omega
            generalize zs[k2] = x at *
            clear hc3
            go_wp2
            go_quiet (fail)
            go_wp2
            exact ⟨⟨k2 + 1, by omega, by go_num, below_drewN hBr _⟩, by simp [intOf]; omega⟩
          · obtain rfl : k2 = len2 - 1 := by omega
            have HB := hB123.trans (hBr.mono hB123.size)
            clear hlt2 hk2 hrow
            go_wp2_with (first
              | (go_at_call 22; ((with_reducible refine (HR1.out _ HB).mono ?_); rintro e w4 ⟨rfl, hB4⟩; have hB5 := bel2 HB hB4))
              | (go_at_call 23; ((with_reducible refine (HR2.out w4 hB5).mono ?_); rintro e w5 ⟨rfl, hB6⟩)))
            go_ret
            exact ⟨by simp, bel2 hB5 hB6⟩
      · have hl1 : len2 ≤ 1 := by omega
        have G1 := Lib.hid (HP0.out hl1 wr hB)
        have hn0 : len2 - 1 = 0 := by omega
        have HS2 := HS.out
        rw [hn0] at HS2
        have HS3 := Lib.hid HS2
        clear HS2 hn0 h2l
        by_cases h0 : len2 = 0
        · subst h0
          go_wp2_with (first
            | (go_at_call 20; ((with_reducible refine (G1.out).mono ?_); rintro e w2 ⟨rfl, hB2⟩; have hB12 := bel2 hB hB2))
            | (go_at_call 21; ((with_reducible refine (HS3.out w2 hB12).mono ?_); rintro e w3 ⟨v, rfl, hown, hB3⟩; obtain ⟨a2, c2, rfl, hn2, -, -, hrow⟩ := rowV_own hown; clear hown; have HB := bel2 hB12 hB3)))
          refine wp_loop_rounds 1 ?_
          rw [rounds_succ]
          go_wp2_with (first
            | (go_at_call 22; ((with_reducible refine (HR1.out _ HB).mono ?_); rintro e w4 ⟨rfl, hB4⟩; have hB5 := bel2 HB hB4))
            | (go_at_call 23; ((with_reducible refine (HR2.out w4 hB5).mono ?_); rintro e w5 ⟨rfl, hB6⟩)))
          go_ret
          exact ⟨by simp, bel2 hB5 hB6⟩
        · obtain rfl : len2 = 1 := by omega
          go_wp2_with (first
            | (go_at_call 20; ((with_reducible refine (G1.out).mono ?_); rintro e w2 ⟨rfl, hB2⟩; have hB12 := bel2 hB hB2))
            | (go_at_call 21; ((with_reducible refine (HS3.out w2 hB12).mono ?_); rintro e w3 ⟨v, rfl, hown, hB3⟩; obtain ⟨a2, c2, rfl, hn2, -, -, hrow⟩ := rowV_own hown; clear hown; have HB := bel2 hB12 hB3)))
          refine wp_loop_rounds 1 ?_
          rw [rounds_succ]
          go_wp2_with (first
            | (go_at_call 22; ((with_reducible refine (HR1.out _ HB).mono ?_); rintro e w4 ⟨rfl, hB4⟩; have hB5 := bel2 HB hB4))
            | (go_at_call 23; ((with_reducible refine (HR2.out w4 hB5).mono ?_); rintro e w5 ⟨rfl, hB6⟩)))
          go_ret
          exact ⟨by simp, bel2 hB5 hB6⟩

set_option maxRecDepth 100000 in
theorem lifted (os : Os) (started : os.Started) (H : Type) (enc : TypeId × Value → H) :
    ReturnsInHanded {} Try.checked os 7 .any (Rows.victimTellsSpec.pre6 enc Try.prog Try.f7 Rows.victimTellsRow.domain false) (Rows.victimTellsSpec.post enc Try.prog Try.f7 false true false false) := by
  refine returnsInHanded_of_change (C := Try.checked) Try.own started (by kernel_rfl) Try.func7
    (ChangeSpec.witness6 (enc := enc) (C := Try.checked) false ⟨#[], #[.slice none 0 0, .slice none 0 0], []⟩ 8 (by kernel_rfl) (by kernel_rfl) (by kernel_rfl) (by kernel_rfl)) ?_
  intro W base args ds gs before hval hW _ _
  refine law_contract (T := 4) (n := 2) Try.laid Try.underlying4 rfl rfl ⟨rfl, fun H ds h => by match ds, h with | [_, _], _ => rfl⟩ (of_all (by kernel_rfl)) hW ?_
  intro ps hA
  rw [Try.params7] at hA hval
  obtain ⟨v0, vs0, d0, ds0, p0, q0, hargs, rfl, rfl, h0, r0⟩ := trodAll_cons hA
  obtain ⟨v1, vs1, d1, ds1, p1, q1, rfl, rfl, rfl, h1, r1⟩ := trodAll_cons r0
  obtain ⟨rfl, rfl, rfl⟩ := trodAll_nil r1
  obtain rfl : args = #[v0, v1] := by cases args; simp_all
  obtain ⟨s0, l0, c0, rfl⟩ := okWide_slice Try.underlying23 (hval 0 23 v0 rfl rfl)
  obtain ⟨zs0, w0⟩ := isInts_of (k := .i64) Try.underlying23 Try.underlying3 (by kernel_rfl) h0
  obtain ⟨s1, l1, c1, rfl⟩ := okWide_slice Try.underlying22 (hval 1 22 v1 rfl rfl)
  obtain ⟨zs1, e1, g1, w1, b1⟩ := open_spots h1
  exact walk W s0 l0 c0 _ (rowI_of w0) (isInts_cap w0) s1 l1 c1 zs1 e1 g1 w1 b1

theorem holds : Rows.VictimTellsSaid :=
  OpenClaim.holds_of_wide 7 Try.f7 rfl rfl rfl rfl rfl rfl rfl ⟨rfl, rfl, rfl, rfl, rfl⟩ rfl rfl rfl rfl rfl (by kernel_rfl) Try.func7 (by kernel_rfl)
    (of_decide_eq_true (by kernel_rfl)) (by unfold Func.isWrapper; first | (rw [if_pos (by decide +kernel)]; kernel_rfl) | (rw [if_neg (by decide +kernel)]; exact ⟨rfl, rfl⟩))
    (fun os started H enc _ => lifted os started H enc)
end Go.Proofs.Ytpdpdohkhiplpaa.victimTells
