/- Law JoinMany: for every input the call answers true; its arguments read as they did. No condition. -/
import Derived.Test.YtdncdlbhgaehmaaLaw
import Derived.Test.YtdncdlbhgaehmaaJnM
namespace Go.Proofs.Ytdncdlbhgaehmaa.joinMany
open Go.ChangeShapes Go.WideShapes Go.ChangeAt Go.RowKit Go.Shelf
open Go.ChangeMaps (open_string shut_string)
set_option linter.unusedVariables false
attribute [local go_sem] Oper.semAt_some wide_fn wide_round_fn

attribute [local irreducible] wpQuiet
def xJ (K t i : Nat) : HR := ⟨(((i * 7 + t) % K : Nat) : Int), ((i + 1 : Nat) : Int), ((i + 1 : Nat) : Int), 0⟩
def mkX (K t i : Nat) : List HR := (List.range i).map (xJ K t)
theorem mkX_len (K t i : Nat) : (mkX K t i).length = i := by unfold mkX; rw [List.length_map, List.length_range]
theorem mkX_snoc (K t i : Nat) : mkX K t (i + 1) = mkX K t i ++ [xJ K t i] := by unfold mkX; rw [List.range_succ, List.map_append]; rfl
theorem xJ_ok {K t i : Nat} (hK : 0 < K ∧ K < 20) (hi : i < K) : (xJ K t i).ok := by
  have h1 := Nat.mod_lt (i * 7 + t) hK.1
  refine ⟨⟨?_, ?_⟩, ?_, ?_⟩
  · show (0 : Int) ≤ (((i * 7 + t) % K : Nat) : Int); omega
  · show (((i * 7 + t) % K : Nat) : Int) ≤ 999; omega
  · show (0 : Int) ≤ ((i + 1 : Nat) : Int); omega
  · show ((i + 1 : Nat) : Int) ≤ 1000; omega
theorem mkX_ok {K t i : Nat} (hK : K < 20) (hi : i ≤ K) : ∀ x ∈ mkX K t i, x.ok := fun x hx => by
  obtain ⟨j, hj, rfl⟩ := List.mem_map.1 hx
  have := List.mem_range.1 hj
  exact xJ_ok ⟨by omega, hK⟩ (by omega)
theorem mkX_ids (K t : Nat) : (mkX K t K).map HR.n = idsK K t := by unfold mkX idsK; rw [List.map_map]; rfl
/-- What is put together, as the law asks it. -/
def ManyA (K : Nat) (A : List LG) : Prop := (∀ L ∈ A, ∃ y : HR, y.ok ∧ L = hl y) ∧ (K % 7 = 0 → A.length = K / 7) ∧ (K % 7 ≠ 0 → A.length = K ∧ ∀ i (h : i < A.length), A[i].n = (i : Int))
theorem many_of {K t : Nat} (hK : K < 20) : ManyA K (joinAll (mkX K t K)) ∧ (decide ((mkX K t K).map HR.n).Nodup = (!decide (K % 7 = 0) || decide (K = 0))) := by
  have h := chkK_of K t hK
  unfold chkK at h
  rw [Bool.and_eq_true] at h
  obtain ⟨h1, h2⟩ := h
  have e := map_joinAll (mkX K t K)
  rw [mkX_ids] at e
  refine ⟨⟨joinAll_hl (mkX_ok hK (Nat.le_refl _)), fun h7 => ?_, fun h7 => ?_⟩, ?_⟩
  · rw [if_pos h7] at h2
    have h3 := congrArg List.length e
    rw [List.length_map] at h3
    rw [h3]; exact (beq_iff_eq.1 h2)
  · rw [if_neg h7] at h2
    have h3 := e.trans (beq_iff_eq.1 h2)
    have h4 := congrArg List.length h3
    rw [List.length_map, List.length_map, List.length_range] at h4
    refine ⟨h4, fun i hi => ?_⟩
    have h5 : ((joinAll (mkX K t K)).map LG.n)[i]? = ((List.range K).map fun (i : Nat) => (i : Int))[i]? := by rw [h3]
    rw [List.getElem?_map, List.getElem?_map, List.getElem?_eq_getElem hi, List.getElem?_range (by omega)] at h5
    simpa using h5
  · rw [mkX_ids]; exact beq_iff_eq.1 h1
theorem ManyA.ok2 {K : Nat} {A : List LG} (h : ManyA K A) : okA 2 A := fun L hL => by
  obtain ⟨y, hy, rfl⟩ := h.1 L hL
  exact hl_ok hy
theorem isG_hl {y : HR} {k : Nat} (h : y.ok) (hn : y.n = (k : Int)) : isG ⟨(k : Int), 1, 0, y.t, 0, 0, []⟩ = true := by
  obtain ⟨⟨h1, h2⟩, h3, h4⟩ := h
  have e1 : wB (k : Int) 0 999 = true := wB_iff.2 (by omega)
  have e2 : wB y.t 0 1099511627776 = true := wB_iff.2 (by omega)
  unfold isG hardB
  dsimp only
  rw [e1, e2]; rfl
set_option maxRecDepth 100000 in
set_option maxHeartbeats 8000000 in
theorem walk (n : Nat) (hn : n < 256) (t : Nat) (ht : t < 256) (w : World) :
    Calls Try.prog 9 #[.int .u8 n, .int .u8 t] w fun e w' => e = .returned (.bool true) ∧ Below w.heap.size w w' := by
  obtain ⟨i0, hi, hz0, hz1, hz2⟩ := info_parts infoLedJ
  obtain ⟨K, hKd⟩ : ∃ K : Nat, K = n % 20 := ⟨_, rfl⟩
  have hK20 : K < 20 := by omega
  have hk20 : (n : Int) % 20 = (K : Int) := by omega
  have GK := Lib.hid known20_any
  have HMO := Lib.hid (many_of (t := t) hK20)
  clear hKd
  go_enter Try.func9, Try.ntmps9
  go_wp2_with (go_at_call 25; ((with_reducible refine (GK.out _).mono ?_); rintro e w1 ⟨rfl, hB1⟩))
  clear hk20
  go_loopw [6, 7, 8] (fun s6 s7 s8 wr => ∃ (i : Nat) (es : List Nat), i ≤ K ∧ (∃ u, u = s8) ∧ s7 = .int .i64 (i : Int) ∧ MkAt w1 s6 (mkX K t i) es wr) (fun _ s7 _ _ => K - (intOf s7).toNat)
  case atStart => exact ⟨0, [], Nat.zero_le _, ⟨_, rfl⟩, rfl, mk_zero _⟩
  case round =>
    obtain ⟨i, es, hik, ⟨u8, rfl⟩, rfl, hM⟩ := hrel
    have hes : es.length = i := by rw [hM.len, mkX_len]
    by_cases hlt : i < K
    · have hlt' : (i : Int) < (K : Int) := by omega
      have hown := hM.led
      have HM := Lib.hid hM
      rw [hes] at hown
      have hws := hM.bel.size
      obtain ⟨a7, ha7⟩ : ∃ a7 : Nat, a7 = i * 7 := ⟨_, rfl⟩
      obtain ⟨b7, hb7⟩ : ∃ b7 : Nat, b7 = a7 + t := ⟨_, rfl⟩
      obtain ⟨c7, hc7⟩ : ∃ c7 : Nat, c7 = b7 % K := ⟨_, rfl⟩
      obtain ⟨d7, hd7⟩ : ∃ d7 : Nat, d7 = i + 1 := ⟨_, rfl⟩
      have hcK : c7 < K := by rw [hc7]; exact Nat.mod_lt _ (by omega)
      have hx : xJ K t i = ⟨(c7 : Int), (d7 : Int), (d7 : Int), 0⟩ := by unfold xJ; rw [hc7, hb7, ha7, hd7]
      have hxo : (xJ K t i).ok := xJ_ok ⟨by omega, hK20⟩ hlt
      rw [hx] at hxo
      have HX := Lib.hid (show mkX K t (i + 1) = mkX K t i ++ [⟨(c7 : Int), (d7 : Int), (d7 : Int), 0⟩] by rw [mkX_snoc, hx])
      have hw7 : IntKind.i64.wrap ((i : Int) * 7) = (a7 : Int) := (IntWalk.i64_in _ (by omega)).trans (by omega)
      have hwb : IntKind.i64.wrap ((a7 : Int) + (t : Int)) = (b7 : Int) := (IntWalk.i64_in _ (by omega)).trans (by omega)
      have hK0 : ¬ (K : Int) = 0 := by omega
      have hmd : ((b7 : Int)).tmod (K : Int) = (c7 : Int) := by rw [hc7, Int.tmod_eq_emod_of_nonneg (by omega)]; rfl
      have hwc : IntKind.i64.wrap (c7 : Int) = (c7 : Int) := IntWalk.i64_in _ (by omega)
      have hw1 : IntKind.i64.wrap ((i : Int) + 1) = (d7 : Int) := (IntWalk.i64_in _ (by omega)).trans (by omega)
      have HD7 := Lib.hid hd7
      have HES := Lib.hid hes
      clear hM hx hc7 hb7 ha7 hd7 hes
      have GN := Lib.hid (gNew1 (w := wr) (Below.refl wr.heap.size wr))
      go_wp2_with (first
        | (go_at_call 26; ((with_reducible refine GN.out.mono ?_); rintro e w2 ⟨ge, rfl, hg, -, hB2⟩; have GD := Lib.hid (hard_do hxo (hg.below (bel_alloc (Below.refl w2.heap.size w2) (.cells #[.int .i64 (c7 : Int), .int .i64 2, .slice none 0 0, .int .i64 (d7 : Int), .int .i64 0, .int .i64 0, .int .i64 0, .int .i64 0, .bool false, .bool false] 41))) (some ⟨w2.heap.size, 0, none⟩) 1 (hasP_hp w2 (c7 : Int) (d7 : Int))); clear hg hB2))
        | (go_at_call 27; ((with_reducible refine GD.out.mono ?_); rintro e w5 ⟨⟨v5, rfl⟩, hg5⟩; have HG5 := Lib.hid hg5; have hB5 : Below wr.heap.size wr w5 := hg5.bel; have hownA := (ownsRow_below (n := 0) hown hB5).alloc (.cells #[.pointer (some ⟨ge, 0, none⟩)] 53); have hs5 : w1.heap.size ≤ w5.heap.size := Nat.le_trans hws hB5.size; clear hg5 hB5))
        | (at_builtin; refine wpList_append_lies _ rfl _ _ 50 rfl w1.heap.size 53 i0 (.pointer none) 1 8 Try.underlying50 hi hz0 hz1 hz2 rfl (by decide) _ _ _ (by rfl) hownA ⟨w5.heap.size, 0, none⟩ 1 1 [.pointer (some ⟨ge, 0, none⟩)] rfl rfl (news_new _ _ _) (by simp [Value.oneCell']) (by decide) (by unfold maxLen; omega) (by omega) (by simp; omega) _ rfl ?_; intro g8 cp8 w8 hown8 hgrow8 hat8 hlt8))
      have hM8 := mk_app (v' := .slice (some ⟨g8, 0, none⟩) (i + 1) cp8) HM.out HG5.out (by rw [HES.out]; exact hown8) hgrow8 (hat8.imp (fun h => h.symm) (fun h => by rw [h]; rfl))
      have HM8 := Lib.hid hM8
      clear hM8 hown8 hgrow8 hat8 hlt8 hownA
      go_wp2
      go_roundw
      case rel => exact ⟨i + 1, es ++ [ge], by omega, ⟨_, rfl⟩, by rw [HD7.out], by rw [HX.out]; exact HM8.out⟩
      case measure => have h9 := HD7.out; simp [intOf]; omega
    · have hOk : i = K := by omega
      have hge : ¬ (i : Int) < (K : Int) := by omega
      have HM := Lib.hid hM
      rw [hOk] at HM
      obtain ⟨la, lc, hv, hR⟩ := mk_row HM.out
      have hes' : es.length = K := by rw [hes, hOk]
      have GO := jof_any wr la lc es (mkX K t K) (mkX_ok hK20 (Nat.le_refl _)) ⟨by rw [mkX_len, hes'], by omega⟩ hR
      have GA := Lib.hid (fun W' (hB : Below wr.heap.size wr W') => apart_any W' la lc es (mkX K t K) (mkX_ok hK20 (Nat.le_refl _)) ⟨by rw [mkX_len, hes'], by omega⟩ (hR.below hB))
      obtain ⟨hMA, hND⟩ := HMO.out
      rw [hes'] at GO GA hv
      rw [hND] at GA
      obtain ⟨A, hA⟩ : ∃ A, A = joinAll (mkX K t K) := ⟨_, rfl⟩
      rw [← hA] at GO hMA
      have GO := Lib.hid GO
      have HMA := Lib.hid hMA
      have HBW := Lib.hid (bel2 hB1 HM.out.bel)
      subst hv
      clear hM hR hMA hND hA hes hes' hOk HM
      by_cases h7 : K % 7 = 0
      · have h7' : (K : Int) % 7 = 0 := by omega
        obtain ⟨q, hq⟩ : ∃ q : Nat, (K : Int) / 7 = (q : Int) := ⟨K / 7, by omega⟩
        have hAl : A.length = q := by rw [HMA.out.2.1 h7]; omega
        have GG := Lib.hid (fun W' e T (h : LT W' e A T) => (show Calls Try.prog 30 #[.pointer (some ⟨e, 0, none⟩)] W' (fun r w' => ∃ a c, r = .returned (.slice a q c) ∧ Below W'.heap.size W' w') from
          (tGroups h (by omega)).mono fun r w' ⟨a, c, Gs, h1, _, _, h2⟩ => ⟨a, c, by rw [← hAl]; exact h1, h2⟩))
        rw [decide_eq_true h7, Bool.not_true, Bool.false_or] at GA
        clear hAl h7
        by_cases hk0 : K = 0
        · rw [decide_eq_true hk0] at GA
          have hk0' : (K : Int) = 0 := by omega
          obtain rfl : q = 0 := by omega
          have HK0 := Lib.hid hk0
          clear hk0
          go_wp2_with (first
            | (go_at_call 28; ((with_reducible refine GO.out.mono ?_); rintro e w6 ⟨eg, rfl, Tg, hg, hB6, -⟩; have HG6 := Lib.hid hg; have HB6 := Lib.hid hB6; clear hg hB6))
            | (go_at_call 29; ((with_reducible refine (GA.out _ HB6.out).mono ?_); rintro e w7 ⟨rfl, hB7⟩; have HG7 := Lib.hid (HG6.out.below hB7); have HB7 := Lib.hid (bel2 HB6.out hB7); clear hB7))
            | (go_at_call 30; ((with_reducible refine (GG.out _ _ _ HG7.out).mono ?_); rintro e w8 ⟨ga, gc, rfl, hB8⟩; have HB8 := Lib.hid (bel2 HB7.out hB8); clear hB8)))
          go_ret
          exact ⟨rfl, bel2 HBW.out HB8.out⟩
        · rw [decide_eq_false hk0] at GA
          have hk0' : ¬ (K : Int) = 0 := by omega
          have HK0 := Lib.hid hk0
          clear hk0
          go_wp2_with (first
            | (go_at_call 28; ((with_reducible refine GO.out.mono ?_); rintro e w6 ⟨eg, rfl, Tg, hg, hB6, -⟩; have HG6 := Lib.hid hg; have HB6 := Lib.hid hB6; clear hg hB6))
            | (go_at_call 29; ((with_reducible refine (GA.out _ HB6.out).mono ?_); rintro e w7 ⟨rfl, hB7⟩; have HG7 := Lib.hid (HG6.out.below hB7); have HB7 := Lib.hid (bel2 HB6.out hB7); clear hB7))
            | (go_at_call 30; ((with_reducible refine (GG.out _ _ _ HG7.out).mono ?_); rintro e w8 ⟨ga, gc, rfl, hB8⟩; have HB8 := Lib.hid (bel2 HB7.out hB8); clear hB8)))
          go_ret
          exact ⟨rfl, bel2 HBW.out HB8.out⟩
      · have h7' : ¬ (K : Int) % 7 = 0 := by omega
        obtain ⟨hAl, hAn⟩ := HMA.out.2.2 h7
        rw [decide_eq_false h7, Bool.not_false, Bool.true_or] at GA
        have GG := Lib.hid (fun W' e T (h : LT W' e A T) => (show Calls Try.prog 30 #[.pointer (some ⟨e, 0, none⟩)] W' (fun r w' => ∃ a c Gs, r = .returned (.slice a K c) ∧ GrpsAt w' a K Gs ∧ Gs.map GVL.g = A.map LG.g ∧ Below W'.heap.size W' w') from by
          have := tGroups h (by omega); rwa [hAl] at this))
        have GS := Lib.hid (fun W' e T (h : LT W' e A T) => (show Calls Try.prog 32 #[.pointer (some ⟨e, 0, none⟩)] W' (fun r w' => ∃ a c, r = .returned (.slice a K c) ∧ Below W'.heap.size W' w') from
          (tSpots (N := 2) h (by omega) HMA.out.ok2 (by decide)).mono fun r w' ⟨a, c, h1, _, h2⟩ => ⟨a, c, by rw [h1, flA_hl HMA.out.1, hAl], h2⟩))
        have HAL := Lib.hid hAl
        have HAN := Lib.hid hAn
        clear hAl hAn h7
        go_wp2_with (first
          | (go_at_call 28; ((with_reducible refine GO.out.mono ?_); rintro e w6 ⟨eg, rfl, Tg, hg, hB6, -⟩; have HG6 := Lib.hid hg; have HB6 := Lib.hid hB6; clear hg hB6))
          | (go_at_call 29; ((with_reducible refine (GA.out _ HB6.out).mono ?_); rintro e w7 ⟨rfl, hB7⟩; have HG7 := Lib.hid (HG6.out.below hB7); have HB7 := Lib.hid (bel2 HB6.out hB7); clear hB7))
          | (go_at_call 30; ((with_reducible refine (GG.out _ _ _ HG7.out).mono ?_); rintro e w8 ⟨ga, gc, Gs, rfl, hgs, hgm, hB8⟩; have HGS := Lib.hid hgs; have HGM := Lib.hid hgm; have HG8 := Lib.hid (HG7.out.below hB8); have HB8 := Lib.hid (bel2 HB7.out hB8); clear hgs hgm hB8)))
        obtain ⟨u, hu⟩ : ∃ u, u = w8 := ⟨_, rfl⟩
        rw [← hu] at HGS HG8 HB8
        go_loopw [11] (fun q wz => ∃ k : Nat, k ≤ K ∧ q = .int .i64 (k : Int) ∧ Below u.heap.size u wz) (fun q _ => K - (intOf q).toNat)
        case atStart => exact ⟨0, Nat.zero_le _, rfl, hu ▸ Below.refl _ _⟩
        case round =>
          obtain ⟨k, hk, rfl, hBz⟩ := hrel
          clear hu
          have HBZ := Lib.hid hBz
          by_cases hkK : k < K
          · have hkK' : (k : Int) < (K : Int) := by omega
            have hw9 : IntKind.i64.wrap ((k : Int) + 1) = ((k + 1 : Nat) : Int) := (IntWalk.i64_in _ (by omega)).trans (by push_cast; rfl)
            obtain ⟨hGl, -, hGr, hGh⟩ := HGS.out
            have hkG : k < Gs.length := by omega
            obtain ⟨b, off, rfl, hb, hc⟩ := hGr.2.2 (by omega)
            have hcc := grp_atL hb hBz hc hkG
            have hkA : k < A.length := by have := HAL.out; omega
            have hg : Gs[k].g = A[k].g := by
              have e : (Gs.map GVL.g)[k]? = (A.map LG.g)[k]? := by rw [HGM.out]
              rw [List.getElem?_map, List.getElem?_map, List.getElem?_eq_getElem hkG, List.getElem?_eq_getElem hkA] at e
              simpa using e
            obtain ⟨y, hyo, hy⟩ := HMA.out.1 A[k] (List.getElem_mem hkA)
            have hyn : y.n = (k : Int) := by have := HAN.out k hkA; rw [hy] at this; exact this
            have hg2 : Gs[k].g = ⟨(k : Int), 1, 0, y.t, 0, 0, []⟩ := by rw [hg, hy, ← hyn]; rfl
            have hHG := (hGh Gs[k] (List.getElem_mem hkG)).1
            rw [hg2] at hHG hcc
            generalize Gs[k].a = xa at *
            generalize Gs[k].c = xc at *
            have d0 := hcc 0 _ (by decide) rfl
            have d1 := hcc 1 _ (by decide) rfl
            have d2 := hcc 2 _ (by decide) rfl
            have d3 := hcc 3 _ (by decide) rfl
            have d4 := hcc 4 _ (by decide) rfl
            have d5 := hcc 5 _ (by decide) rfl
            have d6 := hcc 6 _ (by decide) rfl
            rw [Nat.add_zero] at d0
            have GI := Lib.hid (show Gives Try.prog 31 #[.agg #[.int .i64 (k : Int), .int .i64 1, .int .i64 0, .int .i64 y.t, .int .i64 0, .int .i64 0, .slice xa 0 xc]] wr (.bool true) from by
              have := refIsG_any (k : Int) 1 0 y.t 0 0 [] xa xc wr ⟨hHG.1, hHG.2.below hBz⟩
              rwa [isG_hl hyo hyn] at this)
            have HY := Lib.hid hyo
            clear hcc hc hg hg2 hHG hGh hGr hy hyn hyo hGl
            go_wp2_with (go_at_call 31; ((with_reducible refine GI.out.mono ?_); rintro e w9 ⟨rfl, hB9⟩; have HB9 := Lib.hid (bel2 HBZ.out hB9); clear hB9))
            go_wp2
            go_roundw
            case rel => exact ⟨k + 1, by omega, by go_num, HB9.out⟩
            case measure => simp [intOf]; omega
          · have hkE : k = K := by omega
            subst hkE
            have hge2 : ¬ (k : Int) < (k : Int) := by omega
            have GSS := Lib.hid (GS.out _ _ _ (HG8.out.below hBz))
            clear hBz
            go_wp2_with (go_at_call 32; ((with_reducible refine GSS.out.mono ?_); rintro e w10 ⟨sa, sc, rfl, hB10⟩; have HB10 := Lib.hid (bel2 HBZ.out hB10); clear hB10))
            go_ret
            exact ⟨rfl, bel2 HBW.out (bel2 HB8.out HB10.out)⟩

set_option maxRecDepth 100000 in
theorem lifted (os : Os) (started : os.Started) (H : Type) (enc : TypeId × Value → H) :
    ReturnsInHanded {} Try.checked os 9 .any (Rows.joinManySpec.pre6 enc Try.prog Try.f9 Rows.joinManyRow.domain false) (Rows.joinManySpec.post enc Try.prog Try.f9 false true false false) := by
  refine returnsInHanded_of_change (C := Try.checked) Try.own started (by kernel_rfl) Try.func9
    (ChangeSpec.witness6 (enc := enc) (C := Try.checked) false ⟨#[], #[.int .u8 0, .int .u8 0], []⟩ 8 (by kernel_rfl) (by kernel_rfl) (by kernel_rfl) (by kernel_rfl)) ?_
  intro W base args ds gs before hval hW _ _
  refine law_contract (T := 4) (n := 2) Try.laid Try.underlying4 rfl rfl ⟨rfl, fun H ds h => by match ds, h with | [_, _], _ => rfl⟩ (of_all (by kernel_rfl)) hW ?_
  intro ps hA
  rw [Try.params9] at hA hval
  obtain ⟨v0, vs0, d0, ds0, p0, q0, hargs, rfl, rfl, h0, r0⟩ := trodAll_cons hA
  obtain ⟨v1, vs1, d1, ds1, p1, q1, rfl, rfl, rfl, h1, r1⟩ := trodAll_cons r0
  obtain ⟨rfl, rfl, rfl⟩ := trodAll_nil r1
  obtain rfl : args = #[v0, v1] := by cases args; simp_all
  obtain ⟨a0, rfl, rfl, rfl, w0⟩ := open_int Try.underlying5 (hval 0 5 v0 rfl rfl) h0
  obtain ⟨a1, rfl, rfl, rfl, w1⟩ := open_int Try.underlying5 (hval 1 5 v1 rfl rfl) h1
  obtain ⟨n0, rfl, b0⟩ := nat_of_u8 w0
  obtain ⟨n1, rfl, b1⟩ := nat_of_u8 w1
  exact walk n0 b0 n1 b1 W

theorem holds : Rows.JoinManySaid :=
  OpenClaim.holds_of_wide 9 Try.f9 rfl rfl rfl rfl rfl rfl rfl ⟨rfl, rfl, rfl, rfl, rfl⟩ rfl rfl rfl rfl rfl (by kernel_rfl) Try.func9 (by kernel_rfl)
    (of_decide_eq_true (by kernel_rfl)) (by unfold Func.isWrapper; first | (rw [if_pos (by decide +kernel)]; kernel_rfl) | (rw [if_neg (by decide +kernel)]; exact ⟨rfl, rfl⟩))
    (fun os started H enc _ => lifted os started H enc)
end Go.Proofs.Ytdncdlbhgaehmaa.joinMany
