/- Law ReplayLeft: for every input the call answers true; its arguments read as they did. No condition. -/
import Derived.Test.YtdncdlbhgaehmaaLaw
import Derived.Test.YtdncdlbhgaehmaaRpO
import Derived.Test.YtdncdlbhgaehmaaFew18
namespace Go.Proofs.Ytdncdlbhgaehmaa.replayLeft
open Go.ChangeShapes Go.WideShapes Go.ChangeAt Go.RowKit Go.Shelf
open Go.ChangeMaps (open_string shut_string)
set_option linter.unusedVariables false
attribute [local go_sem] Oper.semAt_some wide_fn wide_round_fn

attribute [local irreducible] wpQuiet
theorem few19_fc {L : List FV} (h : fewFs L = true) : L.length ≤ 30 ∧ ∀ f ∈ L.map fcore, fewFC f := by
  simp only [fewFs, few18P, few18B, Bool.and_eq_true, decide_eq_true_eq, List.all_eq_true] at h
  refine ⟨h.2, fun f hf => ?_⟩
  obtain ⟨x, hx, rfl⟩ := List.mem_map.1 hf
  have h1 := h.1 x hx
  refine ⟨by show (x.L.map core).length ≤ 6; rw [List.length_map]; exact h1.2, fun p hp => ?_⟩
  obtain ⟨y, hy, rfl⟩ := List.mem_map.1 hp
  exact (h1.1 y hy).2
theorem left_same {C : List RC} (h : leftC C = 0) (i : Nat) : leftC (stepRC C i) = 0 := by
  rw [step_same (leftC_pos h i)]; exact h
set_option maxRecDepth 100000 in
set_option maxHeartbeats 8000000 in
theorem left_few (w : World) (a : Option Addr) (len cap : Nat) (L : List FV) (hL : L.length = len) (hc : len ≤ cap) (hr : RowV w a len 4 (fvCells L)) (hg : ∀ x ∈ L, GoodF w x) (n : Nat) (hn : n < 256) (sa : Option Addr) (sl sc : Nat) (zs : List Int) (hz : RowI .u8 w sa sl zs) (hf : fewFs L = true) (h100 : sl ≤ 100) :
    Calls Try.prog 8 #[.slice a len cap, .int .u8 n, .slice sa sl sc] w fun e w' => e = .returned (.bool true) ∧ Below w.heap.size w w' := by
  obtain ⟨hFA, h30⟩ := founds_at hL hr hg hf
  obtain ⟨K, hKd⟩ : ∃ K : Nat, K = n % 8 + 1 := ⟨_, rfl⟩
  have hKb : 1 ≤ K ∧ K ≤ 8 := by omega
  have hK : (heldI (K : Int)).toNat = K := by unfold heldI; rw [if_neg (by omega), if_neg (by omega)]; rfl
  have GK := Lib.hid known19_any
  have GF := Lib.hid (fun W (hW : Below w.heap.size w W) => (show Gives Try.prog 18 #[.slice a len cap] W (.bool true) from by
    have := fewFs19_any a len cap L W hL (hr.below hW) (fun x hx => ⟨(hg x hx).1, (hg x hx).2.1, (hg x hx).2.2.1, (hg x hx).2.2.2.1.below hW, fun y hy => ⟨((hg x hx).2.2.2.2 y hy).1, ((hg x hx).2.2.2.2 y hy).2.1, ((hg x hx).2.2.2.2 y hy).2.2.1.below hW, ((hg x hx).2.2.2.2 y hy).2.2.2⟩⟩)
    rwa [hf] at this))
  have hfc := few19_fc hf
  have GN := Lib.hid (fun W (hW : Below w.heap.size w W) => (show Calls Try.prog 19 #[.slice a len cap, .int .i64 (K : Int)] W (fun e w' => ∃ r C, e = .returned (.pointer (some ⟨r, 0, none⟩)) ∧ RpS W C r w' ∧ C.length = K) from
    (RpS.new (K : Int) a len cap L W (hFA.below hW) ⟨hfc.1, hfc.2⟩).mono fun e w' ⟨r, h1, h2⟩ => ⟨r, _, h1, h2, by rw [newRC_len]; exact hK⟩))
  have hLB : ∀ {u W : World} {C : List RC} {r : Nat}, RpS u C r W → leftC C < 1000000 := fun ⟨_, _, _, _, _, _, _, _, _, _, h5, h6⟩ => h6.left (by decide) h5.2
  have HZ := Lib.hid hz
  have HKD := Lib.hid hKd
  have hk8 : (n : Int) % 8 + 1 = (K : Int) := by omega
  clear hr hg hf hFA hfc hL hz hKd hK
  go_enter Try.func8, Try.ntmps8
  go_wp2_with (first
    | (go_at_call 17; ((with_reducible refine (GK.out _).mono ?_); rintro e w1 ⟨rfl, hB1⟩))
    | (go_at_call 18; ((with_reducible refine (GF.out _ hB1).mono ?_); rintro e w2 ⟨rfl, hB2⟩; have hX2 := bel2 hB1 hB2))
    | (go_at_call 19; ((with_reducible refine (GN.out _ hX2).mono ?_); rintro e w3 ⟨r, C, rfl, hS3, hC3⟩; have HS3 := Lib.hid hS3; have HC3 := Lib.hid hC3; have GL := Lib.hid hS3.left'; clear hS3 hC3))
    | (go_at_call 22; ((with_reducible refine GL.out.mono ?_); rintro e w4 ⟨rfl, hS4⟩; have HS4 := Lib.hid hS4; clear hS4)))
  obtain ⟨u, hu⟩ : ∃ u, u = w2 := ⟨_, rfl⟩
  rw [← hu] at HS4 hX2
  clear hu
  go_loopw [9, 10] (fun s9 s10 wr => ∃ (k : Nat) (D : List RC), k ≤ sl ∧ s9 = .int .i64 ((leftC D : Nat) : Int) ∧ s10 = .int .i64 (k : Int) ∧ D.length = K ∧ RpS u D r wr) (fun _ s10 _ => sl - (intOf s10).toNat)
  case atStart => exact ⟨0, C, Nat.zero_le _, rfl, rfl, HC3.out, HS4.out⟩
  case round =>
    obtain ⟨k, D, hk, rfl, rfl, hD, hR⟩ := hrel
    have HR := Lib.hid hR
    have HD := Lib.hid hD
    have hlb := hLB hR
    have hBw : Below w.heap.size w wr := bel2 hX2 hR.bel
    by_cases hlt : k < sl
    · have hlt' : (k : Int) < (sl : Int) := by omega
      have hw9 : IntKind.i64.wrap ((k : Int) + 1) = ((k + 1 : Nat) : Int) := (IntWalk.i64_in _ (by omega)).trans (by push_cast; rfl)
      obtain ⟨b, off, hsa, hb, hx⟩ := HZ.out.2.2.2 (by omega)
      have hzl := HZ.out.1
      have hkz : k < zs.length := by omega
      have hcw := hx k hkz
      have hc0 := (hBw.cell (p := ⟨b, off + k, none⟩) hb).trans hcw
      obtain ⟨y, hy, hy3⟩ := nat_of_u8 (HZ.out.2.2.1 zs[k] (List.getElem_mem _))
      rw [hy] at hcw hc0
      have HCW := Lib.hid (fun W' (hW : Below w.heap.size w W') => (hW.cell (p := ⟨b, off + k, none⟩) hb).trans hcw)
      subst hsa
      obtain ⟨m, hm⟩ : ∃ m : Nat, (y : Int) % 10 = (m : Int) := ⟨y % 10, by omega⟩
      have GS := Lib.hid (HR.out.step (m : Int))
      rw [if_pos (Int.natCast_nonneg m), Int.toNat_natCast, HD.out] at GS
      have hLS := left_step D m
      clear hcw hx hy hR hD
      by_cases hy2 : m < K ∧ 0 < lenC D m
      · rw [decide_eq_true (⟨Int.natCast_nonneg m, by omega, hy2.2⟩ : 0 ≤ (m : Int) ∧ (m : Int) < (K : Int) ∧ 0 < lenC D m)] at GS
        rw [if_pos hy2.2] at hLS
        obtain ⟨E, hE⟩ : ∃ E, E = stepRC D m := ⟨_, rfl⟩
        have HEL := Lib.hid (show E.length = K by rw [hE, stepRC_length]; exact HD.out)
        rw [← hE] at GS hLS
        clear hE
        have GLL := Lib.hid (fun W (h : RpS u E r W) => h.left')
        obtain ⟨q, hq⟩ : ∃ q, leftC E = q := ⟨_, rfl⟩
        rw [hq] at GLL hLS
        have HQ := Lib.hid hq
        rw [← hLS] at hlb ⊢
        have hq1 : ¬ (q : Int) < 0 := by omega
        have hw1 : IntKind.i64.wrap (((q + 1 : Nat) : Int) - 1) = (q : Int) := (IntWalk.i64_in _ (by omega)).trans (by omega)
        have hmk : ¬ (K : Int) ≤ (m : Int) := by omega
        clear hLS hq hy2
        go_wp2_with (first
          | (go_at_call 24; ((with_reducible refine GS.out.mono ?_); rintro e w5 ⟨rfl, h5⟩; have HS5 := Lib.hid h5; have hc5 := HCW.out w5 (bel2 hX2 h5.bel); clear h5))
          | (go_at_call 22; ((with_reducible refine (GLL.out _ HS5.out).mono ?_); rintro e w6 ⟨rfl, h6⟩; have HS6 := Lib.hid h6; clear h6)))
        exact ⟨⟨k + 1, E, by omega, by rw [HQ.out], by go_num, HEL.out, HS6.out⟩, by simp [intOf]; omega⟩
      · have h0 : lenC D m = 0 := by
          rcases Nat.eq_zero_or_pos (lenC D m) with h | h
          · exact h
          · exfalso
            refine hy2 ⟨?_, h⟩
            rcases Nat.lt_or_ge m K with h9 | h9
            · exact h9
            · have : D[m]? = none := List.getElem?_eq_none (by have := HD.out; omega)
              unfold lenC at h; rw [this] at h; exact absurd h (by simp)
        rw [decide_eq_false (show ¬ (0 ≤ (m : Int) ∧ (m : Int) < (K : Int) ∧ 0 < lenC D m) from fun h => by omega), step_same h0] at GS
        have GLL := Lib.hid (fun W (h : RpS u D r W) => h.left')
        generalize hq : leftC D = q at GLL hlb ⊢
        have HQ := Lib.hid hq
        have hq1 : ¬ (q : Int) < 0 := by omega
        clear hLS hq hy2 h0
        go_wp2_with (first
          | (go_at_call 24; ((with_reducible refine GS.out.mono ?_); rintro e w5 ⟨rfl, h5⟩; have HS5 := Lib.hid h5; clear h5))
          | (go_at_call 22; ((with_reducible refine (GLL.out _ HS5.out).mono ?_); rintro e w6 ⟨rfl, h6⟩; have HS6 := Lib.hid h6; clear h6)))
        exact ⟨⟨k + 1, D, by omega, by rw [HQ.out], by go_num, HD.out, HS6.out⟩, by simp [intOf]; omega⟩
    · have hOk : k = sl := by omega
      subst k
      have GR := Lib.hid (hR.run sa sl sc zs (rowI8_below HZ.out hX2))
      clear hR hD
      have hge : ¬ (sl : Int) < (sl : Int) := by omega
      go_wp2_with (go_at_call 20; ((with_reducible refine GR.out.mono ?_); rintro e w7 ⟨⟨x7, rfl⟩, xs, h7, hz7⟩; have HS7 := Lib.hid h7; have HZ7 := Lib.hid hz7; clear h7 hz7))
      go_loopw [11] (fun s11 wr => ∃ (k : Nat) (E : List RC), k ≤ K + 2 ∧ s11 = .int .i64 ((k : Int) - 1) ∧ leftC E = 0 ∧ RpS u E r wr) (fun s11 _ => K + 2 - (intOf s11 + 1).toNat)
      case atStart => exact ⟨0, _, by omega, rfl, HZ7.out, HS7.out⟩
      case round =>
        obtain ⟨k, E, hk, rfl, hE0, hR⟩ := hrel
        have HR7 := Lib.hid hR
        have HE0 := Lib.hid hE0
        by_cases hlt : k < K + 2
        · have hlt' : (k : Int) - 1 ≤ (K : Int) := by omega
          have hw9 : IntKind.i64.wrap ((k : Int) - 1 + 1) = ((k + 1 : Nat) : Int) - 1 := (IntWalk.i64_in _ (by omega)).trans (by push_cast; omega)
          have GS := Lib.hid (show Calls Try.prog 24 #[.pointer (some ⟨r, 0, none⟩), .int .i64 ((k : Int) - 1)] wr (fun e w' => e = .returned (.bool false) ∧ ∃ E', leftC E' = 0 ∧ RpS u E' r w') from by
            have := hR.step ((k : Int) - 1)
            rw [decide_eq_false (show ¬ (0 ≤ (k : Int) - 1 ∧ (k : Int) - 1 < (E.length : Int) ∧ 0 < lenC E ((k : Int) - 1).toNat) from fun h => by have := leftC_pos hE0 ((k : Int) - 1).toNat; omega)] at this
            refine this.mono fun e w' h => ⟨h.1, _, ?_, h.2⟩
            split
            · exact left_same hE0 _
            · exact hE0)
          clear hR hE0
          go_wp2_with (go_at_call 24; ((with_reducible refine GS.out.mono ?_); rintro e w8 ⟨rfl, E', he8, h8⟩; have HS8 := Lib.hid h8; have HE8 := Lib.hid he8; clear h8 he8))
          exact ⟨⟨k + 1, E', by omega, by go_num, HE8.out, HS8.out⟩, by simp [intOf]; omega⟩
        · have hOk : k = K + 2 := by omega
          subst k
          have hge2 : ¬ ((K + 2 : Nat) : Int) - 1 ≤ (K : Int) := by omega
          have GLL := Lib.hid hR.left'
          rw [hE0] at GLL
          clear hR hE0
          go_wp2_with (go_at_call 22; ((with_reducible refine GLL.out.mono ?_); rintro e w9 ⟨rfl, h9⟩; have HS9 := Lib.hid h9; clear h9))
          go_ret
          exact ⟨rfl, bel2 hX2 HS9.out.bel⟩
set_option maxRecDepth 100000 in
theorem walk (w : World) (a : Option Addr) (len cap : Nat) (L : List FV) (hL : L.length = len) (hc : len ≤ cap) (hr : RowV w a len 4 (fvCells L)) (hg : ∀ x ∈ L, GoodF w x) (n : Nat) (hn : n < 256) (sa : Option Addr) (sl sc : Nat) (zs : List Int) (hz : RowI .u8 w sa sl zs) :
    Calls Try.prog 8 #[.slice a len cap, .int .u8 n, .slice sa sl sc] w fun e w' => e = .returned (.bool true) ∧ Below w.heap.size w w' := by
  have GK := Lib.hid known19_any
  cases hf : fewFs L
  · have GF := Lib.hid (fun W (hW : Below w.heap.size w W) => (show Gives Try.prog 18 #[.slice a len cap] W (.bool false) from by
      have := fewFs19_any a len cap L W hL (hr.below hW) (fun x hx => ⟨(hg x hx).1, (hg x hx).2.1, (hg x hx).2.2.1, (hg x hx).2.2.2.1.below hW, fun y hy => ⟨((hg x hx).2.2.2.2 y hy).1, ((hg x hx).2.2.2.2 y hy).2.1, ((hg x hx).2.2.2.2 y hy).2.2.1.below hW, ((hg x hx).2.2.2.2 y hy).2.2.2⟩⟩)
      rwa [hf] at this))
    clear hr hg hf hz
    go_enter Try.func8, Try.ntmps8
    go_wp2_with (first
      | (go_at_call 17; ((with_reducible refine (GK.out _).mono ?_); rintro e w1 ⟨rfl, hB1⟩))
      | (go_at_call 18; ((with_reducible refine (GF.out _ hB1).mono ?_); rintro e w2 ⟨rfl, hB2⟩; have hX2 := bel2 hB1 hB2)))
    go_ret
    exact ⟨rfl, hX2⟩
  · by_cases h100 : sl ≤ 100
    · exact left_few w a len cap L hL hc hr hg n hn sa sl sc zs hz hf h100
    · have h100' : (100 : Int) < (sl : Int) := by omega
      have GF := Lib.hid (fun W (hW : Below w.heap.size w W) => (show Gives Try.prog 18 #[.slice a len cap] W (.bool true) from by
        have := fewFs19_any a len cap L W hL (hr.below hW) (fun x hx => ⟨(hg x hx).1, (hg x hx).2.1, (hg x hx).2.2.1, (hg x hx).2.2.2.1.below hW, fun y hy => ⟨((hg x hx).2.2.2.2 y hy).1, ((hg x hx).2.2.2.2 y hy).2.1, ((hg x hx).2.2.2.2 y hy).2.2.1.below hW, ((hg x hx).2.2.2.2 y hy).2.2.2⟩⟩)
        rwa [hf] at this))
      clear hr hg hf hz
      go_enter Try.func8, Try.ntmps8
      go_wp2_with (first
        | (go_at_call 17; ((with_reducible refine (GK.out _).mono ?_); rintro e w1 ⟨rfl, hB1⟩))
        | (go_at_call 18; ((with_reducible refine (GF.out _ hB1).mono ?_); rintro e w2 ⟨rfl, hB2⟩; have hX2 := bel2 hB1 hB2)))
      go_ret
      exact ⟨rfl, hX2⟩

set_option maxRecDepth 100000 in
theorem lifted (os : Os) (started : os.Started) (H : Type) (enc : TypeId × Value → H) :
    ReturnsInHanded {} Try.checked os 8 .any (Rows.replayLeftSpec.pre6 enc Try.prog Try.f8 Rows.replayLeftRow.domain false) (Rows.replayLeftSpec.post enc Try.prog Try.f8 false true false false) := by
  refine returnsInHanded_of_change (C := Try.checked) Try.own started (by kernel_rfl) Try.func8
    (ChangeSpec.witness6 (enc := enc) (C := Try.checked) false ⟨#[], #[.slice none 0 0, .int .u8 0, .slice none 0 0], []⟩ 8 (by kernel_rfl) (by kernel_rfl) (by kernel_rfl) (by kernel_rfl)) ?_
  intro W base args ds gs before hval hW _ _
  refine law_contract (T := 4) (n := 3) Try.laid Try.underlying4 rfl rfl ⟨rfl, fun H ds h => by match ds, h with | [_, _, _], _ => rfl⟩ (of_all (by kernel_rfl)) hW ?_
  intro ps hA
  rw [Try.params8] at hA hval
  obtain ⟨v0, vs0, d0, ds0, p0, q0, hargs, rfl, rfl, h0, r0⟩ := trodAll_cons hA
  obtain ⟨v1, vs1, d1, ds1, p1, q1, rfl, rfl, rfl, h1, r1⟩ := trodAll_cons r0
  obtain ⟨v2, vs2, d2, ds2, p2, q2, rfl, rfl, rfl, h2, r2⟩ := trodAll_cons r1
  obtain ⟨rfl, rfl, rfl⟩ := trodAll_nil r2
  obtain rfl : args = #[v0, v1, v2] := by cases args; simp_all
  obtain ⟨s0, l0, c0, rfl⟩ := okWide_slice Try.underlying22 (hval 0 22 v0 rfl rfl)
  obtain ⟨zs0, e0, g0, w0, b0⟩ := open_founds h0
  obtain ⟨a1, rfl, rfl, rfl, w1⟩ := open_int Try.underlying5 (hval 1 5 v1 rfl rfl) h1
  obtain ⟨s2, l2, c2, rfl⟩ := okWide_slice Try.underlying45 (hval 2 45 v2 rfl rfl)
  obtain ⟨zs2, w2⟩ := isInts_of (k := .u8) Try.underlying45 Try.underlying5 (by kernel_rfl) h2
  obtain ⟨n1, rfl, b1⟩ := nat_of_u8 w1
  exact walk W s0 l0 c0 zs0 e0 g0 w0 b0 n1 b1 s2 l2 c2 _ (rowI_of w2)

theorem holds : Rows.ReplayLeftSaid :=
  OpenClaim.holds_of_wide 8 Try.f8 rfl rfl rfl rfl rfl rfl rfl ⟨rfl, rfl, rfl, rfl, rfl⟩ rfl rfl rfl rfl rfl (by kernel_rfl) Try.func8 (by kernel_rfl)
    (of_decide_eq_true (by kernel_rfl)) (by unfold Func.isWrapper; first | (rw [if_pos (by decide +kernel)]; kernel_rfl) | (rw [if_neg (by decide +kernel)]; exact ⟨rfl, rfl⟩))
    (fun os started H enc _ => lifted os started H enc)
end Go.Proofs.Ytdncdlbhgaehmaa.replayLeft
