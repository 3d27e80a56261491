/- Law PlaceLast: for every input the call answers true; its arguments read as they did. No condition. -/
import Derived.Test.YtloojgbkohpcfaaLaw
import Derived.Test.YtloojgbkohpcfaaKnown13
import Derived.Test.YtloojgbkohpcfaaPlcL
import Derived.Test.YtloojgbkohpcfaaPlcBrg
import Derived.Test.YtloojgbkohpcfaaQuietC
namespace Go.Proofs.Ytloojgbkohpcfaa.placeLast
open Go.ChangeShapes Go.WideShapes Go.ChangeAt Go.RowKit Go.Shelf
open Go.ChangeMaps (open_string shut_string)
set_option linter.unusedVariables false
attribute [local go_sem] Oper.semAt_some wide_fn wide_round_fn

attribute [local irreducible] wpQuiet

theorem belN13 {n : Nat} {w W : World} (h : Below n w W) (k : Nat) : Below n w (W.drewN k) := ⟨h.os, h.tape, h.output, h.size, h.block⟩
theorem okLG_mono {N M : Nat} {L : LG} (h : okLG N L) (hm : N ≤ M) : okLG M L := ⟨h.1, Nat.le_trans h.2.1 hm, Nat.le_trans h.2.2 hm⟩
theorem ens_at {l : List EntryC} (hr : Pw l) {k : Nat} (hk : k < l.length) : atM l l[k].i = k :=
  atM_at hk rfl (fun j hj => by have := ris_pw.2 hr j k hj hk; omega)
set_option maxRecDepth 100000 in
set_option maxHeartbeats 4000000 in
theorem walk (w : World) (n : Nat) (hn : n < 256) (a : Option Addr) (len cap : Nat) (S : List StC) (hS : S.length = len) (hcap : len ≤ cap) (hrow : RowV w a len 13 (pstCells S)) (hG : ∀ x ∈ S, GoodSt w x) :
    Calls Try.prog 4 #[.int .u8 n, .slice a len cap] w fun e w' => e = .returned (.bool true) ∧ Below w.heap.size w w' := by
  have hml := hrow.2.1
  unfold maxLen at hml
  by_cases h1 : 40 < len
  · clear hrow hG
    go_enter Try.func4, Try.ntmps4
    go_wp2_with (go_at_call 8; refine (known13_any _).mono ?_; rintro e w1 ⟨rfl, hB1⟩)
    go_ret
    exact ⟨rfl, hB1⟩
  have h1' : len ≤ 40 := by omega
  have hcs := hrow.2.2
  have HG := Lib.hid hG
  have HS := Lib.hid hS
  have GN := Lib.hid (fun W (hB : Below w.heap.size w W) => pnewK_any hB (n : Int))
  clear h1 hrow hG hS
  go_enter Try.func4, Try.ntmps4
  go_wp2_with (first
    | (go_at_call 8; refine (known13_any _).mono ?_; rintro e w1 ⟨rfl, hB1⟩)
    | (go_at_call 9; (with_reducible refine (GN.out _ hB1).mono ?_); rintro e w2 ⟨d, m, rfl, hK, -, -, -⟩; have HK2 := Lib.hid hK; clear hK))
  go_loopw [6] (fun si wr => ∃ (k : Nat) (L : LG), k ≤ len ∧ si = .int .i64 k ∧ LgK w d m L wr ∧ LastI S k L ∧ okLG (10 * k) L ∧ L.g.id = (n : Int)) (fun si _ => len - (intOf si).toNat)
  case atStart => exact ⟨0, ⟨newP (n : Int), []⟩, by omega, rfl, HK2.out, lastI_new S n, newP_ok (by omega), rfl⟩
  case round =>
    obtain ⟨k, L, hk, rfl, hK, hLI, hOK, hid⟩ := hrel
    by_cases hlt : k < len
    · obtain ⟨b, off, rfl, hb, hx⟩ := hcs (by omega)
      have hkl : k < S.length := by have := HS.out; omega
      have KC := Lib.hid (fun W (hB : Below w.heap.size w W) => step_at13 hb hB hx hkl)
      have HST := Lib.hid (lastI_step hLI hOK.1 hkl 16)
      have hgs := HG.out S[k] (List.getElem_mem hkl)
      have HID := Lib.hid hid
      have HOK := Lib.hid hOK
      have HK := Lib.hid hK
      have HBW := Lib.hid (show Below w.heap.size w wr from hK.2.1)
      clear hx hcs hLI hOK hid hK HK2
      generalize S[k] = x at *
      obtain ⟨⟨pg, pk, pa, plen, pcap, pht, phv, phc, pi, pt, pm, ph⟩, xl, xs, xt, xc⟩ := x
      obtain ⟨hgp, hple, -, -⟩ := hgs
      have GF := Lib.hid (fun W (hB : Below w.heap.size w W) => (show Gives Try.prog 11 #[.agg #[.int .i64 pg, .int .i64 pk, .slice pa plen pcap, .int .i64 pht, .int .i64 phv, .int .i64 phc, .int .i64 pi, .int .i64 pt, .bool pm, .bool ph]] W (.bool (few13B xl)) from few13_any ⟨pg, pk, pa, plen, pcap, pht, phv, phc, pi, pt, pm, ph⟩ xl W hgp.2.1 (hgp.2.2.1.below hB) (fun e he => (hgp.2.2.2 e he).2.2)))
      dsimp only at *
      obtain ⟨c0, c1, c2, c3, c4, c5, c6, c7, c8, c9, -⟩ := KC.out _ HK.out.2.1
      cases hf : few13B xl
      · rw [hf] at GF
        clear hf
        go_wp2_with (go_at_call 11; ((with_reducible refine (GF.out _ HBW.out).mono ?_); rintro e w3 ⟨rfl, hB3⟩))
        go_ret
        exact ⟨rfl, bel2 HK.out.2.1 hB3⟩
      · rw [hf] at GF
        have hl8 : xl.length ≤ 8 := by simp only [few13B, Bool.and_eq_true, decide_eq_true_eq] at hf; exact hf.2
        have GD := Lib.hid (fun W (hB : Below wr.heap.size wr W) => (show Calls Try.prog 13 #[.pointer (some ⟨d, 0, none⟩), .agg #[.int .i64 pg, .int .i64 pk, .slice pa plen pcap, .int .i64 pht, .int .i64 phv, .int .i64 phc, .int .i64 pi, .int .i64 pt, .bool pm, .bool ph], .agg #[.int .i64 ((k : Int) + 1), .int .i64 16]] W (fun e w' => (∃ v, e = .returned v) ∧ LgK w d m (doLG L ⟨pg, pk, pa, plen, pcap, pht, phv, phc, pi, pt, pm, ph⟩ xl ((k : Int) + 1) 16) w' ∧ FrameT (fun k => k = d ∨ k = m) W w') from pdoK_any (HK.out.below hB) HOK.out (by omega) ⟨pg, pk, pa, plen, pcap, pht, phv, phc, pi, pt, pm, ph⟩ xl ((hgp.has13 hf).below (bel2 HK.out.2.1 hB)) (by have := hgp.2.1; show xl.length ≤ pcap; exact Nat.le_trans (Nat.le_of_eq this) hple) (by omega) ((k : Int) + 1) 16))
        have HOK2 := Lib.hid (okLG_mono (M := 10 * (k + 1)) (doLG_ok HOK.out ⟨pg, pk, pa, plen, pcap, pht, phv, phc, pi, pt, pm, ph⟩ xl ((k : Int) + 1) 16) (by omega))
        have HID2 := Lib.hid ((doLG_id L ⟨pg, pk, pa, plen, pcap, pht, phv, phc, pi, pt, pm, ph⟩ xl ((k : Int) + 1) 16).trans HID.out)
        clear hf hl8 hgp hple
        go_wp2_with (first
          | (go_at_call 11; ((with_reducible refine (GF.out _ HBW.out).mono ?_); rintro e w3 ⟨rfl, hB3⟩; clear c0 c1 c2 c3 c4 c5 c6 c7 c8 c9; obtain ⟨c0, c1, c2, c3, c4, c5, c6, c7, c8, c9, -⟩ := KC.out _ (bel2 HBW.out hB3)))
          | (go_at_call 13; ((with_reducible refine (GD.out _ hB3).mono ?_); rintro e w4 ⟨⟨v4, rfl⟩, hK4, -⟩)))
        exact ⟨⟨k + 1, _, by omega, by go_num, hK4, HST.out, HOK2.out, HID2.out⟩, by simp [intOf]; omega⟩
    · obtain rfl : len = k := by omega
      have hI : isSp L.g = true := hOK.1
      obtain ⟨q, hLS⟩ := lastS_of (S := S) (L := L) (by rw [HS.out]; exact hLI) hI
      have hpw : Pw L.g.l := (sprB_iff.1 (isSp_iff.1 hI).2.2).2.2
      have hXl : (spotsL L.g L.F).length ≤ 420 := by rw [hLS.len]; have := hLS.h2; have := hOK.2.1; omega
      have GG := Lib.hid (fun W (hB : Below wr.heap.size wr W) => pgroupS_any (hK.1.below hB))
      have GS := Lib.hid (fun W (hB : Below wr.heap.size wr W) => pspotsS_any (hK.1.below hB) hI)
      have HBW := Lib.hid (show Below w.heap.size w wr from hK.2.1)
      have HXL := Lib.hid hXl
      obtain ⟨⟨id, fi, te, ht, hv, hc, l⟩, F⟩ := L
      obtain rfl : id = (n : Int) := hid
      dsimp only [GM.val] at *
      have HLS := Lib.hid hLS
      have HPW := Lib.hid hpw
      clear hLI hOK hI hLS hpw hXl HK2
      generalize spotsL ⟨(n : Int), fi, te, ht, hv, hc, l⟩ F = X at *
      go_wp2_with (first
        | (go_at_call 17; ((with_reducible refine (GG.out _ (Below.refl _ _)).mono ?_); rintro e w5 ⟨va, vc, rfl, hHG, -, hB5⟩; have HHG := Lib.hid hHG; clear hHG))
        | (go_at_call 19; ((with_reducible refine (GS.out _ hB5).mono ?_); rintro e w6 ⟨sa, sc, rfl, hRS, -, hB6⟩; have HRS := Lib.hid hRS; clear hRS)))
      have hbG := World.alloc_heap_new w6 (.cells #[.int .i64 (n : Int), .int .i64 fi, .int .i64 te, .int .i64 ht, .int .i64 hv, .int .i64 hc, .slice va l.length vc] 31)
      have hA7 := bel_alloc (Below.refl w6.heap.size w6) (.cells #[.int .i64 (n : Int), .int .i64 fi, .int .i64 te, .int .i64 ht, .int .i64 hv, .int .i64 hc, .slice va l.length vc] 31)
      generalize w6.alloc (.cells #[.int .i64 (n : Int), .int .i64 fi, .int .i64 te, .int .i64 ht, .int .i64 hv, .int .i64 hc, .slice va l.length vc] 31) = w7 at *
      obtain ⟨Xg, hXg⟩ : ∃ Xg, Xg = w6.heap.size := ⟨_, rfl⟩
      rw [← hXg] at hbG
      rw [← hXg]
      clear hXg
      have HBG := Lib.hid hbG
      have HB7 := Lib.hid (bel2 (bel2 hB5 hB6) hA7)
      have HG7 := Lib.hid (HHG.out.below (bel2 hB6 hA7))
      have HR7 := Lib.hid (HRS.out.below hA7)
      clear HHG HRS hbG hB5 hB6 hA7 hK GG GS
      go_loopw [9, 10] (fun s9 s10 wr => ∃ k r : Nat, k ≤ X.length ∧ s10 = .int .i64 k ∧ s9 = .int .i64 r ∧ (r ≤ k - q ∧ k - q ≤ r) ∧ Below w7.heap.size w7 wr) (fun _ s10 _ => X.length - (intOf s10).toNat)
      case atStart => exact ⟨0, 0, by omega, rfl, rfl, by omega, Below.refl _ _⟩
      case round =>
        obtain ⟨k, r, hk, rfl, rfl, hrr, hB⟩ := hrel
        by_cases hlt : k < X.length
        · obtain ⟨b, off, rfl, hb, hx⟩ := HR7.out.2.2 (by omega)
          have hkl : (k : Int) < (X.length : Int) := by omega
          have hgid := HLS.out.gid k hlt
          have hseg := HLS.out.seg k hlt
          rw [HS.out] at hseg
          have hs1 : decide (X[k].s < 1) = false := decide_eq_false (by omega)
          have hs2 : decide ((len : Int) < X[k].s) = false := decide_eq_false (by omega)
          have hgne : ((n : Int) != (n : Int)) = false := by simp
          have hnw : IntKind.i64.wrap (n : Int) = (n : Int) := IntWalk.i64_in _ (by omega)
          have KX := Lib.hid (fun W (hW : Below w7.heap.size w7 W) => spot_at hb hW hx hlt)
          cases k with
          | zero =>
            clear hx
            by_cases hge : 0 < q
            · have hx0 := HLS.out.head 0 hlt hge
              have HR := Lib.hid (show r ≤ 1 - q ∧ 1 - q ≤ r by omega)
              clear hrr hge
              generalize X[0] = x at *
              have KF := Lib.hid (fun W (hW : Below w7.heap.size w7 W) => (show W.cell? ⟨b, off, none⟩ = some (.int .i64 (n : Int)) ∧ W.cell? ⟨b, off + 1, none⟩ = some (.int .i64 x.i) ∧ W.cell? ⟨b, off + 2, none⟩ = some (.int .i64 x.s) from ⟨(KX.out W hW).1.trans (by rw [hgid]), (KX.out W hW).2.1, (KX.out W hW).2.2.1⟩))
              have HS17 := Lib.hid (fun W (hW : Below wr.heap.size wr W) => KF.out W (bel2 hB hW))
              clear KX
              go_wp2
              skip
              refine wp_region_below (by kernel_rfl) (by kernel_rfl) ?_
              repeat (first
                | (refine BigFrame.wpQuiet_skip (by rfl) ?_; (try simp only [Act.put, List.setIfInBounds_toArray, List.set_cons_zero, List.set_cons_succ]))
                | (refine BigFrame.wpQuiet_want (by rfl) (fun K hK => ?_); apply Exists.intro; refine ⟨fun W hW => ?_, hK _ ?_⟩; (focus (have hWB : Below _ _ W := hW; obtain ⟨y0, y1, y2⟩ := HS17.out _ hW; go_simp; (first | done | with_reducible rfl | (fail) | (rw [if_neg (by omega)]; go_simp; (first | done | with_reducible rfl))))); clear hK K; (try simp only [Act.put, List.setIfInBounds_toArray, List.set_cons_zero, List.set_cons_succ])))
              refine wpQuiet_nil ?_
              intro wq hBq
              replace hBq : Below _ _ wq := hBq
              skip
              skip
              obtain ⟨y0, y1, y2⟩ := KF.out _ (bel2 hB hBq)
              go_wp2
              exact ⟨⟨1, r, by omega, by go_num, rfl, HR.out, bel2 hB hBq⟩, by simp [intOf]; omega⟩
            · obtain ⟨hl, j, hj, hxi, hxp, hxs, hmem⟩ := HLS.out.ent 0 hlt (by omega)
              have HR := Lib.hid (show r + 1 ≤ 1 - q ∧ 1 - q ≤ r + 1 by omega)
              have hrl : r = 0 - q := by omega
              have hrl2 : r < l.length := by omega
              have HAt := Lib.hid (show atM l X[0].i = r from by rw [hxi]; have := ens_at HPW.out hl; rw [this, hrl])
              have HMem := Lib.hid (show l[r] ∈ S[j].l from by simpa only [hrl] using hmem)
              have hx0 : ¬ X[0].i ≤ 0 := by omega
              have hr9 : (r : Int) + 1 < 1000 := by have := HXL.out; omega
              clear hrr hge hrl hl hxi hxp hmem
              generalize X[0] = x at *
              have KF := Lib.hid (fun W (hW : Below w7.heap.size w7 W) => (show W.cell? ⟨b, off, none⟩ = some (.int .i64 (n : Int)) ∧ W.cell? ⟨b, off + 1, none⟩ = some (.int .i64 x.i) ∧ W.cell? ⟨b, off + 2, none⟩ = some (.int .i64 x.s) from ⟨(KX.out W hW).1.trans (by rw [hgid]), (KX.out W hW).2.1, (KX.out W hW).2.2.1⟩))
              have HS17 := Lib.hid (fun W (hW : Below wr.heap.size wr W) => KF.out W (bel2 hB hW))
              clear KX
              have HXS := Lib.hid hxs
              clear hxs
              go_wp2
              refine wp_region_below (by kernel_rfl) (by kernel_rfl) ?_
              repeat (first
                | (refine BigFrame.wpQuiet_skip (by rfl) ?_; (try simp only [Act.put, List.setIfInBounds_toArray, List.set_cons_zero, List.set_cons_succ]))
                | (refine BigFrame.wpQuiet_want (by rfl) (fun K hK => ?_); apply Exists.intro; refine ⟨fun W hW => ?_, hK _ ?_⟩; (focus (have hWB : Below _ _ W := hW; obtain ⟨y0, y1, y2⟩ := HS17.out _ hW; go_simp; (first | done | with_reducible rfl | (fail) | (rw [if_neg (by omega)]; go_simp; (first | done | with_reducible rfl))))); clear hK K; (try simp only [Act.put, List.setIfInBounds_toArray, List.set_cons_zero, List.set_cons_succ])))
              refine wpQuiet_nil ?_
              intro wq hBq
              replace hBq : Below _ _ wq := hBq
              skip
              have HBq := Lib.hid (bel2 hB hBq)
              clear hs1 hs2 HS17 hB hBq
              obtain ⟨y0, y1, y2⟩ := KF.out _ HBq.out
              rw [HXS.out] at y2
              have hgs := HG.out S[j] (List.getElem_mem hj)
              obtain ⟨b0, off0, rfl, hb0, hx00⟩ := hcs (by have := HS.out; omega)
              have KC := Lib.hid (fun W (hB : Below w.heap.size w W) => step_at13 hb0 hB hx00 hj)
              have hjl : (j : Int) < (len : Int) := by have := HS.out; omega
              clear hcs hx00
              generalize S[j] = y at *
              obtain ⟨⟨pg, pk, pa, plen, pcap, pht, phv, phc, pi, pt, pm, ph⟩, pl, xs, xt, xc⟩ := y
              obtain ⟨⟨-, hpl, hpr, -⟩, -, -, -⟩ := hgs
              dsimp only at *
              obtain ⟨c0, c1, c2, c3, c4, c5, c6, c7, c8, c9, -⟩ := KC.out _ (bel2 HBW.out (bel2 HB7.out HBq.out))
              skip
              go_wp2
              clear c0 c1 c2 c3 c4 c5 c6 c7 c8 c9 y0 y1 y2 KC
              have hbp := World.alloc_heap_new wq (.cells #[.int .i64 pg, .int .i64 pk, .slice pa plen pcap, .int .i64 pht, .int .i64 phv, .int .i64 phc, .int .i64 pi, .int .i64 pt, .bool pm, .bool ph] 39)
              have hAc := bel_alloc (Below.refl wq.heap.size wq) (.cells #[.int .i64 pg, .int .i64 pk, .slice pa plen pcap, .int .i64 pht, .int .i64 phv, .int .i64 phc, .int .i64 pi, .int .i64 pt, .bool pm, .bool ph] 39)
              generalize wq.alloc (.cells #[.int .i64 pg, .int .i64 pk, .slice pa plen pcap, .int .i64 pht, .int .i64 phv, .int .i64 phc, .int .i64 pi, .int .i64 pt, .bool pm, .bool ph] 39) = wc at *
              obtain ⟨Xp, hXp⟩ : ∃ Xp, Xp = wq.heap.size := ⟨_, rfl⟩
              rw [← hXp] at hbp
              rw [← hXp]
              clear hXp
              have HBc := Lib.hid (bel2 HBq.out hAc)
              have HBP := Lib.hid hbp
              clear HBq hAc hbp
              have HS22 := Lib.hid (fun W (hW : Below wc.heap.size wc W) => (show (_ ∧ _ ∧ _ ∧ _ ∧ _ ∧ _ ∧ _ ∧ _) ∧ W.cell? ⟨b, off + 1, none⟩ = some (.int .i64 x.i) from ⟨cells7 ((((bel2 HBc.out hW).block _ (heap_lt HBG.out))).trans HBG.out), (KF.out W (bel2 HBc.out hW)).2.1⟩))
              have GA := Lib.hid (fun W (hB : Below wc.heap.size wc W) => (show Gives Try.prog 20 #[.agg #[.int .i64 (n : Int), .int .i64 fi, .int .i64 te, .int .i64 ht, .int .i64 hv, .int .i64 hc, .slice va l.length vc], .int .i64 x.i] W (.int .i64 (r : Int)) from by have := refAt_any (n : Int) fi te ht hv hc l va vc x.i W (HG7.out.below (bel2 HBc.out hB)); rwa [HAt.out] at this))
              refine wp_region_below (by kernel_rfl) (by kernel_rfl) ?_
              repeat (first
                | (refine BigFrame.wpQuiet_skip (by rfl) ?_; (try simp only [Act.put, List.setIfInBounds_toArray, List.set_cons_zero, List.set_cons_succ]))
                | (refine BigFrame.wpQuiet_want (by rfl) (fun K hK => ?_); apply Exists.intro; refine ⟨fun W hW => ?_, hK _ ?_⟩; (focus (have hWB : Below _ _ W := hW; obtain ⟨⟨x0, x1, x2, x3, x4, x5, x6, -⟩, y1⟩ := HS22.out _ hW; go_simp; (first | done | with_reducible rfl | (go_at_call 20; with_reducible exact gives_above hW (GA.out _ hWB)) | (rw [if_neg (by omega)]; go_simp; (first | done | with_reducible rfl))))); clear hK K; (try simp only [Act.put, List.setIfInBounds_toArray, List.set_cons_zero, List.set_cons_succ])))
              refine wpQuiet_nil ?_
              intro w9 hB9
              replace hB9 : Below _ _ w9 := hB9
              have HB9 := Lib.hid (bel2 HBc.out hB9)
              have HBP9 := Lib.hid ((hB9.block _ (heap_lt HBP.out)).trans HBP.out)
              clear GA HS22 HBc HBP hB9 KF HAt HXS
              obtain ⟨wo, rfl⟩ : ∃ wo : World, wo = wr := ⟨_, rfl⟩
              have hrl3 : (r : Int) < (l.length : Int) := by omega
              have hr0 : (0 : Int) ≤ (r : Int) := by omega
              obtain ⟨gb, goff, rfl, hgb, hgx⟩ := (show RowV w7 va l.length 3 (entryCells l) from HG7.out.2).2.2 (by omega)
              have HE := Lib.hid (fun W (hB : Below w7.heap.size w7 W) => entry_at hgb hB hgx hrl2)
              clear hgx
              generalize l[r] = e at *
              go_wp2
              go_loopw [13, 14] (fun s13 s14 wr => ∃ (z : Nat) (f : Bool), z ≤ plen ∧ s14 = .int .i64 z ∧ s13 = .bool f ∧ f = (pl.take z).any (fun y => decide (y = e)) ∧ Below w9.heap.size w9 wr) (fun _ s14 _ => plen - (intOf s14).toNat)
              case atStart => exact ⟨0, false, by omega, rfl, rfl, by simp, Below.refl _ _⟩
              case round =>
                obtain ⟨z, f, hz, rfl, rfl, hf, hB3⟩ := hrel
                have HF := Lib.hid hf
                clear hf
                by_cases hzl : z < plen
                · obtain ⟨pb, poff, rfl, hpb, hpx⟩ := hpr.2.2 (by omega)
                  have hzp : z < pl.length := by omega
                  have hzi : (z : Int) < (plen : Int) := by omega
                  have hz9 : (z : Int) + 1 < 9223372036854775808 := by have := hpr.2.1; unfold maxLen at this; omega
                  have HT := Lib.hid (show (pl.take (z + 1)).any (fun y => decide (y = e)) = ((pl.take z).any (fun y => decide (y = e)) || decide (pl[z] = e)) by rw [List.take_succ_eq_append_getElem hzp, List.any_append]; simp)
                  rw [← HF.out] at HT
                  have HS27 := Lib.hid (fun W (hW : Below wr.heap.size wr W) => (show W.cell? ⟨Xp, 2, none⟩ = some (.slice (some ⟨pb, poff, none⟩) plen pcap) ∧ W.cell? ⟨Xg, 6, none⟩ = some (.slice (some ⟨gb, goff, none⟩) l.length vc) ∧ (_ ∧ _ ∧ _) ∧ (_ ∧ _ ∧ _) from ⟨cell_of_row _ _ 2 _ _ _ (((bel2 hB3 hW).block _ (heap_lt HBP9.out)).trans HBP9.out), cell_of_row _ _ 6 _ _ _ (((bel2 HB9.out (bel2 hB3 hW)).block _ (heap_lt HBG.out)).trans HBG.out), entry_at hpb (bel2 HBW.out (bel2 HB7.out (bel2 HB9.out (bel2 hB3 hW)))) hpx hzp, HE.out W (bel2 HB9.out (bel2 hB3 hW))⟩))
                  clear hpx HF
                  generalize pl[z] = y at *
                  have heq := fun w => eqlEntry y e w
                  obtain ⟨p2, -, -, -⟩ := HS27.out wr (Below.refl _ _)
                  cases f
                  · go_wp2
                    refine wp_region_below (by kernel_rfl) (by kernel_rfl) ?_
                    repeat (first
                      | (refine BigFrame.wpQuiet_skip (by rfl) ?_; (try simp only [Act.put, List.setIfInBounds_toArray, List.set_cons_zero, List.set_cons_succ]))
                      | (refine BigFrame.wpQuiet_want (by rfl) (fun K hK => ?_); apply Exists.intro; refine ⟨fun W hW => ?_, hK _ ?_⟩; (focus (have hWB : Below _ _ W := hW; obtain ⟨p2, g6, ⟨d0, d1, d2⟩, ⟨e0, e1, e2⟩⟩ := HS27.out _ hW; go_simp; (first | done | with_reducible rfl | (fail) | (rw [if_neg (by omega)]; go_simp; (first | done | with_reducible rfl))))); clear hK K; (try simp only [Act.put, List.setIfInBounds_toArray, List.set_cons_zero, List.set_cons_succ])))
                    refine wpQuiet_nil ?_
                    intro wn hBn
                    replace hBn : Below _ _ wn := hBn
                    clear heq
                    go_wp2
                    exact ⟨⟨z + 1, _, by omega, by go_num, rfl, by rw [HT.out]; rfl, bel2 hB3 hBn⟩, by simp [intOf]; omega⟩
                  · go_wp2
                    refine wp_region_below (by kernel_rfl) (by kernel_rfl) ?_
                    repeat (first
                      | (refine BigFrame.wpQuiet_skip (by rfl) ?_; (try simp only [Act.put, List.setIfInBounds_toArray, List.set_cons_zero, List.set_cons_succ]))
                      | (refine BigFrame.wpQuiet_want (by rfl) (fun K hK => ?_); apply Exists.intro; refine ⟨fun W hW => ?_, hK _ ?_⟩; (focus (have hWB : Below _ _ W := hW; obtain ⟨p2, g6, ⟨d0, d1, d2⟩, ⟨e0, e1, e2⟩⟩ := HS27.out _ hW; go_simp; (first | done | with_reducible rfl | (fail) | (rw [if_neg (by omega)]; go_simp; (first | done | with_reducible rfl))))); clear hK K; (try simp only [Act.put, List.setIfInBounds_toArray, List.set_cons_zero, List.set_cons_succ])))
                    refine wpQuiet_nil ?_
                    intro wn hBn
                    replace hBn : Below _ _ wn := hBn
                    clear heq
                    go_wp2
                    exact ⟨⟨z + 1, _, by omega, by go_num, rfl, by rw [HT.out]; rfl, bel2 hB3 hBn⟩, by simp [intOf]; omega⟩
                · obtain rfl : f = true := by
                    rw [HF.out, List.take_of_length_le (by omega), List.any_eq_true]
                    exact ⟨e, HMem.out, by simp⟩
                  have p2 : wr.cell? ⟨Xp, 2, none⟩ = some (.slice pa plen pcap) := cell_of_row _ _ 2 _ _ _ ((hB3.block _ (heap_lt HBP9.out)).trans HBP9.out)
                  have hzi : ¬ (z : Int) < (plen : Int) := by omega
                  go_wp2
                  exact ⟨⟨1, r + 1, by omega, by go_num, by go_num, HR.out, bel2 HB9.out hB3⟩, by simp [intOf]; omega⟩
          | succ k =>
            have hs0 : decide (X[k + 1].i ≤ X[k].i) = false := decide_eq_false (by have := HLS.out.ris k hlt; omega)
            have KY := Lib.hid (fun W (hW : Below w7.heap.size w7 W) => spot_at hb hW hx (show k < X.length by omega))
            have hkl2 : (k : Int) < (X.length : Int) := by omega
            have hkl3 : (k : Int) + 1 < (X.length : Int) := by omega
            clear hkl hx
            generalize X[k] = x' at *
            by_cases hge : (k + 1) < q
            · have hx0 := HLS.out.head (k + 1) hlt hge
              have HR := Lib.hid (show r ≤ (k + 1 + 1) - q ∧ (k + 1 + 1) - q ≤ r by omega)
              clear hrr hge
              generalize X[(k + 1)] = x at *
              have KF := Lib.hid (fun W (hW : Below w7.heap.size w7 W) => (show W.cell? ⟨b, off + (k + 1) * 4, none⟩ = some (.int .i64 (n : Int)) ∧ W.cell? ⟨b, off + (k + 1) * 4 + 1, none⟩ = some (.int .i64 x.i) ∧ W.cell? ⟨b, off + (k + 1) * 4 + 2, none⟩ = some (.int .i64 x.s) ∧ W.cell? ⟨b, off + k * 4 + 1, none⟩ = some (.int .i64 x'.i) from ⟨(KX.out W hW).1.trans (by rw [hgid]), (KX.out W hW).2.1, (KX.out W hW).2.2.1, (KY.out W hW).2.1⟩))
              have HS17 := Lib.hid (fun W (hW : Below wr.heap.size wr W) => KF.out W (bel2 hB hW))
              clear KX KY
              have hjw : IntKind.i64.wrap ((k : Int) + 1 - 1) = (k : Int) := by rw [IntWalk.i64_in _ (by have := HXL.out; omega)]; omega
              have hjw2 : IntKind.i64.wrap (k : Int) = (k : Int) := IntWalk.i64_in _ (by have := HXL.out; omega)
              have hj1 : (0 : Int) < (k : Int) + 1 := by omega
              have hp0 : (0 : Int) ≤ (k : Int) + 1 := by omega
              have hpn : ((k : Int) + 1).toNat = k + 1 := by omega
              go_wp2
              simp only [Int.natCast_add, Int.cast_ofNat_Int]
              refine wp_region_below (by kernel_rfl) (by kernel_rfl) ?_
              repeat (first
                | (refine BigFrame.wpQuiet_skip (by rfl) ?_; (try simp only [Act.put, List.setIfInBounds_toArray, List.set_cons_zero, List.set_cons_succ]))
                | (refine BigFrame.wpQuiet_want (by rfl) (fun K hK => ?_); apply Exists.intro; refine ⟨fun W hW => ?_, hK _ ?_⟩; (focus (have hWB : Below _ _ W := hW; obtain ⟨y0, y1, y2, v1⟩ := HS17.out _ hW; go_simp; (first | done | with_reducible rfl | (fail) | (rw [if_neg (by omega)]; go_simp; (first | done | with_reducible rfl))))); clear hK K; (try simp only [Act.put, List.setIfInBounds_toArray, List.set_cons_zero, List.set_cons_succ])))
              refine wpQuiet_nil ?_
              intro wq hBq
              replace hBq : Below _ _ wq := hBq
              have hk9 : (k : Int) + 1 + 1 < 1000 := by have := HXL.out; omega
              clear hjw hjw2 hpn
              obtain ⟨y0, y1, y2, v1⟩ := KF.out _ (bel2 hB hBq)
              go_wp2
              exact ⟨⟨(k + 1 + 1), r, by omega, by go_num, rfl, HR.out, bel2 hB hBq⟩, by simp [intOf]; omega⟩
            · obtain ⟨hl, j, hj, hxi, hxp, hxs, hmem⟩ := HLS.out.ent (k + 1) hlt (by omega)
              have HR := Lib.hid (show r + 1 ≤ (k + 1 + 1) - q ∧ (k + 1 + 1) - q ≤ r + 1 by omega)
              have hrl : r = (k + 1) - q := by omega
              have hrl2 : r < l.length := by omega
              have HAt := Lib.hid (show atM l X[(k + 1)].i = r from by rw [hxi]; have := ens_at HPW.out hl; rw [this, hrl])
              have HMem := Lib.hid (show l[r] ∈ S[j].l from by simpa only [hrl] using hmem)
              have hx0 : ¬ X[(k + 1)].i ≤ 0 := by omega
              have hr9 : (r : Int) + 1 < 1000 := by have := HXL.out; omega
              clear hrr hge hrl hl hxi hxp hmem
              generalize X[(k + 1)] = x at *
              have KF := Lib.hid (fun W (hW : Below w7.heap.size w7 W) => (show W.cell? ⟨b, off + (k + 1) * 4, none⟩ = some (.int .i64 (n : Int)) ∧ W.cell? ⟨b, off + (k + 1) * 4 + 1, none⟩ = some (.int .i64 x.i) ∧ W.cell? ⟨b, off + (k + 1) * 4 + 2, none⟩ = some (.int .i64 x.s) ∧ W.cell? ⟨b, off + k * 4 + 1, none⟩ = some (.int .i64 x'.i) from ⟨(KX.out W hW).1.trans (by rw [hgid]), (KX.out W hW).2.1, (KX.out W hW).2.2.1, (KY.out W hW).2.1⟩))
              have HS17 := Lib.hid (fun W (hW : Below wr.heap.size wr W) => KF.out W (bel2 hB hW))
              clear KX KY
              have hjw : IntKind.i64.wrap ((k : Int) + 1 - 1) = (k : Int) := by rw [IntWalk.i64_in _ (by have := HXL.out; omega)]; omega
              have hjw2 : IntKind.i64.wrap (k : Int) = (k : Int) := IntWalk.i64_in _ (by have := HXL.out; omega)
              have hj1 : (0 : Int) < (k : Int) + 1 := by omega
              have hp0 : (0 : Int) ≤ (k : Int) + 1 := by omega
              have hpn : ((k : Int) + 1).toNat = k + 1 := by omega
              have HXS := Lib.hid hxs
              clear hxs
              go_wp2
              refine wp_region_below (by kernel_rfl) (by kernel_rfl) ?_
              repeat (first
                | (refine BigFrame.wpQuiet_skip (by rfl) ?_; (try simp only [Act.put, List.setIfInBounds_toArray, List.set_cons_zero, List.set_cons_succ]))
                | (refine BigFrame.wpQuiet_want (by rfl) (fun K hK => ?_); apply Exists.intro; refine ⟨fun W hW => ?_, hK _ ?_⟩; (focus (have hWB : Below _ _ W := hW; obtain ⟨y0, y1, y2, v1⟩ := HS17.out _ hW; go_simp; (first | done | with_reducible rfl | (fail) | (rw [if_neg (by omega)]; go_simp; (first | done | with_reducible rfl))))); clear hK K; (try simp only [Act.put, List.setIfInBounds_toArray, List.set_cons_zero, List.set_cons_succ])))
              refine wpQuiet_nil ?_
              intro wq hBq
              replace hBq : Below _ _ wq := hBq
              clear hjw hjw2 hpn
              have HBq := Lib.hid (bel2 hB hBq)
              clear hs1 hs2 hs0 HS17 hB hBq
              obtain ⟨y0, y1, y2, v1⟩ := KF.out _ HBq.out
              rw [HXS.out] at y2
              have hgs := HG.out S[j] (List.getElem_mem hj)
              obtain ⟨b0, off0, rfl, hb0, hx00⟩ := hcs (by have := HS.out; omega)
              have KC := Lib.hid (fun W (hB : Below w.heap.size w W) => step_at13 hb0 hB hx00 hj)
              have hjl : (j : Int) < (len : Int) := by have := HS.out; omega
              clear hcs hx00
              generalize S[j] = y at *
              obtain ⟨⟨pg, pk, pa, plen, pcap, pht, phv, phc, pi, pt, pm, ph⟩, pl, xs, xt, xc⟩ := y
              obtain ⟨⟨-, hpl, hpr, -⟩, -, -, -⟩ := hgs
              dsimp only at *
              obtain ⟨c0, c1, c2, c3, c4, c5, c6, c7, c8, c9, -⟩ := KC.out _ (bel2 HBW.out (bel2 HB7.out HBq.out))
              have hk9 : (k : Int) + 1 + 1 < 1000 := by have := HXL.out; omega
              go_wp2
              clear c0 c1 c2 c3 c4 c5 c6 c7 c8 c9 y0 y1 y2 v1 KC
              have hbp := World.alloc_heap_new wq (.cells #[.int .i64 pg, .int .i64 pk, .slice pa plen pcap, .int .i64 pht, .int .i64 phv, .int .i64 phc, .int .i64 pi, .int .i64 pt, .bool pm, .bool ph] 39)
              have hAc := bel_alloc (Below.refl wq.heap.size wq) (.cells #[.int .i64 pg, .int .i64 pk, .slice pa plen pcap, .int .i64 pht, .int .i64 phv, .int .i64 phc, .int .i64 pi, .int .i64 pt, .bool pm, .bool ph] 39)
              generalize wq.alloc (.cells #[.int .i64 pg, .int .i64 pk, .slice pa plen pcap, .int .i64 pht, .int .i64 phv, .int .i64 phc, .int .i64 pi, .int .i64 pt, .bool pm, .bool ph] 39) = wc at *
              obtain ⟨Xp, hXp⟩ : ∃ Xp, Xp = wq.heap.size := ⟨_, rfl⟩
              rw [← hXp] at hbp
              rw [← hXp]
              clear hXp
              have HBc := Lib.hid (bel2 HBq.out hAc)
              have HBP := Lib.hid hbp
              clear HBq hAc hbp
              have HS22 := Lib.hid (fun W (hW : Below wc.heap.size wc W) => (show (_ ∧ _ ∧ _ ∧ _ ∧ _ ∧ _ ∧ _ ∧ _) ∧ W.cell? ⟨b, off + (k + 1) * 4 + 1, none⟩ = some (.int .i64 x.i) from ⟨cells7 ((((bel2 HBc.out hW).block _ (heap_lt HBG.out))).trans HBG.out), (KF.out W (bel2 HBc.out hW)).2.1⟩))
              have GA := Lib.hid (fun W (hB : Below wc.heap.size wc W) => (show Gives Try.prog 20 #[.agg #[.int .i64 (n : Int), .int .i64 fi, .int .i64 te, .int .i64 ht, .int .i64 hv, .int .i64 hc, .slice va l.length vc], .int .i64 x.i] W (.int .i64 (r : Int)) from by have := refAt_any (n : Int) fi te ht hv hc l va vc x.i W (HG7.out.below (bel2 HBc.out hB)); rwa [HAt.out] at this))
              refine wp_region_below (by kernel_rfl) (by kernel_rfl) ?_
              repeat (first
                | (refine BigFrame.wpQuiet_skip (by rfl) ?_; (try simp only [Act.put, List.setIfInBounds_toArray, List.set_cons_zero, List.set_cons_succ]))
                | (refine BigFrame.wpQuiet_want (by rfl) (fun K hK => ?_); apply Exists.intro; refine ⟨fun W hW => ?_, hK _ ?_⟩; (focus (have hWB : Below _ _ W := hW; obtain ⟨⟨x0, x1, x2, x3, x4, x5, x6, -⟩, y1⟩ := HS22.out _ hW; go_simp; (first | done | with_reducible rfl | (go_at_call 20; with_reducible exact gives_above hW (GA.out _ hWB)) | (rw [if_neg (by omega)]; go_simp; (first | done | with_reducible rfl))))); clear hK K; (try simp only [Act.put, List.setIfInBounds_toArray, List.set_cons_zero, List.set_cons_succ])))
              refine wpQuiet_nil ?_
              intro w9 hB9
              replace hB9 : Below _ _ w9 := hB9
              have HB9 := Lib.hid (bel2 HBc.out hB9)
              have HBP9 := Lib.hid ((hB9.block _ (heap_lt HBP.out)).trans HBP.out)
              clear GA HS22 HBc HBP hB9 KF HAt HXS
              obtain ⟨wo, rfl⟩ : ∃ wo : World, wo = wr := ⟨_, rfl⟩
              have hrl3 : (r : Int) < (l.length : Int) := by omega
              have hr0 : (0 : Int) ≤ (r : Int) := by omega
              obtain ⟨gb, goff, rfl, hgb, hgx⟩ := (show RowV w7 va l.length 3 (entryCells l) from HG7.out.2).2.2 (by omega)
              have HE := Lib.hid (fun W (hB : Below w7.heap.size w7 W) => entry_at hgb hB hgx hrl2)
              clear hgx
              generalize l[r] = e at *
              go_wp2
              go_loopw [13, 14] (fun s13 s14 wr => ∃ (z : Nat) (f : Bool), z ≤ plen ∧ s14 = .int .i64 z ∧ s13 = .bool f ∧ f = (pl.take z).any (fun y => decide (y = e)) ∧ Below w9.heap.size w9 wr) (fun _ s14 _ => plen - (intOf s14).toNat)
              case atStart => exact ⟨0, false, by omega, rfl, rfl, by simp, Below.refl _ _⟩
              case round =>
                obtain ⟨z, f, hz, rfl, rfl, hf, hB3⟩ := hrel
                have HF := Lib.hid hf
                clear hf
                by_cases hzl : z < plen
                · obtain ⟨pb, poff, rfl, hpb, hpx⟩ := hpr.2.2 (by omega)
                  have hzp : z < pl.length := by omega
                  have hzi : (z : Int) < (plen : Int) := by omega
                  have hz9 : (z : Int) + 1 < 9223372036854775808 := by have := hpr.2.1; unfold maxLen at this; omega
                  have HT := Lib.hid (show (pl.take (z + 1)).any (fun y => decide (y = e)) = ((pl.take z).any (fun y => decide (y = e)) || decide (pl[z] = e)) by rw [List.take_succ_eq_append_getElem hzp, List.any_append]; simp)
                  rw [← HF.out] at HT
                  have HS27 := Lib.hid (fun W (hW : Below wr.heap.size wr W) => (show W.cell? ⟨Xp, 2, none⟩ = some (.slice (some ⟨pb, poff, none⟩) plen pcap) ∧ W.cell? ⟨Xg, 6, none⟩ = some (.slice (some ⟨gb, goff, none⟩) l.length vc) ∧ (_ ∧ _ ∧ _) ∧ (_ ∧ _ ∧ _) from ⟨cell_of_row _ _ 2 _ _ _ (((bel2 hB3 hW).block _ (heap_lt HBP9.out)).trans HBP9.out), cell_of_row _ _ 6 _ _ _ (((bel2 HB9.out (bel2 hB3 hW)).block _ (heap_lt HBG.out)).trans HBG.out), entry_at hpb (bel2 HBW.out (bel2 HB7.out (bel2 HB9.out (bel2 hB3 hW)))) hpx hzp, HE.out W (bel2 HB9.out (bel2 hB3 hW))⟩))
                  clear hpx HF
                  generalize pl[z] = y at *
                  have heq := fun w => eqlEntry y e w
                  obtain ⟨p2, -, -, -⟩ := HS27.out wr (Below.refl _ _)
                  cases f
                  · go_wp2
                    refine wp_region_below (by kernel_rfl) (by kernel_rfl) ?_
                    repeat (first
                      | (refine BigFrame.wpQuiet_skip (by rfl) ?_; (try simp only [Act.put, List.setIfInBounds_toArray, List.set_cons_zero, List.set_cons_succ]))
                      | (refine BigFrame.wpQuiet_want (by rfl) (fun K hK => ?_); apply Exists.intro; refine ⟨fun W hW => ?_, hK _ ?_⟩; (focus (have hWB : Below _ _ W := hW; obtain ⟨p2, g6, ⟨d0, d1, d2⟩, ⟨e0, e1, e2⟩⟩ := HS27.out _ hW; go_simp; (first | done | with_reducible rfl | (fail) | (rw [if_neg (by omega)]; go_simp; (first | done | with_reducible rfl))))); clear hK K; (try simp only [Act.put, List.setIfInBounds_toArray, List.set_cons_zero, List.set_cons_succ])))
                    refine wpQuiet_nil ?_
                    intro wn hBn
                    replace hBn : Below _ _ wn := hBn
                    clear heq
                    go_wp2
                    exact ⟨⟨z + 1, _, by omega, by go_num, rfl, by rw [HT.out]; rfl, bel2 hB3 hBn⟩, by simp [intOf]; omega⟩
                  · go_wp2
                    refine wp_region_below (by kernel_rfl) (by kernel_rfl) ?_
                    repeat (first
                      | (refine BigFrame.wpQuiet_skip (by rfl) ?_; (try simp only [Act.put, List.setIfInBounds_toArray, List.set_cons_zero, List.set_cons_succ]))
                      | (refine BigFrame.wpQuiet_want (by rfl) (fun K hK => ?_); apply Exists.intro; refine ⟨fun W hW => ?_, hK _ ?_⟩; (focus (have hWB : Below _ _ W := hW; obtain ⟨p2, g6, ⟨d0, d1, d2⟩, ⟨e0, e1, e2⟩⟩ := HS27.out _ hW; go_simp; (first | done | with_reducible rfl | (fail) | (rw [if_neg (by omega)]; go_simp; (first | done | with_reducible rfl))))); clear hK K; (try simp only [Act.put, List.setIfInBounds_toArray, List.set_cons_zero, List.set_cons_succ])))
                    refine wpQuiet_nil ?_
                    intro wn hBn
                    replace hBn : Below _ _ wn := hBn
                    clear heq
                    go_wp2
                    exact ⟨⟨z + 1, _, by omega, by go_num, rfl, by rw [HT.out]; rfl, bel2 hB3 hBn⟩, by simp [intOf]; omega⟩
                · obtain rfl : f = true := by
                    rw [HF.out, List.take_of_length_le (by omega), List.any_eq_true]
                    exact ⟨e, HMem.out, by simp⟩
                  have p2 : wr.cell? ⟨Xp, 2, none⟩ = some (.slice pa plen pcap) := cell_of_row _ _ 2 _ _ _ ((hB3.block _ (heap_lt HBP9.out)).trans HBP9.out)
                  have hzi : ¬ (z : Int) < (plen : Int) := by omega
                  go_wp2
                  exact ⟨⟨(k + 1 + 1), r + 1, by omega, by go_num, by go_num, HR.out, bel2 HB9.out hB3⟩, by simp [intOf]; omega⟩
        · obtain rfl : k = X.length := by omega
          have hlen := HLS.out.len
          obtain rfl : r = l.length := by omega
          have g6 : wr.cell? ⟨Xg, 6, none⟩ = some (.slice va l.length vc) := cell_of_row _ _ 6 _ _ _ ((hB.block _ (heap_lt HBG.out)).trans HBG.out)
          clear hlen hrr
          go_wp2
          go_ret
          exact ⟨by simp, bel2 HBW.out (bel2 HB7.out hB)⟩

set_option maxRecDepth 100000 in
theorem lifted (os : Os) (started : os.Started) (H : Type) (enc : TypeId × Value → H) :
    ReturnsInHanded {} Try.checked os 4 .any (Rows.placeLastSpec.pre6 enc Try.prog Try.f4 Rows.placeLastRow.domain false) (Rows.placeLastSpec.post enc Try.prog Try.f4 false true false false) := by
  refine returnsInHanded_of_change (C := Try.checked) Try.own started (by kernel_rfl) Try.func4
    (ChangeSpec.witness6 (enc := enc) (C := Try.checked) false ⟨#[], #[.int .u8 0, .slice none 0 0], []⟩ 8 (by kernel_rfl) (by kernel_rfl) (by kernel_rfl) (by kernel_rfl)) ?_
  intro W base args ds gs before hval hW _ _
  refine law_contract (T := 4) (n := 2) Try.laid Try.underlying4 rfl rfl ⟨rfl, fun H ds h => by match ds, h with | [_, _], _ => rfl⟩ (of_all (by kernel_rfl)) hW ?_
  intro ps hA
  rw [Try.params4] at hA hval
  obtain ⟨v0, vs0, d0, ds0, p0, q0, hargs, rfl, rfl, h0, r0⟩ := trodAll_cons hA
  obtain ⟨v1, vs1, d1, ds1, p1, q1, rfl, rfl, rfl, h1, r1⟩ := trodAll_cons r0
  obtain ⟨rfl, rfl, rfl⟩ := trodAll_nil r1
  obtain rfl : args = #[v0, v1] := by cases args; simp_all
  obtain ⟨a0, rfl, rfl, rfl, w0⟩ := open_int Try.underlying5 (hval 0 5 v0 rfl rfl) h0
  obtain ⟨s1, l1, c1, rfl⟩ := okWide_slice Try.underlying22 (hval 1 22 v1 rfl rfl)
  obtain ⟨zs1, e1, g1, w1, b1⟩ := open_psteps h1
  obtain ⟨n0, rfl, b0⟩ := nat_of_u8 w0
  exact walk W n0 b0 s1 l1 c1 zs1 e1 g1 w1 b1

theorem holds : Rows.PlaceLastSaid :=
  OpenClaim.holds_of_wide 4 Try.f4 rfl rfl rfl rfl rfl rfl rfl ⟨rfl, rfl, rfl, rfl, rfl⟩ rfl rfl rfl rfl rfl (by kernel_rfl) Try.func4 (by kernel_rfl)
    (of_decide_eq_true (by kernel_rfl)) (by unfold Func.isWrapper; first | (rw [if_pos (by decide +kernel)]; kernel_rfl) | (rw [if_neg (by decide +kernel)]; exact ⟨rfl, rfl⟩))
    (fun os started H enc _ => lifted os started H enc)
end Go.Proofs.Ytloojgbkohpcfaa.placeLast
