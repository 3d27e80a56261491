/- RecRef, RecRefB: in one text. -/
import Derived.Test.YtflaanffjjidaaaRecs
import Derived.Test.YtflaanffjjidaaaRefIs6
import Derived.Test.YtflaanffjjidaaaRefBs
/- The contracts of the document's IsRecord, SameParts, Same. -/
namespace Go.Proofs.Ytflaanffjjidaaa
open Go.RowKit Go.Shelf
set_option linter.unusedVariables false
attribute [local go_sem] Oper.semAt_some wide_fn wide_round_fn

attribute [local irreducible] wpQuiet
set_option maxRecDepth 100000 in
set_option maxHeartbeats 2000000 in
theorem refIsRec_short (s : Int) (a : Option Addr) (len cap : Nat) (w : World) (hm : len < 1000000) (h : s < 1 ∨ 1125899906842624 < s ∨ len < 1 ∨ 4 < len) : Gives Try.prog 14 #[.agg #[.int .i64 s, .slice a len cap]] w (.bool false) := by
  have hA := bel_alloc (Below.refl w.heap.size w) (.cells #[.int .i64 s, .slice a len cap] 37)
  unfold Gives
  by_cases h1 : wB s 1 1125899906842624 = true
  · have h1' := wB_bd h1
    have G1 := Lib.hid (fun W => (show Gives Try.prog 29 #[.int .i64 s, .int .i64 1, .int .i64 1125899906842624] W (.bool true) from by have := refWithin_any s 1 1125899906842624 W; rwa [h1] at this))
    have G2 := Lib.hid (fun W => (show Gives Try.prog 29 #[.int .i64 len, .int .i64 1, .int .i64 4] W (.bool false) from by have := refWithin_any len 1 4 W; rwa [show wB (len : Int) 1 4 = false from by rw [Bool.eq_false_iff, Ne, wB_iff]; omega] at this))
    clear h1 h1'
    go_enter Try.func14, Try.ntmps14
    go_wp2_with (first
      | (go_at_call 29; ((with_reducible refine (G1.out _).mono ?_); rintro e w1 ⟨rfl, hB1⟩; have c1 : w1.cell? ⟨w.heap.size, 1, none⟩ = some (.slice a len cap) := blk_cell hB1 1; replace hA := bel2 hA hB1))
      | (go_at_call 29; ((with_reducible refine (G2.out _).mono ?_); rintro e w2 ⟨rfl, hB2⟩; replace hA := bel2 hA hB2)))
    go_ret
    exact ⟨rfl, hA⟩
  · have G1 := Lib.hid (fun W => (show Gives Try.prog 29 #[.int .i64 s, .int .i64 1, .int .i64 1125899906842624] W (.bool false) from by have := refWithin_any s 1 1125899906842624 W; rwa [Bool.eq_false_iff.2 h1] at this))
    clear h1
    go_enter Try.func14, Try.ntmps14
    go_wp2_with (go_at_call 29; ((with_reducible refine (G1.out _).mono ?_); rintro e w1 ⟨rfl, hB1⟩; replace hA := bel2 hA hB1))
    go_ret
    exact ⟨rfl, hA⟩

set_option maxRecDepth 100000 in
set_option maxHeartbeats 8000000 in
theorem refIsRec_any (s : Int) (a : Option Addr) (len cap : Nat) (L : List PL) (w : World) (h : HasP w a len L) : Gives Try.prog 14 #[.agg #[.int .i64 s, .slice a len cap]] w (.bool (recB s L)) := by
  by_cases hs : s < 1 ∨ 1125899906842624 < s ∨ len < 1 ∨ 4 < len
  · rw [recB_short (by rw [h.1]; exact hs)]; exact refIsRec_short s a len cap w h.2.1 hs
  have s1 : 1 ≤ s := by omega
  have s2 : s ≤ 1125899906842624 := by omega
  have l1 : 1 ≤ len := by omega
  have l2 : len ≤ 4 := by omega
  clear hs
  have G1 := Lib.hid (fun W => (show Gives Try.prog 29 #[.int .i64 s, .int .i64 1, .int .i64 1125899906842624] W (.bool true) from by have := refWithin_any s 1 1125899906842624 W; rwa [wB_iff.2 ⟨s1, s2⟩] at this))
  have G2 := Lib.hid (fun W => (show Gives Try.prog 29 #[.int .i64 len, .int .i64 1, .int .i64 4] W (.bool true) from by have := refWithin_any len 1 4 W; rwa [wB_iff.2 ⟨by omega, by omega⟩] at this))
  obtain ⟨hL, hm, hrow, hE⟩ := h
  have HE := Lib.hid hE
  have HL := Lib.hid hL
  obtain ⟨b, off, rfl, hb, hx⟩ := hrow.2.2 l1
  have HX := Lib.hid hx
  have HK := Lib.hid (fun W (hW : Below w.heap.size w W) => (show W.cell? ⟨b, off + 1, none⟩ = some (.int .i64 L[0].1.k) from by
    have := (part_at10 hb hW hx (k := 0) (by omega)).2.1
    simpa using this))
  have HF := Lib.hid (head_k (L := L) (by omega))
  have HN := Lib.hid (fun (k : Nat) (hk : k < L.length) h => recB_no (s := s) hk h)
  have HY := Lib.hid (fun h => recB_all (L := L) ⟨s1, s2⟩ (by omega) h)
  generalize L[0].1.k = k0 at *
  clear hE hL hrow hx
  unfold Gives
  cases hf : fwdOf L
  · rw [hf] at HF HN HY
    have hkn : ¬ k0 = 6 := of_decide_eq_false HF.out.symm
    have hk6 : (k0 == 6) = false := by simpa using hkn
    have HKn := Lib.hid hkn
    clear hkn
    clear HF hf
    go_enter Try.func14, Try.ntmps14
    go_wp2_with (first
      | (go_at_call 29; ((with_reducible refine (G1.out _).mono ?_); rintro e w1 ⟨rfl, hB1⟩; have c1 : w1.cell? ⟨w.heap.size, 1, none⟩ = some (.slice (some ⟨b, off, none⟩) len cap) := blk_cell hB1 1))
      | (go_at_call 29; ((with_reducible refine (G2.out _).mono ?_); rintro e w2 ⟨rfl, hB2⟩; have hA2 := bel2 hB1 hB2; clear c1)))
    go_loopw [3] (fun q wr => ∃ k : Nat, k ≤ len ∧ q = .int .i64 k ∧ (L.take k).all (okR false) = true ∧ Below (w.alloc (.cells #[.int .i64 s, .slice (some ⟨b, off, none⟩) len cap] 37)).heap.size (w.alloc (.cells #[.int .i64 s, .slice (some ⟨b, off, none⟩) len cap] 37)) wr) (fun q _ => len - (intOf q).toNat)
    case atStart => exact ⟨0, by omega, rfl, rfl, hA2⟩
    case round =>
      obtain ⟨k, hk, rfl, ha, hBA⟩ := hrel
      have HAl := Lib.hid ha
      have c1 : wr.cell? ⟨w.heap.size, 1, none⟩ = some (.slice (some ⟨b, off, none⟩) len cap) := blk_cell hBA 1
      have hBw := blk_below hBA
      have hxs : w.heap.size < wr.heap.size := Nat.lt_of_lt_of_le (by simp) hBA.size
      clear ha hA2 hB1 hB2
      by_cases hlt : k < len
      · have hkl : k < L.length := by rw [HL.out]; exact hlt
        have HS9 := Lib.hid (fun W (hW : Above wr W) => And.intro ((Below.cell hW (p := ⟨w.heap.size, 1, none⟩) hxs).trans c1) (And.intro (HK.out W (bel2 hBw hW)) (part_at10 hb (bel2 hBw hW) HX.out hkl)))
        have HN2 := Lib.hid (HN.out k hkl)
        have HY2 := Lib.hid (show okR false L[k] = true → (L.take (k + 1)).all (okR false) = true from fun h => by rw [List.take_succ_eq_append_getElem hkl, List.all_append, HAl.out]; simp [h])
        have hEk := HE.out L[k] (List.getElem_mem hkl)
        have hk0 : (0 : Int) ≤ (k : Int) := by omega
        have hk1 : (k : Int) < (len : Int) := by omega
        have hl0 : 0 < len := by omega
        clear HN HY HE HX HL HAl HK
        generalize L[k] = x at *
        obtain ⟨p, l⟩ := x
        have GI := Lib.hid (fun W (hW : Below w.heap.size w W) => refIs_any p l W (hEk.below hW))
        have HO := Lib.hid (show okR false (p, l) = (isB p l && (decide (p.k = 6) == false)) from rfl)
        obtain ⟨pg, pk, pa, plen, pcap, pht, phv, phc, pi, pt, pm, ph⟩ := p
        dsimp only [PartC.val] at *
        clear hEk
        cases hi : isB ⟨pg, pk, pa, plen, pcap, pht, phv, phc, pi, pt, pm, ph⟩ l
        · rw [hi] at GI HO
          have HO2 := Lib.hid (show okR false (_, l) = false from HO.out)
          go_wp2
          refine wp_region_below (by kernel_rfl) (by kernel_rfl) ?_
          repeat (first
            | (refine BigFrame.wpQuiet_skip (by rfl) ?_; (try simp only [Act.put, List.setIfInBounds_toArray, List.set_cons_zero, List.set_cons_succ]))
            | (refine BigFrame.wpQuiet_want (by rfl) (fun K hK => ?_); apply Exists.intro; refine ⟨fun W hW => ?_, hK _ ?_⟩; (focus (have hWB : Below _ _ W := hW; obtain ⟨x1, xk, ⟨z0, z1, z2, z3, z4, z5, z6, z7, z8, z9⟩⟩ := HS9.out _ hW; go_simp; (first | done | with_reducible rfl | (go_at_call 22; with_reducible exact gives_above hW (GI.out _ (bel2 hBw hWB))) | (rw [if_neg (by omega)]; go_simp; (first | done | with_reducible rfl))))); clear hK K; (try simp only [Act.put, List.setIfInBounds_toArray, List.set_cons_zero, List.set_cons_succ])))
          refine wpQuiet_nil ?_
          intro w9 hB9
          replace hB9 : Below _ _ w9 := hB9
          go_wp2
          go_ret
          exact ⟨by rw [HN2.out HO2.out]; rfl, bel2 hBw hB9⟩
        · rw [hi] at GI HO
          by_cases h6 : pk = 6
          · subst h6
            have HO2 := Lib.hid (show okR false (_, l) = false from HO.out.trans (by simp ))
            clear HO
            go_wp2
            refine wp_region_below (by kernel_rfl) (by kernel_rfl) ?_
            repeat (first
              | (refine BigFrame.wpQuiet_skip (by rfl) ?_; (try simp only [Act.put, List.setIfInBounds_toArray, List.set_cons_zero, List.set_cons_succ]))
              | (refine BigFrame.wpQuiet_want (by rfl) (fun K hK => ?_); apply Exists.intro; refine ⟨fun W hW => ?_, hK _ ?_⟩; (focus (have hWB : Below _ _ W := hW; obtain ⟨x1, xk, ⟨z0, z1, z2, z3, z4, z5, z6, z7, z8, z9⟩⟩ := HS9.out _ hW; go_simp; (first | done | with_reducible rfl | (go_at_call 22; with_reducible exact gives_above hW (GI.out _ (bel2 hBw hWB))) | (rw [if_neg (by omega)]; go_simp; (first | done | with_reducible rfl))))); clear hK K; (try simp only [Act.put, List.setIfInBounds_toArray, List.set_cons_zero, List.set_cons_succ])))
            refine wpQuiet_nil ?_
            intro w9 hB9
            replace hB9 : Below _ _ w9 := hB9
            go_wp2
            go_ret
            exact ⟨by rw [HN2.out HO2.out]; rfl, bel2 hBw hB9⟩
          · have h6' : (pk == 6) = false := by simpa using h6
            have H6 := Lib.hid h6
            clear h6
            have HO2 := Lib.hid (show okR false (_, l) = true from HO.out.trans (by simp [H6.out]))
            clear HO
            go_wp2
            refine wp_region_below (by kernel_rfl) (by kernel_rfl) ?_
            repeat (first
              | (refine BigFrame.wpQuiet_skip (by rfl) ?_; (try simp only [Act.put, List.setIfInBounds_toArray, List.set_cons_zero, List.set_cons_succ]))
              | (refine BigFrame.wpQuiet_want (by rfl) (fun K hK => ?_); apply Exists.intro; refine ⟨fun W hW => ?_, hK _ ?_⟩; (focus (have hWB : Below _ _ W := hW; obtain ⟨x1, xk, ⟨z0, z1, z2, z3, z4, z5, z6, z7, z8, z9⟩⟩ := HS9.out _ hW; go_simp; (first | done | with_reducible rfl | (go_at_call 22; with_reducible exact gives_above hW (GI.out _ (bel2 hBw hWB))) | (rw [if_neg (by omega)]; go_simp; (first | done | with_reducible rfl))))); clear hK K; (try simp only [Act.put, List.setIfInBounds_toArray, List.set_cons_zero, List.set_cons_succ])))
            refine wpQuiet_nil ?_
            intro w9 hB9
            replace hB9 : Below _ _ w9 := hB9
            go_wp2
            go_roundw
            case rel => exact ⟨k + 1, by omega, by go_num, HY2.out HO2.out, bel2 hBA hB9⟩
            case measure => simp [intOf]; omega
      · obtain rfl : k = len := by omega
        have HV := Lib.hid (HY.out (by rw [HL.out]; exact HAl.out))
        go_wp2
        go_ret
        exact ⟨by rw [HV.out]; rfl, hBw⟩
  · rw [hf] at HF HN HY
    have hk6 : k0 = 6 := of_decide_eq_true HF.out.symm
    subst hk6
    clear HF hf
    go_enter Try.func14, Try.ntmps14
    go_wp2_with (first
      | (go_at_call 29; ((with_reducible refine (G1.out _).mono ?_); rintro e w1 ⟨rfl, hB1⟩; have c1 : w1.cell? ⟨w.heap.size, 1, none⟩ = some (.slice (some ⟨b, off, none⟩) len cap) := blk_cell hB1 1))
      | (go_at_call 29; ((with_reducible refine (G2.out _).mono ?_); rintro e w2 ⟨rfl, hB2⟩; have hA2 := bel2 hB1 hB2; clear c1)))
    go_loopw [3] (fun q wr => ∃ k : Nat, k ≤ len ∧ q = .int .i64 k ∧ (L.take k).all (okR true) = true ∧ Below (w.alloc (.cells #[.int .i64 s, .slice (some ⟨b, off, none⟩) len cap] 37)).heap.size (w.alloc (.cells #[.int .i64 s, .slice (some ⟨b, off, none⟩) len cap] 37)) wr) (fun q _ => len - (intOf q).toNat)
    case atStart => exact ⟨0, by omega, rfl, rfl, hA2⟩
    case round =>
      obtain ⟨k, hk, rfl, ha, hBA⟩ := hrel
      have HAl := Lib.hid ha
      have c1 : wr.cell? ⟨w.heap.size, 1, none⟩ = some (.slice (some ⟨b, off, none⟩) len cap) := blk_cell hBA 1
      have hBw := blk_below hBA
      have hxs : w.heap.size < wr.heap.size := Nat.lt_of_lt_of_le (by simp) hBA.size
      clear ha hA2 hB1 hB2
      by_cases hlt : k < len
      · have hkl : k < L.length := by rw [HL.out]; exact hlt
        have HS9 := Lib.hid (fun W (hW : Above wr W) => And.intro ((Below.cell hW (p := ⟨w.heap.size, 1, none⟩) hxs).trans c1) (And.intro (HK.out W (bel2 hBw hW)) (part_at10 hb (bel2 hBw hW) HX.out hkl)))
        have HN2 := Lib.hid (HN.out k hkl)
        have HY2 := Lib.hid (show okR true L[k] = true → (L.take (k + 1)).all (okR true) = true from fun h => by rw [List.take_succ_eq_append_getElem hkl, List.all_append, HAl.out]; simp [h])
        have hEk := HE.out L[k] (List.getElem_mem hkl)
        have hk0 : (0 : Int) ≤ (k : Int) := by omega
        have hk1 : (k : Int) < (len : Int) := by omega
        have hl0 : 0 < len := by omega
        clear HN HY HE HX HL HAl HK
        generalize L[k] = x at *
        obtain ⟨p, l⟩ := x
        have GI := Lib.hid (fun W (hW : Below w.heap.size w W) => refIs_any p l W (hEk.below hW))
        have HO := Lib.hid (show okR true (p, l) = (isB p l && (decide (p.k = 6) == true)) from rfl)
        obtain ⟨pg, pk, pa, plen, pcap, pht, phv, phc, pi, pt, pm, ph⟩ := p
        dsimp only [PartC.val] at *
        clear hEk
        cases hi : isB ⟨pg, pk, pa, plen, pcap, pht, phv, phc, pi, pt, pm, ph⟩ l
        · rw [hi] at GI HO
          have HO2 := Lib.hid (show okR true (_, l) = false from HO.out)
          go_wp2
          refine wp_region_below (by kernel_rfl) (by kernel_rfl) ?_
          repeat (first
            | (refine BigFrame.wpQuiet_skip (by rfl) ?_; (try simp only [Act.put, List.setIfInBounds_toArray, List.set_cons_zero, List.set_cons_succ]))
            | (refine BigFrame.wpQuiet_want (by rfl) (fun K hK => ?_); apply Exists.intro; refine ⟨fun W hW => ?_, hK _ ?_⟩; (focus (have hWB : Below _ _ W := hW; obtain ⟨x1, xk, ⟨z0, z1, z2, z3, z4, z5, z6, z7, z8, z9⟩⟩ := HS9.out _ hW; go_simp; (first | done | with_reducible rfl | (go_at_call 22; with_reducible exact gives_above hW (GI.out _ (bel2 hBw hWB))) | (rw [if_neg (by omega)]; go_simp; (first | done | with_reducible rfl))))); clear hK K; (try simp only [Act.put, List.setIfInBounds_toArray, List.set_cons_zero, List.set_cons_succ])))
          refine wpQuiet_nil ?_
          intro w9 hB9
          replace hB9 : Below _ _ w9 := hB9
          go_wp2
          go_ret
          exact ⟨by rw [HN2.out HO2.out]; rfl, bel2 hBw hB9⟩
        · rw [hi] at GI HO
          by_cases h6 : pk = 6
          · subst h6
            have HO2 := Lib.hid (show okR true (_, l) = true from HO.out.trans (by simp ))
            clear HO
            go_wp2
            refine wp_region_below (by kernel_rfl) (by kernel_rfl) ?_
            repeat (first
              | (refine BigFrame.wpQuiet_skip (by rfl) ?_; (try simp only [Act.put, List.setIfInBounds_toArray, List.set_cons_zero, List.set_cons_succ]))
              | (refine BigFrame.wpQuiet_want (by rfl) (fun K hK => ?_); apply Exists.intro; refine ⟨fun W hW => ?_, hK _ ?_⟩; (focus (have hWB : Below _ _ W := hW; obtain ⟨x1, xk, ⟨z0, z1, z2, z3, z4, z5, z6, z7, z8, z9⟩⟩ := HS9.out _ hW; go_simp; (first | done | with_reducible rfl | (go_at_call 22; with_reducible exact gives_above hW (GI.out _ (bel2 hBw hWB))) | (rw [if_neg (by omega)]; go_simp; (first | done | with_reducible rfl))))); clear hK K; (try simp only [Act.put, List.setIfInBounds_toArray, List.set_cons_zero, List.set_cons_succ])))
            refine wpQuiet_nil ?_
            intro w9 hB9
            replace hB9 : Below _ _ w9 := hB9
            go_wp2
            go_roundw
            case rel => exact ⟨k + 1, by omega, by go_num, HY2.out HO2.out, bel2 hBA hB9⟩
            case measure => simp [intOf]; omega
          · have h6' : (pk == 6) = false := by simpa using h6
            have H6 := Lib.hid h6
            clear h6
            have HO2 := Lib.hid (show okR true (_, l) = false from HO.out.trans (by simp [H6.out]))
            clear HO
            go_wp2
            refine wp_region_below (by kernel_rfl) (by kernel_rfl) ?_
            repeat (first
              | (refine BigFrame.wpQuiet_skip (by rfl) ?_; (try simp only [Act.put, List.setIfInBounds_toArray, List.set_cons_zero, List.set_cons_succ]))
              | (refine BigFrame.wpQuiet_want (by rfl) (fun K hK => ?_); apply Exists.intro; refine ⟨fun W hW => ?_, hK _ ?_⟩; (focus (have hWB : Below _ _ W := hW; obtain ⟨x1, xk, ⟨z0, z1, z2, z3, z4, z5, z6, z7, z8, z9⟩⟩ := HS9.out _ hW; go_simp; (first | done | with_reducible rfl | (go_at_call 22; with_reducible exact gives_above hW (GI.out _ (bel2 hBw hWB))) | (rw [if_neg (by omega)]; go_simp; (first | done | with_reducible rfl))))); clear hK K; (try simp only [Act.put, List.setIfInBounds_toArray, List.set_cons_zero, List.set_cons_succ])))
            refine wpQuiet_nil ?_
            intro w9 hB9
            replace hB9 : Below _ _ w9 := hB9
            go_wp2
            go_ret
            exact ⟨by rw [HN2.out HO2.out]; rfl, bel2 hBw hB9⟩
      · obtain rfl : k = len := by omega
        have HV := Lib.hid (HY.out (by rw [HL.out]; exact HAl.out))
        go_wp2
        go_ret
        exact ⟨by rw [HV.out]; rfl, hBw⟩

end Go.Proofs.Ytflaanffjjidaaa

/- The contract of the document's Bytes of a record. -/
namespace Go.Proofs.Ytflaanffjjidaaa
open Go.RowKit Go.Shelf
set_option linter.unusedVariables false
attribute [local go_sem] Oper.semAt_some wide_fn wide_round_fn

attribute [local irreducible] wpQuiet
set_option maxRecDepth 100000 in
set_option maxHeartbeats 4000000 in
theorem refRecBytes_any (s : Int) (a : Option Addr) (len cap : Nat) (L : List PL) (w : World) (h : HasP w a len L) : Gives Try.prog 25 #[.agg #[.int .i64 s, .slice a len cap]] w (.tuple #[.string (recS s L), .int .i64 (recE s L)]) := by
  have GI := Lib.hid (fun W (hW : Below w.heap.size w W) => refIsRec_any s a len cap L W (h.below hW))
  unfold Gives recS recE
  by_cases hok : recB s L = true
  · obtain ⟨⟨s1, s2⟩, ⟨l1, l2⟩, hall⟩ := recB_iff.1 hok
    obtain ⟨z1, z2⟩ := bodyL_len (fun x hx => (h.2.2.2 x hx).1) hok
    have GW := Lib.hid (refWrap_ok (bodyS s L) (by show 0 < (bodyL s L).length; omega) (by show (bodyL s L).length ≤ 2000; omega))
    rw [if_pos hok, if_pos hok]
    rw [hok] at GI
    obtain ⟨hL, hm, hrow, hE⟩ := h
    rw [hL] at l1 l2
    obtain ⟨b, off, rfl, hb, hx⟩ := hrow.2.2 l1
    have HX := Lib.hid hx
    have HE := Lib.hid (show ∀ x ∈ L, HasE w x.1 x.2 ∧ isB x.1 x.2 = true from fun x hx => ⟨hE x hx, okR_isB (hall x hx)⟩)
    have HL := Lib.hid hL
    obtain ⟨X1, e1, y1, G1⟩ := putV s (by omega)
    obtain ⟨X2, e2, y2, G2⟩ := putV (len : Int) (by omega)
    have HP := Lib.hid (show (X1 ++ X2).data.toList = sevL s.toNat ++ sevL L.length by rw [e1, e2, mkB_app, hL]; simp [mkB])
    have hzP : (X1 ++ X2).size ≤ 18 := by rw [ByteArray.size_append]; omega
    replace G1 := Lib.hid G1; replace G2 := Lib.hid G2
    have hA := bel_alloc (Below.refl w.heap.size w) (.cells #[.int .i64 s, .slice (some ⟨b, off, none⟩) len cap] 37)
    clear hok s1 s2 z1 z2 hall hrow hE hx hL e1 e2
    go_enter Try.func25, Try.ntmps25
    go_wp2_with (go_at_call 14; ((with_reducible refine (GI.out _ hA).mono ?_); rintro e w1 ⟨rfl, hB1⟩))
    have hs1 : w.heap.size < w1.heap.size := Nat.lt_of_lt_of_le (by simp) hB1.size
    have HS := Lib.hid (fun W (hW : Above w1 W) => And.intro ((Below.cell hW (p := ⟨w.heap.size, 0, none⟩) hs1).trans (blk_cell hB1 0)) ((Below.cell hW (p := ⟨w.heap.size, 1, none⟩) hs1).trans (blk_cell hB1 1)))
    simp only [List.getElem?_toArray, List.getElem?_cons_zero, List.getElem?_cons_succ] at HS
    refine wp_region_below (by kernel_rfl) (by kernel_rfl) ?_
    repeat (first
      | (refine BigFrame.wpQuiet_skip (by rfl) ?_; (try simp only [Act.put, List.setIfInBounds_toArray, List.set_cons_zero, List.set_cons_succ]))
      | (refine BigFrame.wpQuiet_want (by rfl) (fun K hK => ?_); apply Exists.intro; refine ⟨fun W hW => ?_, hK _ ?_⟩; (focus (obtain ⟨z0, z1⟩ := HS.out _ hW; go_simp; (first | done | with_reducible rfl | ((go_at_call 44; first | with_reducible exact gives_above hW (G1.out _) | with_reducible exact gives_above hW (G2.out _))) | (rw [if_neg (by omega)]; go_simp; (first | done | with_reducible rfl))))); clear hK K; (try simp only [Act.put, List.setIfInBounds_toArray, List.set_cons_zero, List.set_cons_succ])))
    refine wpQuiet_nil ?_
    intro w2 hB2
    replace hB2 : Below _ _ w2 := hB2
    have hBA := bel2 hB1 hB2
    go_wp2
    go_loopw [4, 5] (fun ss q wr => ∃ (k : Nat) (S : ByteArray), k ≤ len ∧ q = .int .i64 k ∧ ss = .string S ∧ S.data.toList = (X1 ++ X2).data.toList ++ allB (L.take k) ∧ S.size ≤ 18 + 483 * k ∧ Below (w.alloc (.cells #[.int .i64 s, .slice (some ⟨b, off, none⟩) len cap] 37)).heap.size (w.alloc (.cells #[.int .i64 s, .slice (some ⟨b, off, none⟩) len cap] 37)) wr) (fun _ q _ => len - (intOf q).toNat)
    case atStart => exact ⟨0, X1 ++ X2, by omega, rfl, rfl, by simp [allB], by omega, hBA⟩
    case round =>
      obtain ⟨k, S, hk, rfl, rfl, hS, hz, hBA⟩ := hrel
      have HSl := Lib.hid hS
      have hBw := blk_below hBA
      have x1 : wr.cell? ⟨w.heap.size, 1, none⟩ = some (.slice (some ⟨b, off, none⟩) len cap) := blk_cell hBA 1
      clear hS hB1 hB2 HS
      by_cases hlt : k < len
      · have hkl : k < L.length := by rw [HL.out]; exact hlt
        obtain ⟨c0, c1, c2, c3, c4, c5, c6, c7, c8, c9⟩ := part_at10 hb hBw HX.out hkl
        obtain ⟨hEk, hIk⟩ := HE.out L[k] (List.getElem_mem hkl)
        have HT := Lib.hid (show allB (L.take (k + 1)) = allB (L.take k) ++ bytP L[k] by rw [List.take_succ_eq_append_getElem hkl, allB_snoc])
        have hbz := bytP_len hEk.1 hIk
        clear HX HE HL
        generalize L[k] = x at *
        obtain ⟨p, l⟩ := x
        dsimp only at *
        have GB := Lib.hid (fun W (hW : Below w.heap.size w W) => refBytes_any p l W (hEk.below hW) hIk)
        have hXs : (mkB (bytesL p l)).size ≤ 483 := by rw [size_mkB]; exact hbz
        have HX2 := Lib.hid (show (mkB (bytesL p l)).data.toList = bytP (p, l) from by simp [mkB, bytP])
        generalize mkB (bytesL p l) = X at *
        have HSN := Lib.hid (show (S ++ X).data.toList = (X1 ++ X2).data.toList ++ allB (L.take (k + 1)) by rw [HT.out, ← HX2.out, ← List.append_assoc, ← HSl.out]; simp)
        have hSz : (S ++ X).size ≤ 18 + 483 * (k + 1) := by rw [ByteArray.size_append]; omega
        obtain ⟨pg, pk, pa, plen, pcap, pht, phv, phc, pi, pt, pm, ph⟩ := p
        dsimp only [PartC.val] at *
        clear hEk hIk hbz
        go_wp2_with (go_at_call 45; ((with_reducible refine (GB.out _ hBw).mono ?_); rintro e w4 ⟨rfl, hB4⟩))
        go_roundw
        case rel => exact ⟨k + 1, _, by omega, by go_num, rfl, HSN.out, hSz, bel2 hBA hB4⟩
        case measure => simp [intOf]; omega
      · obtain rfl : k = len := by omega
        obtain rfl : S = bodyS s L := by
          have h1 := HSl.out
          rw [List.take_of_length_le (by rw [HL.out]; omega), HP.out, List.append_assoc] at h1
          exact ByteArray.ext (Array.toList_inj.1 (by rw [h1]; simp [bodyS, bodyL]))
        go_wp2_with (go_at_call 46; ((with_reducible refine (GW.out _).mono ?_); rintro e w5 ⟨rfl, hB5⟩))
        go_ret2
        exact ⟨rfl, bel2 hBw hB5⟩
  · rw [if_neg hok, if_neg hok]
    rw [Bool.eq_false_iff.2 hok] at GI
    have hA := bel_alloc (Below.refl w.heap.size w) (.cells #[.int .i64 s, .slice a len cap] 37)
    clear hok h
    go_enter Try.func25, Try.ntmps25
    go_wp2_with (go_at_call 14; ((with_reducible refine (GI.out _ hA).mono ?_); rintro e w1 ⟨rfl, hB1⟩; replace hA := bel2 hA hB1))
    go_ret2
    exact ⟨rfl, hA⟩

end Go.Proofs.Ytflaanffjjidaaa
