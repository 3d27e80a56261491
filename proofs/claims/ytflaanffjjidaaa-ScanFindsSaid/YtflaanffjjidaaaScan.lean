/- Few11, Same18, SameG, ScnM, ScnI, ScnF, ScnG, Known11, ScnL, ScnP: in one text. -/
import Derived.Test.YtflaanffjjidaaaRecs
import Derived.Test.YtflaanffjjidaaaRefBs
import Derived.Test.YtflaanffjjidaaaQuietC
import Derived.Test.YtflaanffjjidaaaShds
import Derived.Test.YtflaanffjjidaaaRegion
import Derived.Test.YtflaanffjjidaaaHeads
import Derived.BigRegionIn
import Derived.Scope
import Derived.Test.YtflaanffjjidaaaRecRefs
/- Few parts, few records: the copies that layer 11 has. -/
namespace Go.Proofs.Ytflaanffjjidaaa
open Go.RowKit Go.Shelf Go.ChangeShapes Go.WideShapes Go.Deep
set_option linter.unusedVariables false
open Go.ChangeMaps (open_string)
attribute [local go_sem] Oper.semAt_some wide_fn wide_round_fn

def few11B (l : List EntryC) : Bool := l.all (fun e => decide (e.d.size ≤ 60)) && decide (l.length ≤ 8)
def few11P (L : List PL) : Bool := L.all (fun x => few11B x.2) && decide (L.length ≤ 6)
theorem GoodP.has11 {w : World} {x : PL} (h : GoodP w x) (hf : few11B x.2 = true) : HasE w x.1 x.2 := by
  simp only [few11B, Bool.and_eq_true, decide_eq_true_eq] at hf
  exact ⟨h.2.1, by have := h.2.1; omega, h.2.2.1⟩
set_option maxRecDepth 100000 in
set_option maxHeartbeats 1000000 in
theorem few11_any (p : PartC) (l : List EntryC) (w : World) (hl : l.length = p.len) (hrow : RowV w p.a p.len 3 (entryCells l)) (hg : ∀ e ∈ l, e.d.size ≤ maxLen) : Gives Try.prog 41 #[p.val] w (.bool (few11B l)) := by
  obtain ⟨g, k, a, len, cap, ht, hv, hc, i, t, mk, hd⟩ := p
  dsimp only [PartC.val] at *
  unfold Gives
  have hm := hrow.2.1
  unfold maxLen at hm
  have hcs := hrow.2.2
  have c2 : (w.alloc (.cells #[.int .i64 g, .int .i64 k, .slice a len cap, .int .i64 ht, .int .i64 hv, .int .i64 hc, .int .i64 i, .int .i64 t, .bool mk, .bool hd] 70)).cell? ⟨w.heap.size, 2, none⟩ = some (.slice a len cap) := cell_of_row _ _ 2 _ _ _ (World.alloc_heap_new w _)
  have hA := bel_alloc (Below.refl w.heap.size w) (.cells #[.int .i64 g, .int .i64 k, .slice a len cap, .int .i64 ht, .int .i64 hv, .int .i64 hc, .int .i64 i, .int .i64 t, .bool mk, .bool hd] 70)
  clear hrow
  go_enter Try.func41, Try.ntmps41
  go_wp2
  go_loop [3] (fun q => ∃ n : Nat, n ≤ len ∧ q = .int .i64 n ∧ (l.take n).all (fun e => decide (e.d.size ≤ 60)) = true) (fun q => len - (intOf q).toNat)
  case atStart => exact ⟨0, by omega, rfl, rfl⟩
  case round =>
    obtain ⟨n, hn, rfl, ha⟩ := hrel
    have HA := Lib.hid ha
    clear ha
    by_cases hlt : n < len
    · obtain ⟨b, off, rfl, hb, hx⟩ := hcs (by omega)
      have hkl : n < l.length := by omega
      obtain ⟨d0, d1, d2⟩ := entry_at hb hA hx hkl
      have hsz := hg l[n] (List.getElem_mem _)
      unfold maxLen at hsz
      have HT := Lib.hid (show l[n].d.size ≤ 60 → (l.take (n + 1)).all (fun e => decide (e.d.size ≤ 60)) = true from fun h => by rw [List.take_succ_eq_append_getElem hkl, List.all_append, HA.out]; simp [h])
      have HF := Lib.hid (show 60 < l[n].d.size → few11B l = false from fun h => by
        have : l.all (fun e => decide (e.d.size ≤ 60)) = false := by
          rw [List.all_eq_false]; exact ⟨l[n], List.getElem_mem _, by simp; omega⟩
        unfold few11B; rw [this]; rfl)
      clear hx hcs
      generalize l[n] = x at *
      by_cases h6 : x.d.size ≤ 60
      · go_wp2
        go_round
        case rel => exact ⟨n + 1, by omega, by go_num, HT.out h6⟩
        case measure => simp [intOf]; omega
      · have h6' : 60 < x.d.size := by omega
        go_wp2
        go_ret
        exact ⟨by rw [HF.out h6']; rfl, hA⟩
    · obtain rfl : n = len := by omega
      rw [List.take_of_length_le (by omega)] at HA
      have HV := Lib.hid (show few11B l = decide ((n : Int) ≤ 8) by unfold few11B; rw [HA.out, hl, Bool.true_and]; exact decide_eq_decide.2 (by omega))
      go_wp2
      go_ret
      exact ⟨by rw [HV.out]; rfl, hA⟩


set_option maxRecDepth 100000 in
set_option maxHeartbeats 2000000 in
theorem fewPs11_any (a : Option Addr) (len cap : Nat) (L : List PL) (w : World) (hL : L.length = len) (hrow : RowV w a len 10 (partCells L)) (hg : ∀ x ∈ L, GoodP w x) : Gives Try.prog 23 #[.slice a len cap] w (.bool (few11P L)) := by
  have hm := hrow.2.1
  unfold maxLen at hm
  have hcs := hrow.2.2
  have HG := Lib.hid hg
  have HL := Lib.hid hL
  clear hrow hg hL
  unfold Gives
  go_enter Try.func23, Try.ntmps23
  go_wp2
  go_loopw [3] (fun q wr => ∃ n : Nat, n ≤ len ∧ q = .int .i64 n ∧ (L.take n).all (fun x => few11B x.2) = true ∧ Below w.heap.size w wr) (fun q _ => len - (intOf q).toNat)
  case atStart => exact ⟨0, by omega, rfl, rfl, Below.refl _ _⟩
  case round =>
    obtain ⟨n, hn, rfl, ha, hB⟩ := hrel
    have HA := Lib.hid ha
    clear ha
    by_cases hlt : n < len
    · obtain ⟨b, off, rfl, hb, hx⟩ := hcs (by omega)
      have hkl : n < L.length := by rw [HL.out]; exact hlt
      obtain ⟨c0, c1, c2, c3, c4, c5, c6, c7, c8, c9⟩ := part_at10 hb hB hx hkl
      obtain ⟨_, g1, g2, g3⟩ := HG.out L[n] (List.getElem_mem hkl)
      have HT := Lib.hid (show few11B L[n].2 = true → (L.take (n + 1)).all (fun x => few11B x.2) = true from fun h => by rw [List.take_succ_eq_append_getElem hkl, List.all_append, HA.out]; simp [h])
      have HF := Lib.hid (show few11B L[n].2 = false → few11P L = false from fun h => by
        have : L.all (fun x => few11B x.2) = false := by
          rw [List.all_eq_false]; exact ⟨L[n], List.getElem_mem _, by simp [h]⟩
        unfold few11P; rw [this]; rfl)
      clear hx hcs HG HL HA
      generalize L[n] = x at *
      obtain ⟨p, l⟩ := x
      dsimp only at *
      have GF := Lib.hid (fun W (hW : Below w.heap.size w W) => few11_any p l W g1 (g2.below hW) (fun e he => (g3 e he).2.2))
      obtain ⟨pg, pk, pa, plen, pcap, pht, phv, phc, pi, pt, pm, ph⟩ := p
      dsimp only [PartC.val] at *
      clear g1 g2 g3
      cases hf : few11B l
      · rw [hf] at GF
        have HF2 := Lib.hid (HF.out hf)
        clear hf
        go_wp2_with (go_at_call 41; ((with_reducible refine (GF.out _ hB).mono ?_); rintro e w1 ⟨rfl, hB1⟩))
        go_ret
        exact ⟨by rw [HF2.out]; rfl, bel2 hB hB1⟩
      · rw [hf] at GF
        have HT2 := Lib.hid (HT.out hf)
        clear hf
        go_wp2_with (go_at_call 41; ((with_reducible refine (GF.out _ hB).mono ?_); rintro e w1 ⟨rfl, hB1⟩))
        go_roundw
        case rel => exact ⟨n + 1, by omega, by go_num, HT2.out, bel2 hB hB1⟩
        case measure => simp [intOf]; omega
    · obtain rfl : n = len := by omega
      have HV := Lib.hid (show few11P L = decide ((n : Int) ≤ 6) by
        have h1 := HA.out
        have h2 := HL.out
        rw [List.take_of_length_le (by omega)] at h1
        unfold few11P; rw [h1, h2, Bool.true_and]; exact decide_eq_decide.2 (by omega))
      go_wp2
      go_ret
      exact ⟨by rw [HV.out]; rfl, hB⟩


def fewRs (L : List RL) : Bool := L.all (fun x => few11P x.2) && decide (L.length ≤ 15)
set_option maxRecDepth 100000 in
set_option maxHeartbeats 2000000 in
theorem fewRs11_any (a : Option Addr) (len cap : Nat) (L : List RL) (w : World) (hL : L.length = len) (hrow : RowV w a len 2 (recCells L)) (hg : ∀ x ∈ L, GoodR w x.1 x.2) : Gives Try.prog 9 #[.slice a len cap] w (.bool (fewRs L)) := by
  have hm := hrow.2.1
  unfold maxLen at hm
  have hcs := hrow.2.2
  have HG := Lib.hid hg
  have HL := Lib.hid hL
  clear hrow hg hL
  unfold Gives
  go_enter Try.func9, Try.ntmps9
  go_wp2
  go_loopw [3] (fun q wr => ∃ n : Nat, n ≤ len ∧ q = .int .i64 n ∧ (L.take n).all (fun x => few11P x.2) = true ∧ Below w.heap.size w wr) (fun q _ => len - (intOf q).toNat)
  case atStart => exact ⟨0, by omega, rfl, rfl, Below.refl _ _⟩
  case round =>
    obtain ⟨n, hn, rfl, ha, hB⟩ := hrel
    have HA := Lib.hid ha
    clear ha
    by_cases hlt : n < len
    · obtain ⟨b, off, rfl, hb, hx⟩ := hcs (by omega)
      have hkl : n < L.length := by rw [HL.out]; exact hlt
      obtain ⟨c0, c1⟩ := rec_at hb hB hx hkl
      obtain ⟨_, g1, _, g2, g3⟩ := HG.out L[n] (List.getElem_mem hkl)
      have HT := Lib.hid (show few11P L[n].2 = true → (L.take (n + 1)).all (fun x => few11P x.2) = true from fun h => by rw [List.take_succ_eq_append_getElem hkl, List.all_append, HA.out]; simp [h])
      have HF := Lib.hid (show few11P L[n].2 = false → fewRs L = false from fun h => by
        have : L.all (fun x => few11P x.2) = false := by
          rw [List.all_eq_false]; exact ⟨L[n], List.getElem_mem _, by simp [h]⟩
        unfold fewRs; rw [this]; rfl)
      clear hx hcs HG HL HA
      generalize L[n] = x at *
      have GF := Lib.hid (fun W (hW : Below w.heap.size w W) => fewPs11_any x.1.a x.1.len x.1.cap x.2 W g1 (g2.below hW) (fun e he => ⟨(g3 e he).1, (g3 e he).2.1, (g3 e he).2.2.1.below hW, (g3 e he).2.2.2⟩))
      obtain ⟨⟨xq, xa, xlen, xcap⟩, xL⟩ := x
      dsimp only at *
      clear g1 g2 g3
      cases hf : few11P xL
      · rw [hf] at GF
        have HF2 := Lib.hid (HF.out hf)
        clear hf
        go_wp2_with (go_at_call 23; ((with_reducible refine (GF.out _ hB).mono ?_); rintro e w1 ⟨rfl, hB1⟩))
        go_ret
        exact ⟨by rw [HF2.out]; rfl, bel2 hB hB1⟩
      · rw [hf] at GF
        have HT2 := Lib.hid (HT.out hf)
        clear hf
        go_wp2_with (go_at_call 23; ((with_reducible refine (GF.out _ hB).mono ?_); rintro e w1 ⟨rfl, hB1⟩))
        go_roundw
        case rel => exact ⟨n + 1, by omega, by go_num, HT2.out, bel2 hB hB1⟩
        case measure => simp [intOf]; omega
    · obtain rfl : n = len := by omega
      have HV := Lib.hid (show fewRs L = decide ((n : Int) ≤ 15) by
        have h1 := HA.out
        have h2 := HL.out
        rw [List.take_of_length_le (by omega)] at h1
        unfold fewRs; rw [h1, h2, Bool.true_and]; exact decide_eq_decide.2 (by omega))
      go_wp2
      go_ret
      exact ⟨by rw [HV.out]; rfl, hB⟩

end Go.Proofs.Ytflaanffjjidaaa

/- laderef4.SameParts, Same, by themselves. -/
namespace Go.Proofs.Ytflaanffjjidaaa
open Go.RowKit Go.Shelf
set_option linter.unusedVariables false
attribute [local go_sem] Oper.semAt_some wide_fn wide_round_fn
attribute [local irreducible] wpQuiet

set_option maxRecDepth 100000 in
set_option maxHeartbeats 4000000 in
theorem refSamePs18 (a1 a2 : Option Addr) (n1 n2 k1 k2 : Nat) (L M : List PL) (w : World) (h1 : HasP w a1 n1 L) (h2 : HasP w a2 n2 M) :
    Gives Try.prog 47 #[.slice a1 n1 k1, .slice a2 n2 k2] w (.bool (samePs L M)) := by
  obtain ⟨hL, hm1, hr1, hE1⟩ := h1
  obtain ⟨hM, hm2, hr2, hE2⟩ := h2
  have hc1 := hr1.2.2
  have hc2 := hr2.2.2
  have HE1 := Lib.hid hE1
  have HE2 := Lib.hid hE2
  clear hr1 hr2 hE1 hE2
  unfold Gives
  by_cases hne : n1 = n2
  · subst hne
    have HL := Lib.hid hL
    have HM := Lib.hid hM
    clear hL hM
    go_enter Try.func47, Try.ntmps47
    go_wp2
    go_loopw [5] (fun i wr => ∃ k : Nat, k ≤ n1 ∧ i = .int .i64 k ∧ samePs (L.take k) (M.take k) = true ∧ Below w.heap.size w wr) (fun i _ => n1 - (intOf i).toNat)
    case atStart => exact ⟨0, by omega, rfl, by simp [samePs], Below.refl _ _⟩
    case round =>
      obtain ⟨k, hk, rfl, ht, hB⟩ := hrel
      have HT := Lib.hid ht
      clear ht
      by_cases hlt : k < n1
      · obtain ⟨b1, o1, rfl, hb1, hx1⟩ := hc1 (by omega)
        obtain ⟨b2, o2, rfl, hb2, hx2⟩ := hc2 (by omega)
        have hkl : k < L.length := by rw [HL.out]; exact hlt
        have hkm : k < M.length := by rw [HM.out]; exact hlt
        have HS9 := Lib.hid (fun W (hW : Above wr W) => And.intro (part_at10 hb1 (bel2 hB hW) hx1 hkl) (part_at10 hb2 (bel2 hB hW) hx2 hkm))
        have HS := Lib.hid (show samePs (L.take (k + 1)) (M.take (k + 1)) = (true && sameB L[k].1 M[k].1 L[k].2 M[k].2) by rw [samePs_take hkl hkm, HT.out])
        have HN := Lib.hid (fun h => samePs_no hkl hkm h)
        have hx := HE1.out L[k] (List.getElem_mem _)
        have hy := HE2.out M[k] (List.getElem_mem _)
        have G := Lib.hid (fun W (hW : Below w.heap.size w W) => refSame_any _ _ _ _ W (hx.below hW) (hy.below hW))
        have hk0 : (0 : Int) ≤ (k : Int) := by omega
        have hk1 : (k : Int) < (n1 : Int) := by omega
        clear hx hy hx1 hx2 hc1 hc2 HE1 HE2 HT
        generalize L[k] = x at *
        generalize M[k] = y at *
        obtain ⟨p, l⟩ := x
        obtain ⟨q, m⟩ := y
        dsimp only at *
        generalize hs : sameB p q l m = c at *
        clear hs
        obtain ⟨pg, pk, pa, plen, pcap, pht, phv, phc, pi, pt, pm, ph⟩ := p
        obtain ⟨qg, qk, qa, qlen, qcap, qht, qhv, qhc, qi, qt, qm, qh⟩ := q
        dsimp only [PartC.val] at *
        cases c
        · have HN2 := Lib.hid (HN.out rfl)
          clear HN HS
          go_wp2
          refine wp_region_below (by kernel_rfl) (by kernel_rfl) ?_
          repeat (first
            | (refine BigFrame.wpQuiet_skip (by rfl) ?_; (try simp only [Act.put, List.setIfInBounds_toArray, List.set_cons_zero, List.set_cons_succ]))
            | (refine BigFrame.wpQuiet_want (by rfl) (fun K hK => ?_); apply Exists.intro; refine ⟨fun W hW => ?_, hK _ ?_⟩; (focus (have hWB : Below _ _ W := hW; obtain ⟨⟨y0, y1, y2, y3, y4, y5, y6, y7, y8, y9⟩, ⟨z0, z1, z2, z3, z4, z5, z6, z7, z8, z9⟩⟩ := HS9.out _ hW; go_simp; (first | done | with_reducible rfl | (go_at_call 76; with_reducible exact gives_above hW (G.out _ (bel2 hB hWB))) | (rw [if_neg (by omega)]; go_simp; (first | done | with_reducible rfl))))); clear hK K; (try simp only [Act.put, List.setIfInBounds_toArray, List.set_cons_zero, List.set_cons_succ])))
          refine wpQuiet_nil ?_
          intro w9 hB9
          replace hB9 : Below _ _ w9 := hB9
          go_wp2
          go_ret
          exact ⟨by rw [HN2.out]; rfl, bel2 hB hB9⟩
        · have HS2 := Lib.hid HS.out
          clear HN HS
          go_wp2
          refine wp_region_below (by kernel_rfl) (by kernel_rfl) ?_
          repeat (first
            | (refine BigFrame.wpQuiet_skip (by rfl) ?_; (try simp only [Act.put, List.setIfInBounds_toArray, List.set_cons_zero, List.set_cons_succ]))
            | (refine BigFrame.wpQuiet_want (by rfl) (fun K hK => ?_); apply Exists.intro; refine ⟨fun W hW => ?_, hK _ ?_⟩; (focus (have hWB : Below _ _ W := hW; obtain ⟨⟨y0, y1, y2, y3, y4, y5, y6, y7, y8, y9⟩, ⟨z0, z1, z2, z3, z4, z5, z6, z7, z8, z9⟩⟩ := HS9.out _ hW; go_simp; (first | done | with_reducible rfl | (go_at_call 76; with_reducible exact gives_above hW (G.out _ (bel2 hB hWB))) | (rw [if_neg (by omega)]; go_simp; (first | done | with_reducible rfl))))); clear hK K; (try simp only [Act.put, List.setIfInBounds_toArray, List.set_cons_zero, List.set_cons_succ])))
          refine wpQuiet_nil ?_
          intro w9 hB9
          replace hB9 : Below _ _ w9 := hB9
          go_wp2
          go_roundw
          case rel => exact ⟨k + 1, by omega, by go_num, HS2.out, bel2 hB hB9⟩
          case measure => simp [intOf]; omega
      · obtain rfl : k = n1 := by omega
        have HV := Lib.hid (show samePs L M = true by
          have := HT.out
          rwa [List.take_of_length_le (by rw [HL.out]; omega), List.take_of_length_le (by rw [HM.out]; omega)] at this)
        go_wp2
        go_ret
        exact ⟨by rw [HV.out]; rfl, hB⟩
  · have HV := Lib.hid (show samePs L M = false by rw [Bool.eq_false_iff]; intro h; have := samePs_len h; omega)
    go_enter Try.func47, Try.ntmps47
    go_wp2
    go_ret
    exact ⟨by rw [HV.out]; rfl, Below.refl _ _⟩

set_option maxRecDepth 100000 in
set_option maxHeartbeats 1000000 in
theorem refSameR18 (s t : Int) (a1 a2 : Option Addr) (n1 n2 k1 k2 : Nat) (L M : List PL) (w : World) (h1 : HasP w a1 n1 L) (h2 : HasP w a2 n2 M) :
    Gives Try.prog 26 #[.agg #[.int .i64 s, .slice a1 n1 k1], .agg #[.int .i64 t, .slice a2 n2 k2]] w (.bool (sameR s t L M)) := by
  have G := Lib.hid (fun W (hW : Below w.heap.size w W) => refSamePs18 a1 a2 n1 n2 k1 k2 L M W (h1.below hW) (h2.below hW))
  have hBw := bel_alloc (bel_alloc (Below.refl w.heap.size w) (.cells #[.int .i64 s, .slice a1 n1 k1] 37)) (.cells #[.int .i64 t, .slice a2 n2 k2] 37)
  clear h1 h2
  unfold Gives sameR
  by_cases e : s = t
  · subst e
    go_enter Try.func26, Try.ntmps26
    go_wp2_with (go_at_call 47; ((with_reducible refine (G.out _ hBw).mono ?_); rintro e w1 ⟨rfl, hB1⟩))
    go_ret
    exact ⟨by simp, bel2 hBw hB1⟩
  · go_enter Try.func26, Try.ntmps26
    go_wp2
    go_ret
    exact ⟨by simp [e], hBw⟩

end Go.Proofs.Ytflaanffjjidaaa

/- Two rows of records that were found, alike: ladelaw11.same. -/
namespace Go.Proofs.Ytflaanffjjidaaa
open Go.RowKit Go.Shelf
set_option linter.unusedVariables false
attribute [local go_sem] Oper.semAt_some wide_fn wide_round_fn
attribute [local irreducible] wpQuiet

theorem eqPlace11 (a b c d : Int) (w : World) : (Op.equalIn 10000 34 (.agg #[.int .i64 a, .int .i64 b]) (.agg #[.int .i64 c, .int .i64 d])).run Try.prog w = .ok (a == c && b == d) w := by
  have hS : Try.prog.underlying 34 = some (.struct (Try.prog.fieldsOf 34)) := by kernel_rfl
  rw [show (10000 : Nat) = 9999 + 1 from rfl, run_equalIn_agg w 9999 34 _ _ hS (by kernel_rfl)]
  simp only [Program.fieldsOf, Try.underlying34]
  go_simp
  by_cases h1 : a = c <;> by_cases h2 : b = d <;> simp [h1, h2]
theorem neqPlace11 (a b : Int) (w : World) : (binOp .neq 34 (.agg #[.int .i64 a, .int .i64 b]) (.agg #[.int .i64 a, .int .i64 b])).run Try.prog w = .ok (.bool false) w := by
  rw [run_neq_struct, eqPlace11]; simp
set_option maxRecDepth 100000 in
set_option maxHeartbeats 4000000 in
theorem sameF11 (a b : Option Addr) (n c1 c2 : Nat) (L M : List FV) (w : World) (hL : L.length = n) (hm : n < 1000000) (h1 : RowV w a n 4 (fvCells L)) (h2 : RowV w b n 4 (fvCells M)) (p1 : ∀ x ∈ L, HasP w x.a x.len x.L) (p2 : ∀ x ∈ M, HasP w x.a x.len x.L) (he : L.map fcore = M.map fcore) :
    Gives Try.prog 12 #[.slice a n c1, .slice b n c2] w (.bool true) := by
  have hc1 := h1.2.2
  have hc2 := h2.2.2
  have hM : M.length = n := by have := congrArg List.length he; simp only [List.length_map] at this; omega
  have HE1 := Lib.hid p1
  have HE2 := Lib.hid p2
  have HL := Lib.hid hL
  have HM := Lib.hid hM
  have HQ := Lib.hid (fun k (h1 : k < L.length) (h2 : k < M.length) => (show fcore L[k] = fcore M[k] from by
    have h : (L.map fcore)[k]? = (M.map fcore)[k]? := by rw [he]
    rw [List.getElem?_map, List.getElem?_map, List.getElem?_eq_getElem h1, List.getElem?_eq_getElem h2] at h
    exact Option.some.inj h))
  clear h1 h2 p1 p2 hL hM he
  unfold Gives
  go_enter Try.func12, Try.ntmps12
  go_wp2
  go_loopw [5] (fun i wr => ∃ k : Nat, k ≤ n ∧ i = .int .i64 k ∧ Below w.heap.size w wr) (fun i _ => n - (intOf i).toNat)
  case atStart => exact ⟨0, by omega, rfl, Below.refl _ _⟩
  case round =>
    obtain ⟨k, hk, rfl, hB⟩ := hrel
    by_cases hlt : k < n
    · obtain ⟨b1, o1, rfl, hb1, hx1⟩ := hc1 (by omega)
      obtain ⟨b2, o2, rfl, hb2, hx2⟩ := hc2 (by omega)
      have hkl : k < L.length := by rw [HL.out]; exact hlt
      have hkm : k < M.length := by rw [HM.out]; exact hlt
      have HS9 := Lib.hid (fun W (hW : Above wr W) => And.intro (fv_at4 hb1 (bel2 hB hW) hx1 hkl) (fv_at4 hb2 (bel2 hB hW) hx2 hkm))
      have hx := HE1.out L[k] (List.getElem_mem _)
      have hy := HE2.out M[k] (List.getElem_mem _)
      have hq := HQ.out k hkl hkm
      have hk0 : (0 : Int) ≤ (k : Int) := by omega
      have hk1 : (k : Int) < (n : Int) := by omega
      clear hx1 hx2 hc1 hc2 HE1 HE2
      generalize L[k] = x at *
      generalize M[k] = y at *
      obtain ⟨xq, xa, xlen, xcap, xL, xs, xt⟩ := x
      obtain ⟨yq, ya, ylen, ycap, yL, ys, yt⟩ := y
      simp only [fcore, FC.mk.injEq] at hq
      obtain ⟨rfl, hc, rfl, rfl⟩ := hq
      dsimp only at *
      have G := Lib.hid (fun W (hW : Below w.heap.size w W) => (show Gives Try.prog 26 #[.agg #[.int .i64 xq, .slice xa xlen xcap], .agg #[.int .i64 xq, .slice ya ylen ycap]] W (.bool true) from by
        have := refSameR18 xq xq xa ya xlen ylen xcap ycap xL yL W (hx.below hW) (hy.below hW)
        rwa [sameR_iff.2 ⟨rfl, hc⟩] at this))
      have hne := fun w => neqPlace11 xs xt w
      clear hx hy hc HQ
      go_wp2
      refine wp_region_below (by kernel_rfl) (by kernel_rfl) ?_
      repeat (first
        | (refine BigFrame.wpQuiet_skip (by rfl) ?_; (try simp only [Act.put, List.setIfInBounds_toArray, List.set_cons_zero, List.set_cons_succ]))
        | (refine BigFrame.wpQuiet_want (by rfl) (fun K hK => ?_); apply Exists.intro; refine ⟨fun W hW => ?_, hK _ ?_⟩; (focus (have hWB : Below _ _ W := hW; obtain ⟨⟨y0, y1, y2, y3⟩, ⟨z0, z1, z2, z3⟩⟩ := HS9.out _ hW; go_simp; (first | done | with_reducible rfl | (go_at_call 26; with_reducible exact gives_above hW (G.out _ (bel2 hB hWB))) | (rw [if_neg (by omega)]; go_simp; (first | done | with_reducible rfl))))); clear hK K; (try simp only [Act.put, List.setIfInBounds_toArray, List.set_cons_zero, List.set_cons_succ])))
      refine wpQuiet_nil ?_
      intro w9 hB9
      replace hB9 : Below _ _ w9 := hB9
      go_wp2
      go_roundw
      case rel => exact ⟨k + 1, by omega, by go_num, bel2 hB hB9⟩
      case measure => simp [intOf]; omega
    · obtain rfl : k = n := by omega
      go_wp2
      go_ret
      exact ⟨rfl, hB⟩

end Go.Proofs.Ytflaanffjjidaaa

/- What a segment holds, as plain mathematics. -/
namespace Go.Proofs.Ytflaanffjjidaaa
open Go.RowKit Go.Shelf
set_option linter.unusedVariables false

/-- From a place on there stand these records; behind them, at e, stands what is of class c. -/
def Scn (s : ByteArray) (id : Int) : Nat → List FC → Nat → Nat → Prop
  | p, [], e, c => e = p ∧ (recM (restB s p)).2.2.2 = c ∧ c ≠ 1
  | p, x :: L, e, c => ∃ n, recM (restB s p) = (x.q, x.ps, n, 1) ∧ x.s = id ∧ x.t = (p : Int) ∧ 1 ≤ n ∧ p + n ≤ s.size ∧ Scn s id (p + n) L e c
theorem scn_end {s : ByteArray} {id : Int} : ∀ {p : Nat} {L : List FC} {e c : Nat}, Scn s id p L e c → p ≤ s.size → p ≤ e ∧ e ≤ s.size ∧ c ≠ 1 ∧ (recM (restB s e)).2.2.2 = c ∧ L.length + p ≤ e
  | p, [], e, c, h, hp => by
    obtain ⟨h1, h2, h3⟩ := h
    subst h1
    exact ⟨Nat.le_refl _, hp, h3, h2, by simp⟩
  | p, x :: L, e, c, h, hp => by
    obtain ⟨n, h1, h2, h3, h4, h5, h6⟩ := h
    have := scn_end h6 h5
    simp only [List.length_cons]
    omega
/-- At the k-th record. -/
theorem scn_at {s : ByteArray} {id : Int} : ∀ {p : Nat} {L : List FC} {e c : Nat}, Scn s id p L e c → ∀ {k : Nat} (hk : k < L.length), ∃ (pk n : Nat), L[k].t = (pk : Int) ∧ L[k].s = id ∧ recM (restB s pk) = (L[k].q, L[k].ps, n, 1) ∧ 1 ≤ n ∧ pk + n ≤ s.size ∧ p ≤ pk ∧ Scn s id pk (L.drop k) e c ∧ Scn s id (pk + n) (L.drop (k + 1)) e c
  | p, x :: L, e, c, h, 0, hk => by
    obtain ⟨n, h1, h2, h3, h4, h5, h6⟩ := h
    exact ⟨p, n, h3, h2, h1, h4, h5, Nat.le_refl _, ⟨n, h1, h2, h3, h4, h5, h6⟩, h6⟩
  | p, x :: L, e, c, h, k + 1, hk => by
    obtain ⟨n, h1, h2, h3, h4, h5, h6⟩ := h
    obtain ⟨pk, m, a1, a2, a3, a4, a5, a6, a7, a8⟩ := scn_at h6 (k := k) (by simpa using hk)
    exact ⟨pk, m, a1, a2, a3, a4, a5, by omega, a7, a8⟩
/-- The bytes of those records that are any. -/
def laidL : List RL → ByteArray
  | [] => ⟨#[]⟩
  | x :: R => recS x.1.s x.2 ++ laidL R
def anyR (R : List RL) : List RL := R.filter fun x => recB x.1.s x.2
/-- Where each of them stands. -/
def fcR (id : Int) : Nat → List RL → List FC
  | _, [] => []
  | p, x :: R => if recB x.1.s x.2 = true then ⟨x.1.s, x.2.map core, id, p⟩ :: fcR id (p + (recS x.1.s x.2).size) R else fcR id p R
theorem fcR_len {id : Int} : ∀ {p : Nat} {R : List RL}, (fcR id p R).length = (anyR R).length
  | p, [] => rfl
  | p, x :: R => by
    unfold fcR anyR
    by_cases h : recB x.1.s x.2 = true
    · rw [if_pos h, show List.filter (fun x : RL => recB x.1.s x.2) (x :: R) = x :: List.filter (fun x : RL => recB x.1.s x.2) R from List.filter_cons_of_pos h, List.length_cons, List.length_cons, fcR_len (R := R)]; rfl
    · rw [if_neg h, show List.filter (fun x : RL => recB x.1.s x.2) (x :: R) = List.filter (fun x : RL => recB x.1.s x.2) R from List.filter_cons_of_neg h, fcR_len (R := R)]; rfl
theorem ba_nil_app (t : ByteArray) : (⟨#[]⟩ : ByteArray) ++ t = t := by
  rw [← mkBA_self ((⟨#[]⟩ : ByteArray) ++ t), ba_toList]; exact mkBA_self t
theorem ba_app_nil (t : ByteArray) : t ++ (⟨#[]⟩ : ByteArray) = t := by
  rw [← mkBA_self (t ++ (⟨#[]⟩ : ByteArray)), ba_toList]
  show mkBA (t.data.toList ++ []) = t
  rw [List.append_nil]; exact mkBA_self t
theorem ba_assoc (a b c : ByteArray) : a ++ b ++ c = a ++ (b ++ c) := by
  rw [← mkBA_self (a ++ b ++ c), ← mkBA_self (a ++ (b ++ c))]
  simp only [ba_toList, List.append_assoc]
theorem rest_app (a b : ByteArray) : restB (a ++ b) a.size = b := by
  rw [← mkBA_self (restB (a ++ b) a.size), restB_list, ba_toList]
  rw [← ba_size a, List.drop_left]; exact mkBA_self b
/-- What was laid behind h stands there, one behind the other, then the end. -/
theorem scn_laid (id : Int) : ∀ (R : List RL) (h : ByteArray), (∀ x ∈ R, ∀ y ∈ x.2, y.2.length = y.1.len) → Scn (h ++ laidL R) id h.size (fcR id h.size R) (h ++ laidL R).size 2
  | [], h, _ => by
    show (h ++ (⟨#[]⟩ : ByteArray)).size = h.size ∧ _
    rw [ba_app_nil]
    refine ⟨rfl, ?_, by decide⟩
    rw [show h ++ laidL [] = h from ba_app_nil h, recM_end (by rw [restB_size _ _ (Nat.le_refl _)]; omega)]
  | x :: R, h, hl => by
    have ih := scn_laid id R (h ++ recS x.1.s x.2) (fun y hy => hl y (List.mem_cons_of_mem _ hy))
    have e : h ++ laidL (x :: R) = h ++ recS x.1.s x.2 ++ laidL R := (ba_assoc _ _ _).symm
    rw [e]
    unfold fcR
    by_cases hx : recB x.1.s x.2 = true
    · rw [if_pos hx]
      have hr : restB (h ++ recS x.1.s x.2 ++ laidL R) h.size = recS x.1.s x.2 ++ laidL R := by rw [ba_assoc, rest_app]
      have hb := recM_back (hl x List.mem_cons_self) hx (laidL R)
      refine ⟨(recS x.1.s x.2).size, ?_, rfl, rfl, ?_, ?_, ?_⟩
      · rw [hr]; exact hb
      · have := recS_len (hl x List.mem_cons_self) hx; omega
      · rw [ByteArray.size_append, ByteArray.size_append]; omega
      · rw [ByteArray.size_append] at ih; exact ih
    · rw [if_neg hx]
      have hn : recS x.1.s x.2 = ⟨#[]⟩ := recS_no (by simpa using hx)
      rw [hn, ba_app_nil] at ih ⊢
      exact ih

end Go.Proofs.Ytflaanffjjidaaa

/- The iterator steps of package scan: what stands in a segment, one behind the other. -/
namespace Go.Proofs.Ytflaanffjjidaaa
open Go.RowKit Go.Shelf
set_option linter.unusedVariables false
set_option linter.unusedSimpArgs false
attribute [local go_sem] Oper.semAt_some wide_fn wide_round_fn

/-- What comes next: the record that stands there, in new memory; behind the last one what is none. -/
def nxT (L : List FC) (id : Int) (e c : Nat) (pre : List (FV × Nat)) (x : FV × Nat) (W2 W : World) : Prop :=
  pre.length ≤ L.length ∧ (∀ (h : pre.length < L.length), fcore x.1 = L[pre.length] ∧ x.2 = 1) ∧ (pre.length = L.length → x.1.t = (e : Int) ∧ x.2 = c) ∧ PNew W2.heap.size W x.1.a x.1.len x.1.L ∧ Below W2.heap.size W2 W
def scnI (s : ByteArray) (id : Int) (L : List FC) (e c : Nat) (k p cl : Nat) : Prop := (k ≤ L.length ∧ cl = 1 ∧ p ≤ s.size ∧ Scn s id p (L.drop k) e c) ∨ (k = L.length + 1 ∧ cl = c ∧ c ≠ 1)
theorem recM_none {s : ByteArray} (h : (recM s).2.2.2 ≠ 1) : (recM s).2.1 = [] ∧ (recM s).2.2.1 = 0 := by
  unfold recM at h ⊢
  split
  · exact ⟨rfl, rfl⟩
  · rename_i h1
    rw [if_neg h1] at h
    split
    · rename_i h2
      rw [if_pos h2] at h
      exact absurd rfl h
    · exact ⟨rfl, rfl⟩
/-- One step more. -/
theorem scn_step {s : ByteArray} {id : Int} {L : List FC} {e c k p : Nat} (h : scnI s id L e c k p 1) (hc : c ≠ 1) : k ≤ L.length ∧ p ≤ s.size ∧ ∃ q ps n rc, recM (restB s p) = (q, ps, n, rc) ∧ p + n ≤ s.size ∧
    ((∃ (hlt : k < L.length), rc = 1 ∧ L[k] = ⟨q, ps, id, p⟩ ∧ 1 ≤ n ∧ scnI s id L e c (k + 1) (p + n) 1) ∨ (k = L.length ∧ e = p ∧ rc = c)) := by
  rcases h with ⟨hk, _, hp, hS⟩ | ⟨h1, h2, h3⟩
  · refine ⟨hk, hp, ?_⟩
    by_cases hlt : k < L.length
    · rw [List.drop_eq_getElem_cons hlt] at hS
      obtain ⟨n, h1, h2, h3, h4, h5, h6⟩ := hS
      refine ⟨_, _, n, 1, h1, h5, .inl ⟨hlt, rfl, ?_, h4, .inl ⟨hlt, rfl, h5, h6⟩⟩⟩
      rw [← h2, ← h3]
    · rw [List.drop_eq_nil_of_le (by omega)] at hS
      have hn := recM_none (s := restB s p) (by rw [hS.2.1]; exact hc)
      have h3 := hS.2.1
      obtain ⟨⟨q, ps, n, rc⟩, hx⟩ : ∃ y, recM (restB s p) = y := ⟨_, rfl⟩
      rw [hx] at hn h3
      obtain ⟨_, rfl⟩ := hn
      exact ⟨q, ps, 0, rc, hx, hp, .inr ⟨by omega, hS.1, h3⟩⟩
  · exact absurd h2.symm h3
set_option maxRecDepth 100000 in
set_option maxHeartbeats 4000000 in
theorem scn_iter (Bs Bi : Nat) (s : ByteArray) (hs : s.size < 4611686018427387904) (id : Int) (L : List FC) (e c : Nat) (hc1 : c ≠ 1) (hS : Scn s id 16 L e c) (h16 : 16 ≤ s.size) (w0 : World) (h1 : w0.heap[Bs]? = some (.cells #[.string s] 9 (0, 0))) (h2 : w0.heap[Bi]? = some (.cells #[.int .i64 id] 3 (0, 0))) :
    IterD Try.prog 50 #[.pointer (some ⟨Bs, 0, none⟩), .pointer (some ⟨Bi, 0, none⟩)] (fun x : FV × Nat => #[.agg #[.int .i64 x.1.q, .slice x.1.a x.1.len x.1.cap, .int .i64 x.1.s, .int .i64 x.1.t, .int .i64 (x.2 : Int)]]) (nxT L id e c) (fun ys => ys.length = L.length + 1) (fun k => k = Bs ∨ k = Bi) (fun _ => False) w0 := by
  intro l J Jx W hW hJs _ hY h0
  have hbs := hW.get h1 (.inl rfl)
  have hbi := hW.get h2 (.inr rfl)
  have HS0 := Lib.hid (show scnI s id L e c 0 16 1 from .inl ⟨Nat.zero_le _, rfl, h16, hS⟩)
  have HBS := Lib.hid hbs
  have HBI := Lib.hid hbi
  have HC1 := Lib.hid hc1
  clear h1 h2 hW hS hbs hbi
  refine callsIn_of_wp Try.func50 rfl trivial ?_ rfl
  simp only [Try.ntmps50, List.size_toArray, List.length_cons, List.length_nil, Nat.reduceAdd, Nat.reduceSub, Array.replicate_succ, Array.replicate_zero, List.push_toArray, List.append_toArray, List.nil_append, List.cons_append]
  gi_wp2
  gi_loopw [4, 5] (fun q u wr => ∃ (k p cl : Nat) (pre : List (FV × Nat)), pre.length = k ∧ q = .int .i64 (p : Int) ∧ u = .int .i64 (cl : Int) ∧ scnI s id L e c k p cl ∧ J pre wr ∧ Rd W.heap.size (fun k => k = Bs ∨ k = Bi) W wr) (fun q u _ => if intOf u = 1 then s.size + 1 - (intOf q).toNat else 0)
  case atStart => exact ⟨0, 16, 1, [], rfl, rfl, rfl, HS0.out, h0, Rd.refl _ _ _⟩
  case round =>
  clear h0
  obtain ⟨k, p, cl, pre, hpk, rfl, rfl, hI, hJ, hR⟩ := hrel
  have hlen : L.length + 16 ≤ s.size := by
    rcases HS0.out with h | h
    · have := scn_end h.2.2.2 h16; rw [List.drop_zero] at this; omega
    · exact absurd h.2.1.symm h.2.2
  by_cases hcl : cl = 1
  · subst hcl
    obtain ⟨hkL, hp, rq, ps, rn, rc, hrec, hpn, hcase⟩ := scn_step hI hc1
    have HCA := Lib.hid hcase
    have HPK := Lib.hid hpk
    have bs := hR.get HBS.out (.inl rfl)
    have bi := hR.get HBI.out (.inr rfl)
    have ks : wr.cell? ⟨Bs, 0, none⟩ = some (.string s) := cell_of_row _ _ 0 _ _ _ bs
    have hp' : (p : Int) ≤ (s.size : Int) := by omega
    have hp0 : (0 : Int) ≤ (p : Int) := by omega
    have hw9 : IntKind.i64.wrap ((p : Int) + (rn : Int)) = ((p + rn : Nat) : Int) := (IntWalk.i64_in _ (by omega)).trans (by push_cast; rfl)
    have HBI2 := Lib.hid bi
    have HJ := Lib.hid hJ
    have HR := Lib.hid hR
    have GR := Lib.hid (show Calls Try.prog 51 #[.string (s.extract p s.size)] wr (fun e w' => ∃ (a : Option Addr) (len cap : Nat) (S : List PL), e = .returned (.tuple #[.agg #[.int .i64 rq, .slice a len cap], .int .i64 (rn : Int), .int .i64 (rc : Int)]) ∧ HasP w' a len S ∧ S.map core = ps ∧ Below wr.heap.size wr w' ∧ NewP wr.heap.size a len S) from by
      have := recRead_any (restB s p) (by rw [restB_size _ _ hp]; omega) wr
      unfold RecPost at this
      rw [hrec] at this
      exact this)
    clear hI bs bi hpk hcase hrec hJ hR
    gi_wp2_with (gi_at_call 51; refine (callsIn_wide.2 GR.out).mono ?_; rintro e1 w1 ⟨a, len, cap, S, rfl, hP, hSc, hB1, hN1⟩; have HSC := Lib.hid hSc; have hi1 : w1.heap[Bi]? = some (.cells #[.int .i64 id] 3 (0, 0)) := (hB1.block _ (heap_lt HBI2.out)).trans HBI2.out; have hA1 := bel_alloc (Below.refl w1.heap.size w1) (.cells #[.int .i64 rq, .slice a len cap] 37); have ki : (w1.alloc (.cells #[.int .i64 rq, .slice a len cap] 37)).cell? ⟨Bi, 0, none⟩ = some (.int .i64 id) := cell_of_row _ _ 0 _ _ _ ((hA1.block _ (heap_lt hi1)).trans hi1); have hr1 := World.alloc_heap_new w1 (.cells #[.int .i64 rq, .slice a len cap] 37); have r0 := cell_of_row _ _ 0 _ _ _ hr1; have r1 := cell_of_row _ _ 1 _ _ _ hr1; have hf1 := World.alloc_heap_new (w1.alloc (.cells #[.int .i64 rq, .slice a len cap] 37)) (.cells #[.int .i64 rq, .slice a len cap, .int .i64 id, .int .i64 (p : Int)] 39); obtain ⟨f0, f1, f2, f3⟩ := cells4 hf1; rw [World.size_alloc] at f0 f1 f2 f3; have hB2 : Below wr.heap.size wr ((w1.alloc (.cells #[.int .i64 rq, .slice a len cap] 37)).alloc (.cells #[.int .i64 rq, .slice a len cap, .int .i64 id, .int .i64 (p : Int)] 39)) := bel2 hB1 (bel_alloc hA1 _); have hPN : PNew wr.heap.size ((w1.alloc (.cells #[.int .i64 rq, .slice a len cap] 37)).alloc (.cells #[.int .i64 rq, .slice a len cap, .int .i64 id, .int .i64 (p : Int)] 39)) a len S := ⟨hP.below (bel_alloc hA1 _), hN1⟩; have hJ2 := hJs _ _ _ HJ.out (Moves.below hB2); obtain ⟨fn, tmps, assign, body, hy, hR1⟩ := hY pre (⟨rq, a, len, cap, S, id, (p : Int)⟩, rc) wr ((w1.alloc (.cells #[.int .i64 rq, .slice a len cap] 37)).alloc (.cells #[.int .i64 rq, .slice a len cap, .int .i64 id, .int .i64 (p : Int)] 39)) HJ.out ⟨by rw [HPK.out]; exact hkL, fun h => by { rcases HCA.out with ⟨h2, h3, h4, _⟩ | ⟨h2, _⟩; { refine ⟨?_, h3⟩; simp only [HPK.out]; rw [h4]; show (⟨rq, S.map core, id, (p : Int)⟩ : FC) = _; rw [HSC.out] }; { exfalso; have := HPK.out; omega } }, fun h => by { rcases HCA.out with ⟨h2, _⟩ | ⟨_, h3, h4⟩; { exfalso; have := HPK.out; omega }; { exact ⟨by rw [h3], h4⟩ } }, hPN, hB2⟩ hJ2; dsimp only at hy; have HR2 := Lib.hid (HR.out.trans (Rd.below hB2)); clear hP hSc hB1 hN1 hi1 hA1 hr1 hf1 hB2 hPN hJ2)
    refine (roundIn_wide_n hR1).mono ?_
    rintro e1 W3 (⟨rfl, hJ3, hk3⟩ | ⟨rfl, hJx3⟩)
    · clear r0 r1 f0 f1 f2 f3 ki ks hy hR1
      rcases HCA.out with ⟨hlt, hrc, hLk, hn1, hnx⟩ | ⟨hkl, hep, hrc⟩
      · have HLK := Lib.hid hLk
        have HNX := Lib.hid hnx
        subst hrc
        clear hLk hnx
        gi_wp2
        go_roundw
        case rel => exact ⟨k + 1, p + rn, 1, pre ++ [(⟨rq, a, len, cap, S, id, (p : Int)⟩, 1)], by rw [List.length_append, HPK.out]; rfl, by go_num, rfl, HNX.out, hJ3, HR2.out.trans hk3⟩
        case measure => simp [intOf]; omega
      · have HKL := Lib.hid hkl
        have HEP := Lib.hid hep
        have HRCE := Lib.hid hrc
        have hne : ¬ ((rc : Int) = 1) := by have := HC1.out; omega
        clear hkl hep hrc
        gi_wp2
        go_roundw
        case rel => exact ⟨k + 1, p + rn, rc, pre ++ [(⟨rq, a, len, cap, S, id, (p : Int)⟩, rc)], by rw [List.length_append, HPK.out]; rfl, by go_num, rfl, .inr ⟨by rw [HKL.out], HRCE.out, HC1.out⟩, hJ3, HR2.out.trans hk3⟩
        case measure =>
          show (if (rc : Int) = 1 then s.size + 1 - ((p : Int) + (rn : Int)).toNat else 0) < (if ((1 : Nat) : Int) = 1 then s.size + 1 - (p : Int).toNat else 0)
          rw [if_neg hne, if_pos (by rfl)]; omega
    · gi_wp2
      refine bodyPost_ret (results_none rfl _ _ _) rfl ?_
      exact ⟨⟨_, rfl⟩, .inr ⟨_, _, hJx3⟩⟩
  · have hne : ¬ ((cl : Int) = 1) := by omega
    have hfin : pre.length = L.length + 1 := by
      rcases hI with ⟨_, h, _⟩ | ⟨h, _⟩
      · exact absurd h hcl
      · omega
    have HFI := Lib.hid hfin
    clear hI hfin
    gi_wp2
    refine bodyPost_end (results_none rfl _ _ _) rfl ?_
    exact ⟨⟨_, rfl⟩, .inl ⟨_, HFI.out, hJ⟩⟩

end Go.Proofs.Ytflaanffjjidaaa

/- scan.First: the records of a segment, in order, as many as are asked for. -/
namespace Go.Proofs.Ytflaanffjjidaaa
open Go.RowKit Go.Shelf
set_option linter.unusedVariables false
set_option linter.unusedSimpArgs false
attribute [local go_sem] Oper.semAt_some wide_fn wide_round_fn

theorem infoFoundN : (Try.prog.info? 39).map (fun i => (i.zero, i.size, i.bytes)) = some (some (.agg #[.int .i64 0, .slice none 0 0, .int .i64 0, .int .i64 0]), 4, 48) := by kernel_rfl
def mostN (most : Int) (n : Nat) : Nat := min n most.toNat
def atP (L : List FC) (e : Nat) (k : Nat) : Int := if h : k < L.length then L[k].t else (e : Int)
def clP (L : List FC) (c : Nat) (k : Nat) : Nat := if k < L.length then 1 else c
def FirstPost (L : List FC) (e c k : Nat) (W : World) (x : Ending) (w' : World) : Prop :=
  ∃ (a : Option Addr) (cap : Nat) (M : List FV), x = .returned (.tuple #[.slice a k cap, .int .i64 (atP L e k), .int .i64 ((clP L c k : Nat) : Int)]) ∧ FNew W.heap.size w' a k M ∧ k ≤ cap ∧ M.map fcore = L.take k ∧ Below W.heap.size W w'
theorem boxes2s (w : World) (v1 v2 : Value) (T1 T2 : TypeId) : ((w.alloc (.cells #[v1] T1)).alloc (.cells #[v2] T2)).heap[w.heap.size]? = some (.cells #[v1] T1 (0, 0)) ∧ ((w.alloc (.cells #[v1] T1)).alloc (.cells #[v2] T2)).heap[w.heap.size + 1]? = some (.cells #[v2] T2 (0, 0)) :=
  ⟨two_a w #[v1] #[v2] T1 T2, two_b w #[v1] #[v2] T1 T2⟩
theorem scn_makes (s : ByteArray) (hs : s.size < 4611686018427387904) (id : Int) (L : List FC) (e c : Nat) (hc1 : c ≠ 1) (hS : Scn s id 16 L e c) (h16 : 16 ≤ s.size) (w : World) :
    Calls Try.prog 28 #[.string s, .int .i64 id] w fun e1 w' => ∃ lb, e1 = .returned (.func (.func 50) #[] lb) ∧ w' = (w.alloc (.cells #[.string s] 9)).alloc (.cells #[.int .i64 id] 3) ∧
      IterD Try.prog 50 lb (fun x : FV × Nat => #[.agg #[.int .i64 x.1.q, .slice x.1.a x.1.len x.1.cap, .int .i64 x.1.s, .int .i64 x.1.t, .int .i64 (x.2 : Int)]]) (nxT L id e c) (fun ys => ys.length = L.length + 1) (fun k => k = w.heap.size ∨ k = w.heap.size + 1) (fun _ => False) w' := by
  obtain ⟨b1, b2⟩ := boxes2s w (.string s) (.int .i64 id) 9 3
  have HI := Lib.hid (scn_iter w.heap.size (w.heap.size + 1) s hs id L e c hc1 hS h16 _ b1 b2)
  clear hS b1 b2
  go_enter Try.func28, Try.ntmps28
  go_wp2
  go_ret
  exact ⟨_, rfl, rfl, HI.out⟩
theorem frameT_stab {T : Nat → Prop} {w5 : World} {B : Nat} (h : w5.heap.size ≤ B) : Stab B (fun _ => False) (FrameT T w5) := fun W W' hp hm => hp.after ⟨hm.os, hm.tape, hm.output, hm.size, fun k o ho _ hc => hm.block k o ho id hc⟩ h
/-- What the loop holds. -/
def fsJ (w5 : World) (B5 B10 B11 B12 : Nat) (most : Int) (L : List FC) (v : Value) (p q : Int) (pre : List (FV × Nat)) (W : World) : Prop :=
  W.heap[B10]? = some (.cells #[v] 28 (0, 0)) ∧ W.heap[B11]? = some (.cells #[.int .i64 p] 3 (0, 0)) ∧ W.heap[B12]? = some (.cells #[.int .i64 q] 3 (0, 0)) ∧ W.heap[B5]? = some (.cells #[.int .i64 most] 3 (0, 0)) ∧ gI w5.heap.size v (pre.map Prod.fst) W ∧ FrameT (fun k => k = B10 ∨ k = B11 ∨ k = B12) w5 W
theorem fsJ_stab {w5 : World} {B5 B10 B11 B12 B : Nat} {most : Int} {L : List FC} {v : Value} {p q : Int} {pre : List (FV × Nat)} (h : w5.heap.size ≤ B) : Stab B (fun _ => False) (fsJ w5 B5 B10 B11 B12 most L v p q pre) :=
  (Stab.block id (.inr rfl)).and ((Stab.block id (.inr rfl)).and ((Stab.block id (.inr rfl)).and ((Stab.block id (.inr rfl)).and (gI_stab.and (frameT_stab h)))))
def fsK (L : List FC) (most : Int) (pre : List (FV × Nat)) : Prop := pre.length ≤ L.length ∧ (0 < pre.length → (pre.length : Int) ≤ most) ∧ (pre.map Prod.fst).map fcore = L.take pre.length
theorem gI.frameT {C : Nat} {T : Nat → Prop} {v : Value} {pre : List FV} {W W' : World} (h : gI C v pre W) (hF : FrameT T W W') (hT : ∀ k, C ≤ k → k < W.heap.size → ¬ T k) : gI C v pre W' :=
  ⟨ownL_frame h.1 hF (fun j hj => by have := ownBlockL_lt h.1 hj; exact hT j this.2.1 this.1), fun x hx => ⟨(h.2 x hx).1.frame hF hT, (h.2 x hx).2⟩⟩
theorem fs_put {w5 W W3 : World} {B5 B : Nat} {most : Int} {L : List FC} {v : Value} {p q : Int} {pre : List (FV × Nat)} (p' q' : Int) (h : fsJ w5 B5 B (B + 1) (B + 1 + 1) most L v p q pre W) (hl : B5 < B ∧ B + 1 + 1 < w5.heap.size)
    (h11 : W3.heap[B + 1]? = some (.cells #[.int .i64 p'] 3 (0, 0))) (h12 : W3.heap[B + 1 + 1]? = some (.cells #[.int .i64 q'] 3 (0, 0))) (hF : FrameT (fun k => k = B + 1 ∨ k = B + 1 + 1) W W3) :
    fsJ w5 B5 B (B + 1) (B + 1 + 1) most L v p' q' pre W3 ∧ Rd w5.heap.size (fun k => k = B + 3 ∨ k = B + 4) W W3 := by
  obtain ⟨a1, a2, a3, a4, a5, a6⟩ := h
  refine ⟨⟨hF.get a1 (by omega), h11, h12, hF.get a4 (by omega), a5.frameT hF (fun k hk _ e => by omega), ?_⟩, ⟨hF.os, hF.tape, hF.output, hF.size, fun k o ho hc => hF.get ho (by omega)⟩⟩
  exact ⟨hF.os.trans a6.os, hF.tape.trans a6.tape, hF.output.trans a6.output, Nat.le_trans a6.size hF.size, fun k hk hk2 => (hF.block k (by have := a6.size; omega) (by omega)).trans (a6.block k hk hk2)⟩
theorem put_two {W : World} {B : Nat} {p q p' q' : Int} (h11 : W.heap[B + 1]? = some (.cells #[.int .i64 p] 3 (0, 0))) (h12 : W.heap[B + 1 + 1]? = some (.cells #[.int .i64 q] 3 (0, 0))) :
    ((((W.setCell ⟨B + 1, 0, none⟩ (.int .i64 p')).setCell ⟨B + 1 + 1, 0, none⟩ (.int .i64 q')).heap[B + 1]? = some (.cells #[.int .i64 p'] 3 (0, 0))) ∧ (((W.setCell ⟨B + 1, 0, none⟩ (.int .i64 p')).setCell ⟨B + 1 + 1, 0, none⟩ (.int .i64 q')).heap[B + 1 + 1]? = some (.cells #[.int .i64 q'] 3 (0, 0))) ∧ FrameT (fun k => k = B + 1 ∨ k = B + 1 + 1) W ((W.setCell ⟨B + 1, 0, none⟩ (.int .i64 p')).setCell ⟨B + 1 + 1, 0, none⟩ (.int .i64 q'))) ∧
    ((((W.setCell ⟨B + 1 + 1, 0, none⟩ (.int .i64 q')).setCell ⟨B + 1, 0, none⟩ (.int .i64 p')).heap[B + 1]? = some (.cells #[.int .i64 p'] 3 (0, 0))) ∧ (((W.setCell ⟨B + 1 + 1, 0, none⟩ (.int .i64 q')).setCell ⟨B + 1, 0, none⟩ (.int .i64 p')).heap[B + 1 + 1]? = some (.cells #[.int .i64 q'] 3 (0, 0))) ∧ FrameT (fun k => k = B + 1 ∨ k = B + 1 + 1) W ((W.setCell ⟨B + 1 + 1, 0, none⟩ (.int .i64 q')).setCell ⟨B + 1, 0, none⟩ (.int .i64 p'))) := by
  have f1 := FrameT.setCell W (B + 1) 0 (.int .i64 p')
  have f2 := FrameT.setCell (W.setCell ⟨B + 1, 0, none⟩ (.int .i64 p')) (B + 1 + 1) 0 (.int .i64 q')
  have g1 := FrameT.setCell W (B + 1 + 1) 0 (.int .i64 q')
  have g2 := FrameT.setCell (W.setCell ⟨B + 1 + 1, 0, none⟩ (.int .i64 q')) (B + 1) 0 (.int .i64 p')
  exact ⟨⟨f2.get (heap_setCell_same W (B + 1) 0 _ _ (.int .i64 p') h11) (by omega), heap_setCell_same _ (B + 1 + 1) 0 _ _ (.int .i64 q') (f1.get h12 (by omega)), (f1.mono fun _ h => .inl h).trans (f2.mono fun _ h => .inr h)⟩,
    ⟨heap_setCell_same _ (B + 1) 0 _ _ (.int .i64 p') (g1.get h11 (by omega)), g2.get (heap_setCell_same W (B + 1 + 1) 0 _ _ (.int .i64 q') h12) (by omega), (g1.mono fun _ h => .inr h).trans (g2.mono fun _ h => .inl h)⟩⟩
theorem fs_app {w5 W w6 : World} {B5 B : Nat} {most : Int} {L : List FC} {v v' : Value} {p q : Int} {pre : List (FV × Nat)} {x : FV × Nat} (h : fsJ w5 B5 B (B + 1) (B + 1 + 1) most L v p q pre W) (hl : B5 < B ∧ B + 1 + 1 < w5.heap.size) (hx : PNew w5.heap.size W x.1.a x.1.len x.1.L ∧ Off v x.1)
    (hown : w6.ownsRow w5.heap.size 39 4 v' ((pre.map Prod.fst).length + 1) (fvCells (pre.map Prod.fst) ++ x.1.arr.toList)) (hg : (W.alloc (.cells x.1.arr 39)).grownBy w6 v.ownBlock) (hn : v'.ownBlock = v.ownBlock ∨ v'.ownBlock = some (W.alloc (.cells x.1.arr 39)).heap.size) (hs4 : B + 4 < w5.heap.size) :
    w6.cell? ⟨B, 0, none⟩ = some v ∧ w6.frozen? ⟨B, 0, none⟩ = false ∧ fsJ w5 B5 B (B + 1) (B + 1 + 1) most L v' p q (pre ++ [x]) (w6.setCell ⟨B, 0, none⟩ v') ∧ Rd w5.heap.size (fun k => k = B + 3 ∨ k = B + 4) W (w6.setCell ⟨B, 0, none⟩ v') := by
  obtain ⟨a1, a2, a3, a4, a5, a6⟩ := h
  have hA : Below W.heap.size W (W.alloc (.cells x.1.arr 39)) := bel_alloc (Below.refl W.heap.size W) _
  have hIA : gI w5.heap.size v (pre.map Prod.fst) (W.alloc (.cells x.1.arr 39)) := gI_stab (B := W.heap.size) _ _ a5 (Moves.below hA)
  obtain ⟨hI6, hF6⟩ := gI_append hIA ⟨hx.1.below hA, hx.2⟩ hown hg hn
  have hvb : ∀ k, some k = v.ownBlock → w5.heap.size ≤ k := fun k hk => (ownBlockL_lt a5.1 hk).2.1
  have hFW : FrameT (fun k => some k = v.ownBlock) W w6 := (FrameT.below hA).trans hF6
  have hFs := FrameT.setCell w6 B 0 v'
  have g : ∀ {k : Nat} {o : Obj}, W.heap[k]? = some o → k < w5.heap.size → w6.heap[k]? = some o := fun ho hk => hFW.get ho (fun e => by have := hvb _ e; omega)
  have b1 := g a1 (by omega)
  have hz : FrameT (fun k => some k = v.ownBlock ∨ k = B) W (w6.setCell ⟨B, 0, none⟩ v') := (hFW.mono fun _ h => .inl h).trans (hFs.mono fun _ h => .inr h)
  refine ⟨cell_of_row _ _ 0 _ _ _ b1, frozen_of_row _ B 0 _ _ b1, ⟨heap_setCell_same _ B 0 _ _ v' b1, hFs.get (g a2 (by omega)) (by omega), hFs.get (g a3 (by omega)) (by omega), hFs.get (g a4 (by omega)) (by omega), ?_, ?_⟩, ⟨hz.os, hz.tape, hz.output, hz.size, fun k o ho hc => hz.get ho ?_⟩⟩
  · rw [List.map_append]
    exact gI.frameT hI6 hFs (fun k hk _ e => by omega)
  · exact ⟨hz.os.trans a6.os, hz.tape.trans a6.tape, hz.output.trans a6.output, Nat.le_trans a6.size hz.size, fun k hk hk2 => (hz.block k (by have := a6.size; omega) (by
      rintro (e | e)
      · have := hvb _ e; omega
      · exact hk2 (.inl e))).trans (a6.block k hk hk2)⟩
  · rintro (e | e)
    · rcases hc with hc | ⟨_, hc⟩
      · have := hvb _ e; omega
      · obtain ⟨_, _, o2, ho2, hc2⟩ := ownBlockL_lt a5.1 e
        rw [ho] at ho2; cases ho2; rw [hc] at hc2; cases hc2
    · omega
theorem fNew_stab {B C : Nat} {a : Option Addr} {len : Nat} {L : List FV} : Stab B (fun _ => False) (fun W => FNew C W a len L) := fun W W' h hm =>
  ⟨h.1, h.2.1, rowL_stab _ _ h.2.2.1 hm, h.2.2.2.1, fun x hx => pNew_stab _ _ (h.2.2.2.2 x hx) hm⟩
theorem frame_putD (W : World) (l : Nat) (o' : Obj) : FrameT (fun k => k = l) W (W.putObj l o') := by
  have g := grownBy_putObj' W l o'
  exact ⟨g.os, g.tape, g.output, g.size, fun k hk hT => World.putObj_heap_other hT⟩
def fsS (Xf : Nat) (xt xc : Int) (W : World) : Prop := W.cell? ⟨Xf, 3, none⟩ = some (.int .i64 xt) ∧ W.cell? ⟨Xf, 4, none⟩ = some (.int .i64 xc)
theorem fsS_of {Xf : Nat} {xq xs xt xc : Int} {v : Value} {T : TypeId} {W : World} (h : W.heap[Xf]? = some (.cells #[.int .i64 xq, v, .int .i64 xs, .int .i64 xt, .int .i64 xc] T (0, 0))) : fsS Xf xt xc W := ⟨cell_of_row _ _ 3 _ _ _ h, cell_of_row _ _ 4 _ _ _ h⟩
theorem wpIn_of_heldF {F : Fence} {n : Nat} {P : Program} {id : Nat} {Q : Exit → Act → World → Prop} {a : Act} {w : World} {l : List Oper} {S : World → Prop} (hm : P.follows .mixedOrders = true) (hd : l.all (fun o => !isDefer o.op) = true) (hF : ∃ ro, F = { Fence.wide with round := ro }) (hS : S w.drew)
    (h : S w.drew → wpAnyH P .any l.toArray (onlyNormal Q) S l.toArray.size (Array.replicate l.toArray.size false) a w.drew) : (Code.region id l.toArray true).wpIn F n P Q a w := by
  refine wpIn_region_any hm (anyIn_of_plain hF (fun i o ho => ?_) _ _ _ _ (wpAny_of_held _ _ _ _ (h hS)))
  have hmem : o ∈ l := by
    simp only [List.getElem?_toArray] at ho
    exact List.mem_of_getElem? ho
  have := List.all_eq_true.1 hd o hmem
  simpa using this
/-- The loop's end, as the boxes tell it. -/
def fsX (w5 : World) (B : Nat) (L : List FC) (e c k : Nat) (W : World) : Prop := ∃ v M, W.heap[B]? = some (.cells #[v] 28 (0, 0)) ∧ W.heap[B + 1]? = some (.cells #[.int .i64 (atP L e k)] 3 (0, 0)) ∧ W.heap[B + 1 + 1]? = some (.cells #[.int .i64 ((clP L c k : Nat) : Int)] 3 (0, 0)) ∧ gI w5.heap.size v M W ∧ FrameT (fun k => k = B ∨ k = B + 1 ∨ k = B + 1 + 1) w5 W ∧ M.length = k ∧ M.map fcore = L.take k
theorem fsX_stab {w5 : World} {B B' : Nat} {L : List FC} {e c k : Nat} (h : w5.heap.size ≤ B') : Stab B' (fun _ => False) (fsX w5 B L e c k) :=
  Stab.ex fun _ => Stab.ex fun _ => (Stab.block id (.inr rfl)).and ((Stab.block id (.inr rfl)).and ((Stab.block id (.inr rfl)).and (gI_stab.and ((frameT_stab h).and (Stab.pure _)))))
theorem fsX_of {w5 W : World} {B5 B : Nat} {most xt : Int} {L : List FC} {e c xc : Nat} {v : Value} {pre : List (FV × Nat)} (h : fsJ w5 B5 B (B + 1) (B + 1 + 1) most L v xt (xc : Int) pre W) (hK : fsK L most pre) (h1 : ∀ h : pre.length < L.length, xt = L[pre.length].t ∧ xc = 1) (h2 : pre.length = L.length → xt = (e : Int) ∧ xc = c) (hst : xc ≠ 1 ∨ most ≤ (pre.length : Int)) (hc : c ≠ 1) :
    fsX w5 B L e c (mostN most L.length) W := by
  obtain ⟨a1, a2, a3, a4, a5, a6⟩ := h
  obtain ⟨k1, k2, k3⟩ := hK
  have hk : mostN most L.length = pre.length := by
    unfold mostN
    by_cases hlt : pre.length < L.length
    · have := h1 hlt
      rcases Nat.eq_zero_or_pos pre.length with h0 | h0
      · omega
      · have := k2 h0; omega
    · rcases Nat.eq_zero_or_pos pre.length with h0 | h0
      · omega
      · have := k2 h0; omega
  rw [hk]
  refine ⟨v, pre.map Prod.fst, a1, ?_, ?_, a5, a6, by rw [List.length_map], k3⟩
  · rw [a2]
    unfold atP
    by_cases hlt : pre.length < L.length
    · rw [dif_pos hlt, (h1 hlt).1]
    · rw [dif_neg hlt, (h2 (by omega)).1]
  · rw [a3]
    unfold clP
    by_cases hlt : pre.length < L.length
    · rw [if_pos hlt, (h1 hlt).2]
    · rw [if_neg hlt, (h2 (by omega)).2]
theorem wpIn_scope_wide {n : Nat} {P : Program} {c : Code} {Q : Exit → Act → World → Prop} {a : Act} {w : World} (h : c.wpIn Fence.wide n P (Exit.noGoto Q) a w) : (Code.scope c).wpIn Fence.wide n P Q a w := wpIn_wide.2 (wp_scope_straight (wpIn_wide.1 h))
set_option maxRecDepth 100000 in
set_option maxHeartbeats 8000000 in
theorem first_any (s : ByteArray) (hs : s.size < 4611686018427387904) (id most : Int) (L : List FC) (e c : Nat) (hh : chkM s.data.toList (headS (heldN id)).data.toList = 1) (hS : Scn s id 16 L e c) (h16 : 16 ≤ s.size) (hL : L.length < 1000000) (W : World) :
    Calls Try.prog 13 #[.string s, .int .i64 id, .int .i64 most] W (FirstPost L e c (mostN most L.length) W) := by
  obtain ⟨i0, hi, hz0, hz1, hz2⟩ := info_parts infoFoundN
  have hmx : Try.prog.follows .mixedOrders = true := by kernel_rfl
  have hc1 := (scn_end hS h16).2.2.1
  have GH := Lib.hid (fun W => (show Gives Try.prog 27 #[.string s, .int .i64 id] W (.int .i64 1) from hh ▸ headCheck_any s (by omega) id W))
  have GS := Lib.hid (fun W => scn_makes s hs id L e c hc1 hS h16 W)
  have HS := Lib.hid hS
  clear hh hS
  have hm0 := World.alloc_heap_new W (.cells #[.int .i64 most] 3)
  have hBm := bel_alloc (Below.refl W.heap.size W) (.cells #[.int .i64 most] 3)
  have HM0 := Lib.hid hm0
  have HBM := Lib.hid hBm
  clear hm0 hBm
  refine (callsIn_wide (n := 9)).1 ?_
  refine callsIn_of_wp_marks Try.func13 rfl trivial ?_ rfl
  simp only [Try.ntmps13, List.size_toArray, List.length_cons, List.length_nil, Nat.reduceAdd, Nat.reduceSub, Array.replicate_succ, Array.replicate_zero, List.push_toArray, List.append_toArray, List.nil_append, List.cons_append]
  gi_wp2
  refine wpIn_scope_wide ?_
  gi_wp2_with (first
    | (gi_at_call 27; refine (callsIn_wide.2 (GH.out _)).mono ?_; rintro e1 w1 ⟨rfl, hB1⟩; have HM1 := Lib.hid ((hB1.block _ (heap_lt HM0.out)).trans HM0.out); have HB1 := Lib.hid (bel2 HBM.out hB1)))
  refine wpIn_label ?_
  gi_wp2_with (first
    | (gi_at_call 28; refine (callsIn_wide.2 (GS.out _)).mono ?_; rintro e1 w5 ⟨lb, rfl, hw5, hI5⟩; have HW5 := Lib.hid hw5; have HI5 := Lib.hid hI5; clear hw5 hI5))
  have hbx := boxes3s w1 (.slice none 0 0) (.int .i64 16) (.int .i64 2) 28 3 3
  have hBA : Below w1.heap.size w1 (((w1.alloc (.cells #[.slice none 0 0] 28)).alloc (.cells #[.int .i64 16] 3)).alloc (.cells #[.int .i64 2] 3)) := bel_alloc (bel_alloc (bel_alloc (Below.refl _ _) _) _) _
  have hB35 : Below (((w1.alloc (.cells #[.slice none 0 0] 28)).alloc (.cells #[.int .i64 16] 3)).alloc (.cells #[.int .i64 2] 3)).heap.size (((w1.alloc (.cells #[.slice none 0 0] 28)).alloc (.cells #[.int .i64 16] 3)).alloc (.cells #[.int .i64 2] 3)) w5 := by rw [HW5.out]; exact bel_alloc (bel_alloc (Below.refl _ _) _) _
  have h10 := (hB35.block _ (heap_lt hbx.1)).trans hbx.1
  have h11 := (hB35.block _ (heap_lt hbx.2.1)).trans hbx.2.1
  have h12 := (hB35.block _ (heap_lt hbx.2.2)).trans hbx.2.2
  have hsz : w5.heap.size = w1.heap.size + 5 := by rw [HW5.out]; simp
  have hB15 : Below w1.heap.size w1 w5 := hBA.trans (hB35.mono hBA.size)
  have h5 := (hB15.block _ (heap_lt HM1.out)).trans HM1.out
  have hl5 := heap_lt HM1.out
  have hBW5 : Below W.heap.size W w5 := bel2 HB1.out hB15
  have HI6 := Lib.hid (show IterD Try.prog 50 lb (fun x : FV × Nat => #[.agg #[.int .i64 x.1.q, .slice x.1.a x.1.len x.1.cap, .int .i64 x.1.s, .int .i64 x.1.t, .int .i64 (x.2 : Int)]]) (nxT L id e c) (fun ys => ys.length = L.length + 1) (fun k => k = w1.heap.size + 3 ∨ k = w1.heap.size + 4) (fun _ => False) w5 from by have := HI5.out; simpa using this)
  clear hbx hBA hB35 hB15 HW5 HI5
  have hJ0 : fsJ w5 W.heap.size w1.heap.size (w1.heap.size + 1) (w1.heap.size + 1 + 1) most L (.slice none 0 0) 16 2 [] w5 := ⟨h10, h11, h12, h5, gI_nil _ _, FrameT.refl _ _⟩
  clear h10 h11 h12 h5
  have HSZ := Lib.hid hsz
  have HL5 := Lib.hid hl5
  have HBW5 := Lib.hid hBW5
  have HCC := Lib.hid hc1
  have HLL := Lib.hid hL
  clear hsz hl5 hBW5 hc1 hL
  refine range_outerD rfl (enters_of Try.func50 (by kernel_rfl) rfl) HI6.out (fun _ => rfl) (fun k hk => by have := HSZ.out; omega) (fun _ h => h.elim)
    (fun pre W' => (∃ v p q, fsJ w5 W.heap.size w1.heap.size (w1.heap.size + 1) (w1.heap.size + 1 + 1) most L v p q pre W') ∧ fsK L most pre) (fun cc _ W' => cc = Code.exit 0 ∧ fsX w5 w1.heap.size L e c (mostN most L.length) W') (fun _ => (Stab.ex fun _ => Stab.ex fun _ => Stab.ex fun _ => fsJ_stab (Nat.le_refl _)).and (Stab.pure _)) (fun _ _ => (Stab.pure _).and (fsX_stab (Nat.le_refl _)))
    ⟨⟨_, _, _, hJ0⟩, Nat.zero_le _, (fun h => absurd h (Nat.lt_irrefl 0)), rfl⟩ ?hr ?hd ?hs
  case hr =>
    clear hJ0
    rintro l0 pre x Wp W1 h2 hnx hl hi1 hrec
    obtain ⟨⟨v2, p2, q2, hv2⟩, hk2⟩ := h2
    obtain ⟨⟨v, p, q, hv⟩, _⟩ := hi1
    obtain ⟨hx0, hx1, hx2, hxP, hWW⟩ := hnx
    obtain rfl : v = v2 := by
      have e := (hWW.block _ (heap_lt hv2.1)).trans hv2.1
      rw [hv.1] at e
      have e2 := (Obj.cells.inj (Option.some.inj e)).1
      simpa using e2
    have hsz := hv2.2.2.2.2.2.size
    have hvl : ∀ k, some k = v.ownBlock → k < Wp.heap.size := fun k hk => (ownBlockL_lt hv2.2.2.2.2.1.1 hk).1
    have HXO := Lib.hid (show Off v x.1 from ⟨fun k hk e => by have := hvl k e; have := hxP.2.1 k hk; omega, fun y hy k hk e => by have := hvl k e; have := hxP.2.2 y hy k hk; omega⟩)
    have hxP5 := hxP.mono hsz
    have HK2 := Lib.hid hk2
    have HX1 := Lib.hid hx1
    have HX2 := Lib.hid hx2
    have HX0 := Lib.hid hx0
    clear hv2 hxP hWW hvl hsz hk2 hx1 hx2 hx0
    obtain ⟨⟨xq, xa, xlen, xcap, xL, xs, xt⟩, xc⟩ := x
    dsimp only at *
    gi_wp2
    refine rdThen_mk (fun W' => fsJ w5 W.heap.size w1.heap.size (w1.heap.size + 1) (w1.heap.size + 1 + 1) most L v p q pre W' ∧ (W'.heap[W1.heap.size]? = some (.cells #[.int .i64 xq, .slice xa xlen xcap, .int .i64 xs, .int .i64 xt, .int .i64 (xc : Int)] 81 (0, 0)) ∧ PNew w5.heap.size W' xa xlen xL)) ((fsJ_stab (Nat.le_refl _)).and ((Stab.block (fun h => h) (.inr rfl)).and pNew_stab)) ⟨fsJ_stab (Nat.le_refl _) _ _ hv (Moves.alloc _ _), World.alloc_heap_new W1 _, hxP5.below (bel_alloc (Below.refl _ _) _)⟩ ((Rd.refl _ _ _).alloc _) ?_
    have hXl : w5.heap.size ≤ W1.heap.size ∧ some W1.heap.size ≠ v.ownBlock := ⟨hv.2.2.2.2.2.size, fun e => by have := (ownBlockL_lt hv.2.2.2.2.1.1 e).1; omega⟩
    clear hv hxP5 hrec
    obtain ⟨Xf, hXf⟩ : ∃ Xf, Xf = W1.heap.size := ⟨_, rfl⟩
    rw [← hXf] at hXl ⊢
    have HXL := Lib.hid hXl
    clear hXf hXl W1
    rintro W1 ⟨hJ, hf, hP⟩ hrec
    have hsz := HSZ.out
    have hl5 := HL5.out
    have hXl := HXL.out.1
    have b11 := hJ.2.1
    have b12 := hJ.2.2.1
    have p11w : W1.cell? ⟨w1.heap.size + 1, 0, none⟩ = some (.int .i64 p) := cell_of_row _ _ 0 _ _ _ b11
    have f11w : W1.frozen? ⟨w1.heap.size + 1, 0, none⟩ = false := frozen_of_row _ _ 0 _ _ b11
    have p12w : W1.cell? ⟨w1.heap.size + 1 + 1, 0, none⟩ = some (.int .i64 q) := cell_of_row _ _ 0 _ _ _ b12
    have f12w : W1.frozen? ⟨w1.heap.size + 1 + 1, 0, none⟩ = false := frozen_of_row _ _ 0 _ _ b12
    have p11d : W1.drew.cell? ⟨w1.heap.size + 1, 0, none⟩ = some (.int .i64 p) := cell_of_row _ _ 0 _ _ _ b11
    have f11d : W1.drew.frozen? ⟨w1.heap.size + 1, 0, none⟩ = false := frozen_of_row _ _ 0 _ _ b11
    have p12d : W1.drew.cell? ⟨w1.heap.size + 1 + 1, 0, none⟩ = some (.int .i64 q) := cell_of_row _ _ 0 _ _ _ b12
    have f12d : W1.drew.frozen? ⟨w1.heap.size + 1 + 1, 0, none⟩ = false := frozen_of_row _ _ 0 _ _ b12
    have F1 := FrameT.setCell W1.drew (w1.heap.size + 1) 0 (.int .i64 xt)
    have F2 := FrameT.setCell W1.drew (w1.heap.size + 1 + 1) 0 (.int .i64 (xc : Int))
    have F12 := FrameT.setCell (W1.drew.setCell ⟨w1.heap.size + 1, 0, none⟩ (.int .i64 xt)) (w1.heap.size + 1 + 1) 0 (.int .i64 (xc : Int))
    have F21 := FrameT.setCell (W1.drew.setCell ⟨w1.heap.size + 1 + 1, 0, none⟩ (.int .i64 (xc : Int))) (w1.heap.size + 1) 0 (.int .i64 xt)
    have hf1 := F1.get (show W1.drew.heap[Xf]? = _ from hf) (by omega)
    have hf2 := F2.get (show W1.drew.heap[Xf]? = _ from hf) (by omega)
    have hf12 := F12.get hf1 (by omega)
    have hf21 := F21.get hf2 (by omega)
    have hS0 : fsS Xf xt xc W1.drew := fsS_of hf
    have HS1 := Lib.hid (fsS_of hf1)
    have HS2 := Lib.hid (fsS_of hf2)
    have HS12 := Lib.hid (fsS_of hf12)
    have HS21 := Lib.hid (fsS_of hf21)
    have b12s := F1.get (show W1.drew.heap[w1.heap.size + 1 + 1]? = _ from b12) (by omega)
    have b11s := F2.get (show W1.drew.heap[w1.heap.size + 1]? = _ from b11) (by omega)
    have p12s : (W1.drew.setCell ⟨w1.heap.size + 1, 0, none⟩ (.int .i64 xt)).cell? ⟨w1.heap.size + 1 + 1, 0, none⟩ = some (.int .i64 q) := cell_of_row _ _ 0 _ _ _ b12s
    have f12s : (W1.drew.setCell ⟨w1.heap.size + 1, 0, none⟩ (.int .i64 xt)).frozen? ⟨w1.heap.size + 1 + 1, 0, none⟩ = false := frozen_of_row _ _ 0 _ _ b12s
    have p11s : (W1.drew.setCell ⟨w1.heap.size + 1 + 1, 0, none⟩ (.int .i64 (xc : Int))).cell? ⟨w1.heap.size + 1, 0, none⟩ = some (.int .i64 p) := cell_of_row _ _ 0 _ _ _ b11s
    have f11s : (W1.drew.setCell ⟨w1.heap.size + 1 + 1, 0, none⟩ (.int .i64 (xc : Int))).frozen? ⟨w1.heap.size + 1, 0, none⟩ = false := frozen_of_row _ _ 0 _ _ b11s
    have HPT := put_two (p' := xt) (q' := (xc : Int)) (show W1.drew.heap[w1.heap.size + 1]? = _ from b11) (show W1.drew.heap[w1.heap.size + 1 + 1]? = _ from b12)
    have HJA0 := fs_put xt (xc : Int) (show fsJ w5 W.heap.size w1.heap.size (w1.heap.size + 1) (w1.heap.size + 1 + 1) most L v p q pre W1.drew from fsJ_stab (Nat.le_refl _) _ _ hJ (Moves.below ((Below.refl _ _).drew))) ⟨hl5, by omega⟩ HPT.1.1 HPT.1.2.1 HPT.1.2.2
    have HJA := Lib.hid (And.intro HJA0.1 ((Rd.refl w5.heap.size (fun k => k = w1.heap.size + 3 ∨ k = w1.heap.size + 4) W1).drew.trans HJA0.2))
    clear HJA0
    have HJB0 := fs_put xt (xc : Int) (show fsJ w5 W.heap.size w1.heap.size (w1.heap.size + 1) (w1.heap.size + 1 + 1) most L v p q pre W1.drew from fsJ_stab (Nat.le_refl _) _ _ hJ (Moves.below ((Below.refl _ _).drew))) ⟨hl5, by omega⟩ HPT.2.1 HPT.2.2.1 HPT.2.2.2
    have HJB := Lib.hid (And.intro HJB0.1 ((Rd.refl w5.heap.size (fun k => k = w1.heap.size + 3 ∨ k = w1.heap.size + 4) W1).drew.trans HJB0.2))
    clear HJB0
    have HPA := Lib.hid (hP.frame ((FrameT.below (Below.refl _ _).drew).trans HPT.1.2.2) (fun k hk _ e => by omega))
    have HPB := Lib.hid (hP.frame ((FrameT.below (Below.refl _ _).drew).trans HPT.2.2.2) (fun k hk _ e => by omega))
    have HFA := Lib.hid hf12
    have HFB := Lib.hid hf21
    clear hJ hf hP b11 b12 F1 F2 F12 F21 hf1 hf2 hf12 hf21 b12s b11s HPT
    gi_wp2
    refine wpIn_of_heldF (S := fsS Xf xt xc) hmx (by kernel_rfl) ⟨_, rfl⟩ hS0 (fun hHeld => ?_)
    refine wpAnyH_take (i := 0) (v := .pointer (some ⟨Xf, 0, none⟩)) rfl (by kernel_rfl) (by kernel_rfl) (by kernel_rfl) (fun _ _ _ h => absurd h.1 (by simp)) (Or.inl ⟨by rfl, fun w hSw => by obtain ⟨s3, s4⟩ := hSw; go_simp⟩) hHeld ?_
    try simp only [Act.put, List.getElem_toArray, List.getElem_cons_succ, List.getElem_cons_zero, List.setIfInBounds_toArray, List.set_cons_zero, List.set_cons_succ]
    refine wpAnyH_take (i := 1) (v := .pointer (some ⟨Xf, 2, none⟩)) rfl (by kernel_rfl) (by kernel_rfl) (by kernel_rfl) (fun _ _ _ h => absurd h.1 (by simp)) (Or.inl ⟨by rfl, fun w hSw => by obtain ⟨s3, s4⟩ := hSw; go_simp⟩) hHeld ?_
    try simp only [Act.put, List.getElem_toArray, List.getElem_cons_succ, List.getElem_cons_zero, List.setIfInBounds_toArray, List.set_cons_zero, List.set_cons_succ]
    refine wpAnyH_take (i := 2) (v := .pointer (some ⟨Xf, 3, none⟩)) rfl (by kernel_rfl) (by kernel_rfl) (by kernel_rfl) (fun _ _ _ h => absurd h.1 (by simp)) (Or.inl ⟨by rfl, fun w hSw => by obtain ⟨s3, s4⟩ := hSw; go_simp⟩) hHeld ?_
    try simp only [Act.put, List.getElem_toArray, List.getElem_cons_succ, List.getElem_cons_zero, List.setIfInBounds_toArray, List.set_cons_zero, List.set_cons_succ]
    refine wpAnyH_take (i := 3) (v := .int .i64 xt) rfl (by kernel_rfl) (by kernel_rfl) (by kernel_rfl) (fun _ _ _ h => absurd h.1 (by simp)) (Or.inl ⟨by rfl, fun w hSw => by obtain ⟨s3, s4⟩ := hSw; go_simp⟩) hHeld ?_
    try simp only [Act.put, List.getElem_toArray, List.getElem_cons_succ, List.getElem_cons_zero, List.setIfInBounds_toArray, List.set_cons_zero, List.set_cons_succ]
    refine wpAnyH_take (i := 4) (v := .pointer (some ⟨Xf, 4, none⟩)) rfl (by kernel_rfl) (by kernel_rfl) (by kernel_rfl) (fun _ _ _ h => absurd h.1 (by simp)) (Or.inl ⟨by rfl, fun w hSw => by obtain ⟨s3, s4⟩ := hSw; go_simp⟩) hHeld ?_
    try simp only [Act.put, List.getElem_toArray, List.getElem_cons_succ, List.getElem_cons_zero, List.setIfInBounds_toArray, List.set_cons_zero, List.set_cons_succ]
    refine wpAnyH_take (i := 5) (v := .int .i64 (xc : Int)) rfl (by kernel_rfl) (by kernel_rfl) (by kernel_rfl) (fun _ _ _ h => absurd h.1 (by simp)) (Or.inl ⟨by rfl, fun w hSw => by obtain ⟨s3, s4⟩ := hSw; go_simp⟩) hHeld ?_
    try simp only [Act.put, List.getElem_toArray, List.getElem_cons_succ, List.getElem_cons_zero, List.setIfInBounds_toArray, List.set_cons_zero, List.set_cons_succ]
    refine wpAnyH_ready (rs := [6]) (by kernel_rfl) (by simp) ?_
    refine AllReadyH.cons rfl (fun K' hKK => ?_) AllReadyH.nil
    · go_simp
      refine hKK.out _ _ HS1.out (fun hHeld => ?_)
      clear hKK K'
      try simp only [Act.put, List.getElem_toArray, List.getElem_cons_succ, List.getElem_cons_zero, List.setIfInBounds_toArray, List.set_cons_zero, List.set_cons_succ]
      refine wpAnyH_ready (rs := [7]) (by kernel_rfl) (by simp) ?_
      refine AllReadyH.cons rfl (fun K' hKK => ?_) AllReadyH.nil
      go_simp
      refine hKK.out _ _ HS12.out (fun hHeld => ?_)
      clear hKK K'
      try simp only [Act.put, List.getElem_toArray, List.getElem_cons_succ, List.getElem_cons_zero, List.setIfInBounds_toArray, List.set_cons_zero, List.set_cons_succ]
      refine wpAnyH_done (by kernel_rfl) ?_ _
      refine onlyNormal_mk ?_
      have hz : fsJ w5 W.heap.size w1.heap.size (w1.heap.size + 1) (w1.heap.size + 1 + 1) most L v xt (xc : Int) pre ((W1.setCell ⟨w1.heap.size + 1, 0, none⟩ (.int .i64 xt)).setCell ⟨w1.heap.size + 1 + 1, 0, none⟩ (.int .i64 (xc : Int))).drew ∧ Rd w5.heap.size (fun k => k = w1.heap.size + 3 ∨ k = w1.heap.size + 4) W1 ((W1.setCell ⟨w1.heap.size + 1, 0, none⟩ (.int .i64 xt)).setCell ⟨w1.heap.size + 1 + 1, 0, none⟩ (.int .i64 (xc : Int))).drew := HJA.out
      have hP3 : PNew w5.heap.size ((W1.setCell ⟨w1.heap.size + 1, 0, none⟩ (.int .i64 xt)).setCell ⟨w1.heap.size + 1 + 1, 0, none⟩ (.int .i64 (xc : Int))).drew xa xlen xL := HPA.out
      have hF3 : (((W1.setCell ⟨w1.heap.size + 1, 0, none⟩ (.int .i64 xt)).setCell ⟨w1.heap.size + 1 + 1, 0, none⟩ (.int .i64 (xc : Int))).drew).heap[Xf]? = some (.cells #[.int .i64 xq, .slice xa xlen xcap, .int .i64 xs, .int .i64 xt, .int .i64 (xc : Int)] 81 (0, 0)) := HFA.out
      clear hsz p11w f11w p12w f12w p11d f11d p12d f12d p12s f12s p11s f11s hHeld hS0
      generalize ((W1.setCell ⟨w1.heap.size + 1, 0, none⟩ (.int .i64 xt)).setCell ⟨w1.heap.size + 1 + 1, 0, none⟩ (.int .i64 (xc : Int))).drew = W3 at hz hP3 hF3 ⊢
      obtain ⟨hJ3, hR3⟩ := hz
      have hpl : (pre.map Prod.fst).length = pre.length := List.length_map ..
      have hpL : pre.length < 1000000 := by have := HX0.out; have := HLL.out; omega
      obtain ⟨va, vc, rfl, hvc, hFN⟩ := hJ3.2.2.2.2.1.out (by omega)
      rw [hpl] at hJ3
      have k10 : W3.cell? ⟨w1.heap.size, 0, none⟩ = some (.slice va pre.length vc) := cell_of_row _ _ 0 _ _ _ hJ3.1
      have k12 : W3.cell? ⟨w1.heap.size + 1 + 1, 0, none⟩ = some (.int .i64 (xc : Int)) := cell_of_row _ _ 0 _ _ _ hJ3.2.2.1
      have k5 : W3.cell? ⟨W.heap.size, 0, none⟩ = some (.int .i64 most) := cell_of_row _ _ 0 _ _ _ hJ3.2.2.2.1
      have y0 : W3.cell? ⟨Xf, 0, none⟩ = some (.int .i64 xq) := cell_of_row _ _ 0 _ _ _ hF3
      have y1 : W3.cell? ⟨Xf, 1, none⟩ = some (.slice xa xlen xcap) := cell_of_row _ _ 1 _ _ _ hF3
      have y2 : W3.cell? ⟨Xf, 2, none⟩ = some (.int .i64 xs) := cell_of_row _ _ 2 _ _ _ hF3
      have y3 : W3.cell? ⟨Xf, 3, none⟩ = some (.int .i64 xt) := cell_of_row _ _ 3 _ _ _ hF3
      have HJ3 := Lib.hid hJ3
      have HR3 := Lib.hid hR3
      have HP3 := Lib.hid hP3
      have h1x : ∀ h : pre.length < L.length, xt = L[pre.length].t ∧ xc = 1 := fun h => ⟨by rw [← (HX1.out h).1]; rfl, (HX1.out h).2⟩
      have HE := Lib.hid (fun (hst : xc ≠ 1 ∨ most ≤ (pre.length : Int)) => fsX_of HJ3.out HK2.out h1x HX2.out hst HCC.out)
      have HXO2 := Lib.hid (show Off (.slice va pre.length vc) (⟨xq, xa, xlen, xcap, xL, xs, xt⟩ : FV) from by have := HXO.out; rwa [hpl] at this)
      clear hJ3 hR3 hP3 hF3 hFN hpl h1x
      by_cases hxc : xc = 1
      · have hlt : pre.length < L.length := by
          have := HX0.out
          rcases Nat.lt_or_ge pre.length L.length with h | h
          · exact h
          · have := (HX2.out (by omega)).2; have := HCC.out; omega
        have HLT := Lib.hid hlt
        have HXC := Lib.hid hxc
        have hxc' : (xc : Int) = 1 := by omega
        by_cases hml : most ≤ (pre.length : Int)
        · have HE2 := Lib.hid (HE.out (.inr hml))
          clear hxc hlt
          gi_wp2
          exact ⟨⟨HR3.out.os, HR3.out.tape, HR3.out.output, HR3.out.size, fun k o ho hc => HR3.out.block k o ho (.inr (hc.resolve_left (fun h => h)))⟩, rfl, HE2.out⟩
        · have hml' : (pre.length : Int) < most := by omega
          have HML := Lib.hid hml'
          have hrow := HJ3.out.2.2.2.2.1.1
          rw [List.length_map] at hrow
          have hsz3 : w5.heap.size ≤ W3.heap.size := HJ3.out.2.2.2.2.2.size
          clear hxc hlt
          gi_wp2_with (gi_at_builtin; refine wpListIn_append_at _ rfl _ _ 28 rfl w5.heap.size 39 i0 (.agg #[.int .i64 0, .slice none 0 0, .int .i64 0, .int .i64 0]) 4 48 Try.underlying28 hi hz0 hz1 hz2 rfl (by decide) _ _ _ rfl (hrow.alloc _) ⟨W3.heap.size, 0, none⟩ 1 1 [.int .i64 xq, .slice xa xlen xcap, .int .i64 xs, .int .i64 xt] rfl rfl (news_new _ _ _) (by simp [Value.oneCell']) (by unfold maxLen; omega) (by omega) (by simp; omega) ?_; intro v' w9 hown' hgrow hnew; obtain ⟨g', cap', rfl⟩ := ownsRow_succ hown'; obtain ⟨cx9, fx9, hJ9, hR9⟩ := fs_app (x := ((⟨xq, xa, xlen, xcap, xL, xs, xt⟩ : FV), xc)) HJ3.out ⟨HL5.out, by have := HSZ.out; omega⟩ ⟨HP3.out, HXO2.out⟩ (by rw [List.length_map]; exact hown') hgrow hnew (by have := HSZ.out; omega); have HJ9 := Lib.hid hJ9; have HR9 := Lib.hid hR9; clear hJ9 hR9)
          refine ⟨HR3.out.trans HR9.out, ⟨_, _, _, HJ9.out⟩, ?_, ?_, ?_⟩
          · rw [List.length_append]; have := HLT.out; simp; omega
          · intro _; rw [List.length_append]; have := HML.out; simp; omega
          · rw [List.length_append, List.map_append, List.map_append, HK2.out.2.2, List.length_singleton, List.take_succ_eq_append_getElem HLT.out, ← (HX1.out HLT.out).1]; rfl
      · have HE2 := Lib.hid (HE.out (.inl hxc))
        have hxc' : ¬ (xc : Int) = 1 := by omega
        clear hxc
        gi_wp2
        exact ⟨⟨HR3.out.os, HR3.out.tape, HR3.out.output, HR3.out.size, fun k o ho hc => HR3.out.block k o ho (.inr (hc.resolve_left (fun h => h)))⟩, rfl, HE2.out⟩
  case hd =>
    rintro xs Wd hF ⟨_, hk2⟩ hD
    exfalso
    have := hk2.1
    omega
  case hs =>
    rintro cc pre x Wd ⟨rfl, v, M, b10, b11, b12, hgI, hF, hMl, hMc⟩ hD
    have hkL : mostN most L.length ≤ L.length := by unfold mostN; omega
    obtain ⟨va, vcap, rfl, hvc, hFN⟩ := hgI.out (by have := HLL.out; omega)
    rw [hMl] at b10 hvc hFN
    have c10 : Wd.cell? ⟨w1.heap.size, 0, none⟩ = some (.slice va (mostN most L.length) vcap) := cell_of_row _ _ 0 _ _ _ b10
    have c11 : Wd.cell? ⟨w1.heap.size + 1, 0, none⟩ = some (.int .i64 (atP L e (mostN most L.length))) := cell_of_row _ _ 0 _ _ _ b11
    have c12 : Wd.cell? ⟨w1.heap.size + 1 + 1, 0, none⟩ = some (.int .i64 ((clP L c (mostN most L.length) : Nat) : Int)) := cell_of_row _ _ 0 _ _ _ b12
    have HFN := Lib.hid hFN
    have HF := Lib.hid hF
    have HVC := Lib.hid hvc
    have HMC := Lib.hid hMc
    have HD := Lib.hid hD
    clear hgI hF hMl hMc b10 b11 b12 hkL hFN hvc hD
    gi_wp2
    have d10 : Wd.drew.cell? ⟨w1.heap.size, 0, none⟩ = some (.slice va (mostN most L.length) vcap) := c10
    have d11 : Wd.drew.cell? ⟨w1.heap.size + 1, 0, none⟩ = some (.int .i64 (atP L e (mostN most L.length))) := c11
    have d12 : Wd.drew.cell? ⟨w1.heap.size + 1 + 1, 0, none⟩ = some (.int .i64 ((clP L c (mostN most L.length) : Nat) : Int)) := c12
    gi_region
    all_goals
      gi_wp2
      refine leave_one (show Wd.drew.heap[w5.heap.size]? = _ from HD.out) (results_tmp3 rfl _ _ _) ⟨va, vcap, M, rfl, ?_, HVC.out, HMC.out, ?_⟩
      · exact (fNew_stab (B := w5.heap.size) _ _ (fNew_stab (B := w5.heap.size) _ _ HFN.out (Moves.below ((Below.refl _ _).drew))) (Moves.putObj _ _ (Nat.le_refl _) (show Wd.drew.heap[w5.heap.size]? = _ from HD.out) rfl)).mono HBW5.out.size
      · have h1 := HBW5.out.trans (HF.out.toBelow HBW5.out.size (fun k hk => by have := HL5.out; omega))
        have h2 := (frame_putD Wd.drew w5.heap.size (.deferred none)).toBelow (n := W.heap.size) (by have := h1.size; exact this) (fun k hk => by have := HBW5.out.size; omega)
        exact (h1.drew).trans h2

end Go.Proofs.Ytflaanffjjidaaa

/- scan.First where the head is not whole; scan.All; the law's segments. -/
namespace Go.Proofs.Ytflaanffjjidaaa
open Go.RowKit Go.Shelf
set_option linter.unusedVariables false
set_option linter.unusedSimpArgs false
attribute [local go_sem] Oper.semAt_some wide_fn wide_round_fn

set_option maxRecDepth 100000 in
set_option maxHeartbeats 4000000 in
theorem first_bad (s : ByteArray) (hs : s.size < 4611686018427387904) (id most : Int) (z : Int) (hz : chkM s.data.toList (headS (heldN id)).data.toList = z) (h1 : z ≠ 1) (W : World) :
    Gives Try.prog 13 #[.string s, .int .i64 id, .int .i64 most] W (.tuple #[.slice none 0 0, .int .i64 0, .int .i64 z]) := by
  have GH := Lib.hid (fun W => (show Gives Try.prog 27 #[.string s, .int .i64 id] W (.int .i64 z) from hz ▸ headCheck_any s (by omega) id W))
  clear hz
  have hBm := bel_alloc (Below.refl W.heap.size W) (.cells #[.int .i64 most] 3)
  unfold Gives
  refine (callsIn_wide (n := 9)).1 ?_
  refine callsIn_of_wp_marks Try.func13 rfl trivial ?_ rfl
  simp only [Try.ntmps13, List.size_toArray, List.length_cons, List.length_nil, Nat.reduceAdd, Nat.reduceSub, Array.replicate_succ, Array.replicate_zero, List.push_toArray, List.append_toArray, List.nil_append, List.cons_append]
  gi_wp2
  refine wpIn_scope_wide ?_
  gi_wp2_with (first
    | (gi_at_call 27; refine (callsIn_wide.2 (GH.out _)).mono ?_; rintro e1 w1 ⟨rfl, hB1⟩))
  exact ⟨_, results_tmp3 rfl _ _ _, rfl, bel2 hBm hB1⟩
theorem mostN_all (n : Nat) (h : n < 1000000) : mostN 9223372036854775807 n = n := by unfold mostN; omega
theorem atP_all (L : List FC) (e : Nat) : atP L e L.length = (e : Int) := by unfold atP; rw [dif_neg (by omega)]
theorem clP_all (L : List FC) (c : Nat) : clP L c L.length = c := by unfold clP; rw [if_neg (by omega)]
/-- All that a segment holds. -/
def AllPostS (L : List FC) (e c : Nat) (W : World) (x : Ending) (w' : World) : Prop :=
  ∃ (a : Option Addr) (cap : Nat) (M : List FV), x = .returned (.tuple #[.slice a L.length cap, .int .i64 (e : Int), .int .i64 (c : Int)]) ∧ FNew W.heap.size w' a L.length M ∧ L.length ≤ cap ∧ M.map fcore = L ∧ Below W.heap.size W w'
set_option maxRecDepth 100000 in
theorem all_whole (s : ByteArray) (hs : s.size < 4611686018427387904) (id : Int) (L : List FC) (e c : Nat) (hh : chkM s.data.toList (headS (heldN id)).data.toList = 1) (hS : Scn s id 16 L e c) (h16 : 16 ≤ s.size) (hL : L.length < 1000000) (W : World) :
    Calls Try.prog 11 #[.string s, .int .i64 id] W (AllPostS L e c W) := by
  have GF := Lib.hid (fun W => (show Calls Try.prog 13 #[.string s, .int .i64 id, .int .i64 9223372036854775807] W (AllPostS L e c W) from by
    refine (first_any s hs id 9223372036854775807 L e c hh hS h16 hL W).mono ?_
    rw [mostN_all _ hL]
    rintro x w' ⟨a, cap, M, h1, h2, h3, h4, h5⟩
    exact ⟨a, cap, M, by rw [h1, atP_all, clP_all], h2, h3, by rw [h4, List.take_length], h5⟩))
  clear hh hS
  go_enter Try.func11, Try.ntmps11
  go_wp2_with (go_at_call 13; ((with_reducible refine (GF.out _).mono ?_); rintro x w1 ⟨a, cap, M, rfl, h2, h3, h4, h5⟩; have H := Lib.hid (And.intro h2 (And.intro h3 (And.intro h4 h5))); clear h2 h3 h4 h5))
  go_ret3
  exact ⟨a, cap, M, rfl, H.out.1, H.out.2.1, H.out.2.2.1, H.out.2.2.2⟩
set_option maxRecDepth 100000 in
theorem all_bad (s : ByteArray) (hs : s.size < 4611686018427387904) (id : Int) (z : Int) (hz : chkM s.data.toList (headS (heldN id)).data.toList = z) (h1 : z ≠ 1) (W : World) :
    Gives Try.prog 11 #[.string s, .int .i64 id] W (.tuple #[.slice none 0 0, .int .i64 0, .int .i64 z]) := by
  have GF := Lib.hid (fun W => first_bad s hs id 9223372036854775807 z hz h1 W)
  clear hz
  unfold Gives
  go_enter Try.func11, Try.ntmps11
  go_wp2_with (go_at_call 13; ((with_reducible refine (GF.out _).mono ?_); rintro x w1 ⟨rfl, h5⟩; have H := Lib.hid h5; clear h5))
  go_ret3
  exact ⟨rfl, H.out⟩

/-! ### The law's segments. -/
theorem laidL_app (R S : List RL) : laidL (R ++ S) = laidL R ++ laidL S := by
  induction R with
  | nil => exact (ba_nil_app _).symm
  | cons x R ih => show recS x.1.s x.2 ++ laidL (R ++ S) = recS x.1.s x.2 ++ laidL R ++ laidL S; rw [ih, ba_assoc]
theorem laidL_take {L : List RL} {k : Nat} (hk : k < L.length) : laidL (L.take (k + 1)) = laidL (L.take k) ++ recS L[k].1.s L[k].2 := by
  rw [List.take_succ_eq_append_getElem hk, laidL_app]
  show _ ++ (recS L[k].1.s L[k].2 ++ (⟨#[]⟩ : ByteArray)) = _
  rw [ba_app_nil]
theorem anyR_take {L : List RL} {k : Nat} (hk : k < L.length) : (anyR (L.take (k + 1))).length = (anyR (L.take k)).length + if recB L[k].1.s L[k].2 = true then 1 else 0 := by
  unfold anyR
  rw [List.take_succ_eq_append_getElem hk, List.filter_append, List.length_append]
  congr 1
  by_cases h : recB L[k].1.s L[k].2 = true
  · rw [if_pos h, List.filter_cons_of_pos (by exact h)]; rfl
  · rw [if_neg h, List.filter_cons_of_neg (by exact h)]; rfl
theorem laidL_size : ∀ (R : List RL), (∀ x ∈ R, ∀ y ∈ x.2, y.2.length = y.1.len) → (laidL R).size ≤ 1962 * R.length
  | [], _ => Nat.le_refl _
  | x :: R, h => by
    have ih := laidL_size R (fun y hy => h y (List.mem_cons_of_mem _ hy))
    have e : laidL (x :: R) = recS x.1.s x.2 ++ laidL R := rfl
    rw [e, ByteArray.size_append, List.length_cons]
    by_cases hx : recB x.1.s x.2 = true
    · have := (recS_len (h x List.mem_cons_self) hx).2.1; omega
    · have h0 : (recS x.1.s x.2).size = 0 := by rw [recS_no (by simpa using hx)]; rfl
      omega
set_option maxRecDepth 100000 in
set_option maxHeartbeats 4000000 in
theorem laid11_any (a : Option Addr) (len cap : Nat) (L : List RL) (id : Int) (w : World) (hL : L.length = len) (hm : len ≤ 1000) (hr : RowV w a len 2 (recCells L)) (hp : ∀ x ∈ L, HasP w x.1.a x.1.len x.2) :
    Gives Try.prog 10 #[.slice a len cap, .int .i64 id] w (.tuple #[.string (headS (heldN id) ++ laidL L), .int .i64 ((anyR L).length : Int)]) := by
  have hcs := hr.2.2
  have GHd := Lib.hid (fun W => refHead_any id W)
  have HL := Lib.hid hL
  have HP := Lib.hid hp
  have HEn := Lib.hid (fun (x : RL) (hx : x ∈ L) (y : PL) (hy : y ∈ x.2) => (((hp x hx).2.2.2 y hy).1 : y.2.length = y.1.len))
  have hz := headS_size (heldN id)
  obtain ⟨h, hh⟩ : ∃ h, h = headS (heldN id) := ⟨_, rfl⟩
  rw [← hh] at GHd hz ⊢
  clear hr hp hL hh
  unfold Gives
  go_enter Try.func10, Try.ntmps10
  go_wp2_with (go_at_call 24; ((with_reducible refine (GHd.out _).mono ?_); rintro x w1 ⟨rfl, hB1⟩))
  go_loopw [6, 7, 8] (fun sv nv iv wr => ∃ k : Nat, k ≤ len ∧ iv = .int .i64 k ∧ sv = .string (h ++ laidL (L.take k)) ∧ nv = .int .i64 ((anyR (L.take k)).length : Int) ∧ Below w.heap.size w wr) (fun _ _ iv _ => len - (intOf iv).toNat)
  case atStart => exact ⟨0, by omega, rfl, by show _ = Value.string (h ++ (⟨#[]⟩ : ByteArray)); rw [ba_app_nil], rfl, hB1⟩
  case round =>
    clear hB1
    obtain ⟨k, hk, rfl, rfl, rfl, hB⟩ := hrel
    by_cases hlt : k < len
    · obtain ⟨b, off, rfl, hb, hx⟩ := hcs (by omega)
      have hkl : k < L.length := by rw [HL.out]; exact hlt
      obtain ⟨c0, c1⟩ := rec_at hb hB hx hkl
      have HT := Lib.hid (laidL_take hkl)
      have HA := Lib.hid (anyR_take hkl)
      have hs1 : (laidL (L.take k)).size ≤ 1962000 := by
        have := laidL_size (L.take k) (fun x hx => HEn.out x (List.mem_of_mem_take hx))
        rw [List.length_take] at this
        omega
      have hcnt : (anyR (L.take k)).length ≤ k := by
        have : (anyR (L.take k)).length ≤ (L.take k).length := List.length_filter_le _ _
        rw [List.length_take] at this
        omega
      have GB := Lib.hid (fun W (hW : Below w.heap.size w W) => refRecBytes_any L[k].1.s L[k].1.a L[k].1.len L[k].1.cap L[k].2 W ((HP.out L[k] (List.getElem_mem hkl)).below hW))
      have hEk := HEn.out L[k] (List.getElem_mem hkl)
      obtain ⟨S, hS⟩ : ∃ S, S = laidL (L.take k) := ⟨_, rfl⟩
      obtain ⟨T, hT⟩ : ∃ T, T = laidL (L.take (k + 1)) := ⟨_, rfl⟩
      obtain ⟨m, hm'⟩ : ∃ m, m = (anyR (L.take k)).length := ⟨_, rfl⟩
      obtain ⟨n, hn'⟩ : ∃ n, n = (anyR (L.take (k + 1))).length := ⟨_, rfl⟩
      rw [← hS] at hs1 HT ⊢
      rw [← hT] at HT
      rw [← hm'] at hcnt HA ⊢
      rw [← hn'] at HA
      have HTT := Lib.hid hT
      have HNN := Lib.hid hn'
      clear hS hT hm' hn' hx
      generalize L[k] = x at *
      obtain ⟨⟨xs, xa, xlen, xcap⟩, xL⟩ := x
      dsimp only at *
      have hsz : (h ++ S).size = 16 + S.size := by rw [ByteArray.size_append, hz]
      cases hr : recB xs xL
      · have h0 : recS xs xL = ⟨#[]⟩ := recS_no hr
        rw [recE_no hr, h0] at GB
        have HT2 := Lib.hid (show T = S by rw [HT.out, h0, ba_app_nil])
        have HA2 := Lib.hid (show n = m by rw [HA.out, if_neg (by rw [hr]; decide)]; rfl)
        clear hr h0 hsz
        go_wp2_with (go_at_call 25; ((with_reducible refine (GB.out _ hB).mono ?_); rintro x w2 ⟨rfl, hB2⟩; have hX2 := bel2 hB hB2))
        go_roundw
        case rel => exact ⟨k + 1, by omega, by go_num, by rw [← HTT.out, HT2.out], by rw [← HNN.out, HA2.out], hX2⟩
        case measure => simp [intOf]; omega
      · have hl := (recS_len hEk hr).2.1
        rw [recE_ok hr] at GB
        have HT2 := Lib.hid (show h ++ S ++ recS xs xL = h ++ T by rw [HT.out, ba_assoc])
        have HA2 := Lib.hid (show n = m + 1 by rw [HA.out, if_pos hr])
        have hnb : ¬ 9223372036854775807 < (h ++ S).size + (recS xs xL).size := by omega
        have hw9 : IntKind.i64.wrap ((m : Int) + 1) = ((m + 1 : Nat) : Int) := (IntWalk.i64_in _ (by omega)).trans (by push_cast; rfl)
        clear hr hsz
        generalize recS xs xL = y at *
        go_wp2_with (go_at_call 25; ((with_reducible refine (GB.out _ hB).mono ?_); rintro x w2 ⟨rfl, hB2⟩; have hX2 := bel2 hB hB2))
        go_roundw
        case rel => exact ⟨k + 1, by omega, by go_num, by rw [← HTT.out, HT2.out], by rw [← HNN.out, HA2.out]; push_cast; rfl, hX2⟩
        case measure => simp [intOf]; omega
    · obtain rfl : k = len := by omega
      rw [List.take_of_length_le (by rw [HL.out]; exact Nat.le_refl _)]
      go_wp2
      go_ret2
      exact ⟨rfl, hB⟩

end Go.Proofs.Ytflaanffjjidaaa

/- What the laws of layer 11 hold by themselves: the example; heads as lists. -/
namespace Go.Proofs.Ytflaanffjjidaaa
open Go.RowKit Go.Shelf
set_option linter.unusedVariables false
set_option linter.unusedSimpArgs false
attribute [local go_sem] Oper.semAt_some wide_fn wide_round_fn

theorem hd_len (n : Nat) : (headS n).data.toList.length = 16 := by rw [ba_size]; exact headS_size n
theorem chk_same (n : Nat) (t : ByteArray) : chkM (headS n ++ t).data.toList (headS n).data.toList = 1 := by
  have h := hd_len n
  refine hchk_whole ?_ ?_
  · rw [ba_toList, List.length_append, Nat.min_eq_right (by omega), List.take_left', List.take_of_length_le (Nat.le_refl _)]
    rfl
  · rw [ba_toList, List.length_append]; omega
theorem chk_other {n m : Nat} (hn : n < 4294967296) (hm : m < 4294967296) (hne : n ≠ m) (t : ByteArray) : chkM (headS n ++ t).data.toList (headS m).data.toList = 4 := by
  have h := hd_len n
  have h2 := hd_len m
  refine hchk_bad ?_
  rw [ba_toList, List.length_append, Nat.min_eq_right (by omega), h2, List.take_left' h, List.take_of_length_le (by omega)]
  exact fun e => hne (headS_inj hn hm e)
theorem chk_cut (n : Nat) (t : ByteArray) (k : Nat) (hk : k < 16) : chkM ((headS n ++ t).extract 0 k).data.toList (headS n).data.toList = 3 := by
  have h := hd_len n
  have e : ((headS n ++ t).extract 0 k).data.toList = (headS n).data.toList.take k := by
    rw [(fun y : ByteArray => (by simp : (y.extract 0 k).data.toList = y.data.toList.take k)) (headS n ++ t), ba_toList, List.take_append_of_le_length (by omega)]
  rw [e]
  refine hchk_torn ?_ ?_
  · rw [List.length_take, Nat.min_eq_left (by omega), List.take_take, Nat.min_eq_left (by omega)]
  · rw [List.length_take]; omega
def bq11 : PartC := ⟨5, 5, none, 0, 0, 0, 0, 0, 0, 0, false, false⟩
def k11R (b : Nat) : RL := (⟨1, some ⟨b, 0, none⟩, 1, 1⟩, [(bq11, [])])
theorem k11_B : recB 1 [(bq11, [])] = true := by kernel_rfl
theorem k11_size : (recS 1 [(bq11, [])]).size = 16 := by
  have h := (recS_len (s := 1) (L := [(bq11, [])]) (fun x hx => by rw [List.mem_singleton.1 hx]; rfl) k11_B).2.2
  have h2 : (bodyS 1 [(bq11, [])]).size = 4 := by kernel_rfl
  omega
theorem k11_S (b : Nat) : (headS 3 ++ laidL [k11R b]).size = 32 := by
  rw [ByteArray.size_append, headS_size]
  show 16 + (recS 1 [(bq11, [])] ++ (⟨#[]⟩ : ByteArray)).size = 32
  rw [ba_app_nil, k11_size]
def k11C : FC := ⟨1, [core (bq11, [])], 3, 16⟩
theorem k11_scn (b : Nat) : Scn (headS 3 ++ laidL [k11R b]) 3 16 [k11C] 32 2 := by
  have h := scn_laid 3 [k11R b] (headS 3) (fun x hx y hy => by
    rw [List.mem_singleton.1 hx] at hy
    rw [List.mem_singleton.1 hy]; rfl)
  rw [k11_S, headS_size] at h
  have e : fcR 3 16 [k11R b] = [k11C] := by
    show (if recB 1 [(bq11, [])] = true then _ else _) = _
    rw [if_pos k11_B]; rfl
  rwa [e] at h
theorem k11_any (b : Nat) : (anyR [k11R b]).length = 1 := by
  unfold anyR
  rw [show List.filter (fun x : RL => recB x.1.s x.2) [k11R b] = [k11R b] from List.filter_cons_of_pos k11_B]
  rfl
theorem k11_rows (w : World) : RowV ((w.alloc (.cells #[.int .i64 5, .int .i64 5, .slice none 0 0, .int .i64 0, .int .i64 0, .int .i64 0, .int .i64 0, .int .i64 0, .bool false, .bool false] 70)).alloc (.cells #[.int .i64 1, .slice (some ⟨w.heap.size, 0, none⟩) 1 1] 37)) (some ⟨w.heap.size + 1, 0, none⟩) 1 2 (recCells [k11R w.heap.size]) ∧
    HasP ((w.alloc (.cells #[.int .i64 5, .int .i64 5, .slice none 0 0, .int .i64 0, .int .i64 0, .int .i64 0, .int .i64 0, .int .i64 0, .bool false, .bool false] 70)).alloc (.cells #[.int .i64 1, .slice (some ⟨w.heap.size, 0, none⟩) 1 1] 37)) (some ⟨w.heap.size, 0, none⟩) 1 [(bq11, [])] := by
  have hr := rowV_new (w.alloc (.cells #[.int .i64 5, .int .i64 5, .slice none 0 0, .int .i64 0, .int .i64 0, .int .i64 0, .int .i64 0, .int .i64 0, .bool false, .bool false] 70)) 37 #[.int .i64 1, .slice (some ⟨w.heap.size, 0, none⟩) 1 1] 1 2 rfl (by decide)
  rw [World.size_alloc] at hr
  refine ⟨hr, HasP.below ⟨rfl, by decide, rowV_new w 70 _ 1 10 rfl (by decide), fun y hy => ?_⟩ (bel_alloc (Below.refl _ _) _)⟩
  rw [List.mem_singleton.1 hy]; exact hasE_nil rfl rfl
theorem one_of_mapF {L : List FV} {c : FC} (h : L.map fcore = [c]) : ∃ x, L = [x] ∧ fcore x = c := by
  match L, h with
  | [x], h => exact ⟨x, rfl, by simpa using h⟩
set_option maxRecDepth 100000 in
set_option maxHeartbeats 8000000 in
theorem known11_any (w : World) : Gives Try.prog 8 #[] w (.bool true) := by
  have hBl := bel_alloc (bel_alloc (Below.refl w.heap.size w) (.cells #[.int .i64 5, .int .i64 5, .slice none 0 0, .int .i64 0, .int .i64 0, .int .i64 0, .int .i64 0, .int .i64 0, .bool false, .bool false] 70)) (.cells #[.int .i64 1, .slice (some ⟨w.heap.size, 0, none⟩) 1 1] 37)
  obtain ⟨hr, hp⟩ := k11_rows w
  obtain ⟨S, hS⟩ : ∃ S, S = headS 3 ++ laidL [k11R w.heap.size] := ⟨_, rfl⟩
  have hz : S.size = 32 := hS ▸ k11_S _
  have h1 : chkM S.data.toList (headS (heldN 3)).data.toList = 1 := by rw [hS]; exact chk_same 3 _
  have h2 : chkM S.data.toList (headS (heldN 4)).data.toList = 4 := by rw [hS]; exact chk_other (n := 3) (m := 4) (by decide) (by decide) (by decide) _
  have hc : Scn S 3 16 [k11C] 32 2 := hS ▸ k11_scn _
  have GL := Lib.hid (show Gives Try.prog 10 #[.slice (some ⟨w.heap.size + 1, 0, none⟩) 1 1, .int .i64 3] _ (.tuple #[.string S, .int .i64 1]) from by
    have := laid11_any (some ⟨w.heap.size + 1, 0, none⟩) 1 1 [k11R w.heap.size] 3 _ rfl (by decide) hr (fun x hx => by rw [List.mem_singleton.1 hx]; exact hp)
    rw [show headS (heldN 3) ++ laidL [k11R w.heap.size] = S from hS.symm, k11_any] at this
    exact this)
  have GA := Lib.hid (fun W => all_whole S (by omega) 3 [k11C] 32 2 h1 hc (by omega) (by decide) W)
  have GB := Lib.hid (fun W => all_bad S (by omega) 4 4 h2 (by decide) W)
  have GF := Lib.hid (fun W => (show Calls Try.prog 13 #[.string S, .int .i64 3, .int .i64 0] W (fun e w' => ∃ a c, e = .returned (.tuple #[.slice a 0 c, .int .i64 16, .int .i64 1]) ∧ Below W.heap.size W w') from
    (first_any S (by omega) 3 0 [k11C] 32 2 h1 hc (by omega) (by decide) W).mono fun e w' ⟨a, cap, M, q1, q2, q3, q4, q5⟩ => ⟨a, cap, q1, q5⟩))
  clear hr hp hS hz h1 h2 hc
  unfold Gives
  go_enter Try.func8, Try.ntmps8
  go_wp2_with (first
    | (go_at_call 10; ((with_reducible refine GL.out.mono ?_); rintro e w1 ⟨rfl, hB1⟩; have hX1 := bel2 hBl hB1))
    | (go_at_call 11; ((with_reducible refine (GA.out _).mono ?_); rintro e w2 ⟨a, cap, M, rfl, hN, hcp, hM, hB2⟩; have hX2 := bel2 hX1 hB2; have HN := Lib.hid hN; have HM := Lib.hid hM; clear hN hM hcp))
    | (go_at_call 13; ((with_reducible refine (GF.out _).mono ?_); rintro e w3 ⟨a3, c3, rfl, hB3⟩; have hX3 := bel2 hX2 hB3))
    | (go_at_call 11; ((with_reducible refine (GB.out _).mono ?_); rintro e w4 ⟨rfl, hB4⟩; have hX4 := bel2 hX3 hB4; obtain ⟨x, hMx, hfx⟩ := one_of_mapF HM.out; have hN4 := HN.out.below (bel2 hB3 hB4); rw [hMx] at hN4; obtain ⟨b, off, rfl, hb, hx⟩ := hN4.2.2.1.2.2 (Nat.zero_lt_one); obtain ⟨y0, y1, y2, y3⟩ := fv_at4 hb (Below.refl _ _) hx (k := 0) (Nat.zero_lt_one); simp only [List.getElem_cons_zero, Nat.zero_mul, Nat.add_zero] at y0 y1 y2 y3; rw [show x.q = 1 from congrArg FC.q hfx] at y0; rw [show x.s = 3 from congrArg FC.s hfx] at y2; rw [show x.t = 16 from congrArg FC.t hfx] at y3; clear hN4 hx hfx hMx)))
  go_ret
  exact ⟨rfl, hX4⟩

end Go.Proofs.Ytflaanffjjidaaa

/- What the laws of layer 11 share: records that came in and are few; the found records' rows. -/
namespace Go.Proofs.Ytflaanffjjidaaa
open Go.RowKit Go.Shelf
set_option linter.unusedVariables false

theorem recs_at {w : World} {a : Option Addr} {len cap : Nat} {L : List RL} (hL : L.length = len) (hg : ∀ x ∈ L, GoodR w x.1 x.2) (hf : fewRs L = true) : (∀ x ∈ L, HasP w x.1.a x.1.len x.2) ∧ len ≤ 15 := by
  simp only [fewRs, Bool.and_eq_true, decide_eq_true_eq] at hf
  refine ⟨fun x hx => ?_, by omega⟩
  obtain ⟨_, g1, g2, g3, g4⟩ := hg x hx
  have h1 := List.all_eq_true.1 hf.1 x hx
  simp only [few11P, Bool.and_eq_true, decide_eq_true_eq] at h1
  exact ⟨g1, by omega, g3, fun y hy => (g4 y hy).has11 (List.all_eq_true.1 h1.1 y hy)⟩
theorem good_below {w W : World} {x : RL} (h : GoodR w x.1 x.2) (hB : Below w.heap.size w W) : GoodR W x.1 x.2 :=
  ⟨h.1, h.2.1, h.2.2.1, h.2.2.2.1.below hB, fun y hy => ⟨(h.2.2.2.2 y hy).1, (h.2.2.2.2 y hy).2.1, (h.2.2.2.2 y hy).2.2.1.below hB, (h.2.2.2.2 y hy).2.2.2⟩⟩
theorem few11_call {w : World} {a : Option Addr} {len : Nat} (cap : Nat) {L : List RL} (hL : L.length = len) (hr : RowV w a len 2 (recCells L)) (hg : ∀ x ∈ L, GoodR w x.1 x.2) (W : World) (hW : Below w.heap.size w W) : Gives Try.prog 9 #[.slice a len cap] W (.bool (fewRs L)) :=
  fewRs11_any a len cap L W hL (hr.below hW) (fun x hx => good_below (hg x hx) hW)
theorem rowF_take {W : World} {a : Option Addr} {n k : Nat} {M : List FV} (h : RowV W a n 4 (fvCells M)) (hM : M.length = n) (hk : k ≤ n) : RowV W a k 4 (fvCells (M.take k)) := by
  have hl : (fvCells (M.take k)).length = k * 4 := by
    have : ∀ K : List FV, (fvCells K).length = K.length * 4 := fun K => by
      induction K with
      | nil => rfl
      | cons x K ih =>
        have e : fvCells (x :: K) = x.arr.toList ++ fvCells K := rfl
        have h2 := @List.length_cons _ x K
        rw [e, List.length_append, ih, h2]
        show 4 + _ = _
        omega
    rw [this, List.length_take, Nat.min_eq_left (by omega)]
  have hp : fvCells M = fvCells (M.take k) ++ fvCells (M.drop k) := by
    unfold fvCells
    rw [← List.flatten_append, ← List.map_append, List.take_append_drop]
  refine ⟨hl, Nat.le_trans hk h.2.1, fun h0 => ?_⟩
  obtain ⟨b, off, e, hb, hx⟩ := h.2.2 (by omega)
  refine ⟨b, off, e, hb, fun j hj => ?_⟩
  have hj2 : j < (fvCells M).length := by rw [hp, List.length_append]; omega
  rw [hx j hj2]
  congr 1
  have : (fvCells M)[j]? = (fvCells (M.take k))[j]? := by rw [hp, List.getElem?_append_left hj]
  rw [List.getElem?_eq_getElem hj2, List.getElem?_eq_getElem hj] at this
  exact Option.some.inj this
theorem rowR_take {W : World} {a : Option Addr} {n k : Nat} {M : List RL} (h : RowV W a n 2 (recCells M)) (hM : M.length = n) (hk : k ≤ n) : RowV W a k 2 (recCells (M.take k)) := by
  have hl : (recCells (M.take k)).length = k * 2 := by
    have : ∀ K : List RL, (recCells K).length = K.length * 2 := fun K => by
      induction K with
      | nil => rfl
      | cons x K ih =>
        have e : recCells (x :: K) = x.1.cells ++ recCells K := rfl
        have h2 := @List.length_cons _ x K
        rw [e, List.length_append, ih, h2]
        show 2 + _ = _
        omega
    rw [this, List.length_take, Nat.min_eq_left (by omega)]
  have hp : recCells M = recCells (M.take k) ++ recCells (M.drop k) := by
    unfold recCells
    rw [← List.flatten_append, ← List.map_append, List.take_append_drop]
  refine ⟨hl, Nat.le_trans hk h.2.1, fun h0 => ?_⟩
  obtain ⟨b, off, e, hb, hx⟩ := h.2.2 (by omega)
  refine ⟨b, off, e, hb, fun j hj => ?_⟩
  have hj2 : j < (recCells M).length := by rw [hp, List.length_append]; omega
  rw [hx j hj2]
  congr 1
  have : (recCells M)[j]? = (recCells (M.take k))[j]? := by rw [hp, List.getElem?_append_left hj]
  rw [List.getElem?_eq_getElem hj2, List.getElem?_eq_getElem hj] at this
  exact Option.some.inj this
/-- What was found is a record. -/
theorem recM_recB {s : ByteArray} {q : Int} {ps : List ReadC} {n : Nat} (h : recM s = (q, ps, n, 1)) : recB q (ps.map plOf) = true := by
  unfold recM at h
  split at h
  · rename_i h1
    simp only [Prod.mk.injEq] at h
    exact absurd h.2.2.2 h1
  · split at h
    · rename_i h2
      simp only [Prod.mk.injEq] at h
      obtain ⟨h3, h4, _⟩ := h
      rw [← h3, ← h4]; exact h2.1
    · simp only [Prod.mk.injEq] at h
      omega
theorem found_recB {s : ByteArray} {id : Int} {L : List FC} {e c : Nat} (hS : Scn s id 16 L e c) {k : Nat} (hk : k < L.length) {x : FV} (hx : fcore x = L[k]) (hl : ∀ y ∈ x.L, y.2.length = y.1.len) : recB x.q x.L = true ∧ x.s = id := by
  obtain ⟨pk, n, a1, a2, a3, _⟩ := scn_at hS hk
  have h := recM_recB a3
  rw [← hx] at h a2
  refine ⟨?_, a2⟩
  rw [← recB_core hl]; exact h
/-- One of those found, in whatever later world. -/
theorem found_at {C : Nat} {w : World} {a : Option Addr} {n : Nat} {M : List FV} (h : FNew C w a n M) {k : Nat} (hk : k < n) (hkM : k < M.length) : ∃ b off, a = some ⟨b, off, none⟩ ∧ ∀ W, Below w.heap.size w W → (W.cell? ⟨b, off + k * 4, none⟩ = some (.int .i64 M[k].q) ∧ W.cell? ⟨b, off + k * 4 + 1, none⟩ = some (.slice M[k].a M[k].len M[k].cap) ∧ W.cell? ⟨b, off + k * 4 + 2, none⟩ = some (.int .i64 M[k].s) ∧ W.cell? ⟨b, off + k * 4 + 3, none⟩ = some (.int .i64 M[k].t)) ∧ HasP W M[k].a M[k].len M[k].L := by
  obtain ⟨b, off, e, hb, hx⟩ := h.2.2.1.2.2 (by omega)
  exact ⟨b, off, e, fun W hW => ⟨fv_at4 hb hW hx hkM, (h.2.2.2.2 M[k] (List.getElem_mem hkM)).1.below hW⟩⟩

end Go.Proofs.Ytflaanffjjidaaa

/- What stands at the head of a row of records stands at the head of what is found of it; the rows that the laws compare. -/
namespace Go.Proofs.Ytflaanffjjidaaa
open Go.RowKit Go.Shelf
set_option linter.unusedVariables false

theorem fcR_app (id : Int) : ∀ (p : Nat) (A B : List RL), fcR id p (A ++ B) = fcR id p A ++ fcR id (p + (laidL A).size) B
  | p, [], B => rfl
  | p, x :: A, B => by
    have e : laidL (x :: A) = recS x.1.s x.2 ++ laidL A := rfl
    rw [e, ByteArray.size_append]
    have st : ∀ (q : Nat) (R : List RL), fcR id q (x :: R) = if recB x.1.s x.2 = true then ⟨x.1.s, x.2.map core, id, q⟩ :: fcR id (q + (recS x.1.s x.2).size) R else fcR id q R := fun _ _ => rfl
    rw [List.cons_append, st, st]
    by_cases h : recB x.1.s x.2 = true
    · rw [if_pos h, if_pos h, fcR_app id _ A B, List.cons_append, Nat.add_assoc]
    · rw [if_neg h, if_neg h, fcR_app id _ A B]
      have h0 : (recS x.1.s x.2).size = 0 := by rw [recS_no (by simpa using h)]; rfl
      rw [h0, Nat.zero_add]
theorem fcR_pre (id : Int) (p : Nat) (L : List RL) (j : Nat) : (fcR id p L).take (fcR id p (L.take j)).length = fcR id p (L.take j) ∧ (fcR id p (L.take j)).length ≤ (fcR id p L).length := by
  have h := fcR_app id p (L.take j) (L.drop j)
  rw [List.take_append_drop] at h
  constructor
  · rw [h, List.take_left']; rfl
  · rw [h, List.length_append]; omega
/-- A row that was found beside the beginning of another. -/
theorem same_pre {C D : Nat} {w v W : World} {a b : Option Addr} {n m : Nat} {M N : List FV} (c1 c2 : Nat) (hM : FNew C w a n M) (hN : FNew D v b m N) (hw : Below w.heap.size w W) (hv : Below v.heap.size v W) (hnm : n ≤ m) (he : M.map fcore = (N.map fcore).take n) : Gives Try.prog 12 #[.slice a n c1, .slice b n c2] W (.bool true) :=
  sameF11 a b n c1 c2 M (N.take n) W hM.1 hM.2.1 (hM.2.2.1.below hw) ((rowF_take hN.2.2.1 hN.1 hnm).below hv) (fun x hx => (hM.2.2.2.2 x hx).1.below hw) (fun x hx => (hN.2.2.2.2 x (List.mem_of_mem_take hx)).1.below hv) (by rw [he, List.map_take])
theorem found_t {C : Nat} {w : World} {a : Option Addr} {n : Nat} {M : List FV} {F : List FC} (h : FNew C w a n M) (hM : M.map fcore = F) {k : Nat} (hk : k < F.length) : ∃ b off, a = some ⟨b, off, none⟩ ∧ ∀ W, Below w.heap.size w W → W.cell? ⟨b, off + k * 4 + 3, none⟩ = some (.int .i64 F[k].t) := by
  subst hM
  have hk2 : k < M.length := by rw [List.length_map] at hk; exact hk
  obtain ⟨b, off, e, hc⟩ := found_at h (by have := h.1; omega) hk2
  refine ⟨b, off, e, fun W hW => ?_⟩
  rw [(hc W hW).1.2.2.2, List.getElem_map]
  rfl

end Go.Proofs.Ytflaanffjjidaaa
