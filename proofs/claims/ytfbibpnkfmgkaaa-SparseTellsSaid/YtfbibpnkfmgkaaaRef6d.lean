/- The contract of the document's Check. -/
import Derived.Test.YtfbibpnkfmgkaaaRef6c
import Derived.Test.YtfbibpnkfmgkaaaRefPart
import Derived.Test.YtfbibpnkfmgkaaaGrpChk
import Derived.Test.YtfbibpnkfmgkaaaRefIs6
namespace Go.Proofs.Ytfbibpnkfmgkaaa
open Go.RowKit Go.Shelf
set_option linter.unusedVariables false
attribute [local go_sem] Oper.semAt_some wide_fn wide_round_fn

attribute [local irreducible] wpQuiet
set_option maxRecDepth 100000 in
set_option maxHeartbeats 4000000 in
theorem refChk_bad (id fi te ht hv hc : Int) (l : List EntryC) (a : Option Addr) (cap : Nat) (pg pk : Int) (pa : Option Addr) (plen pcap : Nat) (pht phv phc pi pt : Int) (pm ph : Bool) (pl : List EntryC) (w : World) (hg : HasG w a ⟨id, fi, te, ht, hv, hc, l⟩) (hG : isG ⟨id, fi, te, ht, hv, hc, l⟩ = true) (hp : HasE w ⟨pg, pk, pa, plen, pcap, pht, phv, phc, pi, pt, pm, ph⟩ pl) (hb : isB ⟨pg, pk, pa, plen, pcap, pht, phv, phc, pi, pt, pm, ph⟩ pl = false ∨ pk = 6 ∨ pk = 5 ∨ pg ≠ id) : Gives Try.prog 19 #[.agg #[.int .i64 id, .int .i64 fi, .int .i64 te, .int .i64 ht, .int .i64 hv, .int .i64 hc, .slice a l.length cap], .agg #[.int .i64 pg, .int .i64 pk, .slice pa plen pcap, .int .i64 pht, .int .i64 phv, .int .i64 phc, .int .i64 pi, .int .i64 pt, .bool pm, .bool ph]] w (.int .i64 11) := by
  have HA := Lib.hid (gp_bel w #[.int .i64 id, .int .i64 fi, .int .i64 te, .int .i64 ht, .int .i64 hv, .int .i64 hc, .slice a l.length cap] #[.int .i64 pg, .int .i64 pk, .slice pa plen pcap, .int .i64 pht, .int .i64 phv, .int .i64 phc, .int .i64 pi, .int .i64 pt, .bool pm, .bool ph] 26 28)
  have GI := Lib.hid (fun W (hB : Below w.heap.size w W) => refIs_any ⟨pg, pk, pa, plen, pcap, pht, phv, phc, pi, pt, pm, ph⟩ pl W (hp.below hB))
  clear hg hG hp
  unfold Gives
  generalize isB ⟨pg, pk, pa, plen, pcap, pht, phv, phc, pi, pt, pm, ph⟩ pl = bi at *
  dsimp only [PartC.val, PartC.arr] at GI
  cases bi
  · clear hb
    go_enter Try.func19, Try.ntmps19
    go_wp2_with (go_at_call 22; ((with_reducible refine (GI.out _ HA.out).mono ?_); rintro e w1 ⟨rfl, hB1⟩; obtain ⟨g0, g1, g2, g3, g4, g5, g6, p0, p1, p2, p3, p4, p5, p6, p7, p8, p9⟩ := gp_cells hB1))
    go_ret
    exact ⟨rfl, bel2 HA.out hB1⟩
  · have hb2 : pk = 6 ∨ (pk ≠ 6 ∧ pk = 5) ∨ (pk ≠ 6 ∧ pk ≠ 5 ∧ pg ≠ id) := by
      rcases hb with h | h | h | h
      · cases h
      · exact .inl h
      · exact .inr (.inl ⟨by omega, h⟩)
      · by_cases h6 : pk = 6
        · exact .inl h6
        · by_cases h5 : pk = 5
          · exact .inr (.inl ⟨h6, h5⟩)
          · exact .inr (.inr ⟨h6, h5, h⟩)
    clear hb
    rcases hb2 with rfl | ⟨-, rfl⟩ | ⟨h6, h5, hne⟩
    · go_enter Try.func19, Try.ntmps19
      go_wp2_with (go_at_call 22; ((with_reducible refine (GI.out _ HA.out).mono ?_); rintro e w1 ⟨rfl, hB1⟩; obtain ⟨g0, g1, g2, g3, g4, g5, g6, p0, p1, p2, p3, p4, p5, p6, p7, p8, p9⟩ := gp_cells hB1))
      go_ret
      exact ⟨rfl, bel2 HA.out hB1⟩
    · go_enter Try.func19, Try.ntmps19
      go_wp2_with (go_at_call 22; ((with_reducible refine (GI.out _ HA.out).mono ?_); rintro e w1 ⟨rfl, hB1⟩; obtain ⟨g0, g1, g2, g3, g4, g5, g6, p0, p1, p2, p3, p4, p5, p6, p7, p8, p9⟩ := gp_cells hB1))
      go_ret
      exact ⟨rfl, bel2 HA.out hB1⟩
    · have t6 : (pk == 6) = false := by rw [beq_eq_false_iff_ne]; exact h6
      have t5 : (pk == 5) = false := by rw [beq_eq_false_iff_ne]; exact h5
      have tg : (pg == id) = false := by rw [beq_eq_false_iff_ne]; exact hne
      have tg2 : (pg != id) = true := by rw [bne_iff_ne]; exact hne
      clear h6 h5 hne
      go_enter Try.func19, Try.ntmps19
      go_wp2_with (go_at_call 22; ((with_reducible refine (GI.out _ HA.out).mono ?_); rintro e w1 ⟨rfl, hB1⟩; obtain ⟨g0, g1, g2, g3, g4, g5, g6, p0, p1, p2, p3, p4, p5, p6, p7, p8, p9⟩ := gp_cells hB1))
      go_ret
      exact ⟨rfl, bel2 HA.out hB1⟩

set_option maxRecDepth 100000 in
set_option maxHeartbeats 4000000 in
theorem refChk_2 (id fi te ht hv hc : Int) (l : List EntryC) (a : Option Addr) (cap : Nat) (pg : Int) (pa : Option Addr) (plen pcap : Nat) (pht phv phc pi pt : Int) (pm ph : Bool) (pl : List EntryC) (w : World) (hg : HasG w a ⟨id, fi, te, ht, hv, hc, l⟩) (hG : isG ⟨id, fi, te, ht, hv, hc, l⟩ = true) (hp : HasE w ⟨pg, 2, pa, plen, pcap, pht, phv, phc, pi, pt, pm, ph⟩ pl) (hb : isB ⟨pg, 2, pa, plen, pcap, pht, phv, phc, pi, pt, pm, ph⟩ pl = true) (hgi : pg = id) : Gives Try.prog 19 #[.agg #[.int .i64 id, .int .i64 fi, .int .i64 te, .int .i64 ht, .int .i64 hv, .int .i64 hc, .slice a l.length cap], .agg #[.int .i64 pg, .int .i64 2, .slice pa plen pcap, .int .i64 pht, .int .i64 phv, .int .i64 phc, .int .i64 pi, .int .i64 pt, .bool pm, .bool ph]] w (.int .i64 0) := by
  have HA := Lib.hid (gp_bel w #[.int .i64 id, .int .i64 fi, .int .i64 te, .int .i64 ht, .int .i64 hv, .int .i64 hc, .slice a l.length cap] #[.int .i64 pg, .int .i64 2, .slice pa plen pcap, .int .i64 pht, .int .i64 phv, .int .i64 phc, .int .i64 pi, .int .i64 pt, .bool pm, .bool ph] 26 28)
  have GI := Lib.hid (fun W (hB : Below w.heap.size w W) => refIs_any ⟨pg, 2, pa, plen, pcap, pht, phv, phc, pi, pt, pm, ph⟩ pl W (hp.below hB))
  rw [hb] at GI
  have tg : (pg == id) = true := by rw [beq_iff_eq]; exact hgi
  have tg2 : (pg != id) = false := by rw [bne_eq_false_iff_eq]; exact hgi
  clear hg hG hp hb hgi
  unfold Gives
  dsimp only [PartC.val, PartC.arr] at GI
  go_enter Try.func19, Try.ntmps19
  go_wp2_with (go_at_call 22; ((with_reducible refine (GI.out _ HA.out).mono ?_); rintro e w1 ⟨rfl, hB1⟩; obtain ⟨g0, g1, g2, g3, g4, g5, g6, p0, p1, p2, p3, p4, p5, p6, p7, p8, p9⟩ := gp_cells hB1))
  go_ret
  exact ⟨rfl, bel2 HA.out hB1⟩

set_option maxRecDepth 100000 in
set_option maxHeartbeats 4000000 in
theorem refChk_4 (id fi te ht hv hc : Int) (l : List EntryC) (a : Option Addr) (cap : Nat) (pg : Int) (pa : Option Addr) (plen pcap : Nat) (pht phv phc pi pt : Int) (pm ph : Bool) (pl : List EntryC) (w : World) (hg : HasG w a ⟨id, fi, te, ht, hv, hc, l⟩) (hG : isG ⟨id, fi, te, ht, hv, hc, l⟩ = true) (hp : HasE w ⟨pg, 4, pa, plen, pcap, pht, phv, phc, pi, pt, pm, ph⟩ pl) (hb : isB ⟨pg, 4, pa, plen, pcap, pht, phv, phc, pi, pt, pm, ph⟩ pl = true) (hgi : pg = id) : Gives Try.prog 19 #[.agg #[.int .i64 id, .int .i64 fi, .int .i64 te, .int .i64 ht, .int .i64 hv, .int .i64 hc, .slice a l.length cap], .agg #[.int .i64 pg, .int .i64 4, .slice pa plen pcap, .int .i64 pht, .int .i64 phv, .int .i64 phc, .int .i64 pi, .int .i64 pt, .bool pm, .bool ph]] w (.int .i64 (if pi < fi then 15 else 0)) := by
  have HA := Lib.hid (gp_bel w #[.int .i64 id, .int .i64 fi, .int .i64 te, .int .i64 ht, .int .i64 hv, .int .i64 hc, .slice a l.length cap] #[.int .i64 pg, .int .i64 4, .slice pa plen pcap, .int .i64 pht, .int .i64 phv, .int .i64 phc, .int .i64 pi, .int .i64 pt, .bool pm, .bool ph] 26 28)
  have GI := Lib.hid (fun W (hB : Below w.heap.size w W) => refIs_any ⟨pg, 4, pa, plen, pcap, pht, phv, phc, pi, pt, pm, ph⟩ pl W (hp.below hB))
  rw [hb] at GI
  have tg : (pg == id) = true := by rw [beq_iff_eq]; exact hgi
  have tg2 : (pg != id) = false := by rw [bne_eq_false_iff_eq]; exact hgi
  clear hg hG hp hb hgi
  unfold Gives
  dsimp only [PartC.val, PartC.arr] at GI
  by_cases hc : pi < fi
  · rw [if_pos hc]
    go_enter Try.func19, Try.ntmps19
    go_wp2_with (go_at_call 22; ((with_reducible refine (GI.out _ HA.out).mono ?_); rintro e w1 ⟨rfl, hB1⟩; obtain ⟨g0, g1, g2, g3, g4, g5, g6, p0, p1, p2, p3, p4, p5, p6, p7, p8, p9⟩ := gp_cells hB1))
    go_ret
    exact ⟨rfl, bel2 HA.out hB1⟩
  · rw [if_neg hc]
    have hc2 : fi ≤ pi := by omega
    clear hc
    go_enter Try.func19, Try.ntmps19
    go_wp2_with (go_at_call 22; ((with_reducible refine (GI.out _ HA.out).mono ?_); rintro e w1 ⟨rfl, hB1⟩; obtain ⟨g0, g1, g2, g3, g4, g5, g6, p0, p1, p2, p3, p4, p5, p6, p7, p8, p9⟩ := gp_cells hB1))
    go_ret
    exact ⟨rfl, bel2 HA.out hB1⟩

set_option maxRecDepth 100000 in
set_option maxHeartbeats 4000000 in
theorem refChk_1 (id fi te ht hv hc : Int) (l : List EntryC) (a : Option Addr) (cap : Nat) (pg : Int) (pa : Option Addr) (plen pcap : Nat) (pht phv phc pi pt : Int) (pm ph : Bool) (pl : List EntryC) (w : World) (hg : HasG w a ⟨id, fi, te, ht, hv, hc, l⟩) (hG : isG ⟨id, fi, te, ht, hv, hc, l⟩ = true) (hp : HasE w ⟨pg, 1, pa, plen, pcap, pht, phv, phc, pi, pt, pm, ph⟩ pl) (hb : isB ⟨pg, 1, pa, plen, pcap, pht, phv, phc, pi, pt, pm, ph⟩ pl = true) (hgi : pg = id) : Gives Try.prog 19 #[.agg #[.int .i64 id, .int .i64 fi, .int .i64 te, .int .i64 ht, .int .i64 hv, .int .i64 hc, .slice a l.length cap], .agg #[.int .i64 pg, .int .i64 1, .slice pa plen pcap, .int .i64 pht, .int .i64 phv, .int .i64 phc, .int .i64 pi, .int .i64 pt, .bool pm, .bool ph]] w (.int .i64 (chkA ⟨id, fi, te, ht, hv, hc, l⟩ (headI pl))) := by
  have HA := Lib.hid (gp_bel w #[.int .i64 id, .int .i64 fi, .int .i64 te, .int .i64 ht, .int .i64 hv, .int .i64 hc, .slice a l.length cap] #[.int .i64 pg, .int .i64 1, .slice pa plen pcap, .int .i64 pht, .int .i64 phv, .int .i64 phc, .int .i64 pi, .int .i64 pt, .bool pm, .bool ph] 26 28)
  have GI := Lib.hid (fun W (hB : Below w.heap.size w W) => refIs_any ⟨pg, 1, pa, plen, pcap, pht, phv, phc, pi, pt, pm, ph⟩ pl W (hp.below hB))
  rw [hb] at GI
  have GL := Lib.hid (fun W (hB : Below w.heap.size w W) => refLast_any id fi te ht hv hc l a cap W (hg.below hB) hG)
  obtain ⟨⟨_, ⟨h1, h2⟩, _⟩, _, hd⟩ := isG_iff.1 hG
  have hm := hg.1
  dsimp only at hm h1 h2 hd
  have hne : plen ≠ 0 := by
    rcases (isB_iff _ _).1 hb with ⟨_, h | h | h | h | h | h⟩
    · exact h.2.1
    all_goals (have h9 := h.1; dsimp only at h9; omega)
  have hare : areB 1 pl = true := by
    rcases (isB_iff _ _).1 hb with ⟨_, h | h | h | h | h | h⟩
    · exact h.2.2.1
    all_goals (have h9 := h.1; dsimp only at h9; omega)
  have hpl := hp.1
  have hrow := hp.2.2
  dsimp only at hpl hrow
  clear hd
  have tg : (pg == id) = true := by rw [beq_iff_eq]; exact hgi
  have tg2 : (pg != id) = false := by rw [bne_eq_false_iff_eq]; exact hgi
  clear hg hG hp hb hgi
  unfold Gives
  dsimp only [PartC.val, PartC.arr] at GI
  obtain ⟨b, off, rfl, hbw, hx⟩ := hrow.2.2 (by omega)
  have h0 : 0 < pl.length := by omega
  have d0 : w.cell? ⟨b, off, none⟩ = some (.int .i64 (headI pl)) := by
    have := (entry_at hbw (Below.refl w.heap.size w) hx h0).1
    cases pl with
    | nil => simp at h0
    | cons e r => simpa [headI] using this
  have hHb : 1 ≤ headI pl ∧ headI pl ≤ 1099511627776 := by
    cases pl with
    | nil => simp at h0
    | cons e r =>
      simp only [areB, Bool.and_eq_true, stepsOf, List.all_cons, stepB] at hare
      exact (entryB_bd hare.2.1.1).1
  have hp0 : (0 : Int) < (plen : Int) := by omega
  have hp1 : 0 < plen := by omega
  generalize headI pl = hI at *
  obtain ⟨hH1, hH2⟩ := hHb
  clear hx hrow hpl h0 hne hare
  unfold chkA lastG
  dsimp only
  have HD := Lib.hid (fun W (hB : Below w.heap.size w W) => (hB.cell (p := ⟨b, off, none⟩) hbw).trans d0)
  clear d0
  by_cases hc1 : hI < fi
  · rw [if_pos hc1]
    go_enter Try.func19, Try.ntmps19
    go_wp2_with (go_at_call 22; ((with_reducible refine (GI.out _ HA.out).mono ?_); rintro e w1 ⟨rfl, hB1⟩; obtain ⟨g0, g1, g2, g3, g4, g5, g6, p0, p1, p2, p3, p4, p5, p6, p7, p8, p9⟩ := gp_cells hB1; have d0 := HD.out _ (bel2 HA.out hB1)))
    go_ret
    exact ⟨rfl, bel2 HA.out hB1⟩
  · rw [if_neg hc1]
    replace hc1 : fi ≤ hI := by omega
    by_cases hc2 : fi - 1 + (l.length : Int) + 1 < hI
    · rw [if_pos hc2]
      have ht : decide (fi - 1 + (l.length : Int) < hI - 1) = true := decide_eq_true (by omega)
      clear hc2
      go_enter Try.func19, Try.ntmps19
      go_wp2_with (first
        | (go_at_call 22; ((with_reducible refine (GI.out _ HA.out).mono ?_); rintro e w1 ⟨rfl, hB1⟩; obtain ⟨g0, g1, g2, g3, g4, g5, g6, p0, p1, p2, p3, p4, p5, p6, p7, p8, p9⟩ := gp_cells hB1; have d0 := HD.out _ (bel2 HA.out hB1)))
        | (go_at_call 37; ((with_reducible refine (GL.out _ (bel2 HA.out hB1)).mono ?_); rintro e w2 ⟨rfl, hB2⟩)))
      go_ret
      exact ⟨rfl, bel2 (bel2 HA.out hB1) hB2⟩
    · rw [if_neg hc2]
      have ht : decide (fi - 1 + (l.length : Int) < hI - 1) = false := decide_eq_false (by omega)
      clear hc2
      go_enter Try.func19, Try.ntmps19
      go_wp2_with (first
        | (go_at_call 22; ((with_reducible refine (GI.out _ HA.out).mono ?_); rintro e w1 ⟨rfl, hB1⟩; obtain ⟨g0, g1, g2, g3, g4, g5, g6, p0, p1, p2, p3, p4, p5, p6, p7, p8, p9⟩ := gp_cells hB1; have d0 := HD.out _ (bel2 HA.out hB1)))
        | (go_at_call 37; ((with_reducible refine (GL.out _ (bel2 HA.out hB1)).mono ?_); rintro e w2 ⟨rfl, hB2⟩)))
      go_ret
      exact ⟨rfl, bel2 (bel2 HA.out hB1) hB2⟩

set_option maxRecDepth 100000 in
set_option maxHeartbeats 4000000 in
theorem refChk_3 (id fi te ht hv hc : Int) (l : List EntryC) (a : Option Addr) (cap : Nat) (pg : Int) (pa : Option Addr) (plen pcap : Nat) (pht phv phc pi pt : Int) (pm ph : Bool) (pl : List EntryC) (w : World) (hg : HasG w a ⟨id, fi, te, ht, hv, hc, l⟩) (hG : isG ⟨id, fi, te, ht, hv, hc, l⟩ = true) (hp : HasE w ⟨pg, 3, pa, plen, pcap, pht, phv, phc, pi, pt, pm, ph⟩ pl) (hb : isB ⟨pg, 3, pa, plen, pcap, pht, phv, phc, pi, pt, pm, ph⟩ pl = true) (hgi : pg = id) : Gives Try.prog 19 #[.agg #[.int .i64 id, .int .i64 fi, .int .i64 te, .int .i64 ht, .int .i64 hv, .int .i64 hc, .slice a l.length cap], .agg #[.int .i64 pg, .int .i64 3, .slice pa plen pcap, .int .i64 pht, .int .i64 phv, .int .i64 phc, .int .i64 pi, .int .i64 pt, .bool pm, .bool ph]] w (.int .i64 (chkC ⟨id, fi, te, ht, hv, hc, l⟩ pi pt)) := by
  have HA := Lib.hid (gp_bel w #[.int .i64 id, .int .i64 fi, .int .i64 te, .int .i64 ht, .int .i64 hv, .int .i64 hc, .slice a l.length cap] #[.int .i64 pg, .int .i64 3, .slice pa plen pcap, .int .i64 pht, .int .i64 phv, .int .i64 phc, .int .i64 pi, .int .i64 pt, .bool pm, .bool ph] 26 28)
  have GI := Lib.hid (fun W (hB : Below w.heap.size w W) => refIs_any ⟨pg, 3, pa, plen, pcap, pht, phv, phc, pi, pt, pm, ph⟩ pl W (hp.below hB))
  rw [hb] at GI
  have GL := Lib.hid (fun W (hB : Below w.heap.size w W) => refLast_any id fi te ht hv hc l a cap W (hg.below hB) hG)
  obtain ⟨⟨_, ⟨h1, h2⟩, _⟩, _, hd⟩ := isG_iff.1 hG
  have hm := hg.1
  dsimp only at hm h1 h2 hd
  have hcs := hg.2.2.2
  dsimp only at hcs
  have HE := Lib.hid (entT_dense hd pi)
  clear hd
  have hpi : 1 ≤ pi ∧ pi ≤ 1099511627776 := by
    rcases (isB_iff _ _).1 hb with ⟨_, h | h | h | h | h | h⟩
    all_goals (have h9 := h.1; dsimp only at h9)
    all_goals first | omega | skip
    exact wB_iff.1 h.2.1
  have tg : (pg == id) = true := by rw [beq_iff_eq]; exact hgi
  have tg2 : (pg != id) = false := by rw [bne_eq_false_iff_eq]; exact hgi
  clear hg hG hp hb hgi
  unfold Gives
  dsimp only [PartC.val, PartC.arr] at GI
  obtain ⟨hpi1, hpi2⟩ := hpi
  unfold chkC lastG
  dsimp only
  by_cases hc1 : pi < fi
  · rw [if_pos hc1]
    go_enter Try.func19, Try.ntmps19
    go_wp2_with (go_at_call 22; ((with_reducible refine (GI.out _ HA.out).mono ?_); rintro e w1 ⟨rfl, hB1⟩; obtain ⟨g0, g1, g2, g3, g4, g5, g6, p0, p1, p2, p3, p4, p5, p6, p7, p8, p9⟩ := gp_cells hB1))
    go_ret
    exact ⟨rfl, bel2 HA.out hB1⟩
  · rw [if_neg hc1]
    replace hc1 : fi ≤ pi := by omega
    by_cases hc2 : fi - 1 + (l.length : Int) < pi
    · rw [if_pos hc2]
      go_enter Try.func19, Try.ntmps19
      go_wp2_with (go_at_call 22; ((with_reducible refine (GI.out _ HA.out).mono ?_); rintro e w1 ⟨rfl, hB1⟩; obtain ⟨g0, g1, g2, g3, g4, g5, g6, p0, p1, p2, p3, p4, p5, p6, p7, p8, p9⟩ := gp_cells hB1))
      clear g0 g1 g2 g3 g4 g5 g6 p0 p1 p2 p3 p4 p5 p6 p7 p8 p9
      have HS := Lib.hid (fun W (hW : Above w1 W) => gp_cells (id := id) (fi := fi) (te := te) (ht := ht) (hv := hv) (hc := hc) (l := l) (a := a) (cap := cap) (pg := pg) (pk := 3) (pa := pa) (plen := plen) (pcap := pcap) (pht := pht) (phv := phv) (phc := phc) (pi := pi) (pt := pt) (pm := pm) (ph := ph) (bel2 hB1 hW))
      obtain ⟨g0, g1, g2, g3, g4, g5, g6, p0, p1, p2, p3, p4, p5, p6, p7, p8, p9⟩ := HS.out _ (Below.refl _ _)
      go_wp2
      refine wp_region_below (by kernel_rfl) (by kernel_rfl) ?_
      repeat (first
        | (refine BigFrame.wpQuiet_skip (by rfl) ?_; (try simp only [Act.put, List.setIfInBounds_toArray, List.set_cons_zero, List.set_cons_succ]))
        | (refine BigFrame.wpQuiet_want (by rfl) (fun K hK => ?_); apply Exists.intro; refine ⟨fun W hW => ?_, hK _ ?_⟩; (focus (have hWB : Below _ _ W := hW; obtain ⟨g0, g1, g2, g3, g4, g5, g6, p0, p1, p2, p3, p4, p5, p6, p7, p8, p9⟩ := HS.out _ hW; go_simp; (first | done | with_reducible rfl | (go_at_call 37; with_reducible exact gives_above hW (GL.out _ (bel2 (bel2 HA.out hB1) hWB))) | (rw [if_neg (by omega)]; go_simp; (first | done | with_reducible rfl))))); clear hK K; (try simp only [Act.put, List.setIfInBounds_toArray, List.set_cons_zero, List.set_cons_succ])))
      refine wpQuiet_nil ?_
      intro w2 hB2
      replace hB2 : Below _ _ w2 := hB2
      have hB12 := bel2 hB1 hB2
      clear HS g0 g1 g2 g3 g4 g5 g6 p0 p1 p2 p3 p4 p5 p6 p7 p8 p9
      go_wp2
      go_ret
      exact ⟨rfl, bel2 HA.out hB12⟩
    · rw [if_neg hc2]
      replace hc2 : pi ≤ fi - 1 + (l.length : Int) := by omega
      obtain ⟨k, hk9, hk⟩ : ∃ k : Nat, pi = fi + (k : Int) ∧ k < l.length := ⟨(pi - fi).toNat, by omega, by omega⟩
      obtain ⟨b, off, rfl, hb, hx⟩ := hcs (by omega)
      have HX := Lib.hid (fun W (hB : Below w.heap.size w W) => entry_at hb hB hx hk)
      have hE : entT l pi = l[k].t := by
        rw [HE.out, dif_pos ⟨by omega, by omega⟩]
        congr 2; omega
      rw [hE]
      have hk0 : (0 : Int) ≤ (k : Int) := by omega
      have hkl : (k : Int) < (l.length : Int) := by omega
      have s2 : IntKind.i64.wrap (pi - fi) = (k : Int) := (IntWalk.i64_in _ (by omega)).trans (by omega)
      clear hk9 hx hcs hE HE
      generalize l[k] = x at *
      obtain ⟨xi, xt, xd⟩ := x
      dsimp only at *
      by_cases ht : pt = 0
      · have ht0 : (pt != 0) = false := by rw [bne_eq_false_iff_eq]; exact ht
        have ht1 : (pt == 0) = true := by rw [beq_iff_eq]; exact ht
        rw [if_neg (fun h => h.1 ht)]
        clear ht
        go_enter Try.func19, Try.ntmps19
        go_wp2_with (go_at_call 22; ((with_reducible refine (GI.out _ HA.out).mono ?_); rintro e w1 ⟨rfl, hB1⟩; obtain ⟨g0, g1, g2, g3, g4, g5, g6, p0, p1, p2, p3, p4, p5, p6, p7, p8, p9⟩ := gp_cells hB1))
        clear g0 g1 g2 g3 g4 g5 g6 p0 p1 p2 p3 p4 p5 p6 p7 p8 p9
        have HS := Lib.hid (fun W (hW : Above w1 W) => gp_cells (id := id) (fi := fi) (te := te) (ht := ht) (hv := hv) (hc := hc) (l := l) (a := some ⟨b, off, none⟩) (cap := cap) (pg := pg) (pk := 3) (pa := pa) (plen := plen) (pcap := pcap) (pht := pht) (phv := phv) (phc := phc) (pi := pi) (pt := pt) (pm := pm) (ph := ph) (bel2 hB1 hW))
        obtain ⟨g0, g1, g2, g3, g4, g5, g6, p0, p1, p2, p3, p4, p5, p6, p7, p8, p9⟩ := HS.out _ (Below.refl _ _)
        go_wp2
        refine wp_region_below (by kernel_rfl) (by kernel_rfl) ?_
        repeat (first
          | (refine BigFrame.wpQuiet_skip (by rfl) ?_; (try simp only [Act.put, List.setIfInBounds_toArray, List.set_cons_zero, List.set_cons_succ]))
          | (refine BigFrame.wpQuiet_want (by rfl) (fun K hK => ?_); apply Exists.intro; refine ⟨fun W hW => ?_, hK _ ?_⟩; (focus (have hWB : Below _ _ W := hW; obtain ⟨g0, g1, g2, g3, g4, g5, g6, p0, p1, p2, p3, p4, p5, p6, p7, p8, p9⟩ := HS.out _ hW; go_simp; (first | done | with_reducible rfl | (go_at_call 37; with_reducible exact gives_above hW (GL.out _ (bel2 (bel2 HA.out hB1) hWB))) | (rw [if_neg (by omega)]; go_simp; (first | done | with_reducible rfl))))); clear hK K; (try simp only [Act.put, List.setIfInBounds_toArray, List.set_cons_zero, List.set_cons_succ])))
        refine wpQuiet_nil ?_
        intro w2 hB2
        replace hB2 : Below _ _ w2 := hB2
        have hB12 := bel2 hB1 hB2
        clear HS g0 g1 g2 g3 g4 g5 g6 p0 p1 p2 p3 p4 p5 p6 p7 p8 p9
        go_wp2
        have HS := Lib.hid (fun W (hW : Above w2 W) => And.intro (gp_cells (id := id) (fi := fi) (te := te) (ht := ht) (hv := hv) (hc := hc) (l := l) (a := (some ⟨b, off, none⟩)) (cap := cap) (pg := pg) (pk := 3) (pa := pa) (plen := plen) (pcap := pcap) (pht := pht) (phv := phv) (phc := phc) (pi := pi) (pt := pt) (pm := pm) (ph := ph) (bel2 hB12 hW)) (HX.out W (bel2 HA.out (bel2 hB12 hW))))
        refine wp_region_below (by kernel_rfl) (by kernel_rfl) ?_
        repeat (first
          | (refine BigFrame.wpQuiet_skip (by rfl) ?_; (try simp only [Act.put, List.setIfInBounds_toArray, List.set_cons_zero, List.set_cons_succ]))
          | (refine BigFrame.wpQuiet_want (by rfl) (fun K hK => ?_); apply Exists.intro; refine ⟨fun W hW => ?_, hK _ ?_⟩; (focus (have hWB : Below _ _ W := hW; obtain ⟨⟨g0, g1, g2, g3, g4, g5, g6, p0, p1, p2, p3, p4, p5, p6, p7, p8, p9⟩, d0, d1, d2⟩ := HS.out _ hW; go_simp; (first | done | with_reducible rfl | (go_at_call 37; with_reducible exact gives_above hW (GL.out _ (bel2 (bel2 HA.out hB1) hWB))) | (rw [if_neg (by omega)]; go_simp; (first | done | with_reducible rfl))))); clear hK K; (try simp only [Act.put, List.setIfInBounds_toArray, List.set_cons_zero, List.set_cons_succ])))
        refine wpQuiet_nil ?_
        intro w3 hB3
        replace hB3 : Below _ _ w3 := hB3
        go_wp2
        go_ret
        exact ⟨rfl, bel2 HA.out (bel2 hB12 hB3)⟩
      · have ht0 : (pt != 0) = true := by rw [bne_iff_ne]; exact ht
        have ht1 : (pt == 0) = false := by rw [beq_eq_false_iff_ne]; exact ht
        by_cases hu : pt = xt
        · have hu0 : (pt != xt) = false := by rw [bne_eq_false_iff_eq]; exact hu
          have hu1 : (pt == xt) = true := by rw [beq_iff_eq]; exact hu
          rw [if_neg (fun h => h.2 hu)]
          clear ht hu
          go_enter Try.func19, Try.ntmps19
          go_wp2_with (go_at_call 22; ((with_reducible refine (GI.out _ HA.out).mono ?_); rintro e w1 ⟨rfl, hB1⟩; obtain ⟨g0, g1, g2, g3, g4, g5, g6, p0, p1, p2, p3, p4, p5, p6, p7, p8, p9⟩ := gp_cells hB1))
          clear g0 g1 g2 g3 g4 g5 g6 p0 p1 p2 p3 p4 p5 p6 p7 p8 p9
          have HS := Lib.hid (fun W (hW : Above w1 W) => gp_cells (id := id) (fi := fi) (te := te) (ht := ht) (hv := hv) (hc := hc) (l := l) (a := some ⟨b, off, none⟩) (cap := cap) (pg := pg) (pk := 3) (pa := pa) (plen := plen) (pcap := pcap) (pht := pht) (phv := phv) (phc := phc) (pi := pi) (pt := pt) (pm := pm) (ph := ph) (bel2 hB1 hW))
          obtain ⟨g0, g1, g2, g3, g4, g5, g6, p0, p1, p2, p3, p4, p5, p6, p7, p8, p9⟩ := HS.out _ (Below.refl _ _)
          go_wp2
          refine wp_region_below (by kernel_rfl) (by kernel_rfl) ?_
          repeat (first
            | (refine BigFrame.wpQuiet_skip (by rfl) ?_; (try simp only [Act.put, List.setIfInBounds_toArray, List.set_cons_zero, List.set_cons_succ]))
            | (refine BigFrame.wpQuiet_want (by rfl) (fun K hK => ?_); apply Exists.intro; refine ⟨fun W hW => ?_, hK _ ?_⟩; (focus (have hWB : Below _ _ W := hW; obtain ⟨g0, g1, g2, g3, g4, g5, g6, p0, p1, p2, p3, p4, p5, p6, p7, p8, p9⟩ := HS.out _ hW; go_simp; (first | done | with_reducible rfl | (go_at_call 37; with_reducible exact gives_above hW (GL.out _ (bel2 (bel2 HA.out hB1) hWB))) | (rw [if_neg (by omega)]; go_simp; (first | done | with_reducible rfl))))); clear hK K; (try simp only [Act.put, List.setIfInBounds_toArray, List.set_cons_zero, List.set_cons_succ])))
          refine wpQuiet_nil ?_
          intro w2 hB2
          replace hB2 : Below _ _ w2 := hB2
          have hB12 := bel2 hB1 hB2
          clear HS g0 g1 g2 g3 g4 g5 g6 p0 p1 p2 p3 p4 p5 p6 p7 p8 p9
          go_wp2
          have HS := Lib.hid (fun W (hW : Above w2 W) => And.intro (gp_cells (id := id) (fi := fi) (te := te) (ht := ht) (hv := hv) (hc := hc) (l := l) (a := (some ⟨b, off, none⟩)) (cap := cap) (pg := pg) (pk := 3) (pa := pa) (plen := plen) (pcap := pcap) (pht := pht) (phv := phv) (phc := phc) (pi := pi) (pt := pt) (pm := pm) (ph := ph) (bel2 hB12 hW)) (HX.out W (bel2 HA.out (bel2 hB12 hW))))
          refine wp_region_below (by kernel_rfl) (by kernel_rfl) ?_
          repeat (first
            | (refine BigFrame.wpQuiet_skip (by rfl) ?_; (try simp only [Act.put, List.setIfInBounds_toArray, List.set_cons_zero, List.set_cons_succ]))
            | (refine BigFrame.wpQuiet_want (by rfl) (fun K hK => ?_); apply Exists.intro; refine ⟨fun W hW => ?_, hK _ ?_⟩; (focus (have hWB : Below _ _ W := hW; obtain ⟨⟨g0, g1, g2, g3, g4, g5, g6, p0, p1, p2, p3, p4, p5, p6, p7, p8, p9⟩, d0, d1, d2⟩ := HS.out _ hW; go_simp; (first | done | with_reducible rfl | (go_at_call 37; with_reducible exact gives_above hW (GL.out _ (bel2 (bel2 HA.out hB1) hWB))) | (rw [if_neg (by omega)]; go_simp; (first | done | with_reducible rfl))))); clear hK K; (try simp only [Act.put, List.setIfInBounds_toArray, List.set_cons_zero, List.set_cons_succ])))
          refine wpQuiet_nil ?_
          intro w3 hB3
          replace hB3 : Below _ _ w3 := hB3
          go_wp2
          go_ret
          exact ⟨rfl, bel2 HA.out (bel2 hB12 hB3)⟩
        · have hu0 : (pt != xt) = true := by rw [bne_iff_ne]; exact hu
          have hu1 : (pt == xt) = false := by rw [beq_eq_false_iff_ne]; exact hu
          rw [if_pos ⟨ht, hu⟩]
          clear ht hu
          go_enter Try.func19, Try.ntmps19
          go_wp2_with (go_at_call 22; ((with_reducible refine (GI.out _ HA.out).mono ?_); rintro e w1 ⟨rfl, hB1⟩; obtain ⟨g0, g1, g2, g3, g4, g5, g6, p0, p1, p2, p3, p4, p5, p6, p7, p8, p9⟩ := gp_cells hB1))
          clear g0 g1 g2 g3 g4 g5 g6 p0 p1 p2 p3 p4 p5 p6 p7 p8 p9
          have HS := Lib.hid (fun W (hW : Above w1 W) => gp_cells (id := id) (fi := fi) (te := te) (ht := ht) (hv := hv) (hc := hc) (l := l) (a := some ⟨b, off, none⟩) (cap := cap) (pg := pg) (pk := 3) (pa := pa) (plen := plen) (pcap := pcap) (pht := pht) (phv := phv) (phc := phc) (pi := pi) (pt := pt) (pm := pm) (ph := ph) (bel2 hB1 hW))
          obtain ⟨g0, g1, g2, g3, g4, g5, g6, p0, p1, p2, p3, p4, p5, p6, p7, p8, p9⟩ := HS.out _ (Below.refl _ _)
          go_wp2
          refine wp_region_below (by kernel_rfl) (by kernel_rfl) ?_
          repeat (first
            | (refine BigFrame.wpQuiet_skip (by rfl) ?_; (try simp only [Act.put, List.setIfInBounds_toArray, List.set_cons_zero, List.set_cons_succ]))
            | (refine BigFrame.wpQuiet_want (by rfl) (fun K hK => ?_); apply Exists.intro; refine ⟨fun W hW => ?_, hK _ ?_⟩; (focus (have hWB : Below _ _ W := hW; obtain ⟨g0, g1, g2, g3, g4, g5, g6, p0, p1, p2, p3, p4, p5, p6, p7, p8, p9⟩ := HS.out _ hW; go_simp; (first | done | with_reducible rfl | (go_at_call 37; with_reducible exact gives_above hW (GL.out _ (bel2 (bel2 HA.out hB1) hWB))) | (rw [if_neg (by omega)]; go_simp; (first | done | with_reducible rfl))))); clear hK K; (try simp only [Act.put, List.setIfInBounds_toArray, List.set_cons_zero, List.set_cons_succ])))
          refine wpQuiet_nil ?_
          intro w2 hB2
          replace hB2 : Below _ _ w2 := hB2
          have hB12 := bel2 hB1 hB2
          clear HS g0 g1 g2 g3 g4 g5 g6 p0 p1 p2 p3 p4 p5 p6 p7 p8 p9
          go_wp2
          have HS := Lib.hid (fun W (hW : Above w2 W) => And.intro (gp_cells (id := id) (fi := fi) (te := te) (ht := ht) (hv := hv) (hc := hc) (l := l) (a := (some ⟨b, off, none⟩)) (cap := cap) (pg := pg) (pk := 3) (pa := pa) (plen := plen) (pcap := pcap) (pht := pht) (phv := phv) (phc := phc) (pi := pi) (pt := pt) (pm := pm) (ph := ph) (bel2 hB12 hW)) (HX.out W (bel2 HA.out (bel2 hB12 hW))))
          refine wp_region_below (by kernel_rfl) (by kernel_rfl) ?_
          repeat (first
            | (refine BigFrame.wpQuiet_skip (by rfl) ?_; (try simp only [Act.put, List.setIfInBounds_toArray, List.set_cons_zero, List.set_cons_succ]))
            | (refine BigFrame.wpQuiet_want (by rfl) (fun K hK => ?_); apply Exists.intro; refine ⟨fun W hW => ?_, hK _ ?_⟩; (focus (have hWB : Below _ _ W := hW; obtain ⟨⟨g0, g1, g2, g3, g4, g5, g6, p0, p1, p2, p3, p4, p5, p6, p7, p8, p9⟩, d0, d1, d2⟩ := HS.out _ hW; go_simp; (first | done | with_reducible rfl | (go_at_call 37; with_reducible exact gives_above hW (GL.out _ (bel2 (bel2 HA.out hB1) hWB))) | (rw [if_neg (by omega)]; go_simp; (first | done | with_reducible rfl))))); clear hK K; (try simp only [Act.put, List.setIfInBounds_toArray, List.set_cons_zero, List.set_cons_succ])))
          refine wpQuiet_nil ?_
          intro w3 hB3
          replace hB3 : Below _ _ w3 := hB3
          go_wp2
          go_ret
          exact ⟨rfl, bel2 HA.out (bel2 hB12 hB3)⟩

theorem refChk_any (id fi te ht hv hc : Int) (l : List EntryC) (a : Option Addr) (cap : Nat) (pg pk : Int) (pa : Option Addr) (plen pcap : Nat) (pht phv phc pi pt : Int) (pm ph : Bool) (pl : List EntryC) (w : World) (hg : HasG w a ⟨id, fi, te, ht, hv, hc, l⟩) (hG : isG ⟨id, fi, te, ht, hv, hc, l⟩ = true) (hp : HasE w ⟨pg, pk, pa, plen, pcap, pht, phv, phc, pi, pt, pm, ph⟩ pl) : Gives Try.prog 19 #[.agg #[.int .i64 id, .int .i64 fi, .int .i64 te, .int .i64 ht, .int .i64 hv, .int .i64 hc, .slice a l.length cap], .agg #[.int .i64 pg, .int .i64 pk, .slice pa plen pcap, .int .i64 pht, .int .i64 phv, .int .i64 phc, .int .i64 pi, .int .i64 pt, .bool pm, .bool ph]] w (.int .i64 (chkG ⟨id, fi, te, ht, hv, hc, l⟩ ⟨pg, pk, pa, plen, pcap, pht, phv, phc, pi, pt, pm, ph⟩ pl)) := by
  unfold chkG
  dsimp only
  by_cases hb : isB ⟨pg, pk, pa, plen, pcap, pht, phv, phc, pi, pt, pm, ph⟩ pl = false ∨ pk = 6 ∨ pk = 5 ∨ pg ≠ id
  · rw [if_pos hb]; exact refChk_bad id fi te ht hv hc l a cap pg pk pa plen pcap pht phv phc pi pt pm ph pl w hg hG hp hb
  · rw [if_neg hb]
    have h1 : isB ⟨pg, pk, pa, plen, pcap, pht, phv, phc, pi, pt, pm, ph⟩ pl = true := by
      cases h : isB ⟨pg, pk, pa, plen, pcap, pht, phv, phc, pi, pt, pm, ph⟩ pl
      · exact absurd (.inl h) hb
      · rfl
    have hgi : pg = id := by
      by_cases h : pg = id
      · exact h
      · exact absurd (.inr (.inr (.inr h))) hb
    rcases (isB_iff _ _).1 h1 with ⟨_, h | h | h | h | h | h⟩
    · obtain rfl : pk = 1 := h.1
      exact refChk_1 id fi te ht hv hc l a cap pg pa plen pcap pht phv phc pi pt pm ph pl w hg hG hp h1 hgi
    · obtain rfl : pk = 2 := h.1
      exact refChk_2 id fi te ht hv hc l a cap pg pa plen pcap pht phv phc pi pt pm ph pl w hg hG hp h1 hgi
    · obtain rfl : pk = 3 := h.1
      exact refChk_3 id fi te ht hv hc l a cap pg pa plen pcap pht phv phc pi pt pm ph pl w hg hG hp h1 hgi
    · obtain rfl : pk = 4 := h.1
      exact refChk_4 id fi te ht hv hc l a cap pg pa plen pcap pht phv phc pi pt pm ph pl w hg hG hp h1 hgi
    · exact absurd (.inr (.inr (.inl h.1))) hb
    · exact absurd (.inr (.inl h.1)) hb

end Go.Proofs.Ytfbibpnkfmgkaaa
