/- GrpChk, GrpDo, GrpDo1, GrpDo2: in one text. -/
import Derived.Test.YthedmemkckclpaaGreatGrp
import Derived.Test.YthedmemkckclpaaGreatQuietC
import Derived.Test.YthedmemkckclpaaGreatGrpTrm
import Derived.Lib.SliceRun
import Derived.OwnWalkIn
import Derived.Sort.QuietTacIn
import Derived.Sort.QuietLawsIn
import Derived.BigRegionIn
/- The contracts of package group's checkAppend, checkCompact, Check. -/
namespace Go.Proofs.YthedmemkckclpaaGreat
open Go.RowKit Go.Shelf
set_option linter.unusedVariables false
attribute [local go_sem] Oper.semAt_some wide_fn wide_round_fn

theorem gp_cells {w W : World} {id fi te ht hv hc : Int} {l : List EntryC} {a : Option Addr} {cap : Nat} {pg pk : Int} {pa : Option Addr} {plen pcap : Nat} {pht phv phc pi pt : Int} {pm ph : Bool} (h : Below ((w.alloc (.cells #[.int .i64 id, .int .i64 fi, .int .i64 te, .int .i64 ht, .int .i64 hv, .int .i64 hc, .slice a l.length cap] 39)).alloc (.cells #[.int .i64 pg, .int .i64 pk, .slice pa plen pcap, .int .i64 pht, .int .i64 phv, .int .i64 phc, .int .i64 pi, .int .i64 pt, .bool pm, .bool ph] 30)).heap.size ((w.alloc (.cells #[.int .i64 id, .int .i64 fi, .int .i64 te, .int .i64 ht, .int .i64 hv, .int .i64 hc, .slice a l.length cap] 39)).alloc (.cells #[.int .i64 pg, .int .i64 pk, .slice pa plen pcap, .int .i64 pht, .int .i64 phv, .int .i64 phc, .int .i64 pi, .int .i64 pt, .bool pm, .bool ph] 30)) W) :
    W.cell? ⟨w.heap.size, 0, none⟩ = some (.int .i64 id) ∧ W.cell? ⟨w.heap.size, 1, none⟩ = some (.int .i64 fi) ∧ W.cell? ⟨w.heap.size, 2, none⟩ = some (.int .i64 te) ∧ W.cell? ⟨w.heap.size, 3, none⟩ = some (.int .i64 ht) ∧ W.cell? ⟨w.heap.size, 4, none⟩ = some (.int .i64 hv) ∧ W.cell? ⟨w.heap.size, 5, none⟩ = some (.int .i64 hc) ∧ W.cell? ⟨w.heap.size, 6, none⟩ = some (.slice a l.length cap) ∧ W.cell? ⟨w.heap.size + 1, 0, none⟩ = some (.int .i64 pg) ∧ W.cell? ⟨w.heap.size + 1, 1, none⟩ = some (.int .i64 pk) ∧ W.cell? ⟨w.heap.size + 1, 2, none⟩ = some (.slice pa plen pcap) ∧ W.cell? ⟨w.heap.size + 1, 3, none⟩ = some (.int .i64 pht) ∧ W.cell? ⟨w.heap.size + 1, 4, none⟩ = some (.int .i64 phv) ∧ W.cell? ⟨w.heap.size + 1, 5, none⟩ = some (.int .i64 phc) ∧ W.cell? ⟨w.heap.size + 1, 6, none⟩ = some (.int .i64 pi) ∧ W.cell? ⟨w.heap.size + 1, 7, none⟩ = some (.int .i64 pt) ∧ W.cell? ⟨w.heap.size + 1, 8, none⟩ = some (.bool pm) ∧ W.cell? ⟨w.heap.size + 1, 9, none⟩ = some (.bool ph) := by
  have c1 : ∀ j, W.cell? ⟨w.heap.size, j, none⟩ = (#[.int .i64 id, .int .i64 fi, .int .i64 te, .int .i64 ht, .int .i64 hv, .int .i64 hc, .slice a l.length cap] : Array Value)[j]? := fun j => cell_of_row _ _ j _ _ _ ((h.block _ (by simp; omega)).trans (two_a w _ _ _ _))
  have c2 : ∀ j, W.cell? ⟨w.heap.size + 1, j, none⟩ = (#[.int .i64 pg, .int .i64 pk, .slice pa plen pcap, .int .i64 pht, .int .i64 phv, .int .i64 phc, .int .i64 pi, .int .i64 pt, .bool pm, .bool ph] : Array Value)[j]? := fun j => cell_of_row _ _ j _ _ _ ((h.block _ (by simp)).trans (two_b w _ _ _ _))
  exact ⟨c1 0, c1 1, c1 2, c1 3, c1 4, c1 5, c1 6, c2 0, c2 1, c2 2, c2 3, c2 4, c2 5, c2 6, c2 7, c2 8, c2 9⟩
theorem gp_bel (w : World) (A B : Array Value) (T U : TypeId) : Below w.heap.size w ((w.alloc (.cells A T)).alloc (.cells B U)) := bel_alloc (bel_alloc (Below.refl _ _) _) _

set_option maxRecDepth 100000 in
set_option maxHeartbeats 4000000 in
theorem chkA_any (id fi te ht hv hc : Int) (l : List EntryC) (a : Option Addr) (cap : Nat) (f : Int) (w : World) (hg : HasG w a ⟨id, fi, te, ht, hv, hc, l⟩) (hG : isG ⟨id, fi, te, ht, hv, hc, l⟩ = true) : Gives Tryz.prog 94 #[.agg #[.int .i64 id, .int .i64 fi, .int .i64 te, .int .i64 ht, .int .i64 hv, .int .i64 hc, .slice a l.length cap], .int .i64 f] w (.int .i64 (chkA ⟨id, fi, te, ht, hv, hc, l⟩ f)) := by
  have GL := Lib.hid (fun W (hB : Below w.heap.size w W) => last_any id fi te ht hv hc l a cap W (hg.below hB) hG)
  obtain ⟨⟨_, ⟨h1, h2⟩, _⟩, _, _⟩ := isG_iff.1 hG
  have hm := hg.1
  dsimp only at hm h1 h2
  have HA := Lib.hid (bel_alloc (Below.refl w.heap.size w) (.cells #[.int .i64 id, .int .i64 fi, .int .i64 te, .int .i64 ht, .int .i64 hv, .int .i64 hc, .slice a l.length cap] 39))
  clear hg hG
  unfold Gives chkA lastG
  dsimp only
  by_cases hc1 : f < fi
  · rw [if_pos hc1]
    go_enter Tryz.func94, Tryz.ntmps94
    go_wp2
    go_ret
    exact ⟨rfl, bel_alloc (Below.refl _ _) _⟩
  · rw [if_neg hc1]
    by_cases hc2 : fi - 1 + (l.length : Int) + 1 < f
    · rw [if_pos hc2]
      have ht : decide (fi - 1 + (l.length : Int) + 1 < f) = true := decide_eq_true hc2
      go_enter Tryz.func94, Tryz.ntmps94
      go_wp2_with (go_at_call 86; ((with_reducible refine (GL.out _ HA.out).mono ?_); rintro e w2 ⟨rfl, hB2⟩))
      go_ret
      exact ⟨rfl, blk_below hB2⟩
    · rw [if_neg hc2]
      have ht : decide (fi - 1 + (l.length : Int) + 1 < f) = false := decide_eq_false hc2
      go_enter Tryz.func94, Tryz.ntmps94
      go_wp2_with (go_at_call 86; ((with_reducible refine (GL.out _ HA.out).mono ?_); rintro e w2 ⟨rfl, hB2⟩))
      go_ret
      exact ⟨rfl, blk_below hB2⟩

attribute [local irreducible] wpQuiet
set_option maxRecDepth 100000 in
set_option maxHeartbeats 4000000 in
theorem chkC_any (id fi te ht hv hc : Int) (l : List EntryC) (a : Option Addr) (cap : Nat) (pg pk : Int) (pa : Option Addr) (plen pcap : Nat) (pht phv phc pi pt : Int) (pm ph : Bool) (w : World) (hg : HasG w a ⟨id, fi, te, ht, hv, hc, l⟩) (hG : isG ⟨id, fi, te, ht, hv, hc, l⟩ = true) : Gives Tryz.prog 95 #[.agg #[.int .i64 id, .int .i64 fi, .int .i64 te, .int .i64 ht, .int .i64 hv, .int .i64 hc, .slice a l.length cap], .agg #[.int .i64 pg, .int .i64 pk, .slice pa plen pcap, .int .i64 pht, .int .i64 phv, .int .i64 phc, .int .i64 pi, .int .i64 pt, .bool pm, .bool ph]] w (.int .i64 (chkC ⟨id, fi, te, ht, hv, hc, l⟩ pi pt)) := by
  have GL := Lib.hid (fun W (hB : Below w.heap.size w W) => last_any id fi te ht hv hc l a cap W (hg.below hB) hG)
  have GE := Lib.hid (fun W (hB : Below w.heap.size w W) => entT_any ⟨id, fi, te, ht, hv, hc, l⟩ a cap pi W (hg.below hB))
  obtain ⟨⟨_, ⟨h1, h2⟩, _⟩, _, _⟩ := isG_iff.1 hG
  have hm := hg.1
  dsimp only at hm h1 h2
  have HA := Lib.hid (gp_bel w #[.int .i64 id, .int .i64 fi, .int .i64 te, .int .i64 ht, .int .i64 hv, .int .i64 hc, .slice a l.length cap] #[.int .i64 pg, .int .i64 pk, .slice pa plen pcap, .int .i64 pht, .int .i64 phv, .int .i64 phc, .int .i64 pi, .int .i64 pt, .bool pm, .bool ph] 39 30)
  have HS := Lib.hid (fun W (hW : Above ((w.alloc (.cells #[.int .i64 id, .int .i64 fi, .int .i64 te, .int .i64 ht, .int .i64 hv, .int .i64 hc, .slice a l.length cap] 39)).alloc (.cells #[.int .i64 pg, .int .i64 pk, .slice pa plen pcap, .int .i64 pht, .int .i64 phv, .int .i64 phc, .int .i64 pi, .int .i64 pt, .bool pm, .bool ph] 30)) W) => gp_cells (id := id) (fi := fi) (te := te) (ht := ht) (hv := hv) (hc := hc) (l := l) (a := a) (cap := cap) (pg := pg) (pk := pk) (pa := pa) (plen := plen) (pcap := pcap) (pht := pht) (phv := phv) (phc := phc) (pi := pi) (pt := pt) (pm := pm) (ph := ph) (show Below ((w.alloc (.cells #[.int .i64 id, .int .i64 fi, .int .i64 te, .int .i64 ht, .int .i64 hv, .int .i64 hc, .slice a l.length cap] 39)).alloc (.cells #[.int .i64 pg, .int .i64 pk, .slice pa plen pcap, .int .i64 pht, .int .i64 phv, .int .i64 phc, .int .i64 pi, .int .i64 pt, .bool pm, .bool ph] 30)).heap.size ((w.alloc (.cells #[.int .i64 id, .int .i64 fi, .int .i64 te, .int .i64 ht, .int .i64 hv, .int .i64 hc, .slice a l.length cap] 39)).alloc (.cells #[.int .i64 pg, .int .i64 pk, .slice pa plen pcap, .int .i64 pht, .int .i64 phv, .int .i64 phc, .int .i64 pi, .int .i64 pt, .bool pm, .bool ph] 30)) W from hW))
  clear hg hG
  unfold Gives chkC lastG
  dsimp only [GM.val] at *
  generalize entT l pi = u at *
  by_cases hc1 : pi < fi
  · rw [if_pos hc1]
    go_enter Tryz.func95, Tryz.ntmps95
    go_wp2
    go_ret
    exact ⟨rfl, gp_bel _ _ _ _ _⟩
  · rw [if_neg hc1]
    by_cases hc2 : fi - 1 + (l.length : Int) < pi
    · rw [if_pos hc2]
      go_enter Tryz.func95, Tryz.ntmps95
      go_wp2
      refine wp_region_below (by kernel_rfl) (by kernel_rfl) ?_
      repeat (first
        | (refine BigFrame.wpQuiet_skip (by rfl) ?_; (try simp only [Act.put, List.setIfInBounds_toArray, List.set_cons_zero, List.set_cons_succ]))
        | (refine BigFrame.wpQuiet_want (by rfl) (fun K hK => ?_); apply Exists.intro; refine ⟨fun W hW => ?_, hK _ ?_⟩; (focus (have hWB : Below _ _ W := hW; obtain ⟨g0, g1, g2, g3, g4, g5, g6, p0, p1, p2, p3, p4, p5, p6, p7, p8, p9⟩ := HS.out _ hW; go_simp; (first | done | with_reducible rfl | (first | (go_at_call 86; with_reducible exact gives_above hW (GL.out _ (bel2 HA.out hWB))) | (go_at_call 84; with_reducible exact gives_above hW (GE.out _ (bel2 HA.out hWB)))) | (rw [if_neg (by omega)]; go_simp; (first | done | with_reducible rfl))))); clear hK K; (try simp only [Act.put, List.setIfInBounds_toArray, List.set_cons_zero, List.set_cons_succ])))
      refine wpQuiet_nil ?_
      intro w1 hB1
      replace hB1 : Below _ _ w1 := hB1
      go_wp2
      go_ret
      exact ⟨rfl, bel2 HA.out hB1⟩
    · rw [if_neg hc2]
      by_cases ht : pt = 0
      · have ht0 : (pt != 0) = false := by rw [bne_eq_false_iff_eq]; exact ht
        have ht1 : (pt == 0) = true := by rw [beq_iff_eq]; exact ht
        rw [if_neg (fun h => h.1 ht)]
        clear ht
        go_enter Tryz.func95, Tryz.ntmps95
        go_wp2
        refine wp_region_below (by kernel_rfl) (by kernel_rfl) ?_
        repeat (first
          | (refine BigFrame.wpQuiet_skip (by rfl) ?_; (try simp only [Act.put, List.setIfInBounds_toArray, List.set_cons_zero, List.set_cons_succ]))
          | (refine BigFrame.wpQuiet_want (by rfl) (fun K hK => ?_); apply Exists.intro; refine ⟨fun W hW => ?_, hK _ ?_⟩; (focus (have hWB : Below _ _ W := hW; obtain ⟨g0, g1, g2, g3, g4, g5, g6, p0, p1, p2, p3, p4, p5, p6, p7, p8, p9⟩ := HS.out _ hW; go_simp; (first | done | with_reducible rfl | (first | (go_at_call 86; with_reducible exact gives_above hW (GL.out _ (bel2 HA.out hWB))) | (go_at_call 84; with_reducible exact gives_above hW (GE.out _ (bel2 HA.out hWB)))) | (rw [if_neg (by omega)]; go_simp; (first | done | with_reducible rfl))))); clear hK K; (try simp only [Act.put, List.setIfInBounds_toArray, List.set_cons_zero, List.set_cons_succ])))
        refine wpQuiet_nil ?_
        intro w1 hB1
        replace hB1 : Below _ _ w1 := hB1
        have HA1 := Lib.hid (bel2 HA.out hB1)
        go_wp2
        clear HS
        have HS := Lib.hid (fun W (hW : Above w1 W) => gp_cells (id := id) (fi := fi) (te := te) (ht := ht) (hv := hv) (hc := hc) (l := l) (a := a) (cap := cap) (pg := pg) (pk := pk) (pa := pa) (plen := plen) (pcap := pcap) (pht := pht) (phv := phv) (phc := phc) (pi := pi) (pt := pt) (pm := pm) (ph := ph) (show Below ((w.alloc (.cells #[.int .i64 id, .int .i64 fi, .int .i64 te, .int .i64 ht, .int .i64 hv, .int .i64 hc, .slice a l.length cap] 39)).alloc (.cells #[.int .i64 pg, .int .i64 pk, .slice pa plen pcap, .int .i64 pht, .int .i64 phv, .int .i64 phc, .int .i64 pi, .int .i64 pt, .bool pm, .bool ph] 30)).heap.size ((w.alloc (.cells #[.int .i64 id, .int .i64 fi, .int .i64 te, .int .i64 ht, .int .i64 hv, .int .i64 hc, .slice a l.length cap] 39)).alloc (.cells #[.int .i64 pg, .int .i64 pk, .slice pa plen pcap, .int .i64 pht, .int .i64 phv, .int .i64 phc, .int .i64 pi, .int .i64 pt, .bool pm, .bool ph] 30)) W from bel2 hB1 hW))
        refine wp_region_below (by kernel_rfl) (by kernel_rfl) ?_
        repeat (first
          | (refine BigFrame.wpQuiet_skip (by rfl) ?_; (try simp only [Act.put, List.setIfInBounds_toArray, List.set_cons_zero, List.set_cons_succ]))
          | (refine BigFrame.wpQuiet_want (by rfl) (fun K hK => ?_); apply Exists.intro; refine ⟨fun W hW => ?_, hK _ ?_⟩; (focus (have hWB : Below _ _ W := hW; obtain ⟨g0, g1, g2, g3, g4, g5, g6, p0, p1, p2, p3, p4, p5, p6, p7, p8, p9⟩ := HS.out _ hW; go_simp; (first | done | with_reducible rfl | (first | (go_at_call 86; with_reducible exact gives_above hW (GL.out _ (bel2 HA.out hWB))) | (go_at_call 84; with_reducible exact gives_above hW (GE.out _ (bel2 HA.out hWB)))) | (rw [if_neg (by omega)]; go_simp; (first | done | with_reducible rfl))))); clear hK K; (try simp only [Act.put, List.setIfInBounds_toArray, List.set_cons_zero, List.set_cons_succ])))
        refine wpQuiet_nil ?_
        intro w2 hB2
        replace hB2 : Below _ _ w2 := hB2
        go_wp2
        go_ret
        exact ⟨rfl, bel2 HA1.out hB2⟩
      · have ht0 : (pt != 0) = true := by rw [bne_iff_ne]; exact ht
        have ht1 : (pt == 0) = false := by rw [beq_eq_false_iff_ne]; exact ht
        by_cases hu : pt = u
        · have hu0 : (pt != u) = false := by rw [bne_eq_false_iff_eq]; exact hu
          have hu1 : (pt == u) = true := by rw [beq_iff_eq]; exact hu
          rw [if_neg (fun h => h.2 hu)]
          clear ht hu
          go_enter Tryz.func95, Tryz.ntmps95
          go_wp2
          refine wp_region_below (by kernel_rfl) (by kernel_rfl) ?_
          repeat (first
            | (refine BigFrame.wpQuiet_skip (by rfl) ?_; (try simp only [Act.put, List.setIfInBounds_toArray, List.set_cons_zero, List.set_cons_succ]))
            | (refine BigFrame.wpQuiet_want (by rfl) (fun K hK => ?_); apply Exists.intro; refine ⟨fun W hW => ?_, hK _ ?_⟩; (focus (have hWB : Below _ _ W := hW; obtain ⟨g0, g1, g2, g3, g4, g5, g6, p0, p1, p2, p3, p4, p5, p6, p7, p8, p9⟩ := HS.out _ hW; go_simp; (first | done | with_reducible rfl | (first | (go_at_call 86; with_reducible exact gives_above hW (GL.out _ (bel2 HA.out hWB))) | (go_at_call 84; with_reducible exact gives_above hW (GE.out _ (bel2 HA.out hWB)))) | (rw [if_neg (by omega)]; go_simp; (first | done | with_reducible rfl))))); clear hK K; (try simp only [Act.put, List.setIfInBounds_toArray, List.set_cons_zero, List.set_cons_succ])))
          refine wpQuiet_nil ?_
          intro w1 hB1
          replace hB1 : Below _ _ w1 := hB1
          have HA1 := Lib.hid (bel2 HA.out hB1)
          go_wp2
          clear HS
          have HS := Lib.hid (fun W (hW : Above w1 W) => gp_cells (id := id) (fi := fi) (te := te) (ht := ht) (hv := hv) (hc := hc) (l := l) (a := a) (cap := cap) (pg := pg) (pk := pk) (pa := pa) (plen := plen) (pcap := pcap) (pht := pht) (phv := phv) (phc := phc) (pi := pi) (pt := pt) (pm := pm) (ph := ph) (show Below ((w.alloc (.cells #[.int .i64 id, .int .i64 fi, .int .i64 te, .int .i64 ht, .int .i64 hv, .int .i64 hc, .slice a l.length cap] 39)).alloc (.cells #[.int .i64 pg, .int .i64 pk, .slice pa plen pcap, .int .i64 pht, .int .i64 phv, .int .i64 phc, .int .i64 pi, .int .i64 pt, .bool pm, .bool ph] 30)).heap.size ((w.alloc (.cells #[.int .i64 id, .int .i64 fi, .int .i64 te, .int .i64 ht, .int .i64 hv, .int .i64 hc, .slice a l.length cap] 39)).alloc (.cells #[.int .i64 pg, .int .i64 pk, .slice pa plen pcap, .int .i64 pht, .int .i64 phv, .int .i64 phc, .int .i64 pi, .int .i64 pt, .bool pm, .bool ph] 30)) W from bel2 hB1 hW))
          refine wp_region_below (by kernel_rfl) (by kernel_rfl) ?_
          repeat (first
            | (refine BigFrame.wpQuiet_skip (by rfl) ?_; (try simp only [Act.put, List.setIfInBounds_toArray, List.set_cons_zero, List.set_cons_succ]))
            | (refine BigFrame.wpQuiet_want (by rfl) (fun K hK => ?_); apply Exists.intro; refine ⟨fun W hW => ?_, hK _ ?_⟩; (focus (have hWB : Below _ _ W := hW; obtain ⟨g0, g1, g2, g3, g4, g5, g6, p0, p1, p2, p3, p4, p5, p6, p7, p8, p9⟩ := HS.out _ hW; go_simp; (first | done | with_reducible rfl | (first | (go_at_call 86; with_reducible exact gives_above hW (GL.out _ (bel2 HA1.out hWB))) | (go_at_call 84; with_reducible exact gives_above hW (GE.out _ (bel2 HA1.out hWB)))) | (rw [if_neg (by omega)]; go_simp; (first | done | with_reducible rfl))))); clear hK K; (try simp only [Act.put, List.setIfInBounds_toArray, List.set_cons_zero, List.set_cons_succ])))
          refine wpQuiet_nil ?_
          intro w2 hB2
          replace hB2 : Below _ _ w2 := hB2
          go_wp2
          go_ret
          exact ⟨rfl, bel2 HA1.out hB2⟩
        · have hu0 : (pt != u) = true := by rw [bne_iff_ne]; exact hu
          have hu1 : (pt == u) = false := by rw [beq_eq_false_iff_ne]; exact hu
          rw [if_pos ⟨ht, hu⟩]
          clear ht hu
          go_enter Tryz.func95, Tryz.ntmps95
          go_wp2
          refine wp_region_below (by kernel_rfl) (by kernel_rfl) ?_
          repeat (first
            | (refine BigFrame.wpQuiet_skip (by rfl) ?_; (try simp only [Act.put, List.setIfInBounds_toArray, List.set_cons_zero, List.set_cons_succ]))
            | (refine BigFrame.wpQuiet_want (by rfl) (fun K hK => ?_); apply Exists.intro; refine ⟨fun W hW => ?_, hK _ ?_⟩; (focus (have hWB : Below _ _ W := hW; obtain ⟨g0, g1, g2, g3, g4, g5, g6, p0, p1, p2, p3, p4, p5, p6, p7, p8, p9⟩ := HS.out _ hW; go_simp; (first | done | with_reducible rfl | (first | (go_at_call 86; with_reducible exact gives_above hW (GL.out _ (bel2 HA.out hWB))) | (go_at_call 84; with_reducible exact gives_above hW (GE.out _ (bel2 HA.out hWB)))) | (rw [if_neg (by omega)]; go_simp; (first | done | with_reducible rfl))))); clear hK K; (try simp only [Act.put, List.setIfInBounds_toArray, List.set_cons_zero, List.set_cons_succ])))
          refine wpQuiet_nil ?_
          intro w1 hB1
          replace hB1 : Below _ _ w1 := hB1
          have HA1 := Lib.hid (bel2 HA.out hB1)
          go_wp2
          clear HS
          have HS := Lib.hid (fun W (hW : Above w1 W) => gp_cells (id := id) (fi := fi) (te := te) (ht := ht) (hv := hv) (hc := hc) (l := l) (a := a) (cap := cap) (pg := pg) (pk := pk) (pa := pa) (plen := plen) (pcap := pcap) (pht := pht) (phv := phv) (phc := phc) (pi := pi) (pt := pt) (pm := pm) (ph := ph) (show Below ((w.alloc (.cells #[.int .i64 id, .int .i64 fi, .int .i64 te, .int .i64 ht, .int .i64 hv, .int .i64 hc, .slice a l.length cap] 39)).alloc (.cells #[.int .i64 pg, .int .i64 pk, .slice pa plen pcap, .int .i64 pht, .int .i64 phv, .int .i64 phc, .int .i64 pi, .int .i64 pt, .bool pm, .bool ph] 30)).heap.size ((w.alloc (.cells #[.int .i64 id, .int .i64 fi, .int .i64 te, .int .i64 ht, .int .i64 hv, .int .i64 hc, .slice a l.length cap] 39)).alloc (.cells #[.int .i64 pg, .int .i64 pk, .slice pa plen pcap, .int .i64 pht, .int .i64 phv, .int .i64 phc, .int .i64 pi, .int .i64 pt, .bool pm, .bool ph] 30)) W from bel2 hB1 hW))
          refine wp_region_below (by kernel_rfl) (by kernel_rfl) ?_
          repeat (first
            | (refine BigFrame.wpQuiet_skip (by rfl) ?_; (try simp only [Act.put, List.setIfInBounds_toArray, List.set_cons_zero, List.set_cons_succ]))
            | (refine BigFrame.wpQuiet_want (by rfl) (fun K hK => ?_); apply Exists.intro; refine ⟨fun W hW => ?_, hK _ ?_⟩; (focus (have hWB : Below _ _ W := hW; obtain ⟨g0, g1, g2, g3, g4, g5, g6, p0, p1, p2, p3, p4, p5, p6, p7, p8, p9⟩ := HS.out _ hW; go_simp; (first | done | with_reducible rfl | (first | (go_at_call 86; with_reducible exact gives_above hW (GL.out _ (bel2 HA1.out hWB))) | (go_at_call 84; with_reducible exact gives_above hW (GE.out _ (bel2 HA1.out hWB)))) | (rw [if_neg (by omega)]; go_simp; (first | done | with_reducible rfl))))); clear hK K; (try simp only [Act.put, List.setIfInBounds_toArray, List.set_cons_zero, List.set_cons_succ])))
          refine wpQuiet_nil ?_
          intro w2 hB2
          replace hB2 : Below _ _ w2 := hB2
          go_wp2
          go_ret
          exact ⟨rfl, bel2 HA1.out hB2⟩

set_option maxRecDepth 100000 in
set_option maxHeartbeats 4000000 in
theorem chk_bad (id fi te ht hv hc : Int) (l : List EntryC) (a : Option Addr) (cap : Nat) (pg pk : Int) (pa : Option Addr) (plen pcap : Nat) (pht phv phc pi pt : Int) (pm ph : Bool) (pl : List EntryC) (w : World) (hg : HasG w a ⟨id, fi, te, ht, hv, hc, l⟩) (hG : isG ⟨id, fi, te, ht, hv, hc, l⟩ = true) (hp : HasE w ⟨pg, pk, pa, plen, pcap, pht, phv, phc, pi, pt, pm, ph⟩ pl) (hb : isB ⟨pg, pk, pa, plen, pcap, pht, phv, phc, pi, pt, pm, ph⟩ pl = false ∨ pk = 6 ∨ pk = 5 ∨ pg ≠ id) : Gives Tryz.prog 83 #[.agg #[.int .i64 id, .int .i64 fi, .int .i64 te, .int .i64 ht, .int .i64 hv, .int .i64 hc, .slice a l.length cap], .agg #[.int .i64 pg, .int .i64 pk, .slice pa plen pcap, .int .i64 pht, .int .i64 phv, .int .i64 phc, .int .i64 pi, .int .i64 pt, .bool pm, .bool ph]] w (.int .i64 11) := by
  have HA := Lib.hid (gp_bel w #[.int .i64 id, .int .i64 fi, .int .i64 te, .int .i64 ht, .int .i64 hv, .int .i64 hc, .slice a l.length cap] #[.int .i64 pg, .int .i64 pk, .slice pa plen pcap, .int .i64 pht, .int .i64 phv, .int .i64 phc, .int .i64 pi, .int .i64 pt, .bool pm, .bool ph] 39 30)
  have GI := Lib.hid (fun W (hB : Below w.heap.size w W) => is_any ⟨pg, pk, pa, plen, pcap, pht, phv, phc, pi, pt, pm, ph⟩ pl W (hp.below hB))
  clear hg hG hp
  unfold Gives
  generalize isB ⟨pg, pk, pa, plen, pcap, pht, phv, phc, pi, pt, pm, ph⟩ pl = bi at *
  dsimp only [PartC.val, PartC.arr] at GI
  cases bi
  · clear hb
    go_enter Tryz.func83, Tryz.ntmps83
    go_wp2_with (go_at_call 28; ((with_reducible refine (GI.out _ HA.out).mono ?_); rintro e w1 ⟨rfl, hB1⟩; obtain ⟨g0, g1, g2, g3, g4, g5, g6, p0, p1, p2, p3, p4, p5, p6, p7, p8, p9⟩ := gp_cells hB1))
    go_ret
    exact ⟨rfl, bel2 HA.out hB1⟩
  · have hb2 : pk = 6 ∨ (pk ≠ 6 ∧ pk = 5) ∨ (pk ≠ 6 ∧ pk ≠ 5 ∧ pg ≠ id) := by
      rcases hb with h | h | h | h
      · cases h
      · exact .inl h
      · exact .inr (.inl ⟨by omega, h⟩)
      · by_cases h6 : pk = 6
        · exact .inl h6
        · by_cases h5 : pk = 5
          · exact .inr (.inl ⟨h6, h5⟩)
          · exact .inr (.inr ⟨h6, h5, h⟩)
    clear hb
    rcases hb2 with rfl | ⟨-, rfl⟩ | ⟨h6, h5, hne⟩
    · go_enter Tryz.func83, Tryz.ntmps83
      go_wp2_with (go_at_call 28; ((with_reducible refine (GI.out _ HA.out).mono ?_); rintro e w1 ⟨rfl, hB1⟩; obtain ⟨g0, g1, g2, g3, g4, g5, g6, p0, p1, p2, p3, p4, p5, p6, p7, p8, p9⟩ := gp_cells hB1))
      go_ret
      exact ⟨rfl, bel2 HA.out hB1⟩
    · go_enter Tryz.func83, Tryz.ntmps83
      go_wp2_with (go_at_call 28; ((with_reducible refine (GI.out _ HA.out).mono ?_); rintro e w1 ⟨rfl, hB1⟩; obtain ⟨g0, g1, g2, g3, g4, g5, g6, p0, p1, p2, p3, p4, p5, p6, p7, p8, p9⟩ := gp_cells hB1))
      go_ret
      exact ⟨rfl, bel2 HA.out hB1⟩
    · have t6 : (pk == 6) = false := by rw [beq_eq_false_iff_ne]; exact h6
      have t5 : (pk == 5) = false := by rw [beq_eq_false_iff_ne]; exact h5
      have tg : (pg == id) = false := by rw [beq_eq_false_iff_ne]; exact hne
      have tg2 : (pg != id) = true := by rw [bne_iff_ne]; exact hne
      clear h6 h5 hne
      go_enter Tryz.func83, Tryz.ntmps83
      go_wp2_with (go_at_call 28; ((with_reducible refine (GI.out _ HA.out).mono ?_); rintro e w1 ⟨rfl, hB1⟩; obtain ⟨g0, g1, g2, g3, g4, g5, g6, p0, p1, p2, p3, p4, p5, p6, p7, p8, p9⟩ := gp_cells hB1))
      go_ret
      exact ⟨rfl, bel2 HA.out hB1⟩

set_option maxRecDepth 100000 in
set_option maxHeartbeats 4000000 in
theorem chk_2 (id fi te ht hv hc : Int) (l : List EntryC) (a : Option Addr) (cap : Nat) (pg : Int) (pa : Option Addr) (plen pcap : Nat) (pht phv phc pi pt : Int) (pm ph : Bool) (pl : List EntryC) (w : World) (hg : HasG w a ⟨id, fi, te, ht, hv, hc, l⟩) (hG : isG ⟨id, fi, te, ht, hv, hc, l⟩ = true) (hp : HasE w ⟨pg, 2, pa, plen, pcap, pht, phv, phc, pi, pt, pm, ph⟩ pl) (hb : isB ⟨pg, 2, pa, plen, pcap, pht, phv, phc, pi, pt, pm, ph⟩ pl = true) (hgi : pg = id) : Gives Tryz.prog 83 #[.agg #[.int .i64 id, .int .i64 fi, .int .i64 te, .int .i64 ht, .int .i64 hv, .int .i64 hc, .slice a l.length cap], .agg #[.int .i64 pg, .int .i64 2, .slice pa plen pcap, .int .i64 pht, .int .i64 phv, .int .i64 phc, .int .i64 pi, .int .i64 pt, .bool pm, .bool ph]] w (.int .i64 0) := by
  have HA := Lib.hid (gp_bel w #[.int .i64 id, .int .i64 fi, .int .i64 te, .int .i64 ht, .int .i64 hv, .int .i64 hc, .slice a l.length cap] #[.int .i64 pg, .int .i64 2, .slice pa plen pcap, .int .i64 pht, .int .i64 phv, .int .i64 phc, .int .i64 pi, .int .i64 pt, .bool pm, .bool ph] 39 30)
  have GI := Lib.hid (fun W (hB : Below w.heap.size w W) => is_any ⟨pg, 2, pa, plen, pcap, pht, phv, phc, pi, pt, pm, ph⟩ pl W (hp.below hB))
  rw [hb] at GI
  have tg : (pg == id) = true := by rw [beq_iff_eq]; exact hgi
  have tg2 : (pg != id) = false := by rw [bne_eq_false_iff_eq]; exact hgi
  clear hg hG hp hb hgi
  unfold Gives
  dsimp only [PartC.val, PartC.arr] at GI
  go_enter Tryz.func83, Tryz.ntmps83
  go_wp2_with (go_at_call 28; ((with_reducible refine (GI.out _ HA.out).mono ?_); rintro e w1 ⟨rfl, hB1⟩; obtain ⟨g0, g1, g2, g3, g4, g5, g6, p0, p1, p2, p3, p4, p5, p6, p7, p8, p9⟩ := gp_cells hB1))
  go_ret
  exact ⟨rfl, bel2 HA.out hB1⟩

set_option maxRecDepth 100000 in
set_option maxHeartbeats 4000000 in
theorem chk_4 (id fi te ht hv hc : Int) (l : List EntryC) (a : Option Addr) (cap : Nat) (pg : Int) (pa : Option Addr) (plen pcap : Nat) (pht phv phc pi pt : Int) (pm ph : Bool) (pl : List EntryC) (w : World) (hg : HasG w a ⟨id, fi, te, ht, hv, hc, l⟩) (hG : isG ⟨id, fi, te, ht, hv, hc, l⟩ = true) (hp : HasE w ⟨pg, 4, pa, plen, pcap, pht, phv, phc, pi, pt, pm, ph⟩ pl) (hb : isB ⟨pg, 4, pa, plen, pcap, pht, phv, phc, pi, pt, pm, ph⟩ pl = true) (hgi : pg = id) : Gives Tryz.prog 83 #[.agg #[.int .i64 id, .int .i64 fi, .int .i64 te, .int .i64 ht, .int .i64 hv, .int .i64 hc, .slice a l.length cap], .agg #[.int .i64 pg, .int .i64 4, .slice pa plen pcap, .int .i64 pht, .int .i64 phv, .int .i64 phc, .int .i64 pi, .int .i64 pt, .bool pm, .bool ph]] w (.int .i64 (if pi < fi then 15 else 0)) := by
  have HA := Lib.hid (gp_bel w #[.int .i64 id, .int .i64 fi, .int .i64 te, .int .i64 ht, .int .i64 hv, .int .i64 hc, .slice a l.length cap] #[.int .i64 pg, .int .i64 4, .slice pa plen pcap, .int .i64 pht, .int .i64 phv, .int .i64 phc, .int .i64 pi, .int .i64 pt, .bool pm, .bool ph] 39 30)
  have GI := Lib.hid (fun W (hB : Below w.heap.size w W) => is_any ⟨pg, 4, pa, plen, pcap, pht, phv, phc, pi, pt, pm, ph⟩ pl W (hp.below hB))
  rw [hb] at GI
  have tg : (pg == id) = true := by rw [beq_iff_eq]; exact hgi
  have tg2 : (pg != id) = false := by rw [bne_eq_false_iff_eq]; exact hgi
  clear hg hG hp hb hgi
  unfold Gives
  dsimp only [PartC.val, PartC.arr] at GI
  by_cases hc : pi < fi
  · rw [if_pos hc]
    go_enter Tryz.func83, Tryz.ntmps83
    go_wp2_with (go_at_call 28; ((with_reducible refine (GI.out _ HA.out).mono ?_); rintro e w1 ⟨rfl, hB1⟩; obtain ⟨g0, g1, g2, g3, g4, g5, g6, p0, p1, p2, p3, p4, p5, p6, p7, p8, p9⟩ := gp_cells hB1))
    go_ret
    exact ⟨rfl, bel2 HA.out hB1⟩
  · rw [if_neg hc]
    have hc2 : fi ≤ pi := by omega
    clear hc
    go_enter Tryz.func83, Tryz.ntmps83
    go_wp2_with (go_at_call 28; ((with_reducible refine (GI.out _ HA.out).mono ?_); rintro e w1 ⟨rfl, hB1⟩; obtain ⟨g0, g1, g2, g3, g4, g5, g6, p0, p1, p2, p3, p4, p5, p6, p7, p8, p9⟩ := gp_cells hB1))
    go_ret
    exact ⟨rfl, bel2 HA.out hB1⟩

set_option maxRecDepth 100000 in
set_option maxHeartbeats 4000000 in
theorem chk_3 (id fi te ht hv hc : Int) (l : List EntryC) (a : Option Addr) (cap : Nat) (pg : Int) (pa : Option Addr) (plen pcap : Nat) (pht phv phc pi pt : Int) (pm ph : Bool) (pl : List EntryC) (w : World) (hg : HasG w a ⟨id, fi, te, ht, hv, hc, l⟩) (hG : isG ⟨id, fi, te, ht, hv, hc, l⟩ = true) (hp : HasE w ⟨pg, 3, pa, plen, pcap, pht, phv, phc, pi, pt, pm, ph⟩ pl) (hb : isB ⟨pg, 3, pa, plen, pcap, pht, phv, phc, pi, pt, pm, ph⟩ pl = true) (hgi : pg = id) : Gives Tryz.prog 83 #[.agg #[.int .i64 id, .int .i64 fi, .int .i64 te, .int .i64 ht, .int .i64 hv, .int .i64 hc, .slice a l.length cap], .agg #[.int .i64 pg, .int .i64 3, .slice pa plen pcap, .int .i64 pht, .int .i64 phv, .int .i64 phc, .int .i64 pi, .int .i64 pt, .bool pm, .bool ph]] w (.int .i64 (chkC ⟨id, fi, te, ht, hv, hc, l⟩ pi pt)) := by
  have HA := Lib.hid (gp_bel w #[.int .i64 id, .int .i64 fi, .int .i64 te, .int .i64 ht, .int .i64 hv, .int .i64 hc, .slice a l.length cap] #[.int .i64 pg, .int .i64 3, .slice pa plen pcap, .int .i64 pht, .int .i64 phv, .int .i64 phc, .int .i64 pi, .int .i64 pt, .bool pm, .bool ph] 39 30)
  have GI := Lib.hid (fun W (hB : Below w.heap.size w W) => is_any ⟨pg, 3, pa, plen, pcap, pht, phv, phc, pi, pt, pm, ph⟩ pl W (hp.below hB))
  rw [hb] at GI
  have GC := Lib.hid (fun W (hB : Below w.heap.size w W) => chkC_any id fi te ht hv hc l a cap pg 3 pa plen pcap pht phv phc pi pt pm ph W (hg.below hB) hG)
  have tg : (pg == id) = true := by rw [beq_iff_eq]; exact hgi
  have tg2 : (pg != id) = false := by rw [bne_eq_false_iff_eq]; exact hgi
  clear hg hG hp hb hgi
  unfold Gives
  dsimp only [PartC.val, PartC.arr] at GI
  go_enter Tryz.func83, Tryz.ntmps83
  go_wp2_with (first
    | (go_at_call 28; ((with_reducible refine (GI.out _ HA.out).mono ?_); rintro e w1 ⟨rfl, hB1⟩; obtain ⟨g0, g1, g2, g3, g4, g5, g6, p0, p1, p2, p3, p4, p5, p6, p7, p8, p9⟩ := gp_cells hB1))
    | (go_at_call 95; ((with_reducible refine (GC.out _ (bel2 HA.out hB1)).mono ?_); rintro e w2 ⟨rfl, hB2⟩)))
  go_ret
  exact ⟨rfl, bel2 (bel2 HA.out hB1) hB2⟩

set_option maxRecDepth 100000 in
set_option maxHeartbeats 4000000 in
theorem chk_1 (id fi te ht hv hc : Int) (l : List EntryC) (a : Option Addr) (cap : Nat) (pg : Int) (pa : Option Addr) (plen pcap : Nat) (pht phv phc pi pt : Int) (pm ph : Bool) (pl : List EntryC) (w : World) (hg : HasG w a ⟨id, fi, te, ht, hv, hc, l⟩) (hG : isG ⟨id, fi, te, ht, hv, hc, l⟩ = true) (hp : HasE w ⟨pg, 1, pa, plen, pcap, pht, phv, phc, pi, pt, pm, ph⟩ pl) (hb : isB ⟨pg, 1, pa, plen, pcap, pht, phv, phc, pi, pt, pm, ph⟩ pl = true) (hgi : pg = id) : Gives Tryz.prog 83 #[.agg #[.int .i64 id, .int .i64 fi, .int .i64 te, .int .i64 ht, .int .i64 hv, .int .i64 hc, .slice a l.length cap], .agg #[.int .i64 pg, .int .i64 1, .slice pa plen pcap, .int .i64 pht, .int .i64 phv, .int .i64 phc, .int .i64 pi, .int .i64 pt, .bool pm, .bool ph]] w (.int .i64 (chkA ⟨id, fi, te, ht, hv, hc, l⟩ (headI pl))) := by
  have HA := Lib.hid (gp_bel w #[.int .i64 id, .int .i64 fi, .int .i64 te, .int .i64 ht, .int .i64 hv, .int .i64 hc, .slice a l.length cap] #[.int .i64 pg, .int .i64 1, .slice pa plen pcap, .int .i64 pht, .int .i64 phv, .int .i64 phc, .int .i64 pi, .int .i64 pt, .bool pm, .bool ph] 39 30)
  have GI := Lib.hid (fun W (hB : Below w.heap.size w W) => is_any ⟨pg, 1, pa, plen, pcap, pht, phv, phc, pi, pt, pm, ph⟩ pl W (hp.below hB))
  rw [hb] at GI
  have GC := Lib.hid (fun W (hB : Below w.heap.size w W) => chkA_any id fi te ht hv hc l a cap (headI pl) W (hg.below hB) hG)
  have hne : plen ≠ 0 := by
    rcases (isB_iff _ _).1 hb with ⟨_, h | h | h | h | h | h⟩
    · exact h.2.1
    all_goals (have h9 := h.1; dsimp only at h9; omega)
  have hpl := hp.1
  have hrow := hp.2.2
  dsimp only at hpl hrow
  have tg : (pg == id) = true := by rw [beq_iff_eq]; exact hgi
  have tg2 : (pg != id) = false := by rw [bne_eq_false_iff_eq]; exact hgi
  clear hg hG hp hb hgi
  unfold Gives
  dsimp only [PartC.val, PartC.arr] at GI
  obtain ⟨b, off, rfl, hbw, hx⟩ := hrow.2.2 (by omega)
  have h0 : 0 < pl.length := by omega
  have d0 : w.cell? ⟨b, off, none⟩ = some (.int .i64 (headI pl)) := by
    have := (entry_at hbw (Below.refl w.heap.size w) hx h0).1
    cases pl with
    | nil => simp at h0
    | cons e r => simpa [headI] using this
  have hp0 : (0 : Int) < (plen : Int) := by omega
  have hp1 : 0 < plen := by omega
  generalize chkA ⟨id, fi, te, ht, hv, hc, l⟩ (headI pl) = res at *
  generalize headI pl = hI at *
  clear hx hrow hpl h0 hne
  go_enter Tryz.func83, Tryz.ntmps83
  go_wp2_with (go_at_call 28; ((with_reducible refine (GI.out _ HA.out).mono ?_); rintro e w1 ⟨rfl, hB1⟩; obtain ⟨g0, g1, g2, g3, g4, g5, g6, p0, p1, p2, p3, p4, p5, p6, p7, p8, p9⟩ := gp_cells hB1))
  have HS := Lib.hid (fun W (hW : Above w1 W) => And.intro (gp_cells (show Below ((w.alloc (.cells #[.int .i64 id, .int .i64 fi, .int .i64 te, .int .i64 ht, .int .i64 hv, .int .i64 hc, .slice a l.length cap] 39)).alloc (.cells #[.int .i64 pg, .int .i64 1, .slice (some ⟨b, off, none⟩) plen pcap, .int .i64 pht, .int .i64 phv, .int .i64 phc, .int .i64 pi, .int .i64 pt, .bool pm, .bool ph] 30)).heap.size ((w.alloc (.cells #[.int .i64 id, .int .i64 fi, .int .i64 te, .int .i64 ht, .int .i64 hv, .int .i64 hc, .slice a l.length cap] 39)).alloc (.cells #[.int .i64 pg, .int .i64 1, .slice (some ⟨b, off, none⟩) plen pcap, .int .i64 pht, .int .i64 phv, .int .i64 phc, .int .i64 pi, .int .i64 pt, .bool pm, .bool ph] 30)) W from bel2 hB1 hW)) (((bel2 (bel2 HA.out hB1) hW).cell (p := ⟨b, off, none⟩) hbw).trans d0))
  clear d0 g0 g1 g2 g3 g4 g5 g6 p0 p1 p2 p3 p4 p5 p6 p7 p8 p9
  refine wp_region_below (by kernel_rfl) (by kernel_rfl) ?_
  repeat (first
    | (refine BigFrame.wpQuiet_skip (by rfl) ?_; (try simp only [Act.put, List.setIfInBounds_toArray, List.set_cons_zero, List.set_cons_succ]))
    | (refine BigFrame.wpQuiet_want (by rfl) (fun K hK => ?_); apply Exists.intro; refine ⟨fun W hW => ?_, hK _ ?_⟩; (focus (have hWB : Below _ _ W := hW; obtain ⟨⟨g0, g1, g2, g3, g4, g5, g6, p0, p1, p2, p3, p4, p5, p6, p7, p8, p9⟩, d0⟩ := HS.out _ hW; go_simp; (first | done | with_reducible rfl | (go_at_call 94; with_reducible exact gives_above hW (GC.out _ (bel2 (bel2 HA.out hB1) hWB))) | (rw [if_neg (by omega)]; go_simp; (first | done | with_reducible rfl))))); clear hK K; (try simp only [Act.put, List.setIfInBounds_toArray, List.set_cons_zero, List.set_cons_succ])))
  refine wpQuiet_nil ?_
  intro w2 hB2
  replace hB2 : Below _ _ w2 := hB2
  go_wp2
  go_ret
  exact ⟨rfl, bel2 (bel2 HA.out hB1) hB2⟩

theorem chk_any (id fi te ht hv hc : Int) (l : List EntryC) (a : Option Addr) (cap : Nat) (pg pk : Int) (pa : Option Addr) (plen pcap : Nat) (pht phv phc pi pt : Int) (pm ph : Bool) (pl : List EntryC) (w : World) (hg : HasG w a ⟨id, fi, te, ht, hv, hc, l⟩) (hG : isG ⟨id, fi, te, ht, hv, hc, l⟩ = true) (hp : HasE w ⟨pg, pk, pa, plen, pcap, pht, phv, phc, pi, pt, pm, ph⟩ pl) : Gives Tryz.prog 83 #[.agg #[.int .i64 id, .int .i64 fi, .int .i64 te, .int .i64 ht, .int .i64 hv, .int .i64 hc, .slice a l.length cap], .agg #[.int .i64 pg, .int .i64 pk, .slice pa plen pcap, .int .i64 pht, .int .i64 phv, .int .i64 phc, .int .i64 pi, .int .i64 pt, .bool pm, .bool ph]] w (.int .i64 (chkG ⟨id, fi, te, ht, hv, hc, l⟩ ⟨pg, pk, pa, plen, pcap, pht, phv, phc, pi, pt, pm, ph⟩ pl)) := by
  unfold chkG
  dsimp only
  by_cases hb : isB ⟨pg, pk, pa, plen, pcap, pht, phv, phc, pi, pt, pm, ph⟩ pl = false ∨ pk = 6 ∨ pk = 5 ∨ pg ≠ id
  · rw [if_pos hb]; exact chk_bad id fi te ht hv hc l a cap pg pk pa plen pcap pht phv phc pi pt pm ph pl w hg hG hp hb
  · rw [if_neg hb]
    have h1 : isB ⟨pg, pk, pa, plen, pcap, pht, phv, phc, pi, pt, pm, ph⟩ pl = true := by
      cases h : isB ⟨pg, pk, pa, plen, pcap, pht, phv, phc, pi, pt, pm, ph⟩ pl
      · exact absurd (.inl h) hb
      · rfl
    have hgi : pg = id := by
      by_cases h : pg = id
      · exact h
      · exact absurd (.inr (.inr (.inr h))) hb
    rcases (isB_iff _ _).1 h1 with ⟨_, h | h | h | h | h | h⟩
    · obtain rfl : pk = 1 := h.1
      exact chk_1 id fi te ht hv hc l a cap pg pa plen pcap pht phv phc pi pt pm ph pl w hg hG hp h1 hgi
    · obtain rfl : pk = 2 := h.1
      exact chk_2 id fi te ht hv hc l a cap pg pa plen pcap pht phv phc pi pt pm ph pl w hg hG hp h1 hgi
    · obtain rfl : pk = 3 := h.1
      exact chk_3 id fi te ht hv hc l a cap pg pa plen pcap pht phv phc pi pt pm ph pl w hg hG hp h1 hgi
    · obtain rfl : pk = 4 := h.1
      exact chk_4 id fi te ht hv hc l a cap pg pa plen pcap pht phv phc pi pt pm ph pl w hg hG hp h1 hgi
    · exact absurd (.inr (.inr (.inl h.1))) hb
    · exact absurd (.inr (.inl h.1)) hb

end Go.Proofs.YthedmemkckclpaaGreat

/- Words for the contract of package group's Do; of slices.Clone at entries. -/
namespace Go.Proofs.YthedmemkckclpaaGreat
open Go.RowKit Go.Shelf
set_option linter.unusedVariables false
attribute [local go_sem] Oper.semAt_some wide_fn wide_round_fn

abbrev GZ : Array Value := #[.int .i64 0, .int .i64 0, .int .i64 0, .int .i64 0, .int .i64 0, .int .i64 0, .slice none 0 0]
abbrev GivesOwn (P : Program) (f : FuncId) (args : Array Value) (w : World) (e : TypeId) (sz n : Nat) (xs : List Value) : Prop := Calls P f args w fun en w' => ∃ v, en = .returned v ∧ w'.ownsRow w.heap.size e sz v n xs ∧ Below w.heap.size w w'
/-- While Do goes: the group's box, the part's, the result's. -/
structure DoW (w : World) (G P : Array Value) (W : World) : Prop where
  gb : W.heap[w.heap.size]? = some (.cells G 39 (0, 0))
  pb : W.heap[w.heap.size + 1]? = some (.cells P 30 (0, 0))
  rb : W.heap[w.heap.size + 1 + 1]? = some (.cells GZ 39 (0, 0))
  bel : Below w.heap.size w W
theorem DoW.lt {w W : World} {G P : Array Value} (h : DoW w G P W) : w.heap.size + 3 ≤ W.heap.size := by have := heap_lt h.rb; omega
theorem DoW.after {w W W' : World} {G P : Array Value} (h : DoW w G P W) (hB : Below W.heap.size W W') : DoW w G P W' :=
  ⟨(hB.block _ (heap_lt h.gb)).trans h.gb, (hB.block _ (heap_lt h.pb)).trans h.pb, (hB.block _ (heap_lt h.rb)).trans h.rb, h.bel.trans (hB.mono h.bel.size)⟩
theorem DoW.start (w : World) (G P : Array Value) : DoW w G P (((w.alloc (.cells G 39)).alloc (.cells P 30)).alloc (.cells GZ 39)) := by
  have h1 := two_a w G P 39 30
  have h2 := two_b w G P 39 30
  have h3 := World.alloc_heap_new ((w.alloc (.cells G 39)).alloc (.cells P 30)) (.cells GZ 39)
  rw [World.size_alloc, World.size_alloc] at h3
  have hB := bel_alloc (Below.refl _ ((w.alloc (.cells G 39)).alloc (.cells P 30))) (.cells GZ 39)
  exact ⟨(hB.block _ (heap_lt h1)).trans h1, (hB.block _ (heap_lt h2)).trans h2, h3, bel2 (gp_bel _ _ _ _ _) hB⟩
theorem DoW.set {w W : World} {G P : Array Value} (h : DoW w G P W) (i : Nat) (v : Value) : DoW w (G.setIfInBounds i v) P (W.setCell ⟨w.heap.size, i, none⟩ v) :=
  ⟨heap_setCell_same _ _ i _ _ _ h.gb, (heap_setCell_other _ _ _ _ (by show w.heap.size + 1 ≠ w.heap.size; omega)).trans h.pb, (heap_setCell_other _ _ _ _ (by show w.heap.size + 1 + 1 ≠ w.heap.size; omega)).trans h.rb, h.bel.setCell (p := ⟨w.heap.size, i, none⟩) (Nat.le_refl _) v⟩
theorem DoW.far {w W : World} {G P : Array Value} (h : DoW w G P W) {b : Nat} (hb : w.heap.size + 3 ≤ b) (i : Nat) (v : Value) : DoW w G P (W.setCell ⟨b, i, none⟩ v) :=
  ⟨(heap_setCell_other _ _ _ _ (by show w.heap.size ≠ b; omega)).trans h.gb, (heap_setCell_other _ _ _ _ (by show w.heap.size + 1 ≠ b; omega)).trans h.pb, (heap_setCell_other _ _ _ _ (by show w.heap.size + 1 + 1 ≠ b; omega)).trans h.rb, h.bel.setCell (p := ⟨b, i, none⟩) (by show w.heap.size ≤ b; omega) v⟩
theorem DoW.grown {w W W' : World} {G P : Array Value} {row : Option Nat} (h : DoW w G P W) (hg : W.grownBy W' row) (hr : ∀ k, row = some k → w.heap.size + 3 ≤ k) : DoW w G P W' :=
  ⟨(hg.block _ (heap_lt h.gb) (fun e => by have := hr _ e.symm; omega)).trans h.gb, (hg.block _ (heap_lt h.pb) (fun e => by have := hr _ e.symm; omega)).trans h.pb, (hg.block _ (heap_lt h.rb) (fun e => by have := hr _ e.symm; omega)).trans h.rb,
    h.bel.grown hg h.bel.size (fun k e => by have := hr _ e; omega)⟩
theorem DoW.drew {w W : World} {G P : Array Value} (h : DoW w G P W) : DoW w G P W.drew := ⟨h.gb, h.pb, h.rb, h.bel.drew⟩
theorem DoW.stab {w : World} {G P : Array Value} {B : Nat} (hB : w.heap.size ≤ B) : Stab B (fun _ => False) (DoW w G P) := fun W W' h hm =>
  ⟨hm.block _ _ h.gb id (.inr rfl), hm.block _ _ h.pb id (.inr rfl), hm.block _ _ h.rb id (.inr rfl), Stab.below (Nat.le_refl _) hB (fun _ h => h.elim) _ _ h.bel hm⟩
theorem cells7 {W : World} {b : Nat} {T : TypeId} {v0 v1 v2 v3 v4 v5 v6 : Value} (h : W.heap[b]? = some (.cells #[v0, v1, v2, v3, v4, v5, v6] T (0, 0))) :
    W.cell? ⟨b, 0, none⟩ = some v0 ∧ W.cell? ⟨b, 1, none⟩ = some v1 ∧ W.cell? ⟨b, 2, none⟩ = some v2 ∧ W.cell? ⟨b, 3, none⟩ = some v3 ∧ W.cell? ⟨b, 4, none⟩ = some v4 ∧ W.cell? ⟨b, 5, none⟩ = some v5 ∧ W.cell? ⟨b, 6, none⟩ = some v6 ∧ ∀ i, W.frozen? ⟨b, i, none⟩ = false :=
  ⟨cell_of_row _ _ 0 _ _ _ h, cell_of_row _ _ 1 _ _ _ h, cell_of_row _ _ 2 _ _ _ h, cell_of_row _ _ 3 _ _ _ h, cell_of_row _ _ 4 _ _ _ h, cell_of_row _ _ 5 _ _ _ h, cell_of_row _ _ 6 _ _ _ h, fun i => frozen_of_row _ _ i _ _ h⟩
theorem cells10 {W : World} {b : Nat} {T : TypeId} {v0 v1 v2 v3 v4 v5 v6 v7 v8 v9 : Value} (h : W.heap[b]? = some (.cells #[v0, v1, v2, v3, v4, v5, v6, v7, v8, v9] T (0, 0))) :
    W.cell? ⟨b, 1, none⟩ = some v1 ∧ W.cell? ⟨b, 2, none⟩ = some v2 ∧ W.cell? ⟨b, 3, none⟩ = some v3 ∧ W.cell? ⟨b, 4, none⟩ = some v4 ∧ W.cell? ⟨b, 5, none⟩ = some v5 ∧ W.cell? ⟨b, 6, none⟩ = some v6 ∧ W.cell? ⟨b, 7, none⟩ = some v7 :=
  ⟨cell_of_row _ _ 1 _ _ _ h, cell_of_row _ _ 2 _ _ _ h, cell_of_row _ _ 3 _ _ _ h, cell_of_row _ _ 4 _ _ _ h, cell_of_row _ _ 5 _ _ _ h, cell_of_row _ _ 6 _ _ _ h, cell_of_row _ _ 7 _ _ _ h⟩
abbrev st7 (W : World) (b : Nat) (v0 v1 v2 v3 v4 v5 v6 : Value) : World := ((((((W.setCell ⟨b, 0, none⟩ v0).setCell ⟨b, 1, none⟩ v1).setCell ⟨b, 2, none⟩ v2).setCell ⟨b, 3, none⟩ v3).setCell ⟨b, 4, none⟩ v4).setCell ⟨b, 5, none⟩ v5).setCell ⟨b, 6, none⟩ v6
theorem st7_block {W : World} {b : Nat} {T : TypeId} {z0 z1 z2 z3 z4 z5 z6 : Value} (h : W.heap[b]? = some (.cells #[z0, z1, z2, z3, z4, z5, z6] T (0, 0))) (v0 v1 v2 v3 v4 v5 v6 : Value) :
    (st7 W b v0 v1 v2 v3 v4 v5 v6).heap[b]? = some (.cells #[v0, v1, v2, v3, v4, v5, v6] T (0, 0)) := by
  have h7 := Go.Joins.block_setCell (Go.Joins.block_setCell (Go.Joins.block_setCell (Go.Joins.block_setCell (Go.Joins.block_setCell (Go.Joins.block_setCell (Go.Joins.block_setCell h v0 (i := 0)) v1 (i := 1)) v2 (i := 2)) v3 (i := 3)) v4 (i := 4)) v5 (i := 5)) v6 (i := 6)
  simpa only [List.setIfInBounds_toArray, List.set_cons_succ, List.set_cons_zero] using h7
theorem st7_frame (W : World) (b : Nat) (v0 v1 v2 v3 v4 v5 v6 : Value) : FrameT (fun k => k = b) W (st7 W b v0 v1 v2 v3 v4 v5 v6) :=
  ((((((FrameT.setCell W b 0 v0).trans (FrameT.setCell _ b 1 v1)).trans (FrameT.setCell _ b 2 v2)).trans (FrameT.setCell _ b 3 v3)).trans (FrameT.setCell _ b 4 v4)).trans (FrameT.setCell _ b 5 v5)).trans (FrameT.setCell _ b 6 v6)
theorem own_frame {W W' : World} {T : Nat → Prop} {base : Nat} {e : TypeId} {size n : Nat} {v : Value} {xs : List Value} (h : W.ownsRow base e size v n xs) (hF : FrameT T W W') (hT : ∀ k, base ≤ k → ¬ T k) : W'.ownsRow base e size v n xs := by
  refine ⟨h.1, ?_⟩
  rcases h.2 with h2 | ⟨g, cap, cur, hv, hg, hh, r⟩
  · exact .inl h2
  · exact .inr ⟨g, cap, cur, hv, hg, hF.get hh (hT g hg), r⟩
theorem rowV_frame {W W' : World} {T : Nat → Prop} {a : Option Addr} {n sz : Nat} {xs : List Value} (h : RowV W a n sz xs) (hF : FrameT T W W') (hT : ∀ k, inBlkE a n k → ¬ T k) : RowV W' a n sz xs := by
  refine ⟨h.1, h.2.1, fun h0 => ?_⟩
  obtain ⟨b, off, e, hb, hx⟩ := h.2.2 h0
  have hn := hT b ⟨b, off, e, h0, rfl⟩
  exact ⟨b, off, e, Nat.lt_of_lt_of_le hb hF.size, fun j hj => (World.cell?_of_block (hF.block b hb hn)).trans (hx j hj)⟩
def DoPost (w : World) (g : GM) (c : Int) (e : Ending) (w' : World) : Prop := ∃ a cap, e = .returned (.tuple #[.agg #[.int .i64 g.id, .int .i64 g.fi, .int .i64 g.te, .int .i64 g.ht, .int .i64 g.hv, .int .i64 g.hc, .slice a g.l.length cap], .int .i64 c]) ∧ HasG w' a g ∧ Below w.heap.size w w' ∧ ∀ k, inBlkE a g.l.length k → w.heap.size ≤ k
theorem own_new {W : World} {base : Nat} {e : TypeId} {size n cap : Nat} {a : Option Addr} {xs : List Value} (h : W.ownsRow base e size (.slice a n cap) n xs) (k : Nat) (hk : inBlkE a n k) : base ≤ k := by
  obtain ⟨b, off, e2, h0, rfl⟩ := hk
  subst e2
  rcases h.2 with ⟨hv, _⟩ | ⟨g, cap', cur, hv, hg, _⟩
  · cases hv
  · cases hv; exact hg

theorem wpIn_region_below {F : Fence} {n : Nat} {P : Program} {id : Nat} {Q : Exit → Act → World → Prop} {a : Act} {w : World} {l : List Oper} (hro : F.round = none) (hm : P.follows .mixedOrders = true) (hB : Region.lexB .any l.toArray = true)
    (h : wpQuietIn F n P l.toArray (Above w) (fun a' => ∀ W, Above w W → Q .normal a' W) l a) : (Code.region id l.toArray true).wpIn F n P Q a w :=
  wpIn_region_quiet (C := Above w) hro hm hB (show Below w.heap.size w _ from (Below.refl _ _).drew) (by simpa using h)
theorem wpListIn_append_none {F : Fence} {n : Nat} {P : Program} {w : World} {ops : Array Oper} {rest : List Oper} {o : Oper} {a : Act} {Q : Exit → Act → World → Prop} (hgd : o.guard = none) (s x : Operand) (t : TypeId)
    (ho : o.op = .call { callee := .builtin .append, args := #[s, x], argTypes := #[t, t] })
    (base : Nat) (e : TypeId) (i : TypeInfo) (size : Nat) (ht : P.underlying t = some (.slice e)) (hi : P.info? e = some i)
    (v : Value) (k : Nat) (xs : List Value) (hs : a.eval s = v) (hown : w.ownsRow base e size v k xs) (m c : Nat) (hm0 : m = 0) (hx : a.eval x = .slice none m c)
    (h : wpListIn F n P ops Q rest (a.put o.dst v) w) : wpListIn F n P ops Q (o :: rest) a w := by
  subst hm0
  refine wpListIn_plain hgd fun K hK => ?_
  have hrun : (Builtin.append_ #[t, t] o.type #[v, .slice none 0 c]).run P w = .ok v w := by
    rcases hown.2 with ⟨rfl, rfl⟩ | ⟨g, cap, cur, rfl, _, _, hnc, _⟩
    · simp [Builtin.append_, run_underlying ht, sizeOf, typeInfo, hi, Builtin.lenOf, Builtin.firstCells]
    · simp [Builtin.append_, run_underlying ht, sizeOf, typeInfo, hi, Builtin.lenOf, Builtin.firstCells, hnc, storeCells]
  unfold Oper.wpIn
  refine ⟨by simp [Oper.about, ho, resolve, Target.leads, Sem.run_pure], ?_⟩
  rw [Oper.semAt_plain F _ _ (by rw [ho]; intro c hc'; cases hc')]
  simp [execOp, ho, resolve, invoke, builtin, hs, hx, hrun, Result.andThen]
  exact hK _ _ h
/-- In the loop: the row l that is filled, and the rest. -/
def doJ (w : World) (G P : Array Value) (G0 L M n : Nat) (ys : List Value) (s : Nat) (W : World) : Prop :=
  Boxed W L 26 (.slice (some ⟨G0, 0, none⟩) n M) ∧ W.ownsRow G0 61 3 (.slice (some ⟨G0, 0, none⟩) n M) n ys ∧ DoW w G P W ∧ s ≤ W.heap.size
theorem doJ_stab {w : World} {G P : Array Value} {G0 L M n : Nat} {ys : List Value} {s B : Nat} (hB : w.heap.size ≤ B) : Stab B (fun _ => False) (doJ w G P G0 L M n ys s) :=
  (Stab.boxed id).and ((Stab.ownsRow (fun _ h => h.elim)).and ((DoW.stab hB).and Stab.size))
theorem doJ_append {w W w2 : World} {G P : Array Value} {G0 L M n m s B : Nat} {ys zs : List Value} {S : Nat → Prop} {tmp : Obj} (h : doJ w G P G0 L M n ys s W) (hg0 : w.heap.size + 3 ≤ G0) (hGL : G0 < L) (hS1 : ¬ S G0) (hS2 : ¬ S L)
    (hown' : w2.ownsRow G0 61 3 (.slice (some ⟨G0, 0, none⟩) m M) m zs) (hgrow : (W.alloc tmp).grownBy w2 (some G0)) :
    Boxed w2 L 26 (.slice (some ⟨G0, 0, none⟩) n M) ∧ Rd B S W (w2.setCell ⟨L, 0, none⟩ (.slice (some ⟨G0, 0, none⟩) m M)) ∧ doJ w G P G0 L M m zs s (w2.setCell ⟨L, 0, none⟩ (.slice (some ⟨G0, 0, none⟩) m M)) := by
  obtain ⟨hbx, hrow, hD, hs⟩ := h
  have hL := heap_lt hbx
  have hBA := bel_alloc (Below.refl W.heap.size W) tmp
  have hbx2 : Boxed (W.alloc tmp) L 26 (.slice (some ⟨G0, 0, none⟩) n M) := (hBA.block _ hL).trans hbx
  have hb9 : Boxed w2 L 26 (.slice (some ⟨G0, 0, none⟩) n M) := (hgrow.block L (heap_lt hbx2) (fun e => by cases e; omega)).trans hbx2
  obtain ⟨o, ho, hoc⟩ : ∃ o : Obj, (W.alloc tmp).heap[G0]? = some o ∧ o.isCells = true := by
    rcases (hrow.alloc tmp).2 with ⟨hv, _⟩ | ⟨g, cap, cur, hv, _, hgg, _⟩
    · cases hv
    · cases hv; exact ⟨_, hgg, rfl⟩
  refine ⟨hb9, ?_, heap_setCell_same w2 L 0 #[_] _ _ hb9, hown'.kept (grownBy_setCell' w2 L _) (.inr (fun e => by have h9 : G0 = L := Option.some.inj e; omega)), ((hD.after hBA).grown hgrow (fun k e => by cases e; exact hg0)).far (by omega) 0 _, ?_⟩
  · exact (((Rd.refl B S W).alloc tmp).grown hgrow (fun k e => by cases e; exact ⟨hS1, .inr ⟨o, ho, hoc⟩⟩)).setBox hb9 hS2 _
  · have h1 := hgrow.size
    have h2 := hBA.size
    rw [World.size_setCell]; omega

set_option maxRecDepth 100000 in
set_option maxHeartbeats 1000000 in
theorem clone_ent (a : Option Addr) (n cap : Nat) (l : List EntryC) (hl : l.length = n) (hm : n < 1000000) (w : World) (hrow : RowV w a n 3 (entryCells l)) :
    GivesOwn Tryz.prog 25 #[.slice a n cap] w 61 3 n (entryCells l) := by
  obtain ⟨i0, hi, hz0, hz1, hz2⟩ := info_parts infoEntry
  have hlen := hrow.1
  cases a with
  | none =>
    obtain rfl : n = 0 := by
      rcases Nat.eq_zero_or_pos n with h | h
      · exact h
      · obtain ⟨_, _, e, _⟩ := hrow.2.2 h; cases e
    obtain rfl : l = [] := List.eq_nil_of_length_eq_zero hl
    have hq := fun w => Lib.run_eql_slice_nil (P := Tryz.prog) w 26 61 none 0 cap 0 0 Tryz.underlying26
    unfold GivesOwn
    go_enter Tryz.func25, Tryz.ntmps25
    go_wp2
    go_ret
    exact ⟨_, rfl, World.ownsRow_nil _ _ _ _, Below.refl _ _⟩
  | some ad =>
    have hn : ∀ j u, (entryCells l)[j]? = some u → (w.alloc (.cells #[] 61)).cell? (ad.add j) = some u := fun j u hu => by
      obtain ⟨hj, rfl⟩ := List.getElem?_eq_some_iff.1 hu
      obtain ⟨b, off, e, hb, hx⟩ := hrow.2.2 (by rcases Nat.eq_zero_or_pos n with h | h; (rw [h] at hlen; omega); exact h)
      cases e
      rw [add_off]
      exact (World.cell?_alloc_lt w _ ⟨b, off + j, none⟩ hb).trans (hx j hj)
    have h1 : ∀ u ∈ entryCells l, u.oneCell' = true := by
      intro u hu
      simp only [entryCells, List.mem_flatten, List.mem_map] at hu
      obtain ⟨_, ⟨e, _, rfl⟩, hu⟩ := hu
      simp only [EntryC.cells, List.mem_cons, List.not_mem_nil, or_false] at hu
      rcases hu with rfl | rfl | rfl <;> rfl
    have hq := fun w => Lib.run_eql_slice_nil (P := Tryz.prog) w 26 61 (some ad) n cap 0 0 Tryz.underlying26
    clear hrow
    unfold GivesOwn
    go_enter Tryz.func25, Tryz.ntmps25
    go_wp2_with (at_builtin; refine wpList_append_own _ rfl _ _ 26 rfl w.heap.size 61 i0 (.agg #[.int .i64 0, .int .i64 0, .string ⟨#[]⟩]) 3 32 Tryz.underlying26 hi hz0 hz1 hz2 rfl (by decide) _ _ _ rfl (World.ownsRow_made w #[] 0 (Nat.le_refl _) (by unfold maxLen; omega) rfl) ad n cap (entryCells l) rfl hlen hn h1 (by unfold maxLen; omega) (by omega) (by simp) ?_; intro v' w2 hown' hgrow _)
    go_ret
    exact ⟨_, rfl, by simpa using hown', (bel_alloc (Below.refl _ _) _).grown hgrow (by simp) (fun g e => by cases e; exact Nat.le_refl _)⟩

end Go.Proofs.YthedmemkckclpaaGreat

/- The contract of package group's Do. -/
namespace Go.Proofs.YthedmemkckclpaaGreat
open Go.RowKit Go.Shelf
set_option linter.unusedVariables false
attribute [local go_sem] Oper.semAt_some wide_fn wide_round_fn

set_option maxRecDepth 100000 in
set_option maxHeartbeats 4000000 in
theorem do_err (id fi te ht hv hc : Int) (l : List EntryC) (a : Option Addr) (cap : Nat) (pg pk : Int) (pa : Option Addr) (plen pcap : Nat) (pht phv phc pi pt : Int) (pm ph : Bool) (pl : List EntryC) (w : World) (hg : HasG w a ⟨id, fi, te, ht, hv, hc, l⟩) (hG : isG ⟨id, fi, te, ht, hv, hc, l⟩ = true) (hp : HasE w ⟨pg, pk, pa, plen, pcap, pht, phv, phc, pi, pt, pm, ph⟩ pl) (hce : chkG ⟨id, fi, te, ht, hv, hc, l⟩ ⟨pg, pk, pa, plen, pcap, pht, phv, phc, pi, pt, pm, ph⟩ pl ≠ 0) : Calls Tryz.prog 68 #[.agg #[.int .i64 id, .int .i64 fi, .int .i64 te, .int .i64 ht, .int .i64 hv, .int .i64 hc, .slice a l.length cap], .agg #[.int .i64 pg, .int .i64 pk, .slice pa plen pcap, .int .i64 pht, .int .i64 phv, .int .i64 phc, .int .i64 pi, .int .i64 pt, .bool pm, .bool ph]] w (DoPost w ⟨id, fi, te, ht, hv, hc, l⟩ (chkG ⟨id, fi, te, ht, hv, hc, l⟩ ⟨pg, pk, pa, plen, pcap, pht, phv, phc, pi, pt, pm, ph⟩ pl)) := by
  have GC := Lib.hid (fun W (hB : Below w.heap.size w W) => chk_any id fi te ht hv hc l a cap pg pk pa plen pcap pht phv phc pi pt pm ph pl W (hg.below hB) hG (hp.below hB))
  generalize chkG ⟨id, fi, te, ht, hv, hc, l⟩ ⟨pg, pk, pa, plen, pcap, pht, phv, phc, pi, pt, pm, ph⟩ pl = c at *
  have GK := Lib.hid (fun W (hB : Below w.heap.size w W) => clone_ent a l.length cap l rfl hg.1 W (hg.2.below hB))
  have hm := hg.1
  have hS := DoW.start w #[.int .i64 id, .int .i64 fi, .int .i64 te, .int .i64 ht, .int .i64 hv, .int .i64 hc, .slice a l.length cap] #[.int .i64 pg, .int .i64 pk, .slice pa plen pcap, .int .i64 pht, .int .i64 phv, .int .i64 phc, .int .i64 pi, .int .i64 pt, .bool pm, .bool ph]
  have HS := Lib.hid hS
  have t1 : (c != 0) = true := by rw [bne_iff_ne]; exact hce
  have t2 : (c == 0) = false := by rw [beq_eq_false_iff_ne]; exact hce
  clear hg hG hp hce hS
  go_enter Tryz.func68, Tryz.ntmps68
  go_wp2_with (first
    | (go_at_call 83; ((with_reducible refine (GC.out _ HS.out.bel).mono ?_); rintro e w1 ⟨rfl, hB1⟩; have hD := HS.out.after hB1; obtain ⟨g0, g1, g2, g3, g4, g5, g6, fg⟩ := cells7 hD.gb))
    | (go_at_call 25; ((with_reducible refine (GK.out _ hD.bel).mono ?_); rintro e w2 ⟨v, rfl, hown, hB2⟩; obtain ⟨va, vc, rfl, -, -⟩ := rowV_own hown; have hE := Lib.hid (hD.after hB2); clear hB1 g0 g1 g2 g3 g4 g5 g6 fg; obtain ⟨g0, g1, g2, g3, g4, g5, g6, fg⟩ := cells7 hE.out.gb; obtain ⟨r0, r1, r2, r3, r4, r5, r6, fr⟩ := cells7 hE.out.rb)))
  have hE2 := Lib.hid (hE.out.set 6 (.slice va l.length vc))
  have hb7 := st7_block hE2.out.rb (.int .i64 id) (.int .i64 fi) (.int .i64 te) (.int .i64 ht) (.int .i64 hv) (.int .i64 hc) (.slice va l.length vc)
  have hF7 := (FrameT.setCell w2 w.heap.size 6 (.slice va l.length vc)).mono (U := fun k => k = w.heap.size ∨ k = w.heap.size + 1 + 1) (fun k h => .inl h)
  have hF8 := hF7.trans ((st7_frame (w2.setCell ⟨w.heap.size, 6, none⟩ (.slice va l.length vc)) (w.heap.size + 1 + 1) (.int .i64 id) (.int .i64 fi) (.int .i64 te) (.int .i64 ht) (.int .i64 hv) (.int .i64 hc) (.slice va l.length vc)).mono (fun k h => .inr h))
  have hlt := hD.lt
  have hown2 := own_frame hown hF8 (fun k hk h => by rcases h with h | h <;> omega)
  have hbel := hE.out.bel.trans (hF8.toBelow hE.out.bel.size (fun k h => by rcases h with h | h <;> omega))
  clear g0 g1 g2 g3 g4 g5 g6 fg r0 r1 r2 r3 r4 r5 r6 fr
  obtain ⟨e0, e1, e2, e3, e4, e5, e6, -⟩ := cells7 hb7
  obtain ⟨va', vc', hx, -, hrow⟩ := rowV_own hown2
  cases hx
  refine bodyPost_ret (v := .tuple #[.agg #[.int .i64 id, .int .i64 fi, .int .i64 te, .int .i64 ht, .int .i64 hv, .int .i64 hc, .slice va l.length vc], .int .i64 c]) (by simp [results, Tryz.results68, go_sem, e0, e1, e2, e3, e4, e5, e6]) rfl ?_
  exact ⟨va, vc, rfl, ⟨hm, hrow⟩, hbel, fun k hk => Nat.le_trans (Nat.le_trans (by omega) hD.bel.size) (own_new hown2 k hk)⟩

set_option maxRecDepth 100000 in
set_option maxHeartbeats 4000000 in
theorem do_1 (id fi te ht hv hc : Int) (l : List EntryC) (a : Option Addr) (cap : Nat) (pg : Int) (pb po : Nat) (plen pcap : Nat) (pht phv phc pi pt : Int) (pm ph : Bool) (pl : List EntryC) (w : World) (hg : HasG w a ⟨id, fi, te, ht, hv, hc, l⟩) (hG : isG ⟨id, fi, te, ht, hv, hc, l⟩ = true) (hp : HasE w ⟨pg, 1, (some ⟨pb, po, none⟩), plen, pcap, pht, phv, phc, pi, pt, pm, ph⟩ pl) (hce : chkG ⟨id, fi, te, ht, hv, hc, l⟩ ⟨pg, 1, (some ⟨pb, po, none⟩), plen, pcap, pht, phv, phc, pi, pt, pm, ph⟩ pl = 0) (h30 : l.length ≤ 100000) : Calls Tryz.prog 68 #[.agg #[.int .i64 id, .int .i64 fi, .int .i64 te, .int .i64 ht, .int .i64 hv, .int .i64 hc, .slice a l.length cap], .agg #[.int .i64 pg, .int .i64 1, .slice (some ⟨pb, po, none⟩) plen pcap, .int .i64 pht, .int .i64 phv, .int .i64 phc, .int .i64 pi, .int .i64 pt, .bool pm, .bool ph]] w (DoPost w { id := id, fi := fi, te := te, ht := ht, hv := hv, hc := hc, l := btw l minI (headI pl - 1) ++ pl } 0) := by
  obtain ⟨i0, hi, hz0, hz1, hz2⟩ := info_parts infoEntry
  have GC := Lib.hid (fun W (hB : Below w.heap.size w W) => (show Gives Tryz.prog 83 #[.agg #[.int .i64 id, .int .i64 fi, .int .i64 te, .int .i64 ht, .int .i64 hv, .int .i64 hc, .slice a l.length cap], .agg #[.int .i64 pg, .int .i64 1, .slice (some ⟨pb, po, none⟩) plen pcap, .int .i64 pht, .int .i64 phv, .int .i64 phc, .int .i64 pi, .int .i64 pt, .bool pm, .bool ph]] W (.int .i64 0) from by have := chk_any id fi te ht hv hc l a cap pg 1 (some ⟨pb, po, none⟩) plen pcap pht phv phc pi pt pm ph pl W (hg.below hB) hG (hp.below hB); rwa [hce] at this))
  have hm := hg.1
  have HG := Lib.hid hg.2
  have M := Lib.hid (fun W (hB : Below w.heap.size w W) lo hi => btw_makes a l.length cap l lo hi rfl hm W (HG.out.below hB))
  have hplen := hp.1
  have hpb := hp.2.1
  have hprow := hp.2.2
  dsimp only at hplen hpb hprow hm
  have hpl3 : (entryCells pl).length = plen * 3 := hprow.1
  have HPL := Lib.hid (fun W (hB : Below w.heap.size w W) => (show ∀ j u, (entryCells pl)[j]? = some u → W.cell? ((⟨pb, po, none⟩ : Addr).add j) = some u from fun j u hu => by
    obtain ⟨hj, rfl⟩ := List.getElem?_eq_some_iff.1 hu
    obtain ⟨b, off, e, hb, hx⟩ := (hprow.below hB).2.2 (by rcases Nat.eq_zero_or_pos plen with h | h; (rw [h] at hpl3; omega); exact h)
    cases e
    rw [add_off]
    exact hx j hj))
  have hone : ∀ u ∈ entryCells pl, u.oneCell' = true := by
    intro u hu
    simp only [entryCells, List.mem_flatten, List.mem_map] at hu
    obtain ⟨_, ⟨e, _, rfl⟩, hu⟩ := hu
    simp only [EntryC.cells, List.mem_cons, List.not_mem_nil, or_false] at hu
    rcases hu with rfl | rfl | rfl <;> rfl
  have hne : plen ≠ 0 := by
    have h1 : isB ⟨pg, 1, (some ⟨pb, po, none⟩), plen, pcap, pht, phv, phc, pi, pt, pm, ph⟩ pl = true := by
      cases h : isB ⟨pg, 1, (some ⟨pb, po, none⟩), plen, pcap, pht, phv, phc, pi, pt, pm, ph⟩ pl
      · rw [show chkG ⟨id, fi, te, ht, hv, hc, l⟩ ⟨pg, 1, (some ⟨pb, po, none⟩), plen, pcap, pht, phv, phc, pi, pt, pm, ph⟩ pl = 11 from if_pos (.inl h)] at hce; exact absurd hce (by decide)
      · rfl
    rcases (isB_iff _ _).1 h1 with ⟨_, h | h | h | h | h | h⟩
    · exact h.2.1
    all_goals (have h9 := h.1; dsimp only at h9; omega)
  have hp6 : plen ≤ 6 := by
    have h1 : isB ⟨pg, 1, (some ⟨pb, po, none⟩), plen, pcap, pht, phv, phc, pi, pt, pm, ph⟩ pl = true := by
      cases h : isB ⟨pg, 1, (some ⟨pb, po, none⟩), plen, pcap, pht, phv, phc, pi, pt, pm, ph⟩ pl
      · rw [show chkG ⟨id, fi, te, ht, hv, hc, l⟩ ⟨pg, 1, (some ⟨pb, po, none⟩), plen, pcap, pht, phv, phc, pi, pt, pm, ph⟩ pl = 11 from if_pos (.inl h)] at hce; exact absurd hce (by decide)
      · rfl
    exact (isB_bounds hplen h1).2.2.2.1
  have h1e : entryB (pl[0]'(by omega)) = true := by
    have h1 : isB ⟨pg, 1, (some ⟨pb, po, none⟩), plen, pcap, pht, phv, phc, pi, pt, pm, ph⟩ pl = true := by
      cases h : isB ⟨pg, 1, (some ⟨pb, po, none⟩), plen, pcap, pht, phv, phc, pi, pt, pm, ph⟩ pl
      · rw [show chkG ⟨id, fi, te, ht, hv, hc, l⟩ ⟨pg, 1, (some ⟨pb, po, none⟩), plen, pcap, pht, phv, phc, pi, pt, pm, ph⟩ pl = 11 from if_pos (.inl h)] at hce; exact absurd hce (by decide)
      · rfl
    exact (isB_bounds hplen h1).2.2.2.2 _ (List.getElem_mem _)
  obtain ⟨hbw, hx⟩ : pb < w.heap.size ∧ ∀ j (h : j < (entryCells pl).length), w.cell? ⟨pb, po + j, none⟩ = some (entryCells pl)[j] := by
    obtain ⟨b, off, e, hb, hx⟩ := hprow.2.2 (by omega)
    cases e; exact ⟨hb, hx⟩
  have hI9 : headI pl = (pl[0]'(by omega)).i := by
    cases pl with
    | nil => simp at hplen; omega
    | cons e r => rfl
  have hd0 : w.cell? ⟨pb, po, none⟩ = some (.int .i64 (headI pl)) := by
    have := (entry_at hbw (Below.refl w.heap.size w) hx (k := 0) (by omega)).1
    rw [hI9]; simpa using this
  have hIb := (entryB_bd h1e).1
  rw [← hI9] at hIb
  have HD0 := Lib.hid (fun W (hB : Below w.heap.size w W) => (hB.cell (p := ⟨pb, po, none⟩) hbw).trans hd0)
  have hp0 : (0 : Int) < (plen : Int) := by omega
  have hp1 : 0 < plen := by omega
  clear hx hd0 hI9 h1e hne
  generalize hIe : headI pl = hI at *
  have HS := Lib.hid (DoW.start w #[.int .i64 id, .int .i64 fi, .int .i64 te, .int .i64 ht, .int .i64 hv, .int .i64 hc, .slice a l.length cap] #[.int .i64 pg, .int .i64 1, .slice (some ⟨pb, po, none⟩) plen pcap, .int .i64 pht, .int .i64 phv, .int .i64 phc, .int .i64 pi, .int .i64 pt, .bool pm, .bool ph])
  clear hg hG hp hce
  refine (callsIn_wide (n := 9)).1 ?_
  refine callsIn_of_wp_marks Tryz.func68 rfl trivial ?_ rfl
  simp only [Tryz.ntmps68, List.size_toArray, List.length_cons, List.length_nil, Nat.reduceAdd, Nat.reduceSub, Array.replicate_succ, Array.replicate_zero, List.push_toArray, List.append_toArray, List.nil_append, List.cons_append]
  gi_wp2_with (first
    | (gi_at_call 83; ((with_reducible refine (callsIn_wide.2 (GC.out _ HS.out.bel)).mono ?_); rintro e w1 ⟨rfl, hB1⟩; have HD := Lib.hid (HS.out.after hB1); obtain ⟨g0, g1, g2, g3, g4, g5, g6, fg⟩ := cells7 HD.out.gb; obtain ⟨p1, p2, p3, p4, p5, p6, p7⟩ := cells10 HD.out.pb; have d9 := HD0.out _ HD.out.bel))
    | (gi_at_make; (refine wpListIn_make_own _ rfl _ _ 26 rfl w1.heap.size 61 i0 (.agg #[.int .i64 0, .int .i64 0, .string ⟨#[]⟩]) 3 Tryz.underlying26 hi hz0 hz1 .i64 .i64 ((l.length : Int) + (plen : Int)) (l.length + plen) rfl rfl (by push_cast; rfl) (by rw [hz2]; omega) (by unfold maxLen; omega) (Nat.le_refl _) ?_; intro w4 hown4 hgrow4; have hD4 := HD.out.grown hgrow4 (fun k e => by cases e); have hlt0 : w.heap.size + 3 ≤ w1.heap.size := (by have h9 := HD.out.lt; simpa using h9); have hlt4 : w1.heap.size < w4.heap.size := (by rcases hown4.2 with ⟨hv, _⟩ | ⟨g, _, _, hv, _, hgg, _⟩; (cases hv); (cases hv; exact heap_lt hgg)); clear g0 g1 g2 g3 g4 g5 g6 fg p1 p2 p3 p4 p5 p6 p7; have hD5 := Lib.hid (hD4.after (bel_alloc (Below.refl w4.heap.size w4) (.cells #[.slice (some ⟨w1.heap.size, 0, none⟩) 0 (l.length + plen)] 26))); obtain ⟨g0, g1, g2, g3, g4, g5, g6, fg⟩ := cells7 hD5.out.gb; obtain ⟨p1, p2, p3, p4, p5, p6, p7⟩ := cells10 hD5.out.pb))
    | (gi_at_call 85; (refine (callsIn_wide.2 (M.out _ (bel_alloc hD4.bel (.cells #[.slice (some ⟨w1.heap.size, 0, none⟩) 0 (l.length + plen)] 26)) minI (hI - 1))).mono ?_; rintro e w6 ⟨lb, rfl, hB6, hI6⟩)))
  have hG0 : w.heap.size + 3 ≤ w1.heap.size := hlt0
  obtain ⟨X, hX⟩ : ∃ X, X = btw l minI (hI - 1) := ⟨_, rfl⟩
  have hXl : X.length ≤ l.length := by rw [hX]; exact btw_len _ _ _
  rw [← hX] at hI6
  have hs4 : w4.heap.size + 1 ≤ w6.heap.size := by have := hB6.size; simpa using this
  have hGL : w1.heap.size < w4.heap.size := hlt4
  have HI6 := Lib.hid hI6
  have hlS : ∀ k, inBlkE a l.length k → k < w.heap.size := fun k hk => btw_lt HG.out hk
  have hS1 : ¬ (inBlkE a l.length w1.heap.size ∨ span (w4.heap.size + 1) w6.heap.size w1.heap.size) := fun h => h.elim (fun h => by have := hlS _ h; omega) (fun h => by have := h.1; omega)
  have hS2 : ¬ (inBlkE a l.length w4.heap.size ∨ span (w4.heap.size + 1) w6.heap.size w4.heap.size) := fun h => h.elim (fun h => by have := hlS _ h; omega) (fun h => by have := h.1; omega)
  have hbx6 : Boxed w6 w4.heap.size 26 (.slice (some ⟨w1.heap.size, 0, none⟩) 0 (l.length + plen)) := (hB6.block _ (by simp)).trans (Boxed.new w4 _ _)
  have hrow6 := ownsRow_below (n := 0) (ownsRow_below (n := 0) hown4 (bel_alloc (Below.refl w4.heap.size w4) (.cells #[.slice (some ⟨w1.heap.size, 0, none⟩) 0 (l.length + plen)] 26))) hB6
  have hD6 := (hD4.after (bel_alloc (Below.refl w4.heap.size w4) (.cells #[.slice (some ⟨w1.heap.size, 0, none⟩) 0 (l.length + plen)] 26))).after hB6
  have hw6 : w.heap.size ≤ w6.heap.size := hD6.bel.size
  simp only [World.size_alloc] at HI6
  refine range_outer rfl (enters_of Tryz.func96 (by kernel_rfl) rfl) HI6.out (fun _ => rfl) (fun k hk => hk.elim (fun h => Nat.lt_of_lt_of_le (hlS k h) hw6) (fun h => h.2)) (fun _ h => h.elim)
    (fun pre W => doJ w #[.int .i64 id, .int .i64 fi, .int .i64 te, .int .i64 ht, .int .i64 hv, .int .i64 hc, .slice a l.length cap] #[.int .i64 pg, .int .i64 1, .slice (some ⟨pb, po, none⟩) plen pcap, .int .i64 pht, .int .i64 phv, .int .i64 phc, .int .i64 pi, .int .i64 pt, .bool pm, .bool ph] w1.heap.size w4.heap.size (l.length + plen) pre.length (entryCells pre) w6.heap.size W) (fun _ _ _ => False) (fun _ => doJ_stab hw6) (fun _ _ => Stab.pure _) ⟨hbx6, hrow6, hD6, Nat.le_refl _⟩ ?hr ?hd (fun _ _ _ _ _ _ h => h.elim)
  case hr =>
    rintro L0 pre x suf W hx hl' hi1 hrec
    dsimp only [EntryC.enc, EntryC.val]
    have hpl : pre.length < X.length := by have h1 := congrArg List.length hx; simp at h1; omega
    gi_wp2
    refine rdThen_mk (fun W' => doJ w #[.int .i64 id, .int .i64 fi, .int .i64 te, .int .i64 ht, .int .i64 hv, .int .i64 hc, .slice a l.length cap] #[.int .i64 pg, .int .i64 1, .slice (some ⟨pb, po, none⟩) plen pcap, .int .i64 pht, .int .i64 phv, .int .i64 phc, .int .i64 pi, .int .i64 pt, .bool pm, .bool ph] w1.heap.size w4.heap.size (l.length + plen) pre.length (entryCells pre) w6.heap.size W' ∧ W'.heap[W.heap.size]? = some (.cells #[.int .i64 x.i, .int .i64 x.t, .string x.d] 61 (0, 0)))
      ((doJ_stab hw6).and (Stab.block (fun h => h) (.inr rfl))) ⟨doJ_stab hw6 _ _ hi1 (Moves.alloc _ _), World.alloc_heap_new W _⟩ ((Rd.refl _ _ _).alloc _) ?_
    clear hi1 hrec
    obtain ⟨Xb, hXb⟩ : ∃ Xb, Xb = W.heap.size := ⟨_, rfl⟩
    rw [← hXb]
    clear hXb W
    rintro W ⟨hJ, hblk⟩ hrec
    have hcL := hJ.1.cell
    have hrow := hJ.2.1
    have HJ := Lib.hid hJ
    have d0 : W.cell? ⟨Xb, 0, none⟩ = some (.int .i64 x.i) := cell_of_row W Xb 0 _ _ _ hblk
    have d1 : W.cell? ⟨Xb, 1, none⟩ = some (.int .i64 x.t) := cell_of_row W Xb 1 _ _ _ hblk
    have d2 : W.cell? ⟨Xb, 2, none⟩ = some (.string x.d) := cell_of_row W Xb 2 _ _ _ hblk
    clear hJ hblk hbx6 hrow6 hD6 hI6 hX
    gi_wp2_with (gi_at_builtin; refine wpListIn_append_fits _ rfl _ _ 26 rfl w1.heap.size 61 i0 3 Tryz.underlying26 hi hz1 w1.heap.size pre.length (l.length + plen) (entryCells pre) rfl (hrow.alloc _) ⟨W.heap.size, 0, none⟩ 1 1 x.cells rfl rfl (news_new _ _ _) (by simp [Value.oneCell', EntryC.cells]) (by omega) ?_; intro w9 hown9 hgrow9; obtain ⟨hb9, hR9, hJ9⟩ := doJ_append (B := w6.heap.size) (S := fun k => inBlkE a l.length k ∨ span (w4.heap.size + 1) w6.heap.size k) HJ.out hG0 hGL hS1 hS2 hown9 hgrow9; have hc9 := hb9.cell; have hf9 := hb9.frozen)
    refine ⟨hR9, ?_⟩
    dsimp only
    rw [List.length_append, entryCells_snoc]
    exact hJ9
  case hd =>
    rintro W ⟨hbx, hrow, hDo, hs⟩ hDef
    have hcL := hbx.cell
    obtain ⟨g0, g1, g2, g3, g4, g5, g6, fg⟩ := cells7 hDo.gb
    obtain ⟨p1, p2, p3, p4, p5, p6, p7⟩ := cells10 hDo.pb
    obtain ⟨r0, r1, r2, r3, r4, r5, r6, fr⟩ := cells7 hDo.rb
    have HX := Lib.hid hX
    clear hbx6 hrow6 hD6 hI6 hX hbx
    gi_wp2_with (gi_at_builtin; refine wpListIn_append_fits _ rfl _ _ 26 rfl w1.heap.size 61 i0 3 Tryz.underlying26 hi hz1 w1.heap.size X.length (l.length + plen) (entryCells X) rfl hrow ⟨pb, po, none⟩ plen pcap (entryCells pl) rfl hpl3 (HPL.out W (hDo.bel)) hone (by omega) ?_; intro w9 hown9 hgrow9; have hD9 := Lib.hid (hDo.grown hgrow9 (fun k e => by cases e; exact hG0)); have hDf := Lib.hid ((hgrow9.block _ (heap_lt hDef) (fun e => by have h9 := Option.some.inj e; omega)).trans hDef); clear g0 g1 g2 g3 g4 g5 g6 fg p1 p2 p3 p4 p5 p6 p7 r0 r1 r2 r3 r4 r5 r6 fr; obtain ⟨g0, g1, g2, g3, g4, g5, g6, fg⟩ := cells7 hD9.out.gb; obtain ⟨r0, r1, r2, r3, r4, r5, r6, fr⟩ := cells7 hD9.out.rb)
    have hE2 := Lib.hid (hD9.out.set 6 (.slice (some ⟨w1.heap.size, 0, none⟩) (X.length + plen) (l.length + plen)))
    have hb7 := st7_block hE2.out.rb (.int .i64 id) (.int .i64 fi) (.int .i64 te) (.int .i64 ht) (.int .i64 hv) (.int .i64 hc) (.slice (some ⟨w1.heap.size, 0, none⟩) (X.length + plen) (l.length + plen))
    have hF7 := (FrameT.setCell w9 w.heap.size 6 (.slice (some ⟨w1.heap.size, 0, none⟩) (X.length + plen) (l.length + plen))).mono (U := fun k => k = w.heap.size ∨ k = w.heap.size + 1 + 1) (fun k h => .inl h)
    have hF8 := hF7.trans ((st7_frame (w9.setCell ⟨w.heap.size, 6, none⟩ (.slice (some ⟨w1.heap.size, 0, none⟩) (X.length + plen) (l.length + plen))) (w.heap.size + 1 + 1) (.int .i64 id) (.int .i64 fi) (.int .i64 te) (.int .i64 ht) (.int .i64 hv) (.int .i64 hc) (.slice (some ⟨w1.heap.size, 0, none⟩) (X.length + plen) (l.length + plen))).mono (fun k h => .inr h))
    have hown2 := own_frame hown9 hF8 (fun k hk h => by rcases h with h | h <;> omega)
    have hbel := hD9.out.bel.trans (hF8.toBelow hD9.out.bel.size (fun k h => by rcases h with h | h <;> omega))
    have hDz := hF8.get hDf.out (fun h => by rcases h with h | h <;> omega)
    clear g0 g1 g2 g3 g4 g5 g6 fg r0 r1 r2 r3 r4 r5 r6 fr
    obtain ⟨e0, e1, e2, e3, e4, e5, e6, -⟩ := cells7 hb7
    replace e0 := cell_putObj (o' := .deferred none) e0 hDz rfl
    replace e1 := cell_putObj (o' := .deferred none) e1 hDz rfl
    replace e2 := cell_putObj (o' := .deferred none) e2 hDz rfl
    replace e3 := cell_putObj (o' := .deferred none) e3 hDz rfl
    replace e4 := cell_putObj (o' := .deferred none) e4 hDz rfl
    replace e5 := cell_putObj (o' := .deferred none) e5 hDz rfl
    replace e6 := cell_putObj (o' := .deferred none) e6 hDz rfl
    refine leave_one hDz (v := .tuple #[.agg #[.int .i64 id, .int .i64 fi, .int .i64 te, .int .i64 ht, .int .i64 hv, .int .i64 hc, .slice (some ⟨w1.heap.size, 0, none⟩) (X.length + plen) (l.length + plen)], .int .i64 0]) (by simp [results, Tryz.results68, go_sem, e0, e1, e2, e3, e4, e5, e6]) ?_
    have hm9 : Moves w6.heap.size (fun _ => False) _ _ := Moves.putObj _ (.deferred none) (Nat.le_refl _) hDz rfl
    obtain ⟨va', vc', hx, -, hrv⟩ := rowV_own (Stab.ownsRow (B := w6.heap.size) (T := fun _ => False) (fun _ h => h.elim) _ _ hown2 hm9)
    cases hx
    have hlen9 : (btw l minI (hI - 1) ++ pl).length = X.length + plen := by rw [List.length_append, ← HX.out, hplen]
    refine ⟨_, _, by dsimp only; rw [hlen9], ⟨by dsimp only; rw [hlen9]; omega, ?_⟩, below_putObj hbel (Nat.le_refl _) hw6 _, fun k hk => by obtain ⟨b9, o9, e9, _, rfl⟩ := hk; cases e9; omega⟩
    dsimp only
    rw [hlen9, ← HX.out, show entryCells (X ++ pl) = entryCells X ++ entryCells pl by simp [entryCells]]
    exact hrv

set_option maxRecDepth 100000 in
set_option maxHeartbeats 4000000 in
theorem do_2n (id fi te ht hv hc : Int) (l : List EntryC) (a : Option Addr) (cap : Nat) (pg : Int) (plen pcap : Nat) (pht phv phc pi pt : Int) (pm ph : Bool) (pl : List EntryC) (w : World) (hg : HasG w a ⟨id, fi, te, ht, hv, hc, l⟩) (hG : isG ⟨id, fi, te, ht, hv, hc, l⟩ = true) (hp : HasE w ⟨pg, 2, none, plen, pcap, pht, phv, phc, pi, pt, pm, ph⟩ pl) (hce : chkG ⟨id, fi, te, ht, hv, hc, l⟩ ⟨pg, 2, none, plen, pcap, pht, phv, phc, pi, pt, pm, ph⟩ pl = 0) (h30 : l.length ≤ 100000) : Calls Tryz.prog 68 #[.agg #[.int .i64 id, .int .i64 fi, .int .i64 te, .int .i64 ht, .int .i64 hv, .int .i64 hc, .slice a l.length cap], .agg #[.int .i64 pg, .int .i64 2, .slice none plen pcap, .int .i64 pht, .int .i64 phv, .int .i64 phc, .int .i64 pi, .int .i64 pt, .bool pm, .bool ph]] w (DoPost w { id := id, fi := fi, te := te, ht := pht, hv := phv, hc := phc, l := btw l minI maxI ++ pl } 0) := by
  obtain ⟨i0, hi, hz0, hz1, hz2⟩ := info_parts infoEntry
  have GC := Lib.hid (fun W (hB : Below w.heap.size w W) => (show Gives Tryz.prog 83 #[.agg #[.int .i64 id, .int .i64 fi, .int .i64 te, .int .i64 ht, .int .i64 hv, .int .i64 hc, .slice a l.length cap], .agg #[.int .i64 pg, .int .i64 2, .slice none plen pcap, .int .i64 pht, .int .i64 phv, .int .i64 phc, .int .i64 pi, .int .i64 pt, .bool pm, .bool ph]] W (.int .i64 0) from by have := chk_any id fi te ht hv hc l a cap pg 2 none plen pcap pht phv phc pi pt pm ph pl W (hg.below hB) hG (hp.below hB); rwa [hce] at this))
  have hm := hg.1
  have HG := Lib.hid hg.2
  have M := Lib.hid (fun W (hB : Below w.heap.size w W) lo hi => btw_makes a l.length cap l lo hi rfl hm W (HG.out.below hB))
  have hplen := hp.1
  have hpb := hp.2.1
  have hprow := hp.2.2
  dsimp only at hplen hpb hprow hm
  obtain ⟨h0l, hpl0⟩ : plen = 0 ∧ pl = [] := by
    have h1 : isB ⟨pg, 2, none, plen, pcap, pht, phv, phc, pi, pt, pm, ph⟩ pl = true := by
      cases h : isB ⟨pg, 2, none, plen, pcap, pht, phv, phc, pi, pt, pm, ph⟩ pl
      · rw [show chkG ⟨id, fi, te, ht, hv, hc, l⟩ ⟨pg, 2, none, plen, pcap, pht, phv, phc, pi, pt, pm, ph⟩ pl = 11 from if_pos (.inl h)] at hce; exact absurd hce (by decide)
      · rfl
    rcases (isB_iff _ _).1 h1 with ⟨_, h | h | h | h | h | h⟩
    all_goals (have h9 := h.1; dsimp only at h9)
    all_goals first | omega | skip
    have h8 : pl = [] := by first | exact h.2.2.1 | exact h.2.2.2.1
    exact ⟨by rw [h8] at hplen; simpa using hplen.symm, h8⟩
  have hp6 : plen ≤ 6 := by omega
  have HN0 := Lib.hid (And.intro hpl0 h0l)
  clear h0l hpl0
  have HS := Lib.hid (DoW.start w #[.int .i64 id, .int .i64 fi, .int .i64 te, .int .i64 ht, .int .i64 hv, .int .i64 hc, .slice a l.length cap] #[.int .i64 pg, .int .i64 2, .slice none plen pcap, .int .i64 pht, .int .i64 phv, .int .i64 phc, .int .i64 pi, .int .i64 pt, .bool pm, .bool ph])
  clear hg hG hp hce
  refine (callsIn_wide (n := 9)).1 ?_
  refine callsIn_of_wp_marks Tryz.func68 rfl trivial ?_ rfl
  simp only [Tryz.ntmps68, List.size_toArray, List.length_cons, List.length_nil, Nat.reduceAdd, Nat.reduceSub, Array.replicate_succ, Array.replicate_zero, List.push_toArray, List.append_toArray, List.nil_append, List.cons_append]
  gi_wp2_with (first
    | (gi_at_call 83; ((with_reducible refine (callsIn_wide.2 (GC.out _ HS.out.bel)).mono ?_); rintro e w1 ⟨rfl, hB1⟩; have HD := Lib.hid (HS.out.after hB1); obtain ⟨g0, g1, g2, g3, g4, g5, g6, fg⟩ := cells7 HD.out.gb; obtain ⟨p1, p2, p3, p4, p5, p6, p7⟩ := cells10 HD.out.pb; have HD2 := Lib.hid (show DoW w #[.int .i64 id, .int .i64 fi, .int .i64 te, .int .i64 pht, .int .i64 phv, .int .i64 phc, .slice a l.length cap] #[.int .i64 pg, .int .i64 2, .slice none plen pcap, .int .i64 pht, .int .i64 phv, .int .i64 phc, .int .i64 pi, .int .i64 pt, .bool pm, .bool ph] (((w1.setCell ⟨w.heap.size, 3, none⟩ (.int .i64 pht)).setCell ⟨w.heap.size, 4, none⟩ (.int .i64 phv)).setCell ⟨w.heap.size, 5, none⟩ (.int .i64 phc)) from ((HD.out.set 3 (.int .i64 pht)).set 4 (.int .i64 phv)).set 5 (.int .i64 phc))))
    | (gi_at_make; (refine wpListIn_make_own _ rfl _ _ 26 rfl w1.heap.size 61 i0 (.agg #[.int .i64 0, .int .i64 0, .string ⟨#[]⟩]) 3 Tryz.underlying26 hi hz0 hz1 .i64 .i64 ((l.length : Int) + (plen : Int)) (l.length + plen) rfl rfl (by push_cast; rfl) (by rw [hz2]; omega) (by unfold maxLen; omega) (by simp) ?_; intro w4 hown4 hgrow4; simp only [World.size_setCell] at hown4; have hD4 := HD2.out.grown hgrow4 (fun k e => by cases e); have hlt0 : w.heap.size + 3 ≤ w1.heap.size := (by have h9 := HD2.out.lt; simpa using h9); have hlt4 : w1.heap.size < w4.heap.size := (by rcases hown4.2 with ⟨hv, _⟩ | ⟨g, _, _, hv, _, hgg, _⟩; (cases hv); (cases hv; exact heap_lt hgg)); clear g0 g1 g2 g3 g4 g5 g6 fg p1 p2 p3 p4 p5 p6 p7; have hD5 := Lib.hid (hD4.after (bel_alloc (Below.refl w4.heap.size w4) (.cells #[.slice (some ⟨w1.heap.size, 0, none⟩) 0 (l.length + plen)] 26))); obtain ⟨g0, g1, g2, g3, g4, g5, g6, fg⟩ := cells7 hD5.out.gb; obtain ⟨p1, p2, p3, p4, p5, p6, p7⟩ := cells10 hD5.out.pb))
    | (gi_at_call 85; (refine (callsIn_wide.2 (M.out _ (bel_alloc hD4.bel (.cells #[.slice (some ⟨w1.heap.size, 0, none⟩) 0 (l.length + plen)] 26)) minI maxI)).mono ?_; rintro e w6 ⟨lb, rfl, hB6, hI6⟩)))
  have hG0 : w.heap.size + 3 ≤ w1.heap.size := hlt0
  obtain ⟨X, hX⟩ : ∃ X, X = btw l minI maxI := ⟨_, rfl⟩
  have hXl : X.length ≤ l.length := by rw [hX]; exact btw_len _ _ _
  rw [← hX] at hI6
  have hs4 : w4.heap.size + 1 ≤ w6.heap.size := by have := hB6.size; simpa using this
  have hGL : w1.heap.size < w4.heap.size := hlt4
  have HI6 := Lib.hid hI6
  have hlS : ∀ k, inBlkE a l.length k → k < w.heap.size := fun k hk => btw_lt HG.out hk
  have hS1 : ¬ (inBlkE a l.length w1.heap.size ∨ span (w4.heap.size + 1) w6.heap.size w1.heap.size) := fun h => h.elim (fun h => by have := hlS _ h; omega) (fun h => by have := h.1; omega)
  have hS2 : ¬ (inBlkE a l.length w4.heap.size ∨ span (w4.heap.size + 1) w6.heap.size w4.heap.size) := fun h => h.elim (fun h => by have := hlS _ h; omega) (fun h => by have := h.1; omega)
  have hbx6 : Boxed w6 w4.heap.size 26 (.slice (some ⟨w1.heap.size, 0, none⟩) 0 (l.length + plen)) := (hB6.block _ (by simp)).trans (Boxed.new w4 _ _)
  have hrow6 := ownsRow_below (n := 0) (ownsRow_below (n := 0) hown4 (bel_alloc (Below.refl w4.heap.size w4) (.cells #[.slice (some ⟨w1.heap.size, 0, none⟩) 0 (l.length + plen)] 26))) hB6
  have hD6 := (hD4.after (bel_alloc (Below.refl w4.heap.size w4) (.cells #[.slice (some ⟨w1.heap.size, 0, none⟩) 0 (l.length + plen)] 26))).after hB6
  have hw6 : w.heap.size ≤ w6.heap.size := hD6.bel.size
  simp only [World.size_alloc] at HI6
  refine range_outer rfl (enters_of Tryz.func96 (by kernel_rfl) rfl) HI6.out (fun _ => rfl) (fun k hk => hk.elim (fun h => Nat.lt_of_lt_of_le (hlS k h) hw6) (fun h => h.2)) (fun _ h => h.elim)
    (fun pre W => doJ w #[.int .i64 id, .int .i64 fi, .int .i64 te, .int .i64 pht, .int .i64 phv, .int .i64 phc, .slice a l.length cap] #[.int .i64 pg, .int .i64 2, .slice none plen pcap, .int .i64 pht, .int .i64 phv, .int .i64 phc, .int .i64 pi, .int .i64 pt, .bool pm, .bool ph] w1.heap.size w4.heap.size (l.length + plen) pre.length (entryCells pre) w6.heap.size W) (fun _ _ _ => False) (fun _ => doJ_stab hw6) (fun _ _ => Stab.pure _) ⟨hbx6, hrow6, hD6, Nat.le_refl _⟩ ?hr ?hd (fun _ _ _ _ _ _ h => h.elim)
  case hr =>
    rintro L0 pre x suf W hx hl' hi1 hrec
    dsimp only [EntryC.enc, EntryC.val]
    have hpl : pre.length < X.length := by have h1 := congrArg List.length hx; simp at h1; omega
    gi_wp2
    refine rdThen_mk (fun W' => doJ w #[.int .i64 id, .int .i64 fi, .int .i64 te, .int .i64 pht, .int .i64 phv, .int .i64 phc, .slice a l.length cap] #[.int .i64 pg, .int .i64 2, .slice none plen pcap, .int .i64 pht, .int .i64 phv, .int .i64 phc, .int .i64 pi, .int .i64 pt, .bool pm, .bool ph] w1.heap.size w4.heap.size (l.length + plen) pre.length (entryCells pre) w6.heap.size W' ∧ W'.heap[W.heap.size]? = some (.cells #[.int .i64 x.i, .int .i64 x.t, .string x.d] 61 (0, 0)))
      ((doJ_stab hw6).and (Stab.block (fun h => h) (.inr rfl))) ⟨doJ_stab hw6 _ _ hi1 (Moves.alloc _ _), World.alloc_heap_new W _⟩ ((Rd.refl _ _ _).alloc _) ?_
    clear hi1 hrec
    obtain ⟨Xb, hXb⟩ : ∃ Xb, Xb = W.heap.size := ⟨_, rfl⟩
    rw [← hXb]
    clear hXb W
    rintro W ⟨hJ, hblk⟩ hrec
    have hcL := hJ.1.cell
    have hrow := hJ.2.1
    have HJ := Lib.hid hJ
    have d0 : W.cell? ⟨Xb, 0, none⟩ = some (.int .i64 x.i) := cell_of_row W Xb 0 _ _ _ hblk
    have d1 : W.cell? ⟨Xb, 1, none⟩ = some (.int .i64 x.t) := cell_of_row W Xb 1 _ _ _ hblk
    have d2 : W.cell? ⟨Xb, 2, none⟩ = some (.string x.d) := cell_of_row W Xb 2 _ _ _ hblk
    clear hJ hblk hbx6 hrow6 hD6 hI6 hX
    gi_wp2_with (gi_at_builtin; refine wpListIn_append_fits _ rfl _ _ 26 rfl w1.heap.size 61 i0 3 Tryz.underlying26 hi hz1 w1.heap.size pre.length (l.length + plen) (entryCells pre) rfl (hrow.alloc _) ⟨W.heap.size, 0, none⟩ 1 1 x.cells rfl rfl (news_new _ _ _) (by simp [Value.oneCell', EntryC.cells]) (by omega) ?_; intro w9 hown9 hgrow9; obtain ⟨hb9, hR9, hJ9⟩ := doJ_append (B := w6.heap.size) (S := fun k => inBlkE a l.length k ∨ span (w4.heap.size + 1) w6.heap.size k) HJ.out hG0 hGL hS1 hS2 hown9 hgrow9; have hc9 := hb9.cell; have hf9 := hb9.frozen)
    refine ⟨hR9, ?_⟩
    dsimp only
    rw [List.length_append, entryCells_snoc]
    exact hJ9
  case hd =>
    rintro W ⟨hbx, hrow, hDo, hs⟩ hDef
    have hcL := hbx.cell
    obtain ⟨g0, g1, g2, g3, g4, g5, g6, fg⟩ := cells7 hDo.gb
    obtain ⟨p1, p2, p3, p4, p5, p6, p7⟩ := cells10 hDo.pb
    obtain ⟨r0, r1, r2, r3, r4, r5, r6, fr⟩ := cells7 hDo.rb
    have HX := Lib.hid hX
    clear hbx6 hrow6 hD6 hI6 hX hbx
    gi_wp2_with (gi_at_builtin; refine wpListIn_append_none rfl _ _ 26 rfl w1.heap.size 61 i0 3 Tryz.underlying26 hi (.slice (some ⟨w1.heap.size, 0, none⟩) X.length (l.length + plen)) X.length (entryCells X) rfl hrow plen pcap HN0.out.2 rfl ?_)
    have hD9 := Lib.hid hDo
    have hDf := Lib.hid hDef
    have hown9 := hrow
    have hE2 := Lib.hid (hD9.out.set 6 (.slice (some ⟨w1.heap.size, 0, none⟩) (X.length) (l.length + plen)))
    have hb7 := st7_block hE2.out.rb (.int .i64 id) (.int .i64 fi) (.int .i64 te) (.int .i64 pht) (.int .i64 phv) (.int .i64 phc) (.slice (some ⟨w1.heap.size, 0, none⟩) (X.length) (l.length + plen))
    have hF7 := (FrameT.setCell W w.heap.size 6 (.slice (some ⟨w1.heap.size, 0, none⟩) (X.length) (l.length + plen))).mono (U := fun k => k = w.heap.size ∨ k = w.heap.size + 1 + 1) (fun k h => .inl h)
    have hF8 := hF7.trans ((st7_frame (W.setCell ⟨w.heap.size, 6, none⟩ (.slice (some ⟨w1.heap.size, 0, none⟩) (X.length) (l.length + plen))) (w.heap.size + 1 + 1) (.int .i64 id) (.int .i64 fi) (.int .i64 te) (.int .i64 pht) (.int .i64 phv) (.int .i64 phc) (.slice (some ⟨w1.heap.size, 0, none⟩) (X.length) (l.length + plen))).mono (fun k h => .inr h))
    have hown2 := own_frame hown9 hF8 (fun k hk h => by rcases h with h | h <;> omega)
    have hbel := hD9.out.bel.trans (hF8.toBelow hD9.out.bel.size (fun k h => by rcases h with h | h <;> omega))
    have hDz := hF8.get hDf.out (fun h => by rcases h with h | h <;> omega)
    clear g0 g1 g2 g3 g4 g5 g6 fg r0 r1 r2 r3 r4 r5 r6 fr
    obtain ⟨e0, e1, e2, e3, e4, e5, e6, -⟩ := cells7 hb7
    replace e0 := cell_putObj (o' := .deferred none) e0 hDz rfl
    replace e1 := cell_putObj (o' := .deferred none) e1 hDz rfl
    replace e2 := cell_putObj (o' := .deferred none) e2 hDz rfl
    replace e3 := cell_putObj (o' := .deferred none) e3 hDz rfl
    replace e4 := cell_putObj (o' := .deferred none) e4 hDz rfl
    replace e5 := cell_putObj (o' := .deferred none) e5 hDz rfl
    replace e6 := cell_putObj (o' := .deferred none) e6 hDz rfl
    refine leave_one hDz (v := .tuple #[.agg #[.int .i64 id, .int .i64 fi, .int .i64 te, .int .i64 pht, .int .i64 phv, .int .i64 phc, .slice (some ⟨w1.heap.size, 0, none⟩) (X.length) (l.length + plen)], .int .i64 0]) (by simp [results, Tryz.results68, go_sem, e0, e1, e2, e3, e4, e5, e6]) ?_
    have hm9 : Moves w6.heap.size (fun _ => False) _ _ := Moves.putObj _ (.deferred none) (Nat.le_refl _) hDz rfl
    obtain ⟨va', vc', hx, -, hrv⟩ := rowV_own (Stab.ownsRow (B := w6.heap.size) (T := fun _ => False) (fun _ h => h.elim) _ _ hown2 hm9)
    cases hx
    have hlen9 : (btw l minI maxI ++ pl).length = X.length := by rw [HN0.out.1, List.append_nil, ← HX.out]
    refine ⟨_, _, by dsimp only; rw [hlen9], ⟨by dsimp only; rw [hlen9]; omega, ?_⟩, below_putObj hbel (Nat.le_refl _) hw6 _, fun k hk => by obtain ⟨b9, o9, e9, _, rfl⟩ := hk; cases e9; omega⟩
    dsimp only
    rw [hlen9, ← HX.out, show entryCells (X ++ pl) = entryCells X ++ entryCells pl by simp [entryCells]]
    rw [HN0.out.1]; simpa [entryCells] using hrv

set_option maxRecDepth 100000 in
set_option maxHeartbeats 4000000 in
theorem do_2s (id fi te ht hv hc : Int) (l : List EntryC) (a : Option Addr) (cap : Nat) (pg : Int) (ad : Addr) (plen pcap : Nat) (pht phv phc pi pt : Int) (pm ph : Bool) (pl : List EntryC) (w : World) (hg : HasG w a ⟨id, fi, te, ht, hv, hc, l⟩) (hG : isG ⟨id, fi, te, ht, hv, hc, l⟩ = true) (hp : HasE w ⟨pg, 2, (some ad), plen, pcap, pht, phv, phc, pi, pt, pm, ph⟩ pl) (hce : chkG ⟨id, fi, te, ht, hv, hc, l⟩ ⟨pg, 2, (some ad), plen, pcap, pht, phv, phc, pi, pt, pm, ph⟩ pl = 0) (h30 : l.length ≤ 100000) : Calls Tryz.prog 68 #[.agg #[.int .i64 id, .int .i64 fi, .int .i64 te, .int .i64 ht, .int .i64 hv, .int .i64 hc, .slice a l.length cap], .agg #[.int .i64 pg, .int .i64 2, .slice (some ad) plen pcap, .int .i64 pht, .int .i64 phv, .int .i64 phc, .int .i64 pi, .int .i64 pt, .bool pm, .bool ph]] w (DoPost w { id := id, fi := fi, te := te, ht := pht, hv := phv, hc := phc, l := btw l minI maxI ++ pl } 0) := by
  obtain ⟨i0, hi, hz0, hz1, hz2⟩ := info_parts infoEntry
  have GC := Lib.hid (fun W (hB : Below w.heap.size w W) => (show Gives Tryz.prog 83 #[.agg #[.int .i64 id, .int .i64 fi, .int .i64 te, .int .i64 ht, .int .i64 hv, .int .i64 hc, .slice a l.length cap], .agg #[.int .i64 pg, .int .i64 2, .slice (some ad) plen pcap, .int .i64 pht, .int .i64 phv, .int .i64 phc, .int .i64 pi, .int .i64 pt, .bool pm, .bool ph]] W (.int .i64 0) from by have := chk_any id fi te ht hv hc l a cap pg 2 (some ad) plen pcap pht phv phc pi pt pm ph pl W (hg.below hB) hG (hp.below hB); rwa [hce] at this))
  have hm := hg.1
  have HG := Lib.hid hg.2
  have M := Lib.hid (fun W (hB : Below w.heap.size w W) lo hi => btw_makes a l.length cap l lo hi rfl hm W (HG.out.below hB))
  have hplen := hp.1
  have hpb := hp.2.1
  have hprow := hp.2.2
  dsimp only at hplen hpb hprow hm
  have hpl3 : (entryCells pl).length = plen * 3 := hprow.1
  have HPL := Lib.hid (fun W (hB : Below w.heap.size w W) => (show ∀ j u, (entryCells pl)[j]? = some u → W.cell? (ad.add j) = some u from fun j u hu => by
    obtain ⟨hj, rfl⟩ := List.getElem?_eq_some_iff.1 hu
    obtain ⟨b, off, e, hb, hx⟩ := (hprow.below hB).2.2 (by rcases Nat.eq_zero_or_pos plen with h | h; (rw [h] at hpl3; omega); exact h)
    cases e
    rw [add_off]
    exact hx j hj))
  have hone : ∀ u ∈ entryCells pl, u.oneCell' = true := by
    intro u hu
    simp only [entryCells, List.mem_flatten, List.mem_map] at hu
    obtain ⟨_, ⟨e, _, rfl⟩, hu⟩ := hu
    simp only [EntryC.cells, List.mem_cons, List.not_mem_nil, or_false] at hu
    rcases hu with rfl | rfl | rfl <;> rfl
  obtain ⟨h0l, hpl0⟩ : plen = 0 ∧ pl = [] := by
    have h1 : isB ⟨pg, 2, (some ad), plen, pcap, pht, phv, phc, pi, pt, pm, ph⟩ pl = true := by
      cases h : isB ⟨pg, 2, (some ad), plen, pcap, pht, phv, phc, pi, pt, pm, ph⟩ pl
      · rw [show chkG ⟨id, fi, te, ht, hv, hc, l⟩ ⟨pg, 2, (some ad), plen, pcap, pht, phv, phc, pi, pt, pm, ph⟩ pl = 11 from if_pos (.inl h)] at hce; exact absurd hce (by decide)
      · rfl
    rcases (isB_iff _ _).1 h1 with ⟨_, h | h | h | h | h | h⟩
    all_goals (have h9 := h.1; dsimp only at h9)
    all_goals first | omega | skip
    have h8 : pl = [] := by first | exact h.2.2.1 | exact h.2.2.2.1
    exact ⟨by rw [h8] at hplen; simpa using hplen.symm, h8⟩
  have hp6 : plen ≤ 6 := by omega
  have HN0 := Lib.hid (And.intro hpl0 h0l)
  clear h0l hpl0
  have HS := Lib.hid (DoW.start w #[.int .i64 id, .int .i64 fi, .int .i64 te, .int .i64 ht, .int .i64 hv, .int .i64 hc, .slice a l.length cap] #[.int .i64 pg, .int .i64 2, .slice (some ad) plen pcap, .int .i64 pht, .int .i64 phv, .int .i64 phc, .int .i64 pi, .int .i64 pt, .bool pm, .bool ph])
  clear hg hG hp hce
  refine (callsIn_wide (n := 9)).1 ?_
  refine callsIn_of_wp_marks Tryz.func68 rfl trivial ?_ rfl
  simp only [Tryz.ntmps68, List.size_toArray, List.length_cons, List.length_nil, Nat.reduceAdd, Nat.reduceSub, Array.replicate_succ, Array.replicate_zero, List.push_toArray, List.append_toArray, List.nil_append, List.cons_append]
  gi_wp2_with (first
    | (gi_at_call 83; ((with_reducible refine (callsIn_wide.2 (GC.out _ HS.out.bel)).mono ?_); rintro e w1 ⟨rfl, hB1⟩; have HD := Lib.hid (HS.out.after hB1); obtain ⟨g0, g1, g2, g3, g4, g5, g6, fg⟩ := cells7 HD.out.gb; obtain ⟨p1, p2, p3, p4, p5, p6, p7⟩ := cells10 HD.out.pb; have HD2 := Lib.hid (show DoW w #[.int .i64 id, .int .i64 fi, .int .i64 te, .int .i64 pht, .int .i64 phv, .int .i64 phc, .slice a l.length cap] #[.int .i64 pg, .int .i64 2, .slice (some ad) plen pcap, .int .i64 pht, .int .i64 phv, .int .i64 phc, .int .i64 pi, .int .i64 pt, .bool pm, .bool ph] (((w1.setCell ⟨w.heap.size, 3, none⟩ (.int .i64 pht)).setCell ⟨w.heap.size, 4, none⟩ (.int .i64 phv)).setCell ⟨w.heap.size, 5, none⟩ (.int .i64 phc)) from ((HD.out.set 3 (.int .i64 pht)).set 4 (.int .i64 phv)).set 5 (.int .i64 phc))))
    | (gi_at_make; (refine wpListIn_make_own _ rfl _ _ 26 rfl w1.heap.size 61 i0 (.agg #[.int .i64 0, .int .i64 0, .string ⟨#[]⟩]) 3 Tryz.underlying26 hi hz0 hz1 .i64 .i64 ((l.length : Int) + (plen : Int)) (l.length + plen) rfl rfl (by push_cast; rfl) (by rw [hz2]; omega) (by unfold maxLen; omega) (by simp) ?_; intro w4 hown4 hgrow4; simp only [World.size_setCell] at hown4; have hD4 := HD2.out.grown hgrow4 (fun k e => by cases e); have hlt0 : w.heap.size + 3 ≤ w1.heap.size := (by have h9 := HD2.out.lt; simpa using h9); have hlt4 : w1.heap.size < w4.heap.size := (by rcases hown4.2 with ⟨hv, _⟩ | ⟨g, _, _, hv, _, hgg, _⟩; (cases hv); (cases hv; exact heap_lt hgg)); clear g0 g1 g2 g3 g4 g5 g6 fg p1 p2 p3 p4 p5 p6 p7; have hD5 := Lib.hid (hD4.after (bel_alloc (Below.refl w4.heap.size w4) (.cells #[.slice (some ⟨w1.heap.size, 0, none⟩) 0 (l.length + plen)] 26))); obtain ⟨g0, g1, g2, g3, g4, g5, g6, fg⟩ := cells7 hD5.out.gb; obtain ⟨p1, p2, p3, p4, p5, p6, p7⟩ := cells10 hD5.out.pb))
    | (gi_at_call 85; (refine (callsIn_wide.2 (M.out _ (bel_alloc hD4.bel (.cells #[.slice (some ⟨w1.heap.size, 0, none⟩) 0 (l.length + plen)] 26)) minI maxI)).mono ?_; rintro e w6 ⟨lb, rfl, hB6, hI6⟩)))
  have hG0 : w.heap.size + 3 ≤ w1.heap.size := hlt0
  obtain ⟨X, hX⟩ : ∃ X, X = btw l minI maxI := ⟨_, rfl⟩
  have hXl : X.length ≤ l.length := by rw [hX]; exact btw_len _ _ _
  rw [← hX] at hI6
  have hs4 : w4.heap.size + 1 ≤ w6.heap.size := by have := hB6.size; simpa using this
  have hGL : w1.heap.size < w4.heap.size := hlt4
  have HI6 := Lib.hid hI6
  have hlS : ∀ k, inBlkE a l.length k → k < w.heap.size := fun k hk => btw_lt HG.out hk
  have hS1 : ¬ (inBlkE a l.length w1.heap.size ∨ span (w4.heap.size + 1) w6.heap.size w1.heap.size) := fun h => h.elim (fun h => by have := hlS _ h; omega) (fun h => by have := h.1; omega)
  have hS2 : ¬ (inBlkE a l.length w4.heap.size ∨ span (w4.heap.size + 1) w6.heap.size w4.heap.size) := fun h => h.elim (fun h => by have := hlS _ h; omega) (fun h => by have := h.1; omega)
  have hbx6 : Boxed w6 w4.heap.size 26 (.slice (some ⟨w1.heap.size, 0, none⟩) 0 (l.length + plen)) := (hB6.block _ (by simp)).trans (Boxed.new w4 _ _)
  have hrow6 := ownsRow_below (n := 0) (ownsRow_below (n := 0) hown4 (bel_alloc (Below.refl w4.heap.size w4) (.cells #[.slice (some ⟨w1.heap.size, 0, none⟩) 0 (l.length + plen)] 26))) hB6
  have hD6 := (hD4.after (bel_alloc (Below.refl w4.heap.size w4) (.cells #[.slice (some ⟨w1.heap.size, 0, none⟩) 0 (l.length + plen)] 26))).after hB6
  have hw6 : w.heap.size ≤ w6.heap.size := hD6.bel.size
  simp only [World.size_alloc] at HI6
  refine range_outer rfl (enters_of Tryz.func96 (by kernel_rfl) rfl) HI6.out (fun _ => rfl) (fun k hk => hk.elim (fun h => Nat.lt_of_lt_of_le (hlS k h) hw6) (fun h => h.2)) (fun _ h => h.elim)
    (fun pre W => doJ w #[.int .i64 id, .int .i64 fi, .int .i64 te, .int .i64 pht, .int .i64 phv, .int .i64 phc, .slice a l.length cap] #[.int .i64 pg, .int .i64 2, .slice (some ad) plen pcap, .int .i64 pht, .int .i64 phv, .int .i64 phc, .int .i64 pi, .int .i64 pt, .bool pm, .bool ph] w1.heap.size w4.heap.size (l.length + plen) pre.length (entryCells pre) w6.heap.size W) (fun _ _ _ => False) (fun _ => doJ_stab hw6) (fun _ _ => Stab.pure _) ⟨hbx6, hrow6, hD6, Nat.le_refl _⟩ ?hr ?hd (fun _ _ _ _ _ _ h => h.elim)
  case hr =>
    rintro L0 pre x suf W hx hl' hi1 hrec
    dsimp only [EntryC.enc, EntryC.val]
    have hpl : pre.length < X.length := by have h1 := congrArg List.length hx; simp at h1; omega
    gi_wp2
    refine rdThen_mk (fun W' => doJ w #[.int .i64 id, .int .i64 fi, .int .i64 te, .int .i64 pht, .int .i64 phv, .int .i64 phc, .slice a l.length cap] #[.int .i64 pg, .int .i64 2, .slice (some ad) plen pcap, .int .i64 pht, .int .i64 phv, .int .i64 phc, .int .i64 pi, .int .i64 pt, .bool pm, .bool ph] w1.heap.size w4.heap.size (l.length + plen) pre.length (entryCells pre) w6.heap.size W' ∧ W'.heap[W.heap.size]? = some (.cells #[.int .i64 x.i, .int .i64 x.t, .string x.d] 61 (0, 0)))
      ((doJ_stab hw6).and (Stab.block (fun h => h) (.inr rfl))) ⟨doJ_stab hw6 _ _ hi1 (Moves.alloc _ _), World.alloc_heap_new W _⟩ ((Rd.refl _ _ _).alloc _) ?_
    clear hi1 hrec
    obtain ⟨Xb, hXb⟩ : ∃ Xb, Xb = W.heap.size := ⟨_, rfl⟩
    rw [← hXb]
    clear hXb W
    rintro W ⟨hJ, hblk⟩ hrec
    have hcL := hJ.1.cell
    have hrow := hJ.2.1
    have HJ := Lib.hid hJ
    have d0 : W.cell? ⟨Xb, 0, none⟩ = some (.int .i64 x.i) := cell_of_row W Xb 0 _ _ _ hblk
    have d1 : W.cell? ⟨Xb, 1, none⟩ = some (.int .i64 x.t) := cell_of_row W Xb 1 _ _ _ hblk
    have d2 : W.cell? ⟨Xb, 2, none⟩ = some (.string x.d) := cell_of_row W Xb 2 _ _ _ hblk
    clear hJ hblk hbx6 hrow6 hD6 hI6 hX
    gi_wp2_with (gi_at_builtin; refine wpListIn_append_fits _ rfl _ _ 26 rfl w1.heap.size 61 i0 3 Tryz.underlying26 hi hz1 w1.heap.size pre.length (l.length + plen) (entryCells pre) rfl (hrow.alloc _) ⟨W.heap.size, 0, none⟩ 1 1 x.cells rfl rfl (news_new _ _ _) (by simp [Value.oneCell', EntryC.cells]) (by omega) ?_; intro w9 hown9 hgrow9; obtain ⟨hb9, hR9, hJ9⟩ := doJ_append (B := w6.heap.size) (S := fun k => inBlkE a l.length k ∨ span (w4.heap.size + 1) w6.heap.size k) HJ.out hG0 hGL hS1 hS2 hown9 hgrow9; have hc9 := hb9.cell; have hf9 := hb9.frozen)
    refine ⟨hR9, ?_⟩
    dsimp only
    rw [List.length_append, entryCells_snoc]
    exact hJ9
  case hd =>
    rintro W ⟨hbx, hrow, hDo, hs⟩ hDef
    have hcL := hbx.cell
    obtain ⟨g0, g1, g2, g3, g4, g5, g6, fg⟩ := cells7 hDo.gb
    obtain ⟨p1, p2, p3, p4, p5, p6, p7⟩ := cells10 hDo.pb
    obtain ⟨r0, r1, r2, r3, r4, r5, r6, fr⟩ := cells7 hDo.rb
    have HX := Lib.hid hX
    clear hbx6 hrow6 hD6 hI6 hX hbx
    gi_wp2_with (gi_at_builtin; refine wpListIn_append_fits _ rfl _ _ 26 rfl w1.heap.size 61 i0 3 Tryz.underlying26 hi hz1 w1.heap.size X.length (l.length + plen) (entryCells X) rfl hrow ad plen pcap (entryCells pl) rfl hpl3 (HPL.out W (hDo.bel)) hone (by omega) ?_; intro w9 hown9 hgrow9; have hD9 := Lib.hid (hDo.grown hgrow9 (fun k e => by cases e; exact hG0)); have hDf := Lib.hid ((hgrow9.block _ (heap_lt hDef) (fun e => by have h9 := Option.some.inj e; omega)).trans hDef); clear g0 g1 g2 g3 g4 g5 g6 fg p1 p2 p3 p4 p5 p6 p7 r0 r1 r2 r3 r4 r5 r6 fr; obtain ⟨g0, g1, g2, g3, g4, g5, g6, fg⟩ := cells7 hD9.out.gb; obtain ⟨r0, r1, r2, r3, r4, r5, r6, fr⟩ := cells7 hD9.out.rb)
    have hE2 := Lib.hid (hD9.out.set 6 (.slice (some ⟨w1.heap.size, 0, none⟩) (X.length + plen) (l.length + plen)))
    have hb7 := st7_block hE2.out.rb (.int .i64 id) (.int .i64 fi) (.int .i64 te) (.int .i64 pht) (.int .i64 phv) (.int .i64 phc) (.slice (some ⟨w1.heap.size, 0, none⟩) (X.length + plen) (l.length + plen))
    have hF7 := (FrameT.setCell w9 w.heap.size 6 (.slice (some ⟨w1.heap.size, 0, none⟩) (X.length + plen) (l.length + plen))).mono (U := fun k => k = w.heap.size ∨ k = w.heap.size + 1 + 1) (fun k h => .inl h)
    have hF8 := hF7.trans ((st7_frame (w9.setCell ⟨w.heap.size, 6, none⟩ (.slice (some ⟨w1.heap.size, 0, none⟩) (X.length + plen) (l.length + plen))) (w.heap.size + 1 + 1) (.int .i64 id) (.int .i64 fi) (.int .i64 te) (.int .i64 pht) (.int .i64 phv) (.int .i64 phc) (.slice (some ⟨w1.heap.size, 0, none⟩) (X.length + plen) (l.length + plen))).mono (fun k h => .inr h))
    have hown2 := own_frame hown9 hF8 (fun k hk h => by rcases h with h | h <;> omega)
    have hbel := hD9.out.bel.trans (hF8.toBelow hD9.out.bel.size (fun k h => by rcases h with h | h <;> omega))
    have hDz := hF8.get hDf.out (fun h => by rcases h with h | h <;> omega)
    clear g0 g1 g2 g3 g4 g5 g6 fg r0 r1 r2 r3 r4 r5 r6 fr
    obtain ⟨e0, e1, e2, e3, e4, e5, e6, -⟩ := cells7 hb7
    replace e0 := cell_putObj (o' := .deferred none) e0 hDz rfl
    replace e1 := cell_putObj (o' := .deferred none) e1 hDz rfl
    replace e2 := cell_putObj (o' := .deferred none) e2 hDz rfl
    replace e3 := cell_putObj (o' := .deferred none) e3 hDz rfl
    replace e4 := cell_putObj (o' := .deferred none) e4 hDz rfl
    replace e5 := cell_putObj (o' := .deferred none) e5 hDz rfl
    replace e6 := cell_putObj (o' := .deferred none) e6 hDz rfl
    refine leave_one hDz (v := .tuple #[.agg #[.int .i64 id, .int .i64 fi, .int .i64 te, .int .i64 pht, .int .i64 phv, .int .i64 phc, .slice (some ⟨w1.heap.size, 0, none⟩) (X.length + plen) (l.length + plen)], .int .i64 0]) (by simp [results, Tryz.results68, go_sem, e0, e1, e2, e3, e4, e5, e6]) ?_
    have hm9 : Moves w6.heap.size (fun _ => False) _ _ := Moves.putObj _ (.deferred none) (Nat.le_refl _) hDz rfl
    obtain ⟨va', vc', hx, -, hrv⟩ := rowV_own (Stab.ownsRow (B := w6.heap.size) (T := fun _ => False) (fun _ h => h.elim) _ _ hown2 hm9)
    cases hx
    have hlen9 : (btw l minI maxI ++ pl).length = X.length + plen := by rw [List.length_append, ← HX.out, hplen]
    refine ⟨_, _, by dsimp only; rw [hlen9], ⟨by dsimp only; rw [hlen9]; omega, ?_⟩, below_putObj hbel (Nat.le_refl _) hw6 _, fun k hk => by obtain ⟨b9, o9, e9, _, rfl⟩ := hk; cases e9; omega⟩
    dsimp only
    rw [hlen9, ← HX.out, show entryCells (X ++ pl) = entryCells X ++ entryCells pl by simp [entryCells]]
    exact hrv


end Go.Proofs.YthedmemkckclpaaGreat

/- The contract of package group's Do, at compactions, at snapshots; at every part. -/
namespace Go.Proofs.YthedmemkckclpaaGreat
open Go.RowKit Go.Shelf
set_option linter.unusedVariables false
attribute [local go_sem] Oper.semAt_some wide_fn wide_round_fn

set_option maxRecDepth 100000 in
set_option maxHeartbeats 4000000 in
theorem do_3n (id fi te ht hv hc : Int) (l : List EntryC) (a : Option Addr) (cap : Nat) (pg : Int) (plen pcap : Nat) (pht phv phc pi pt : Int) (pm ph : Bool) (pl : List EntryC) (w : World) (hg : HasG w a ⟨id, fi, te, ht, hv, hc, l⟩) (hG : isG ⟨id, fi, te, ht, hv, hc, l⟩ = true) (hp : HasE w ⟨pg, 3, none, plen, pcap, pht, phv, phc, pi, pt, pm, ph⟩ pl) (hce : chkG ⟨id, fi, te, ht, hv, hc, l⟩ ⟨pg, 3, none, plen, pcap, pht, phv, phc, pi, pt, pm, ph⟩ pl = 0) (h30 : l.length ≤ 100000) : Calls Tryz.prog 68 #[.agg #[.int .i64 id, .int .i64 fi, .int .i64 te, .int .i64 ht, .int .i64 hv, .int .i64 hc, .slice a l.length cap], .agg #[.int .i64 pg, .int .i64 3, .slice none plen pcap, .int .i64 pht, .int .i64 phv, .int .i64 phc, .int .i64 pi, .int .i64 pt, .bool pm, .bool ph]] w (DoPost w { id := id, fi := pi + 1, te := entT l pi, ht := ht, hv := hv, hc := hc, l := btw l (pi + 1) maxI ++ pl } 0) := by
  obtain ⟨i0, hi, hz0, hz1, hz2⟩ := info_parts infoEntry
  have GC := Lib.hid (fun W (hB : Below w.heap.size w W) => (show Gives Tryz.prog 83 #[.agg #[.int .i64 id, .int .i64 fi, .int .i64 te, .int .i64 ht, .int .i64 hv, .int .i64 hc, .slice a l.length cap], .agg #[.int .i64 pg, .int .i64 3, .slice none plen pcap, .int .i64 pht, .int .i64 phv, .int .i64 phc, .int .i64 pi, .int .i64 pt, .bool pm, .bool ph]] W (.int .i64 0) from by have := chk_any id fi te ht hv hc l a cap pg 3 none plen pcap pht phv phc pi pt pm ph pl W (hg.below hB) hG (hp.below hB); rwa [hce] at this))
  have hm := hg.1
  have HG := Lib.hid hg.2
  have M := Lib.hid (fun W (hB : Below w.heap.size w W) lo hi => btw_makes a l.length cap l lo hi rfl hm W (HG.out.below hB))
  have hplen := hp.1
  have hpb := hp.2.1
  have hprow := hp.2.2
  dsimp only at hplen hpb hprow hm
  obtain ⟨h0l, hpl0⟩ : plen = 0 ∧ pl = [] := by
    have h1 : isB ⟨pg, 3, none, plen, pcap, pht, phv, phc, pi, pt, pm, ph⟩ pl = true := by
      cases h : isB ⟨pg, 3, none, plen, pcap, pht, phv, phc, pi, pt, pm, ph⟩ pl
      · rw [show chkG ⟨id, fi, te, ht, hv, hc, l⟩ ⟨pg, 3, none, plen, pcap, pht, phv, phc, pi, pt, pm, ph⟩ pl = 11 from if_pos (.inl h)] at hce; exact absurd hce (by decide)
      · rfl
    rcases (isB_iff _ _).1 h1 with ⟨_, h | h | h | h | h | h⟩
    all_goals (have h9 := h.1; dsimp only at h9)
    all_goals first | omega | skip
    have h8 : pl = [] := by first | exact h.2.2.1 | exact h.2.2.2.1
    exact ⟨by rw [h8] at hplen; simpa using hplen.symm, h8⟩
  have hp6 : plen ≤ 6 := by omega
  have HN0 := Lib.hid (And.intro hpl0 h0l)
  clear h0l hpl0
  have hPI : 1 ≤ pi ∧ pi ≤ 1099511627776 := by
    have h1 : isB ⟨pg, 3, none, plen, pcap, pht, phv, phc, pi, pt, pm, ph⟩ pl = true := by
      cases h : isB ⟨pg, 3, none, plen, pcap, pht, phv, phc, pi, pt, pm, ph⟩ pl
      · rw [show chkG ⟨id, fi, te, ht, hv, hc, l⟩ ⟨pg, 3, none, plen, pcap, pht, phv, phc, pi, pt, pm, ph⟩ pl = 11 from if_pos (.inl h)] at hce; exact absurd hce (by decide)
      · rfl
    rcases (isB_iff _ _).1 h1 with ⟨_, h | h | h | h | h | h⟩
    all_goals (have h9 := h.1; dsimp only at h9)
    all_goals first | omega | skip
    exact wB_iff.1 h.2.1
  have GE := Lib.hid (fun W (hB : Below w.heap.size w W) => entT_any ⟨id, fi, te, ht, hv, hc, l⟩ a cap pi W (hg.below hB))
  dsimp only [GM.val] at GE
  generalize entT l pi = u at *
  have HS := Lib.hid (DoW.start w #[.int .i64 id, .int .i64 fi, .int .i64 te, .int .i64 ht, .int .i64 hv, .int .i64 hc, .slice a l.length cap] #[.int .i64 pg, .int .i64 3, .slice none plen pcap, .int .i64 pht, .int .i64 phv, .int .i64 phc, .int .i64 pi, .int .i64 pt, .bool pm, .bool ph])
  clear hg hG hp hce
  refine (callsIn_wide (n := 9)).1 ?_
  refine callsIn_of_wp_marks Tryz.func68 rfl trivial ?_ rfl
  simp only [Tryz.ntmps68, List.size_toArray, List.length_cons, List.length_nil, Nat.reduceAdd, Nat.reduceSub, Array.replicate_succ, Array.replicate_zero, List.push_toArray, List.append_toArray, List.nil_append, List.cons_append]
  gi_wp2_with (first
    | (gi_at_call 83; ((with_reducible refine (callsIn_wide.2 (GC.out _ HS.out.bel)).mono ?_); rintro e w1 ⟨rfl, hB1⟩; have HD := Lib.hid (HS.out.after hB1); obtain ⟨g0, g1, g2, g3, g4, g5, g6, fg⟩ := cells7 HD.out.gb; obtain ⟨p1, p2, p3, p4, p5, p6, p7⟩ := cells10 HD.out.pb))
    | (gi_at_call 84; ((with_reducible refine (callsIn_wide.2 (GE.out _ HD.out.bel)).mono ?_); rintro e w2 ⟨rfl, hB2⟩; have HE3 := Lib.hid (HD.out.after hB2); clear g0 g1 g2 g3 g4 g5 g6 fg p1 p2 p3 p4 p5 p6 p7; obtain ⟨g0, g1, g2, g3, g4, g5, g6, fg⟩ := cells7 HE3.out.gb; obtain ⟨p1, p2, p3, p4, p5, p6, p7⟩ := cells10 HE3.out.pb; have HD2 := Lib.hid (show DoW w #[.int .i64 id, .int .i64 (pi + 1), .int .i64 u, .int .i64 ht, .int .i64 hv, .int .i64 hc, .slice a l.length cap] #[.int .i64 pg, .int .i64 3, .slice none plen pcap, .int .i64 pht, .int .i64 phv, .int .i64 phc, .int .i64 pi, .int .i64 pt, .bool pm, .bool ph] ((w2.setCell ⟨w.heap.size, 1, none⟩ (.int .i64 (pi + 1))).setCell ⟨w.heap.size, 2, none⟩ (.int .i64 u)) from (HE3.out.set 1 (.int .i64 (pi + 1))).set 2 (.int .i64 u))))
    | (gi_at_make; (refine wpListIn_make_own _ rfl _ _ 26 rfl w2.heap.size 61 i0 (.agg #[.int .i64 0, .int .i64 0, .string ⟨#[]⟩]) 3 Tryz.underlying26 hi hz0 hz1 .i64 .i64 ((l.length : Int) + (plen : Int)) (l.length + plen) rfl rfl (by push_cast; rfl) (by rw [hz2]; omega) (by unfold maxLen; omega) (by simp) ?_; intro w4 hown4 hgrow4; simp only [World.size_setCell] at hown4; have hD4 := HD2.out.grown hgrow4 (fun k e => by cases e); have hlt0 : w.heap.size + 3 ≤ w2.heap.size := (by have h9 := HD2.out.lt; simpa using h9); have hlt4 : w2.heap.size < w4.heap.size := (by rcases hown4.2 with ⟨hv, _⟩ | ⟨g, _, _, hv, _, hgg, _⟩; (cases hv); (cases hv; exact heap_lt hgg)); clear g0 g1 g2 g3 g4 g5 g6 fg p1 p2 p3 p4 p5 p6 p7; have hD5 := Lib.hid (hD4.after (bel_alloc (Below.refl w4.heap.size w4) (.cells #[.slice (some ⟨w2.heap.size, 0, none⟩) 0 (l.length + plen)] 26))); obtain ⟨g0, g1, g2, g3, g4, g5, g6, fg⟩ := cells7 hD5.out.gb; obtain ⟨p1, p2, p3, p4, p5, p6, p7⟩ := cells10 hD5.out.pb))
    | (gi_at_call 85; (refine (callsIn_wide.2 (M.out _ (bel_alloc hD4.bel (.cells #[.slice (some ⟨w2.heap.size, 0, none⟩) 0 (l.length + plen)] 26)) (pi + 1) maxI)).mono ?_; rintro e w6 ⟨lb, rfl, hB6, hI6⟩)))
  have hG0 : w.heap.size + 3 ≤ w2.heap.size := hlt0
  obtain ⟨X, hX⟩ : ∃ X, X = btw l (pi + 1) maxI := ⟨_, rfl⟩
  have hXl : X.length ≤ l.length := by rw [hX]; exact btw_len _ _ _
  rw [← hX] at hI6
  have hs4 : w4.heap.size + 1 ≤ w6.heap.size := by have := hB6.size; simpa using this
  have hGL : w2.heap.size < w4.heap.size := hlt4
  have HI6 := Lib.hid hI6
  have hlS : ∀ k, inBlkE a l.length k → k < w.heap.size := fun k hk => btw_lt HG.out hk
  have hS1 : ¬ (inBlkE a l.length w2.heap.size ∨ span (w4.heap.size + 1) w6.heap.size w2.heap.size) := fun h => h.elim (fun h => by have := hlS _ h; omega) (fun h => by have := h.1; omega)
  have hS2 : ¬ (inBlkE a l.length w4.heap.size ∨ span (w4.heap.size + 1) w6.heap.size w4.heap.size) := fun h => h.elim (fun h => by have := hlS _ h; omega) (fun h => by have := h.1; omega)
  have hbx6 : Boxed w6 w4.heap.size 26 (.slice (some ⟨w2.heap.size, 0, none⟩) 0 (l.length + plen)) := (hB6.block _ (by simp)).trans (Boxed.new w4 _ _)
  have hrow6 := ownsRow_below (n := 0) (ownsRow_below (n := 0) hown4 (bel_alloc (Below.refl w4.heap.size w4) (.cells #[.slice (some ⟨w2.heap.size, 0, none⟩) 0 (l.length + plen)] 26))) hB6
  have hD6 := (hD4.after (bel_alloc (Below.refl w4.heap.size w4) (.cells #[.slice (some ⟨w2.heap.size, 0, none⟩) 0 (l.length + plen)] 26))).after hB6
  have hw6 : w.heap.size ≤ w6.heap.size := hD6.bel.size
  simp only [World.size_alloc] at HI6
  refine range_outer rfl (enters_of Tryz.func96 (by kernel_rfl) rfl) HI6.out (fun _ => rfl) (fun k hk => hk.elim (fun h => Nat.lt_of_lt_of_le (hlS k h) hw6) (fun h => h.2)) (fun _ h => h.elim)
    (fun pre W => doJ w #[.int .i64 id, .int .i64 (pi + 1), .int .i64 u, .int .i64 ht, .int .i64 hv, .int .i64 hc, .slice a l.length cap] #[.int .i64 pg, .int .i64 3, .slice none plen pcap, .int .i64 pht, .int .i64 phv, .int .i64 phc, .int .i64 pi, .int .i64 pt, .bool pm, .bool ph] w2.heap.size w4.heap.size (l.length + plen) pre.length (entryCells pre) w6.heap.size W) (fun _ _ _ => False) (fun _ => doJ_stab hw6) (fun _ _ => Stab.pure _) ⟨hbx6, hrow6, hD6, Nat.le_refl _⟩ ?hr ?hd (fun _ _ _ _ _ _ h => h.elim)
  case hr =>
    rintro L0 pre x suf W hx hl' hi1 hrec
    dsimp only [EntryC.enc, EntryC.val]
    have hpl : pre.length < X.length := by have h1 := congrArg List.length hx; simp at h1; omega
    gi_wp2
    refine rdThen_mk (fun W' => doJ w #[.int .i64 id, .int .i64 (pi + 1), .int .i64 u, .int .i64 ht, .int .i64 hv, .int .i64 hc, .slice a l.length cap] #[.int .i64 pg, .int .i64 3, .slice none plen pcap, .int .i64 pht, .int .i64 phv, .int .i64 phc, .int .i64 pi, .int .i64 pt, .bool pm, .bool ph] w2.heap.size w4.heap.size (l.length + plen) pre.length (entryCells pre) w6.heap.size W' ∧ W'.heap[W.heap.size]? = some (.cells #[.int .i64 x.i, .int .i64 x.t, .string x.d] 61 (0, 0)))
      ((doJ_stab hw6).and (Stab.block (fun h => h) (.inr rfl))) ⟨doJ_stab hw6 _ _ hi1 (Moves.alloc _ _), World.alloc_heap_new W _⟩ ((Rd.refl _ _ _).alloc _) ?_
    clear hi1 hrec
    obtain ⟨Xb, hXb⟩ : ∃ Xb, Xb = W.heap.size := ⟨_, rfl⟩
    rw [← hXb]
    clear hXb W
    rintro W ⟨hJ, hblk⟩ hrec
    have hcL := hJ.1.cell
    have hrow := hJ.2.1
    have HJ := Lib.hid hJ
    have d0 : W.cell? ⟨Xb, 0, none⟩ = some (.int .i64 x.i) := cell_of_row W Xb 0 _ _ _ hblk
    have d1 : W.cell? ⟨Xb, 1, none⟩ = some (.int .i64 x.t) := cell_of_row W Xb 1 _ _ _ hblk
    have d2 : W.cell? ⟨Xb, 2, none⟩ = some (.string x.d) := cell_of_row W Xb 2 _ _ _ hblk
    clear hJ hblk hbx6 hrow6 hD6 hI6 hX
    gi_wp2_with (gi_at_builtin; refine wpListIn_append_fits _ rfl _ _ 26 rfl w2.heap.size 61 i0 3 Tryz.underlying26 hi hz1 w2.heap.size pre.length (l.length + plen) (entryCells pre) rfl (hrow.alloc _) ⟨W.heap.size, 0, none⟩ 1 1 x.cells rfl rfl (news_new _ _ _) (by simp [Value.oneCell', EntryC.cells]) (by omega) ?_; intro w9 hown9 hgrow9; obtain ⟨hb9, hR9, hJ9⟩ := doJ_append (B := w6.heap.size) (S := fun k => inBlkE a l.length k ∨ span (w4.heap.size + 1) w6.heap.size k) HJ.out hG0 hGL hS1 hS2 hown9 hgrow9; have hc9 := hb9.cell; have hf9 := hb9.frozen)
    refine ⟨hR9, ?_⟩
    dsimp only
    rw [List.length_append, entryCells_snoc]
    exact hJ9
  case hd =>
    rintro W ⟨hbx, hrow, hDo, hs⟩ hDef
    have hcL := hbx.cell
    obtain ⟨g0, g1, g2, g3, g4, g5, g6, fg⟩ := cells7 hDo.gb
    obtain ⟨p1, p2, p3, p4, p5, p6, p7⟩ := cells10 hDo.pb
    obtain ⟨r0, r1, r2, r3, r4, r5, r6, fr⟩ := cells7 hDo.rb
    have HX := Lib.hid hX
    clear hbx6 hrow6 hD6 hI6 hX hbx
    gi_wp2_with (gi_at_builtin; refine wpListIn_append_none rfl _ _ 26 rfl w2.heap.size 61 i0 3 Tryz.underlying26 hi (.slice (some ⟨w2.heap.size, 0, none⟩) X.length (l.length + plen)) X.length (entryCells X) rfl hrow plen pcap HN0.out.2 rfl ?_)
    have hD9 := Lib.hid hDo
    have hDf := Lib.hid hDef
    have hown9 := hrow
    have hE2 := Lib.hid (hD9.out.set 6 (.slice (some ⟨w2.heap.size, 0, none⟩) (X.length) (l.length + plen)))
    have hb7 := st7_block hE2.out.rb (.int .i64 id) (.int .i64 (pi + 1)) (.int .i64 u) (.int .i64 ht) (.int .i64 hv) (.int .i64 hc) (.slice (some ⟨w2.heap.size, 0, none⟩) (X.length) (l.length + plen))
    have hF7 := (FrameT.setCell W w.heap.size 6 (.slice (some ⟨w2.heap.size, 0, none⟩) (X.length) (l.length + plen))).mono (U := fun k => k = w.heap.size ∨ k = w.heap.size + 1 + 1) (fun k h => .inl h)
    have hF8 := hF7.trans ((st7_frame (W.setCell ⟨w.heap.size, 6, none⟩ (.slice (some ⟨w2.heap.size, 0, none⟩) (X.length) (l.length + plen))) (w.heap.size + 1 + 1) (.int .i64 id) (.int .i64 (pi + 1)) (.int .i64 u) (.int .i64 ht) (.int .i64 hv) (.int .i64 hc) (.slice (some ⟨w2.heap.size, 0, none⟩) (X.length) (l.length + plen))).mono (fun k h => .inr h))
    have hown2 := own_frame hown9 hF8 (fun k hk h => by rcases h with h | h <;> omega)
    have hbel := hD9.out.bel.trans (hF8.toBelow hD9.out.bel.size (fun k h => by rcases h with h | h <;> omega))
    have hDz := hF8.get hDf.out (fun h => by rcases h with h | h <;> omega)
    clear g0 g1 g2 g3 g4 g5 g6 fg r0 r1 r2 r3 r4 r5 r6 fr
    obtain ⟨e0, e1, e2, e3, e4, e5, e6, -⟩ := cells7 hb7
    replace e0 := cell_putObj (o' := .deferred none) e0 hDz rfl
    replace e1 := cell_putObj (o' := .deferred none) e1 hDz rfl
    replace e2 := cell_putObj (o' := .deferred none) e2 hDz rfl
    replace e3 := cell_putObj (o' := .deferred none) e3 hDz rfl
    replace e4 := cell_putObj (o' := .deferred none) e4 hDz rfl
    replace e5 := cell_putObj (o' := .deferred none) e5 hDz rfl
    replace e6 := cell_putObj (o' := .deferred none) e6 hDz rfl
    refine leave_one hDz (v := .tuple #[.agg #[.int .i64 id, .int .i64 (pi + 1), .int .i64 u, .int .i64 ht, .int .i64 hv, .int .i64 hc, .slice (some ⟨w2.heap.size, 0, none⟩) (X.length) (l.length + plen)], .int .i64 0]) (by simp [results, Tryz.results68, go_sem, e0, e1, e2, e3, e4, e5, e6]) ?_
    have hm9 : Moves w6.heap.size (fun _ => False) _ _ := Moves.putObj _ (.deferred none) (Nat.le_refl _) hDz rfl
    obtain ⟨va', vc', hx, -, hrv⟩ := rowV_own (Stab.ownsRow (B := w6.heap.size) (T := fun _ => False) (fun _ h => h.elim) _ _ hown2 hm9)
    cases hx
    have hlen9 : (btw l (pi + 1) maxI ++ pl).length = X.length := by rw [HN0.out.1, List.append_nil, ← HX.out]
    refine ⟨_, _, by dsimp only; rw [hlen9], ⟨by dsimp only; rw [hlen9]; omega, ?_⟩, below_putObj hbel (Nat.le_refl _) hw6 _, fun k hk => by obtain ⟨b9, o9, e9, _, rfl⟩ := hk; cases e9; omega⟩
    dsimp only
    rw [hlen9, ← HX.out, show entryCells (X ++ pl) = entryCells X ++ entryCells pl by simp [entryCells]]
    rw [HN0.out.1]; simpa [entryCells] using hrv

set_option maxRecDepth 100000 in
set_option maxHeartbeats 4000000 in
theorem do_4ny (id fi te ht hv hc : Int) (l : List EntryC) (a : Option Addr) (cap : Nat) (pg : Int) (plen pcap : Nat) (pht phv phc pi pt : Int) (pm ph : Bool) (pl : List EntryC) (w : World) (hg : HasG w a ⟨id, fi, te, ht, hv, hc, l⟩) (hG : isG ⟨id, fi, te, ht, hv, hc, l⟩ = true) (hp : HasE w ⟨pg, 4, none, plen, pcap, pht, phv, phc, pi, pt, pm, ph⟩ pl) (hce : chkG ⟨id, fi, te, ht, hv, hc, l⟩ ⟨pg, 4, none, plen, pcap, pht, phv, phc, pi, pt, pm, ph⟩ pl = 0) (h30 : l.length ≤ 100000) (hue : entT l pi = pt) : Calls Tryz.prog 68 #[.agg #[.int .i64 id, .int .i64 fi, .int .i64 te, .int .i64 ht, .int .i64 hv, .int .i64 hc, .slice a l.length cap], .agg #[.int .i64 pg, .int .i64 4, .slice none plen pcap, .int .i64 pht, .int .i64 phv, .int .i64 phc, .int .i64 pi, .int .i64 pt, .bool pm, .bool ph]] w (DoPost w { id := id, fi := pi + 1, te := pt, ht := ht, hv := hv, hc := hc, l := btw l (pi + 1) maxI ++ pl } 0) := by
  obtain ⟨i0, hi, hz0, hz1, hz2⟩ := info_parts infoEntry
  have GC := Lib.hid (fun W (hB : Below w.heap.size w W) => (show Gives Tryz.prog 83 #[.agg #[.int .i64 id, .int .i64 fi, .int .i64 te, .int .i64 ht, .int .i64 hv, .int .i64 hc, .slice a l.length cap], .agg #[.int .i64 pg, .int .i64 4, .slice none plen pcap, .int .i64 pht, .int .i64 phv, .int .i64 phc, .int .i64 pi, .int .i64 pt, .bool pm, .bool ph]] W (.int .i64 0) from by have := chk_any id fi te ht hv hc l a cap pg 4 none plen pcap pht phv phc pi pt pm ph pl W (hg.below hB) hG (hp.below hB); rwa [hce] at this))
  have hm := hg.1
  have HG := Lib.hid hg.2
  have M := Lib.hid (fun W (hB : Below w.heap.size w W) lo hi => btw_makes a l.length cap l lo hi rfl hm W (HG.out.below hB))
  have hplen := hp.1
  have hpb := hp.2.1
  have hprow := hp.2.2
  dsimp only at hplen hpb hprow hm
  obtain ⟨h0l, hpl0⟩ : plen = 0 ∧ pl = [] := by
    have h1 : isB ⟨pg, 4, none, plen, pcap, pht, phv, phc, pi, pt, pm, ph⟩ pl = true := by
      cases h : isB ⟨pg, 4, none, plen, pcap, pht, phv, phc, pi, pt, pm, ph⟩ pl
      · rw [show chkG ⟨id, fi, te, ht, hv, hc, l⟩ ⟨pg, 4, none, plen, pcap, pht, phv, phc, pi, pt, pm, ph⟩ pl = 11 from if_pos (.inl h)] at hce; exact absurd hce (by decide)
      · rfl
    rcases (isB_iff _ _).1 h1 with ⟨_, h | h | h | h | h | h⟩
    all_goals (have h9 := h.1; dsimp only at h9)
    all_goals first | omega | skip
    have h8 : pl = [] := by first | exact h.2.2.1 | exact h.2.2.2.1
    exact ⟨by rw [h8] at hplen; simpa using hplen.symm, h8⟩
  have hp6 : plen ≤ 6 := by omega
  have HN0 := Lib.hid (And.intro hpl0 h0l)
  clear h0l hpl0
  have hPI : 1 ≤ pi ∧ pi ≤ 1099511627776 := by
    have h1 : isB ⟨pg, 4, none, plen, pcap, pht, phv, phc, pi, pt, pm, ph⟩ pl = true := by
      cases h : isB ⟨pg, 4, none, plen, pcap, pht, phv, phc, pi, pt, pm, ph⟩ pl
      · rw [show chkG ⟨id, fi, te, ht, hv, hc, l⟩ ⟨pg, 4, none, plen, pcap, pht, phv, phc, pi, pt, pm, ph⟩ pl = 11 from if_pos (.inl h)] at hce; exact absurd hce (by decide)
      · rfl
    rcases (isB_iff _ _).1 h1 with ⟨_, h | h | h | h | h | h⟩
    all_goals (have h9 := h.1; dsimp only at h9)
    all_goals first | omega | skip
    exact wB_iff.1 h.2.1
  have GE := Lib.hid (fun W (hB : Below w.heap.size w W) => entT_any ⟨id, fi, te, ht, hv, hc, l⟩ a cap pi W (hg.below hB))
  dsimp only [GM.val] at GE
  generalize entT l pi = u at *
  have HS := Lib.hid (DoW.start w #[.int .i64 id, .int .i64 fi, .int .i64 te, .int .i64 ht, .int .i64 hv, .int .i64 hc, .slice a l.length cap] #[.int .i64 pg, .int .i64 4, .slice none plen pcap, .int .i64 pht, .int .i64 phv, .int .i64 phc, .int .i64 pi, .int .i64 pt, .bool pm, .bool ph])
  clear hg hG hp hce
  refine (callsIn_wide (n := 9)).1 ?_
  refine callsIn_of_wp_marks Tryz.func68 rfl trivial ?_ rfl
  simp only [Tryz.ntmps68, List.size_toArray, List.length_cons, List.length_nil, Nat.reduceAdd, Nat.reduceSub, Array.replicate_succ, Array.replicate_zero, List.push_toArray, List.append_toArray, List.nil_append, List.cons_append]
  gi_wp2_with (gi_at_call 83; ((with_reducible refine (callsIn_wide.2 (GC.out _ HS.out.bel)).mono ?_); rintro e w1 ⟨rfl, hB1⟩; have HD := Lib.hid (HS.out.after hB1); obtain ⟨g0, g1, g2, g3, g4, g5, g6, fg⟩ := cells7 HD.out.gb; obtain ⟨p1, p2, p3, p4, p5, p6, p7⟩ := cells10 HD.out.pb))
  have HC9 := Lib.hid (fun W (hW : Above w1 W) => And.intro (cells7 (HD.out.after hW).gb) (cells10 (HD.out.after hW).pb))
  clear g0 g1 g2 g3 g4 g5 g6 fg p1 p2 p3 p4 p5 p6 p7
  refine wpIn_region_below rfl (by kernel_rfl) (by kernel_rfl) ?_
  repeat (first
    | (refine BigFrame.wpQuietIn_skip (by first | quiet_asked_in | exact fun _ _ _ _ => trivial) (by rfl) ?_; (try simp only [Act.put, List.setIfInBounds_toArray, List.set_cons_zero, List.set_cons_succ]))
    | (refine BigFrame.wpQuietIn_want (by first | quiet_asked_in | exact fun _ _ _ _ => trivial) (by rfl) (fun K hK => ?_); apply Exists.intro; refine ⟨fun W hW => ?_, hK _ ?_⟩; (focus (have hWB : Below _ _ W := hW; obtain ⟨⟨g0, g1, g2, g3, g4, g5, g6, fg⟩, ⟨p1, p2, p3, p4, p5, p6, p7⟩⟩ := HC9.out _ hW; go_simp; (first | done | with_reducible rfl | (gi_at_call 84; refine callsIn_wide.2 ?_; with_reducible exact gives_above hW (GE.out _ (bel2 HD.out.bel hWB))) | (rw [if_neg (by omega)]; go_simp; (first | done | with_reducible rfl))))); clear hK K; (try simp only [Act.put, List.setIfInBounds_toArray, List.set_cons_zero, List.set_cons_succ])))
  refine wpQuietIn_nil ?_
  intro w2 hB2
  have hD2 := HD.out.after hB2
  obtain ⟨g0, g1, g2, g3, g4, g5, g6, fg⟩ := cells7 hD2.gb
  obtain ⟨p1, p2, p3, p4, p5, p6, p7⟩ := cells10 hD2.pb
  have HDa := Lib.hid hD2
  clear hD2
  have tq : (u != pt) = false := by rw [bne_eq_false_iff_eq]; exact hue
  have tq2 : (u == pt) = true := by rw [beq_iff_eq]; exact hue
  clear hue
  gi_wp2
  gi_region
  have HD2 := Lib.hid (show DoW w #[.int .i64 id, .int .i64 (pi + 1), .int .i64 pt, .int .i64 ht, .int .i64 hv, .int .i64 hc, .slice a l.length cap] #[.int .i64 pg, .int .i64 4, .slice none plen pcap, .int .i64 pht, .int .i64 phv, .int .i64 phc, .int .i64 pi, .int .i64 pt, .bool pm, .bool ph] ((w2.setCell ⟨w.heap.size, 1, none⟩ (.int .i64 (pi + 1))).setCell ⟨w.heap.size, 2, none⟩ (.int .i64 pt)).drew from ((HDa.out.set 1 (.int .i64 (pi + 1))).set 2 (.int .i64 pt)).drew)
  generalize ((w2.setCell ⟨w.heap.size, 1, none⟩ (.int .i64 (pi + 1))).setCell ⟨w.heap.size, 2, none⟩ (.int .i64 pt)).drew = w3 at *
  clear g0 g1 g2 g3 g4 g5 g6 fg p1 p2 p3 p4 p5 p6 p7
  obtain ⟨g0, g1, g2, g3, g4, g5, g6, fg⟩ := cells7 HD2.out.gb
  obtain ⟨p1, p2, p3, p4, p5, p6, p7⟩ := cells10 HD2.out.pb
  gi_wp2_with (first
    | (gi_at_make; (refine wpListIn_make_own _ rfl _ _ 26 rfl w3.heap.size 61 i0 (.agg #[.int .i64 0, .int .i64 0, .string ⟨#[]⟩]) 3 Tryz.underlying26 hi hz0 hz1 .i64 .i64 ((l.length : Int) + (plen : Int)) (l.length + plen) rfl rfl (by push_cast; rfl) (by rw [hz2]; omega) (by unfold maxLen; omega) (Nat.le_refl _) ?_; intro w4 hown4 hgrow4; have hD4 := HD2.out.grown hgrow4 (fun k e => by cases e); have hlt0 : w.heap.size + 3 ≤ w3.heap.size := (by have h9 := HD2.out.lt; simpa using h9); have hlt4 : w3.heap.size < w4.heap.size := (by rcases hown4.2 with ⟨hv, _⟩ | ⟨g, _, _, hv, _, hgg, _⟩; (cases hv); (cases hv; exact heap_lt hgg)); clear g0 g1 g2 g3 g4 g5 g6 fg p1 p2 p3 p4 p5 p6 p7; have hD5 := Lib.hid (hD4.after (bel_alloc (Below.refl w4.heap.size w4) (.cells #[.slice (some ⟨w3.heap.size, 0, none⟩) 0 (l.length + plen)] 26))); obtain ⟨g0, g1, g2, g3, g4, g5, g6, fg⟩ := cells7 hD5.out.gb; obtain ⟨p1, p2, p3, p4, p5, p6, p7⟩ := cells10 hD5.out.pb))
    | (gi_at_call 85; (refine (callsIn_wide.2 (M.out _ (bel_alloc hD4.bel (.cells #[.slice (some ⟨w3.heap.size, 0, none⟩) 0 (l.length + plen)] 26)) (pi + 1) maxI)).mono ?_; rintro e w6 ⟨lb, rfl, hB6, hI6⟩)))
  have hG0 : w.heap.size + 3 ≤ w3.heap.size := hlt0
  obtain ⟨X, hX⟩ : ∃ X, X = btw l (pi + 1) maxI := ⟨_, rfl⟩
  have hXl : X.length ≤ l.length := by rw [hX]; exact btw_len _ _ _
  rw [← hX] at hI6
  have hs4 : w4.heap.size + 1 ≤ w6.heap.size := by have := hB6.size; simpa using this
  have hGL : w3.heap.size < w4.heap.size := hlt4
  have HI6 := Lib.hid hI6
  have hlS : ∀ k, inBlkE a l.length k → k < w.heap.size := fun k hk => btw_lt HG.out hk
  have hS1 : ¬ (inBlkE a l.length w3.heap.size ∨ span (w4.heap.size + 1) w6.heap.size w3.heap.size) := fun h => h.elim (fun h => by have := hlS _ h; omega) (fun h => by have := h.1; omega)
  have hS2 : ¬ (inBlkE a l.length w4.heap.size ∨ span (w4.heap.size + 1) w6.heap.size w4.heap.size) := fun h => h.elim (fun h => by have := hlS _ h; omega) (fun h => by have := h.1; omega)
  have hbx6 : Boxed w6 w4.heap.size 26 (.slice (some ⟨w3.heap.size, 0, none⟩) 0 (l.length + plen)) := (hB6.block _ (by simp)).trans (Boxed.new w4 _ _)
  have hrow6 := ownsRow_below (n := 0) (ownsRow_below (n := 0) hown4 (bel_alloc (Below.refl w4.heap.size w4) (.cells #[.slice (some ⟨w3.heap.size, 0, none⟩) 0 (l.length + plen)] 26))) hB6
  have hD6 := (hD4.after (bel_alloc (Below.refl w4.heap.size w4) (.cells #[.slice (some ⟨w3.heap.size, 0, none⟩) 0 (l.length + plen)] 26))).after hB6
  have hw6 : w.heap.size ≤ w6.heap.size := hD6.bel.size
  simp only [World.size_alloc] at HI6
  refine range_outer rfl (enters_of Tryz.func96 (by kernel_rfl) rfl) HI6.out (fun _ => rfl) (fun k hk => hk.elim (fun h => Nat.lt_of_lt_of_le (hlS k h) hw6) (fun h => h.2)) (fun _ h => h.elim)
    (fun pre W => doJ w #[.int .i64 id, .int .i64 (pi + 1), .int .i64 pt, .int .i64 ht, .int .i64 hv, .int .i64 hc, .slice a l.length cap] #[.int .i64 pg, .int .i64 4, .slice none plen pcap, .int .i64 pht, .int .i64 phv, .int .i64 phc, .int .i64 pi, .int .i64 pt, .bool pm, .bool ph] w3.heap.size w4.heap.size (l.length + plen) pre.length (entryCells pre) w6.heap.size W) (fun _ _ _ => False) (fun _ => doJ_stab hw6) (fun _ _ => Stab.pure _) ⟨hbx6, hrow6, hD6, Nat.le_refl _⟩ ?hr ?hd (fun _ _ _ _ _ _ h => h.elim)
  case hr =>
    rintro L0 pre x suf W hx hl' hi1 hrec
    dsimp only [EntryC.enc, EntryC.val]
    have hpl : pre.length < X.length := by have h1 := congrArg List.length hx; simp at h1; omega
    gi_wp2
    refine rdThen_mk (fun W' => doJ w #[.int .i64 id, .int .i64 (pi + 1), .int .i64 pt, .int .i64 ht, .int .i64 hv, .int .i64 hc, .slice a l.length cap] #[.int .i64 pg, .int .i64 4, .slice none plen pcap, .int .i64 pht, .int .i64 phv, .int .i64 phc, .int .i64 pi, .int .i64 pt, .bool pm, .bool ph] w3.heap.size w4.heap.size (l.length + plen) pre.length (entryCells pre) w6.heap.size W' ∧ W'.heap[W.heap.size]? = some (.cells #[.int .i64 x.i, .int .i64 x.t, .string x.d] 61 (0, 0)))
      ((doJ_stab hw6).and (Stab.block (fun h => h) (.inr rfl))) ⟨doJ_stab hw6 _ _ hi1 (Moves.alloc _ _), World.alloc_heap_new W _⟩ ((Rd.refl _ _ _).alloc _) ?_
    clear hi1 hrec
    obtain ⟨Xb, hXb⟩ : ∃ Xb, Xb = W.heap.size := ⟨_, rfl⟩
    rw [← hXb]
    clear hXb W
    rintro W ⟨hJ, hblk⟩ hrec
    have hcL := hJ.1.cell
    have hrow := hJ.2.1
    have HJ := Lib.hid hJ
    have d0 : W.cell? ⟨Xb, 0, none⟩ = some (.int .i64 x.i) := cell_of_row W Xb 0 _ _ _ hblk
    have d1 : W.cell? ⟨Xb, 1, none⟩ = some (.int .i64 x.t) := cell_of_row W Xb 1 _ _ _ hblk
    have d2 : W.cell? ⟨Xb, 2, none⟩ = some (.string x.d) := cell_of_row W Xb 2 _ _ _ hblk
    clear hJ hblk hbx6 hrow6 hD6 hI6 hX
    gi_wp2_with (gi_at_builtin; refine wpListIn_append_fits _ rfl _ _ 26 rfl w3.heap.size 61 i0 3 Tryz.underlying26 hi hz1 w3.heap.size pre.length (l.length + plen) (entryCells pre) rfl (hrow.alloc _) ⟨W.heap.size, 0, none⟩ 1 1 x.cells rfl rfl (news_new _ _ _) (by simp [Value.oneCell', EntryC.cells]) (by omega) ?_; intro w9 hown9 hgrow9; obtain ⟨hb9, hR9, hJ9⟩ := doJ_append (B := w6.heap.size) (S := fun k => inBlkE a l.length k ∨ span (w4.heap.size + 1) w6.heap.size k) HJ.out hG0 hGL hS1 hS2 hown9 hgrow9; have hc9 := hb9.cell; have hf9 := hb9.frozen)
    refine ⟨hR9, ?_⟩
    dsimp only
    rw [List.length_append, entryCells_snoc]
    exact hJ9
  case hd =>
    rintro W ⟨hbx, hrow, hDo, hs⟩ hDef
    have hcL := hbx.cell
    obtain ⟨g0, g1, g2, g3, g4, g5, g6, fg⟩ := cells7 hDo.gb
    obtain ⟨p1, p2, p3, p4, p5, p6, p7⟩ := cells10 hDo.pb
    obtain ⟨r0, r1, r2, r3, r4, r5, r6, fr⟩ := cells7 hDo.rb
    have HX := Lib.hid hX
    clear hbx6 hrow6 hD6 hI6 hX hbx
    gi_wp2_with (gi_at_builtin; refine wpListIn_append_none rfl _ _ 26 rfl w3.heap.size 61 i0 3 Tryz.underlying26 hi (.slice (some ⟨w3.heap.size, 0, none⟩) X.length (l.length + plen)) X.length (entryCells X) rfl hrow plen pcap HN0.out.2 rfl ?_)
    have hD9 := Lib.hid hDo
    have hDf := Lib.hid hDef
    have hown9 := hrow
    have hE2 := Lib.hid (hD9.out.set 6 (.slice (some ⟨w3.heap.size, 0, none⟩) (X.length) (l.length + plen)))
    have hb7 := st7_block hE2.out.rb (.int .i64 id) (.int .i64 (pi + 1)) (.int .i64 pt) (.int .i64 ht) (.int .i64 hv) (.int .i64 hc) (.slice (some ⟨w3.heap.size, 0, none⟩) (X.length) (l.length + plen))
    have hF7 := (FrameT.setCell W w.heap.size 6 (.slice (some ⟨w3.heap.size, 0, none⟩) (X.length) (l.length + plen))).mono (U := fun k => k = w.heap.size ∨ k = w.heap.size + 1 + 1) (fun k h => .inl h)
    have hF8 := hF7.trans ((st7_frame (W.setCell ⟨w.heap.size, 6, none⟩ (.slice (some ⟨w3.heap.size, 0, none⟩) (X.length) (l.length + plen))) (w.heap.size + 1 + 1) (.int .i64 id) (.int .i64 (pi + 1)) (.int .i64 pt) (.int .i64 ht) (.int .i64 hv) (.int .i64 hc) (.slice (some ⟨w3.heap.size, 0, none⟩) (X.length) (l.length + plen))).mono (fun k h => .inr h))
    have hown2 := own_frame hown9 hF8 (fun k hk h => by rcases h with h | h <;> omega)
    have hbel := hD9.out.bel.trans (hF8.toBelow hD9.out.bel.size (fun k h => by rcases h with h | h <;> omega))
    have hDz := hF8.get hDf.out (fun h => by rcases h with h | h <;> omega)
    clear g0 g1 g2 g3 g4 g5 g6 fg r0 r1 r2 r3 r4 r5 r6 fr
    obtain ⟨e0, e1, e2, e3, e4, e5, e6, -⟩ := cells7 hb7
    replace e0 := cell_putObj (o' := .deferred none) e0 hDz rfl
    replace e1 := cell_putObj (o' := .deferred none) e1 hDz rfl
    replace e2 := cell_putObj (o' := .deferred none) e2 hDz rfl
    replace e3 := cell_putObj (o' := .deferred none) e3 hDz rfl
    replace e4 := cell_putObj (o' := .deferred none) e4 hDz rfl
    replace e5 := cell_putObj (o' := .deferred none) e5 hDz rfl
    replace e6 := cell_putObj (o' := .deferred none) e6 hDz rfl
    refine leave_one hDz (v := .tuple #[.agg #[.int .i64 id, .int .i64 (pi + 1), .int .i64 pt, .int .i64 ht, .int .i64 hv, .int .i64 hc, .slice (some ⟨w3.heap.size, 0, none⟩) (X.length) (l.length + plen)], .int .i64 0]) (by simp [results, Tryz.results68, go_sem, e0, e1, e2, e3, e4, e5, e6]) ?_
    have hm9 : Moves w6.heap.size (fun _ => False) _ _ := Moves.putObj _ (.deferred none) (Nat.le_refl _) hDz rfl
    obtain ⟨va', vc', hx, -, hrv⟩ := rowV_own (Stab.ownsRow (B := w6.heap.size) (T := fun _ => False) (fun _ h => h.elim) _ _ hown2 hm9)
    cases hx
    have hlen9 : (btw l (pi + 1) maxI ++ pl).length = X.length := by rw [HN0.out.1, List.append_nil, ← HX.out]
    refine ⟨_, _, by dsimp only; rw [hlen9], ⟨by dsimp only; rw [hlen9]; omega, ?_⟩, below_putObj hbel (Nat.le_refl _) hw6 _, fun k hk => by obtain ⟨b9, o9, e9, _, rfl⟩ := hk; cases e9; omega⟩
    dsimp only
    rw [hlen9, ← HX.out, show entryCells (X ++ pl) = entryCells X ++ entryCells pl by simp [entryCells]]
    rw [HN0.out.1]; simpa [entryCells] using hrv

set_option maxRecDepth 100000 in
set_option maxHeartbeats 4000000 in
theorem do_4nx (id fi te ht hv hc : Int) (l : List EntryC) (a : Option Addr) (cap : Nat) (pg : Int) (plen pcap : Nat) (pht phv phc pi pt : Int) (pm ph : Bool) (pl : List EntryC) (w : World) (hg : HasG w a ⟨id, fi, te, ht, hv, hc, l⟩) (hG : isG ⟨id, fi, te, ht, hv, hc, l⟩ = true) (hp : HasE w ⟨pg, 4, none, plen, pcap, pht, phv, phc, pi, pt, pm, ph⟩ pl) (hce : chkG ⟨id, fi, te, ht, hv, hc, l⟩ ⟨pg, 4, none, plen, pcap, pht, phv, phc, pi, pt, pm, ph⟩ pl = 0) (h30 : l.length ≤ 100000) (hue : entT l pi ≠ pt) : Calls Tryz.prog 68 #[.agg #[.int .i64 id, .int .i64 fi, .int .i64 te, .int .i64 ht, .int .i64 hv, .int .i64 hc, .slice a l.length cap], .agg #[.int .i64 pg, .int .i64 4, .slice none plen pcap, .int .i64 pht, .int .i64 phv, .int .i64 phc, .int .i64 pi, .int .i64 pt, .bool pm, .bool ph]] w (DoPost w { id := id, fi := pi + 1, te := pt, ht := ht, hv := hv, hc := hc, l := btw l (pi + 1) minI ++ pl } 0) := by
  obtain ⟨i0, hi, hz0, hz1, hz2⟩ := info_parts infoEntry
  have GC := Lib.hid (fun W (hB : Below w.heap.size w W) => (show Gives Tryz.prog 83 #[.agg #[.int .i64 id, .int .i64 fi, .int .i64 te, .int .i64 ht, .int .i64 hv, .int .i64 hc, .slice a l.length cap], .agg #[.int .i64 pg, .int .i64 4, .slice none plen pcap, .int .i64 pht, .int .i64 phv, .int .i64 phc, .int .i64 pi, .int .i64 pt, .bool pm, .bool ph]] W (.int .i64 0) from by have := chk_any id fi te ht hv hc l a cap pg 4 none plen pcap pht phv phc pi pt pm ph pl W (hg.below hB) hG (hp.below hB); rwa [hce] at this))
  have hm := hg.1
  have HG := Lib.hid hg.2
  have M := Lib.hid (fun W (hB : Below w.heap.size w W) lo hi => btw_makes a l.length cap l lo hi rfl hm W (HG.out.below hB))
  have hplen := hp.1
  have hpb := hp.2.1
  have hprow := hp.2.2
  dsimp only at hplen hpb hprow hm
  obtain ⟨h0l, hpl0⟩ : plen = 0 ∧ pl = [] := by
    have h1 : isB ⟨pg, 4, none, plen, pcap, pht, phv, phc, pi, pt, pm, ph⟩ pl = true := by
      cases h : isB ⟨pg, 4, none, plen, pcap, pht, phv, phc, pi, pt, pm, ph⟩ pl
      · rw [show chkG ⟨id, fi, te, ht, hv, hc, l⟩ ⟨pg, 4, none, plen, pcap, pht, phv, phc, pi, pt, pm, ph⟩ pl = 11 from if_pos (.inl h)] at hce; exact absurd hce (by decide)
      · rfl
    rcases (isB_iff _ _).1 h1 with ⟨_, h | h | h | h | h | h⟩
    all_goals (have h9 := h.1; dsimp only at h9)
    all_goals first | omega | skip
    have h8 : pl = [] := by first | exact h.2.2.1 | exact h.2.2.2.1
    exact ⟨by rw [h8] at hplen; simpa using hplen.symm, h8⟩
  have hp6 : plen ≤ 6 := by omega
  have HN0 := Lib.hid (And.intro hpl0 h0l)
  clear h0l hpl0
  have hPI : 1 ≤ pi ∧ pi ≤ 1099511627776 := by
    have h1 : isB ⟨pg, 4, none, plen, pcap, pht, phv, phc, pi, pt, pm, ph⟩ pl = true := by
      cases h : isB ⟨pg, 4, none, plen, pcap, pht, phv, phc, pi, pt, pm, ph⟩ pl
      · rw [show chkG ⟨id, fi, te, ht, hv, hc, l⟩ ⟨pg, 4, none, plen, pcap, pht, phv, phc, pi, pt, pm, ph⟩ pl = 11 from if_pos (.inl h)] at hce; exact absurd hce (by decide)
      · rfl
    rcases (isB_iff _ _).1 h1 with ⟨_, h | h | h | h | h | h⟩
    all_goals (have h9 := h.1; dsimp only at h9)
    all_goals first | omega | skip
    exact wB_iff.1 h.2.1
  have GE := Lib.hid (fun W (hB : Below w.heap.size w W) => entT_any ⟨id, fi, te, ht, hv, hc, l⟩ a cap pi W (hg.below hB))
  dsimp only [GM.val] at GE
  generalize entT l pi = u at *
  have HS := Lib.hid (DoW.start w #[.int .i64 id, .int .i64 fi, .int .i64 te, .int .i64 ht, .int .i64 hv, .int .i64 hc, .slice a l.length cap] #[.int .i64 pg, .int .i64 4, .slice none plen pcap, .int .i64 pht, .int .i64 phv, .int .i64 phc, .int .i64 pi, .int .i64 pt, .bool pm, .bool ph])
  clear hg hG hp hce
  refine (callsIn_wide (n := 9)).1 ?_
  refine callsIn_of_wp_marks Tryz.func68 rfl trivial ?_ rfl
  simp only [Tryz.ntmps68, List.size_toArray, List.length_cons, List.length_nil, Nat.reduceAdd, Nat.reduceSub, Array.replicate_succ, Array.replicate_zero, List.push_toArray, List.append_toArray, List.nil_append, List.cons_append]
  gi_wp2_with (gi_at_call 83; ((with_reducible refine (callsIn_wide.2 (GC.out _ HS.out.bel)).mono ?_); rintro e w1 ⟨rfl, hB1⟩; have HD := Lib.hid (HS.out.after hB1); obtain ⟨g0, g1, g2, g3, g4, g5, g6, fg⟩ := cells7 HD.out.gb; obtain ⟨p1, p2, p3, p4, p5, p6, p7⟩ := cells10 HD.out.pb))
  have HC9 := Lib.hid (fun W (hW : Above w1 W) => And.intro (cells7 (HD.out.after hW).gb) (cells10 (HD.out.after hW).pb))
  clear g0 g1 g2 g3 g4 g5 g6 fg p1 p2 p3 p4 p5 p6 p7
  refine wpIn_region_below rfl (by kernel_rfl) (by kernel_rfl) ?_
  repeat (first
    | (refine BigFrame.wpQuietIn_skip (by first | quiet_asked_in | exact fun _ _ _ _ => trivial) (by rfl) ?_; (try simp only [Act.put, List.setIfInBounds_toArray, List.set_cons_zero, List.set_cons_succ]))
    | (refine BigFrame.wpQuietIn_want (by first | quiet_asked_in | exact fun _ _ _ _ => trivial) (by rfl) (fun K hK => ?_); apply Exists.intro; refine ⟨fun W hW => ?_, hK _ ?_⟩; (focus (have hWB : Below _ _ W := hW; obtain ⟨⟨g0, g1, g2, g3, g4, g5, g6, fg⟩, ⟨p1, p2, p3, p4, p5, p6, p7⟩⟩ := HC9.out _ hW; go_simp; (first | done | with_reducible rfl | (gi_at_call 84; refine callsIn_wide.2 ?_; with_reducible exact gives_above hW (GE.out _ (bel2 HD.out.bel hWB))) | (rw [if_neg (by omega)]; go_simp; (first | done | with_reducible rfl))))); clear hK K; (try simp only [Act.put, List.setIfInBounds_toArray, List.set_cons_zero, List.set_cons_succ])))
  refine wpQuietIn_nil ?_
  intro w2 hB2
  have hD2 := HD.out.after hB2
  obtain ⟨g0, g1, g2, g3, g4, g5, g6, fg⟩ := cells7 hD2.gb
  obtain ⟨p1, p2, p3, p4, p5, p6, p7⟩ := cells10 hD2.pb
  have HDa := Lib.hid hD2
  clear hD2
  have tq : (u != pt) = true := by rw [bne_iff_ne]; exact hue
  have tq2 : (u == pt) = false := by rw [beq_eq_false_iff_ne]; exact hue
  clear hue
  gi_wp2
  gi_region
  have HD2 := Lib.hid (show DoW w #[.int .i64 id, .int .i64 (pi + 1), .int .i64 pt, .int .i64 ht, .int .i64 hv, .int .i64 hc, .slice a l.length cap] #[.int .i64 pg, .int .i64 4, .slice none plen pcap, .int .i64 pht, .int .i64 phv, .int .i64 phc, .int .i64 pi, .int .i64 pt, .bool pm, .bool ph] ((w2.setCell ⟨w.heap.size, 1, none⟩ (.int .i64 (pi + 1))).setCell ⟨w.heap.size, 2, none⟩ (.int .i64 pt)).drew from ((HDa.out.set 1 (.int .i64 (pi + 1))).set 2 (.int .i64 pt)).drew)
  generalize ((w2.setCell ⟨w.heap.size, 1, none⟩ (.int .i64 (pi + 1))).setCell ⟨w.heap.size, 2, none⟩ (.int .i64 pt)).drew = w3 at *
  clear g0 g1 g2 g3 g4 g5 g6 fg p1 p2 p3 p4 p5 p6 p7
  obtain ⟨g0, g1, g2, g3, g4, g5, g6, fg⟩ := cells7 HD2.out.gb
  obtain ⟨p1, p2, p3, p4, p5, p6, p7⟩ := cells10 HD2.out.pb
  gi_wp2_with (first
    | (gi_at_make; (refine wpListIn_make_own _ rfl _ _ 26 rfl w3.heap.size 61 i0 (.agg #[.int .i64 0, .int .i64 0, .string ⟨#[]⟩]) 3 Tryz.underlying26 hi hz0 hz1 .i64 .i64 ((l.length : Int) + (plen : Int)) (l.length + plen) rfl rfl (by push_cast; rfl) (by rw [hz2]; omega) (by unfold maxLen; omega) (Nat.le_refl _) ?_; intro w4 hown4 hgrow4; have hD4 := HD2.out.grown hgrow4 (fun k e => by cases e); have hlt0 : w.heap.size + 3 ≤ w3.heap.size := (by have h9 := HD2.out.lt; simpa using h9); have hlt4 : w3.heap.size < w4.heap.size := (by rcases hown4.2 with ⟨hv, _⟩ | ⟨g, _, _, hv, _, hgg, _⟩; (cases hv); (cases hv; exact heap_lt hgg)); clear g0 g1 g2 g3 g4 g5 g6 fg p1 p2 p3 p4 p5 p6 p7; have hD5 := Lib.hid (hD4.after (bel_alloc (Below.refl w4.heap.size w4) (.cells #[.slice (some ⟨w3.heap.size, 0, none⟩) 0 (l.length + plen)] 26))); obtain ⟨g0, g1, g2, g3, g4, g5, g6, fg⟩ := cells7 hD5.out.gb; obtain ⟨p1, p2, p3, p4, p5, p6, p7⟩ := cells10 hD5.out.pb))
    | (gi_at_call 85; (refine (callsIn_wide.2 (M.out _ (bel_alloc hD4.bel (.cells #[.slice (some ⟨w3.heap.size, 0, none⟩) 0 (l.length + plen)] 26)) (pi + 1) minI)).mono ?_; rintro e w6 ⟨lb, rfl, hB6, hI6⟩)))
  have hG0 : w.heap.size + 3 ≤ w3.heap.size := hlt0
  obtain ⟨X, hX⟩ : ∃ X, X = btw l (pi + 1) minI := ⟨_, rfl⟩
  have hXl : X.length ≤ l.length := by rw [hX]; exact btw_len _ _ _
  rw [← hX] at hI6
  have hs4 : w4.heap.size + 1 ≤ w6.heap.size := by have := hB6.size; simpa using this
  have hGL : w3.heap.size < w4.heap.size := hlt4
  have HI6 := Lib.hid hI6
  have hlS : ∀ k, inBlkE a l.length k → k < w.heap.size := fun k hk => btw_lt HG.out hk
  have hS1 : ¬ (inBlkE a l.length w3.heap.size ∨ span (w4.heap.size + 1) w6.heap.size w3.heap.size) := fun h => h.elim (fun h => by have := hlS _ h; omega) (fun h => by have := h.1; omega)
  have hS2 : ¬ (inBlkE a l.length w4.heap.size ∨ span (w4.heap.size + 1) w6.heap.size w4.heap.size) := fun h => h.elim (fun h => by have := hlS _ h; omega) (fun h => by have := h.1; omega)
  have hbx6 : Boxed w6 w4.heap.size 26 (.slice (some ⟨w3.heap.size, 0, none⟩) 0 (l.length + plen)) := (hB6.block _ (by simp)).trans (Boxed.new w4 _ _)
  have hrow6 := ownsRow_below (n := 0) (ownsRow_below (n := 0) hown4 (bel_alloc (Below.refl w4.heap.size w4) (.cells #[.slice (some ⟨w3.heap.size, 0, none⟩) 0 (l.length + plen)] 26))) hB6
  have hD6 := (hD4.after (bel_alloc (Below.refl w4.heap.size w4) (.cells #[.slice (some ⟨w3.heap.size, 0, none⟩) 0 (l.length + plen)] 26))).after hB6
  have hw6 : w.heap.size ≤ w6.heap.size := hD6.bel.size
  simp only [World.size_alloc] at HI6
  refine range_outer rfl (enters_of Tryz.func96 (by kernel_rfl) rfl) HI6.out (fun _ => rfl) (fun k hk => hk.elim (fun h => Nat.lt_of_lt_of_le (hlS k h) hw6) (fun h => h.2)) (fun _ h => h.elim)
    (fun pre W => doJ w #[.int .i64 id, .int .i64 (pi + 1), .int .i64 pt, .int .i64 ht, .int .i64 hv, .int .i64 hc, .slice a l.length cap] #[.int .i64 pg, .int .i64 4, .slice none plen pcap, .int .i64 pht, .int .i64 phv, .int .i64 phc, .int .i64 pi, .int .i64 pt, .bool pm, .bool ph] w3.heap.size w4.heap.size (l.length + plen) pre.length (entryCells pre) w6.heap.size W) (fun _ _ _ => False) (fun _ => doJ_stab hw6) (fun _ _ => Stab.pure _) ⟨hbx6, hrow6, hD6, Nat.le_refl _⟩ ?hr ?hd (fun _ _ _ _ _ _ h => h.elim)
  case hr =>
    rintro L0 pre x suf W hx hl' hi1 hrec
    dsimp only [EntryC.enc, EntryC.val]
    have hpl : pre.length < X.length := by have h1 := congrArg List.length hx; simp at h1; omega
    gi_wp2
    refine rdThen_mk (fun W' => doJ w #[.int .i64 id, .int .i64 (pi + 1), .int .i64 pt, .int .i64 ht, .int .i64 hv, .int .i64 hc, .slice a l.length cap] #[.int .i64 pg, .int .i64 4, .slice none plen pcap, .int .i64 pht, .int .i64 phv, .int .i64 phc, .int .i64 pi, .int .i64 pt, .bool pm, .bool ph] w3.heap.size w4.heap.size (l.length + plen) pre.length (entryCells pre) w6.heap.size W' ∧ W'.heap[W.heap.size]? = some (.cells #[.int .i64 x.i, .int .i64 x.t, .string x.d] 61 (0, 0)))
      ((doJ_stab hw6).and (Stab.block (fun h => h) (.inr rfl))) ⟨doJ_stab hw6 _ _ hi1 (Moves.alloc _ _), World.alloc_heap_new W _⟩ ((Rd.refl _ _ _).alloc _) ?_
    clear hi1 hrec
    obtain ⟨Xb, hXb⟩ : ∃ Xb, Xb = W.heap.size := ⟨_, rfl⟩
    rw [← hXb]
    clear hXb W
    rintro W ⟨hJ, hblk⟩ hrec
    have hcL := hJ.1.cell
    have hrow := hJ.2.1
    have HJ := Lib.hid hJ
    have d0 : W.cell? ⟨Xb, 0, none⟩ = some (.int .i64 x.i) := cell_of_row W Xb 0 _ _ _ hblk
    have d1 : W.cell? ⟨Xb, 1, none⟩ = some (.int .i64 x.t) := cell_of_row W Xb 1 _ _ _ hblk
    have d2 : W.cell? ⟨Xb, 2, none⟩ = some (.string x.d) := cell_of_row W Xb 2 _ _ _ hblk
    clear hJ hblk hbx6 hrow6 hD6 hI6 hX
    gi_wp2_with (gi_at_builtin; refine wpListIn_append_fits _ rfl _ _ 26 rfl w3.heap.size 61 i0 3 Tryz.underlying26 hi hz1 w3.heap.size pre.length (l.length + plen) (entryCells pre) rfl (hrow.alloc _) ⟨W.heap.size, 0, none⟩ 1 1 x.cells rfl rfl (news_new _ _ _) (by simp [Value.oneCell', EntryC.cells]) (by omega) ?_; intro w9 hown9 hgrow9; obtain ⟨hb9, hR9, hJ9⟩ := doJ_append (B := w6.heap.size) (S := fun k => inBlkE a l.length k ∨ span (w4.heap.size + 1) w6.heap.size k) HJ.out hG0 hGL hS1 hS2 hown9 hgrow9; have hc9 := hb9.cell; have hf9 := hb9.frozen)
    refine ⟨hR9, ?_⟩
    dsimp only
    rw [List.length_append, entryCells_snoc]
    exact hJ9
  case hd =>
    rintro W ⟨hbx, hrow, hDo, hs⟩ hDef
    have hcL := hbx.cell
    obtain ⟨g0, g1, g2, g3, g4, g5, g6, fg⟩ := cells7 hDo.gb
    obtain ⟨p1, p2, p3, p4, p5, p6, p7⟩ := cells10 hDo.pb
    obtain ⟨r0, r1, r2, r3, r4, r5, r6, fr⟩ := cells7 hDo.rb
    have HX := Lib.hid hX
    clear hbx6 hrow6 hD6 hI6 hX hbx
    gi_wp2_with (gi_at_builtin; refine wpListIn_append_none rfl _ _ 26 rfl w3.heap.size 61 i0 3 Tryz.underlying26 hi (.slice (some ⟨w3.heap.size, 0, none⟩) X.length (l.length + plen)) X.length (entryCells X) rfl hrow plen pcap HN0.out.2 rfl ?_)
    have hD9 := Lib.hid hDo
    have hDf := Lib.hid hDef
    have hown9 := hrow
    have hE2 := Lib.hid (hD9.out.set 6 (.slice (some ⟨w3.heap.size, 0, none⟩) (X.length) (l.length + plen)))
    have hb7 := st7_block hE2.out.rb (.int .i64 id) (.int .i64 (pi + 1)) (.int .i64 pt) (.int .i64 ht) (.int .i64 hv) (.int .i64 hc) (.slice (some ⟨w3.heap.size, 0, none⟩) (X.length) (l.length + plen))
    have hF7 := (FrameT.setCell W w.heap.size 6 (.slice (some ⟨w3.heap.size, 0, none⟩) (X.length) (l.length + plen))).mono (U := fun k => k = w.heap.size ∨ k = w.heap.size + 1 + 1) (fun k h => .inl h)
    have hF8 := hF7.trans ((st7_frame (W.setCell ⟨w.heap.size, 6, none⟩ (.slice (some ⟨w3.heap.size, 0, none⟩) (X.length) (l.length + plen))) (w.heap.size + 1 + 1) (.int .i64 id) (.int .i64 (pi + 1)) (.int .i64 pt) (.int .i64 ht) (.int .i64 hv) (.int .i64 hc) (.slice (some ⟨w3.heap.size, 0, none⟩) (X.length) (l.length + plen))).mono (fun k h => .inr h))
    have hown2 := own_frame hown9 hF8 (fun k hk h => by rcases h with h | h <;> omega)
    have hbel := hD9.out.bel.trans (hF8.toBelow hD9.out.bel.size (fun k h => by rcases h with h | h <;> omega))
    have hDz := hF8.get hDf.out (fun h => by rcases h with h | h <;> omega)
    clear g0 g1 g2 g3 g4 g5 g6 fg r0 r1 r2 r3 r4 r5 r6 fr
    obtain ⟨e0, e1, e2, e3, e4, e5, e6, -⟩ := cells7 hb7
    replace e0 := cell_putObj (o' := .deferred none) e0 hDz rfl
    replace e1 := cell_putObj (o' := .deferred none) e1 hDz rfl
    replace e2 := cell_putObj (o' := .deferred none) e2 hDz rfl
    replace e3 := cell_putObj (o' := .deferred none) e3 hDz rfl
    replace e4 := cell_putObj (o' := .deferred none) e4 hDz rfl
    replace e5 := cell_putObj (o' := .deferred none) e5 hDz rfl
    replace e6 := cell_putObj (o' := .deferred none) e6 hDz rfl
    refine leave_one hDz (v := .tuple #[.agg #[.int .i64 id, .int .i64 (pi + 1), .int .i64 pt, .int .i64 ht, .int .i64 hv, .int .i64 hc, .slice (some ⟨w3.heap.size, 0, none⟩) (X.length) (l.length + plen)], .int .i64 0]) (by simp [results, Tryz.results68, go_sem, e0, e1, e2, e3, e4, e5, e6]) ?_
    have hm9 : Moves w6.heap.size (fun _ => False) _ _ := Moves.putObj _ (.deferred none) (Nat.le_refl _) hDz rfl
    obtain ⟨va', vc', hx, -, hrv⟩ := rowV_own (Stab.ownsRow (B := w6.heap.size) (T := fun _ => False) (fun _ h => h.elim) _ _ hown2 hm9)
    cases hx
    have hlen9 : (btw l (pi + 1) minI ++ pl).length = X.length := by rw [HN0.out.1, List.append_nil, ← HX.out]
    refine ⟨_, _, by dsimp only; rw [hlen9], ⟨by dsimp only; rw [hlen9]; omega, ?_⟩, below_putObj hbel (Nat.le_refl _) hw6 _, fun k hk => by obtain ⟨b9, o9, e9, _, rfl⟩ := hk; cases e9; omega⟩
    dsimp only
    rw [hlen9, ← HX.out, show entryCells (X ++ pl) = entryCells X ++ entryCells pl by simp [entryCells]]
    rw [HN0.out.1]; simpa [entryCells] using hrv

set_option maxRecDepth 100000 in
set_option maxHeartbeats 4000000 in
theorem do_3s (id fi te ht hv hc : Int) (l : List EntryC) (a : Option Addr) (cap : Nat) (pg : Int) (ad : Addr) (plen pcap : Nat) (pht phv phc pi pt : Int) (pm ph : Bool) (pl : List EntryC) (w : World) (hg : HasG w a ⟨id, fi, te, ht, hv, hc, l⟩) (hG : isG ⟨id, fi, te, ht, hv, hc, l⟩ = true) (hp : HasE w ⟨pg, 3, (some ad), plen, pcap, pht, phv, phc, pi, pt, pm, ph⟩ pl) (hce : chkG ⟨id, fi, te, ht, hv, hc, l⟩ ⟨pg, 3, (some ad), plen, pcap, pht, phv, phc, pi, pt, pm, ph⟩ pl = 0) (h30 : l.length ≤ 100000) : Calls Tryz.prog 68 #[.agg #[.int .i64 id, .int .i64 fi, .int .i64 te, .int .i64 ht, .int .i64 hv, .int .i64 hc, .slice a l.length cap], .agg #[.int .i64 pg, .int .i64 3, .slice (some ad) plen pcap, .int .i64 pht, .int .i64 phv, .int .i64 phc, .int .i64 pi, .int .i64 pt, .bool pm, .bool ph]] w (DoPost w { id := id, fi := pi + 1, te := entT l pi, ht := ht, hv := hv, hc := hc, l := btw l (pi + 1) maxI ++ pl } 0) := by
  obtain ⟨i0, hi, hz0, hz1, hz2⟩ := info_parts infoEntry
  have GC := Lib.hid (fun W (hB : Below w.heap.size w W) => (show Gives Tryz.prog 83 #[.agg #[.int .i64 id, .int .i64 fi, .int .i64 te, .int .i64 ht, .int .i64 hv, .int .i64 hc, .slice a l.length cap], .agg #[.int .i64 pg, .int .i64 3, .slice (some ad) plen pcap, .int .i64 pht, .int .i64 phv, .int .i64 phc, .int .i64 pi, .int .i64 pt, .bool pm, .bool ph]] W (.int .i64 0) from by have := chk_any id fi te ht hv hc l a cap pg 3 (some ad) plen pcap pht phv phc pi pt pm ph pl W (hg.below hB) hG (hp.below hB); rwa [hce] at this))
  have hm := hg.1
  have HG := Lib.hid hg.2
  have M := Lib.hid (fun W (hB : Below w.heap.size w W) lo hi => btw_makes a l.length cap l lo hi rfl hm W (HG.out.below hB))
  have hplen := hp.1
  have hpb := hp.2.1
  have hprow := hp.2.2
  dsimp only at hplen hpb hprow hm
  have hpl3 : (entryCells pl).length = plen * 3 := hprow.1
  have HPL := Lib.hid (fun W (hB : Below w.heap.size w W) => (show ∀ j u, (entryCells pl)[j]? = some u → W.cell? (ad.add j) = some u from fun j u hu => by
    obtain ⟨hj, rfl⟩ := List.getElem?_eq_some_iff.1 hu
    obtain ⟨b, off, e, hb, hx⟩ := (hprow.below hB).2.2 (by rcases Nat.eq_zero_or_pos plen with h | h; (rw [h] at hpl3; omega); exact h)
    cases e
    rw [add_off]
    exact hx j hj))
  have hone : ∀ u ∈ entryCells pl, u.oneCell' = true := by
    intro u hu
    simp only [entryCells, List.mem_flatten, List.mem_map] at hu
    obtain ⟨_, ⟨e, _, rfl⟩, hu⟩ := hu
    simp only [EntryC.cells, List.mem_cons, List.not_mem_nil, or_false] at hu
    rcases hu with rfl | rfl | rfl <;> rfl
  obtain ⟨h0l, hpl0⟩ : plen = 0 ∧ pl = [] := by
    have h1 : isB ⟨pg, 3, (some ad), plen, pcap, pht, phv, phc, pi, pt, pm, ph⟩ pl = true := by
      cases h : isB ⟨pg, 3, (some ad), plen, pcap, pht, phv, phc, pi, pt, pm, ph⟩ pl
      · rw [show chkG ⟨id, fi, te, ht, hv, hc, l⟩ ⟨pg, 3, (some ad), plen, pcap, pht, phv, phc, pi, pt, pm, ph⟩ pl = 11 from if_pos (.inl h)] at hce; exact absurd hce (by decide)
      · rfl
    rcases (isB_iff _ _).1 h1 with ⟨_, h | h | h | h | h | h⟩
    all_goals (have h9 := h.1; dsimp only at h9)
    all_goals first | omega | skip
    have h8 : pl = [] := by first | exact h.2.2.1 | exact h.2.2.2.1
    exact ⟨by rw [h8] at hplen; simpa using hplen.symm, h8⟩
  have hp6 : plen ≤ 6 := by omega
  have HN0 := Lib.hid (And.intro hpl0 h0l)
  clear h0l hpl0
  have hPI : 1 ≤ pi ∧ pi ≤ 1099511627776 := by
    have h1 : isB ⟨pg, 3, (some ad), plen, pcap, pht, phv, phc, pi, pt, pm, ph⟩ pl = true := by
      cases h : isB ⟨pg, 3, (some ad), plen, pcap, pht, phv, phc, pi, pt, pm, ph⟩ pl
      · rw [show chkG ⟨id, fi, te, ht, hv, hc, l⟩ ⟨pg, 3, (some ad), plen, pcap, pht, phv, phc, pi, pt, pm, ph⟩ pl = 11 from if_pos (.inl h)] at hce; exact absurd hce (by decide)
      · rfl
    rcases (isB_iff _ _).1 h1 with ⟨_, h | h | h | h | h | h⟩
    all_goals (have h9 := h.1; dsimp only at h9)
    all_goals first | omega | skip
    exact wB_iff.1 h.2.1
  have GE := Lib.hid (fun W (hB : Below w.heap.size w W) => entT_any ⟨id, fi, te, ht, hv, hc, l⟩ a cap pi W (hg.below hB))
  dsimp only [GM.val] at GE
  generalize entT l pi = u at *
  have HS := Lib.hid (DoW.start w #[.int .i64 id, .int .i64 fi, .int .i64 te, .int .i64 ht, .int .i64 hv, .int .i64 hc, .slice a l.length cap] #[.int .i64 pg, .int .i64 3, .slice (some ad) plen pcap, .int .i64 pht, .int .i64 phv, .int .i64 phc, .int .i64 pi, .int .i64 pt, .bool pm, .bool ph])
  clear hg hG hp hce
  refine (callsIn_wide (n := 9)).1 ?_
  refine callsIn_of_wp_marks Tryz.func68 rfl trivial ?_ rfl
  simp only [Tryz.ntmps68, List.size_toArray, List.length_cons, List.length_nil, Nat.reduceAdd, Nat.reduceSub, Array.replicate_succ, Array.replicate_zero, List.push_toArray, List.append_toArray, List.nil_append, List.cons_append]
  gi_wp2_with (first
    | (gi_at_call 83; ((with_reducible refine (callsIn_wide.2 (GC.out _ HS.out.bel)).mono ?_); rintro e w1 ⟨rfl, hB1⟩; have HD := Lib.hid (HS.out.after hB1); obtain ⟨g0, g1, g2, g3, g4, g5, g6, fg⟩ := cells7 HD.out.gb; obtain ⟨p1, p2, p3, p4, p5, p6, p7⟩ := cells10 HD.out.pb))
    | (gi_at_call 84; ((with_reducible refine (callsIn_wide.2 (GE.out _ HD.out.bel)).mono ?_); rintro e w2 ⟨rfl, hB2⟩; have HE3 := Lib.hid (HD.out.after hB2); clear g0 g1 g2 g3 g4 g5 g6 fg p1 p2 p3 p4 p5 p6 p7; obtain ⟨g0, g1, g2, g3, g4, g5, g6, fg⟩ := cells7 HE3.out.gb; obtain ⟨p1, p2, p3, p4, p5, p6, p7⟩ := cells10 HE3.out.pb; have HD2 := Lib.hid (show DoW w #[.int .i64 id, .int .i64 (pi + 1), .int .i64 u, .int .i64 ht, .int .i64 hv, .int .i64 hc, .slice a l.length cap] #[.int .i64 pg, .int .i64 3, .slice (some ad) plen pcap, .int .i64 pht, .int .i64 phv, .int .i64 phc, .int .i64 pi, .int .i64 pt, .bool pm, .bool ph] ((w2.setCell ⟨w.heap.size, 1, none⟩ (.int .i64 (pi + 1))).setCell ⟨w.heap.size, 2, none⟩ (.int .i64 u)) from (HE3.out.set 1 (.int .i64 (pi + 1))).set 2 (.int .i64 u))))
    | (gi_at_make; (refine wpListIn_make_own _ rfl _ _ 26 rfl w2.heap.size 61 i0 (.agg #[.int .i64 0, .int .i64 0, .string ⟨#[]⟩]) 3 Tryz.underlying26 hi hz0 hz1 .i64 .i64 ((l.length : Int) + (plen : Int)) (l.length + plen) rfl rfl (by push_cast; rfl) (by rw [hz2]; omega) (by unfold maxLen; omega) (by simp) ?_; intro w4 hown4 hgrow4; simp only [World.size_setCell] at hown4; have hD4 := HD2.out.grown hgrow4 (fun k e => by cases e); have hlt0 : w.heap.size + 3 ≤ w2.heap.size := (by have h9 := HD2.out.lt; simpa using h9); have hlt4 : w2.heap.size < w4.heap.size := (by rcases hown4.2 with ⟨hv, _⟩ | ⟨g, _, _, hv, _, hgg, _⟩; (cases hv); (cases hv; exact heap_lt hgg)); clear g0 g1 g2 g3 g4 g5 g6 fg p1 p2 p3 p4 p5 p6 p7; have hD5 := Lib.hid (hD4.after (bel_alloc (Below.refl w4.heap.size w4) (.cells #[.slice (some ⟨w2.heap.size, 0, none⟩) 0 (l.length + plen)] 26))); obtain ⟨g0, g1, g2, g3, g4, g5, g6, fg⟩ := cells7 hD5.out.gb; obtain ⟨p1, p2, p3, p4, p5, p6, p7⟩ := cells10 hD5.out.pb))
    | (gi_at_call 85; (refine (callsIn_wide.2 (M.out _ (bel_alloc hD4.bel (.cells #[.slice (some ⟨w2.heap.size, 0, none⟩) 0 (l.length + plen)] 26)) (pi + 1) maxI)).mono ?_; rintro e w6 ⟨lb, rfl, hB6, hI6⟩)))
  have hG0 : w.heap.size + 3 ≤ w2.heap.size := hlt0
  obtain ⟨X, hX⟩ : ∃ X, X = btw l (pi + 1) maxI := ⟨_, rfl⟩
  have hXl : X.length ≤ l.length := by rw [hX]; exact btw_len _ _ _
  rw [← hX] at hI6
  have hs4 : w4.heap.size + 1 ≤ w6.heap.size := by have := hB6.size; simpa using this
  have hGL : w2.heap.size < w4.heap.size := hlt4
  have HI6 := Lib.hid hI6
  have hlS : ∀ k, inBlkE a l.length k → k < w.heap.size := fun k hk => btw_lt HG.out hk
  have hS1 : ¬ (inBlkE a l.length w2.heap.size ∨ span (w4.heap.size + 1) w6.heap.size w2.heap.size) := fun h => h.elim (fun h => by have := hlS _ h; omega) (fun h => by have := h.1; omega)
  have hS2 : ¬ (inBlkE a l.length w4.heap.size ∨ span (w4.heap.size + 1) w6.heap.size w4.heap.size) := fun h => h.elim (fun h => by have := hlS _ h; omega) (fun h => by have := h.1; omega)
  have hbx6 : Boxed w6 w4.heap.size 26 (.slice (some ⟨w2.heap.size, 0, none⟩) 0 (l.length + plen)) := (hB6.block _ (by simp)).trans (Boxed.new w4 _ _)
  have hrow6 := ownsRow_below (n := 0) (ownsRow_below (n := 0) hown4 (bel_alloc (Below.refl w4.heap.size w4) (.cells #[.slice (some ⟨w2.heap.size, 0, none⟩) 0 (l.length + plen)] 26))) hB6
  have hD6 := (hD4.after (bel_alloc (Below.refl w4.heap.size w4) (.cells #[.slice (some ⟨w2.heap.size, 0, none⟩) 0 (l.length + plen)] 26))).after hB6
  have hw6 : w.heap.size ≤ w6.heap.size := hD6.bel.size
  simp only [World.size_alloc] at HI6
  refine range_outer rfl (enters_of Tryz.func96 (by kernel_rfl) rfl) HI6.out (fun _ => rfl) (fun k hk => hk.elim (fun h => Nat.lt_of_lt_of_le (hlS k h) hw6) (fun h => h.2)) (fun _ h => h.elim)
    (fun pre W => doJ w #[.int .i64 id, .int .i64 (pi + 1), .int .i64 u, .int .i64 ht, .int .i64 hv, .int .i64 hc, .slice a l.length cap] #[.int .i64 pg, .int .i64 3, .slice (some ad) plen pcap, .int .i64 pht, .int .i64 phv, .int .i64 phc, .int .i64 pi, .int .i64 pt, .bool pm, .bool ph] w2.heap.size w4.heap.size (l.length + plen) pre.length (entryCells pre) w6.heap.size W) (fun _ _ _ => False) (fun _ => doJ_stab hw6) (fun _ _ => Stab.pure _) ⟨hbx6, hrow6, hD6, Nat.le_refl _⟩ ?hr ?hd (fun _ _ _ _ _ _ h => h.elim)
  case hr =>
    rintro L0 pre x suf W hx hl' hi1 hrec
    dsimp only [EntryC.enc, EntryC.val]
    have hpl : pre.length < X.length := by have h1 := congrArg List.length hx; simp at h1; omega
    gi_wp2
    refine rdThen_mk (fun W' => doJ w #[.int .i64 id, .int .i64 (pi + 1), .int .i64 u, .int .i64 ht, .int .i64 hv, .int .i64 hc, .slice a l.length cap] #[.int .i64 pg, .int .i64 3, .slice (some ad) plen pcap, .int .i64 pht, .int .i64 phv, .int .i64 phc, .int .i64 pi, .int .i64 pt, .bool pm, .bool ph] w2.heap.size w4.heap.size (l.length + plen) pre.length (entryCells pre) w6.heap.size W' ∧ W'.heap[W.heap.size]? = some (.cells #[.int .i64 x.i, .int .i64 x.t, .string x.d] 61 (0, 0)))
      ((doJ_stab hw6).and (Stab.block (fun h => h) (.inr rfl))) ⟨doJ_stab hw6 _ _ hi1 (Moves.alloc _ _), World.alloc_heap_new W _⟩ ((Rd.refl _ _ _).alloc _) ?_
    clear hi1 hrec
    obtain ⟨Xb, hXb⟩ : ∃ Xb, Xb = W.heap.size := ⟨_, rfl⟩
    rw [← hXb]
    clear hXb W
    rintro W ⟨hJ, hblk⟩ hrec
    have hcL := hJ.1.cell
    have hrow := hJ.2.1
    have HJ := Lib.hid hJ
    have d0 : W.cell? ⟨Xb, 0, none⟩ = some (.int .i64 x.i) := cell_of_row W Xb 0 _ _ _ hblk
    have d1 : W.cell? ⟨Xb, 1, none⟩ = some (.int .i64 x.t) := cell_of_row W Xb 1 _ _ _ hblk
    have d2 : W.cell? ⟨Xb, 2, none⟩ = some (.string x.d) := cell_of_row W Xb 2 _ _ _ hblk
    clear hJ hblk hbx6 hrow6 hD6 hI6 hX
    gi_wp2_with (gi_at_builtin; refine wpListIn_append_fits _ rfl _ _ 26 rfl w2.heap.size 61 i0 3 Tryz.underlying26 hi hz1 w2.heap.size pre.length (l.length + plen) (entryCells pre) rfl (hrow.alloc _) ⟨W.heap.size, 0, none⟩ 1 1 x.cells rfl rfl (news_new _ _ _) (by simp [Value.oneCell', EntryC.cells]) (by omega) ?_; intro w9 hown9 hgrow9; obtain ⟨hb9, hR9, hJ9⟩ := doJ_append (B := w6.heap.size) (S := fun k => inBlkE a l.length k ∨ span (w4.heap.size + 1) w6.heap.size k) HJ.out hG0 hGL hS1 hS2 hown9 hgrow9; have hc9 := hb9.cell; have hf9 := hb9.frozen)
    refine ⟨hR9, ?_⟩
    dsimp only
    rw [List.length_append, entryCells_snoc]
    exact hJ9
  case hd =>
    rintro W ⟨hbx, hrow, hDo, hs⟩ hDef
    have hcL := hbx.cell
    obtain ⟨g0, g1, g2, g3, g4, g5, g6, fg⟩ := cells7 hDo.gb
    obtain ⟨p1, p2, p3, p4, p5, p6, p7⟩ := cells10 hDo.pb
    obtain ⟨r0, r1, r2, r3, r4, r5, r6, fr⟩ := cells7 hDo.rb
    have HX := Lib.hid hX
    clear hbx6 hrow6 hD6 hI6 hX hbx
    gi_wp2_with (gi_at_builtin; refine wpListIn_append_fits _ rfl _ _ 26 rfl w2.heap.size 61 i0 3 Tryz.underlying26 hi hz1 w2.heap.size X.length (l.length + plen) (entryCells X) rfl hrow ad plen pcap (entryCells pl) rfl hpl3 (HPL.out W (hDo.bel)) hone (by omega) ?_; intro w9 hown9 hgrow9; have hD9 := Lib.hid (hDo.grown hgrow9 (fun k e => by cases e; exact hG0)); have hDf := Lib.hid ((hgrow9.block _ (heap_lt hDef) (fun e => by have h9 := Option.some.inj e; omega)).trans hDef); clear g0 g1 g2 g3 g4 g5 g6 fg p1 p2 p3 p4 p5 p6 p7 r0 r1 r2 r3 r4 r5 r6 fr; obtain ⟨g0, g1, g2, g3, g4, g5, g6, fg⟩ := cells7 hD9.out.gb; obtain ⟨r0, r1, r2, r3, r4, r5, r6, fr⟩ := cells7 hD9.out.rb)
    have hE2 := Lib.hid (hD9.out.set 6 (.slice (some ⟨w2.heap.size, 0, none⟩) (X.length + plen) (l.length + plen)))
    have hb7 := st7_block hE2.out.rb (.int .i64 id) (.int .i64 (pi + 1)) (.int .i64 u) (.int .i64 ht) (.int .i64 hv) (.int .i64 hc) (.slice (some ⟨w2.heap.size, 0, none⟩) (X.length + plen) (l.length + plen))
    have hF7 := (FrameT.setCell w9 w.heap.size 6 (.slice (some ⟨w2.heap.size, 0, none⟩) (X.length + plen) (l.length + plen))).mono (U := fun k => k = w.heap.size ∨ k = w.heap.size + 1 + 1) (fun k h => .inl h)
    have hF8 := hF7.trans ((st7_frame (w9.setCell ⟨w.heap.size, 6, none⟩ (.slice (some ⟨w2.heap.size, 0, none⟩) (X.length + plen) (l.length + plen))) (w.heap.size + 1 + 1) (.int .i64 id) (.int .i64 (pi + 1)) (.int .i64 u) (.int .i64 ht) (.int .i64 hv) (.int .i64 hc) (.slice (some ⟨w2.heap.size, 0, none⟩) (X.length + plen) (l.length + plen))).mono (fun k h => .inr h))
    have hown2 := own_frame hown9 hF8 (fun k hk h => by rcases h with h | h <;> omega)
    have hbel := hD9.out.bel.trans (hF8.toBelow hD9.out.bel.size (fun k h => by rcases h with h | h <;> omega))
    have hDz := hF8.get hDf.out (fun h => by rcases h with h | h <;> omega)
    clear g0 g1 g2 g3 g4 g5 g6 fg r0 r1 r2 r3 r4 r5 r6 fr
    obtain ⟨e0, e1, e2, e3, e4, e5, e6, -⟩ := cells7 hb7
    replace e0 := cell_putObj (o' := .deferred none) e0 hDz rfl
    replace e1 := cell_putObj (o' := .deferred none) e1 hDz rfl
    replace e2 := cell_putObj (o' := .deferred none) e2 hDz rfl
    replace e3 := cell_putObj (o' := .deferred none) e3 hDz rfl
    replace e4 := cell_putObj (o' := .deferred none) e4 hDz rfl
    replace e5 := cell_putObj (o' := .deferred none) e5 hDz rfl
    replace e6 := cell_putObj (o' := .deferred none) e6 hDz rfl
    refine leave_one hDz (v := .tuple #[.agg #[.int .i64 id, .int .i64 (pi + 1), .int .i64 u, .int .i64 ht, .int .i64 hv, .int .i64 hc, .slice (some ⟨w2.heap.size, 0, none⟩) (X.length + plen) (l.length + plen)], .int .i64 0]) (by simp [results, Tryz.results68, go_sem, e0, e1, e2, e3, e4, e5, e6]) ?_
    have hm9 : Moves w6.heap.size (fun _ => False) _ _ := Moves.putObj _ (.deferred none) (Nat.le_refl _) hDz rfl
    obtain ⟨va', vc', hx, -, hrv⟩ := rowV_own (Stab.ownsRow (B := w6.heap.size) (T := fun _ => False) (fun _ h => h.elim) _ _ hown2 hm9)
    cases hx
    have hlen9 : (btw l (pi + 1) maxI ++ pl).length = X.length + plen := by rw [List.length_append, ← HX.out, hplen]
    refine ⟨_, _, by dsimp only; rw [hlen9], ⟨by dsimp only; rw [hlen9]; omega, ?_⟩, below_putObj hbel (Nat.le_refl _) hw6 _, fun k hk => by obtain ⟨b9, o9, e9, _, rfl⟩ := hk; cases e9; omega⟩
    dsimp only
    rw [hlen9, ← HX.out, show entryCells (X ++ pl) = entryCells X ++ entryCells pl by simp [entryCells]]
    exact hrv

set_option maxRecDepth 100000 in
set_option maxHeartbeats 4000000 in
theorem do_4sy (id fi te ht hv hc : Int) (l : List EntryC) (a : Option Addr) (cap : Nat) (pg : Int) (ad : Addr) (plen pcap : Nat) (pht phv phc pi pt : Int) (pm ph : Bool) (pl : List EntryC) (w : World) (hg : HasG w a ⟨id, fi, te, ht, hv, hc, l⟩) (hG : isG ⟨id, fi, te, ht, hv, hc, l⟩ = true) (hp : HasE w ⟨pg, 4, (some ad), plen, pcap, pht, phv, phc, pi, pt, pm, ph⟩ pl) (hce : chkG ⟨id, fi, te, ht, hv, hc, l⟩ ⟨pg, 4, (some ad), plen, pcap, pht, phv, phc, pi, pt, pm, ph⟩ pl = 0) (h30 : l.length ≤ 100000) (hue : entT l pi = pt) : Calls Tryz.prog 68 #[.agg #[.int .i64 id, .int .i64 fi, .int .i64 te, .int .i64 ht, .int .i64 hv, .int .i64 hc, .slice a l.length cap], .agg #[.int .i64 pg, .int .i64 4, .slice (some ad) plen pcap, .int .i64 pht, .int .i64 phv, .int .i64 phc, .int .i64 pi, .int .i64 pt, .bool pm, .bool ph]] w (DoPost w { id := id, fi := pi + 1, te := pt, ht := ht, hv := hv, hc := hc, l := btw l (pi + 1) maxI ++ pl } 0) := by
  obtain ⟨i0, hi, hz0, hz1, hz2⟩ := info_parts infoEntry
  have GC := Lib.hid (fun W (hB : Below w.heap.size w W) => (show Gives Tryz.prog 83 #[.agg #[.int .i64 id, .int .i64 fi, .int .i64 te, .int .i64 ht, .int .i64 hv, .int .i64 hc, .slice a l.length cap], .agg #[.int .i64 pg, .int .i64 4, .slice (some ad) plen pcap, .int .i64 pht, .int .i64 phv, .int .i64 phc, .int .i64 pi, .int .i64 pt, .bool pm, .bool ph]] W (.int .i64 0) from by have := chk_any id fi te ht hv hc l a cap pg 4 (some ad) plen pcap pht phv phc pi pt pm ph pl W (hg.below hB) hG (hp.below hB); rwa [hce] at this))
  have hm := hg.1
  have HG := Lib.hid hg.2
  have M := Lib.hid (fun W (hB : Below w.heap.size w W) lo hi => btw_makes a l.length cap l lo hi rfl hm W (HG.out.below hB))
  have hplen := hp.1
  have hpb := hp.2.1
  have hprow := hp.2.2
  dsimp only at hplen hpb hprow hm
  have hpl3 : (entryCells pl).length = plen * 3 := hprow.1
  have HPL := Lib.hid (fun W (hB : Below w.heap.size w W) => (show ∀ j u, (entryCells pl)[j]? = some u → W.cell? (ad.add j) = some u from fun j u hu => by
    obtain ⟨hj, rfl⟩ := List.getElem?_eq_some_iff.1 hu
    obtain ⟨b, off, e, hb, hx⟩ := (hprow.below hB).2.2 (by rcases Nat.eq_zero_or_pos plen with h | h; (rw [h] at hpl3; omega); exact h)
    cases e
    rw [add_off]
    exact hx j hj))
  have hone : ∀ u ∈ entryCells pl, u.oneCell' = true := by
    intro u hu
    simp only [entryCells, List.mem_flatten, List.mem_map] at hu
    obtain ⟨_, ⟨e, _, rfl⟩, hu⟩ := hu
    simp only [EntryC.cells, List.mem_cons, List.not_mem_nil, or_false] at hu
    rcases hu with rfl | rfl | rfl <;> rfl
  obtain ⟨h0l, hpl0⟩ : plen = 0 ∧ pl = [] := by
    have h1 : isB ⟨pg, 4, (some ad), plen, pcap, pht, phv, phc, pi, pt, pm, ph⟩ pl = true := by
      cases h : isB ⟨pg, 4, (some ad), plen, pcap, pht, phv, phc, pi, pt, pm, ph⟩ pl
      · rw [show chkG ⟨id, fi, te, ht, hv, hc, l⟩ ⟨pg, 4, (some ad), plen, pcap, pht, phv, phc, pi, pt, pm, ph⟩ pl = 11 from if_pos (.inl h)] at hce; exact absurd hce (by decide)
      · rfl
    rcases (isB_iff _ _).1 h1 with ⟨_, h | h | h | h | h | h⟩
    all_goals (have h9 := h.1; dsimp only at h9)
    all_goals first | omega | skip
    have h8 : pl = [] := by first | exact h.2.2.1 | exact h.2.2.2.1
    exact ⟨by rw [h8] at hplen; simpa using hplen.symm, h8⟩
  have hp6 : plen ≤ 6 := by omega
  have HN0 := Lib.hid (And.intro hpl0 h0l)
  clear h0l hpl0
  have hPI : 1 ≤ pi ∧ pi ≤ 1099511627776 := by
    have h1 : isB ⟨pg, 4, (some ad), plen, pcap, pht, phv, phc, pi, pt, pm, ph⟩ pl = true := by
      cases h : isB ⟨pg, 4, (some ad), plen, pcap, pht, phv, phc, pi, pt, pm, ph⟩ pl
      · rw [show chkG ⟨id, fi, te, ht, hv, hc, l⟩ ⟨pg, 4, (some ad), plen, pcap, pht, phv, phc, pi, pt, pm, ph⟩ pl = 11 from if_pos (.inl h)] at hce; exact absurd hce (by decide)
      · rfl
    rcases (isB_iff _ _).1 h1 with ⟨_, h | h | h | h | h | h⟩
    all_goals (have h9 := h.1; dsimp only at h9)
    all_goals first | omega | skip
    exact wB_iff.1 h.2.1
  have GE := Lib.hid (fun W (hB : Below w.heap.size w W) => entT_any ⟨id, fi, te, ht, hv, hc, l⟩ a cap pi W (hg.below hB))
  dsimp only [GM.val] at GE
  generalize entT l pi = u at *
  have HS := Lib.hid (DoW.start w #[.int .i64 id, .int .i64 fi, .int .i64 te, .int .i64 ht, .int .i64 hv, .int .i64 hc, .slice a l.length cap] #[.int .i64 pg, .int .i64 4, .slice (some ad) plen pcap, .int .i64 pht, .int .i64 phv, .int .i64 phc, .int .i64 pi, .int .i64 pt, .bool pm, .bool ph])
  clear hg hG hp hce
  refine (callsIn_wide (n := 9)).1 ?_
  refine callsIn_of_wp_marks Tryz.func68 rfl trivial ?_ rfl
  simp only [Tryz.ntmps68, List.size_toArray, List.length_cons, List.length_nil, Nat.reduceAdd, Nat.reduceSub, Array.replicate_succ, Array.replicate_zero, List.push_toArray, List.append_toArray, List.nil_append, List.cons_append]
  gi_wp2_with (gi_at_call 83; ((with_reducible refine (callsIn_wide.2 (GC.out _ HS.out.bel)).mono ?_); rintro e w1 ⟨rfl, hB1⟩; have HD := Lib.hid (HS.out.after hB1); obtain ⟨g0, g1, g2, g3, g4, g5, g6, fg⟩ := cells7 HD.out.gb; obtain ⟨p1, p2, p3, p4, p5, p6, p7⟩ := cells10 HD.out.pb))
  have HC9 := Lib.hid (fun W (hW : Above w1 W) => And.intro (cells7 (HD.out.after hW).gb) (cells10 (HD.out.after hW).pb))
  clear g0 g1 g2 g3 g4 g5 g6 fg p1 p2 p3 p4 p5 p6 p7
  refine wpIn_region_below rfl (by kernel_rfl) (by kernel_rfl) ?_
  repeat (first
    | (refine BigFrame.wpQuietIn_skip (by first | quiet_asked_in | exact fun _ _ _ _ => trivial) (by rfl) ?_; (try simp only [Act.put, List.setIfInBounds_toArray, List.set_cons_zero, List.set_cons_succ]))
    | (refine BigFrame.wpQuietIn_want (by first | quiet_asked_in | exact fun _ _ _ _ => trivial) (by rfl) (fun K hK => ?_); apply Exists.intro; refine ⟨fun W hW => ?_, hK _ ?_⟩; (focus (have hWB : Below _ _ W := hW; obtain ⟨⟨g0, g1, g2, g3, g4, g5, g6, fg⟩, ⟨p1, p2, p3, p4, p5, p6, p7⟩⟩ := HC9.out _ hW; go_simp; (first | done | with_reducible rfl | (gi_at_call 84; refine callsIn_wide.2 ?_; with_reducible exact gives_above hW (GE.out _ (bel2 HD.out.bel hWB))) | (rw [if_neg (by omega)]; go_simp; (first | done | with_reducible rfl))))); clear hK K; (try simp only [Act.put, List.setIfInBounds_toArray, List.set_cons_zero, List.set_cons_succ])))
  refine wpQuietIn_nil ?_
  intro w2 hB2
  have hD2 := HD.out.after hB2
  obtain ⟨g0, g1, g2, g3, g4, g5, g6, fg⟩ := cells7 hD2.gb
  obtain ⟨p1, p2, p3, p4, p5, p6, p7⟩ := cells10 hD2.pb
  have HDa := Lib.hid hD2
  clear hD2
  have tq : (u != pt) = false := by rw [bne_eq_false_iff_eq]; exact hue
  have tq2 : (u == pt) = true := by rw [beq_iff_eq]; exact hue
  clear hue
  gi_wp2
  gi_region
  have HD2 := Lib.hid (show DoW w #[.int .i64 id, .int .i64 (pi + 1), .int .i64 pt, .int .i64 ht, .int .i64 hv, .int .i64 hc, .slice a l.length cap] #[.int .i64 pg, .int .i64 4, .slice (some ad) plen pcap, .int .i64 pht, .int .i64 phv, .int .i64 phc, .int .i64 pi, .int .i64 pt, .bool pm, .bool ph] ((w2.setCell ⟨w.heap.size, 1, none⟩ (.int .i64 (pi + 1))).setCell ⟨w.heap.size, 2, none⟩ (.int .i64 pt)).drew from ((HDa.out.set 1 (.int .i64 (pi + 1))).set 2 (.int .i64 pt)).drew)
  generalize ((w2.setCell ⟨w.heap.size, 1, none⟩ (.int .i64 (pi + 1))).setCell ⟨w.heap.size, 2, none⟩ (.int .i64 pt)).drew = w3 at *
  clear g0 g1 g2 g3 g4 g5 g6 fg p1 p2 p3 p4 p5 p6 p7
  obtain ⟨g0, g1, g2, g3, g4, g5, g6, fg⟩ := cells7 HD2.out.gb
  obtain ⟨p1, p2, p3, p4, p5, p6, p7⟩ := cells10 HD2.out.pb
  gi_wp2_with (first
    | (gi_at_make; (refine wpListIn_make_own _ rfl _ _ 26 rfl w3.heap.size 61 i0 (.agg #[.int .i64 0, .int .i64 0, .string ⟨#[]⟩]) 3 Tryz.underlying26 hi hz0 hz1 .i64 .i64 ((l.length : Int) + (plen : Int)) (l.length + plen) rfl rfl (by push_cast; rfl) (by rw [hz2]; omega) (by unfold maxLen; omega) (Nat.le_refl _) ?_; intro w4 hown4 hgrow4; have hD4 := HD2.out.grown hgrow4 (fun k e => by cases e); have hlt0 : w.heap.size + 3 ≤ w3.heap.size := (by have h9 := HD2.out.lt; simpa using h9); have hlt4 : w3.heap.size < w4.heap.size := (by rcases hown4.2 with ⟨hv, _⟩ | ⟨g, _, _, hv, _, hgg, _⟩; (cases hv); (cases hv; exact heap_lt hgg)); clear g0 g1 g2 g3 g4 g5 g6 fg p1 p2 p3 p4 p5 p6 p7; have hD5 := Lib.hid (hD4.after (bel_alloc (Below.refl w4.heap.size w4) (.cells #[.slice (some ⟨w3.heap.size, 0, none⟩) 0 (l.length + plen)] 26))); obtain ⟨g0, g1, g2, g3, g4, g5, g6, fg⟩ := cells7 hD5.out.gb; obtain ⟨p1, p2, p3, p4, p5, p6, p7⟩ := cells10 hD5.out.pb))
    | (gi_at_call 85; (refine (callsIn_wide.2 (M.out _ (bel_alloc hD4.bel (.cells #[.slice (some ⟨w3.heap.size, 0, none⟩) 0 (l.length + plen)] 26)) (pi + 1) maxI)).mono ?_; rintro e w6 ⟨lb, rfl, hB6, hI6⟩)))
  have hG0 : w.heap.size + 3 ≤ w3.heap.size := hlt0
  obtain ⟨X, hX⟩ : ∃ X, X = btw l (pi + 1) maxI := ⟨_, rfl⟩
  have hXl : X.length ≤ l.length := by rw [hX]; exact btw_len _ _ _
  rw [← hX] at hI6
  have hs4 : w4.heap.size + 1 ≤ w6.heap.size := by have := hB6.size; simpa using this
  have hGL : w3.heap.size < w4.heap.size := hlt4
  have HI6 := Lib.hid hI6
  have hlS : ∀ k, inBlkE a l.length k → k < w.heap.size := fun k hk => btw_lt HG.out hk
  have hS1 : ¬ (inBlkE a l.length w3.heap.size ∨ span (w4.heap.size + 1) w6.heap.size w3.heap.size) := fun h => h.elim (fun h => by have := hlS _ h; omega) (fun h => by have := h.1; omega)
  have hS2 : ¬ (inBlkE a l.length w4.heap.size ∨ span (w4.heap.size + 1) w6.heap.size w4.heap.size) := fun h => h.elim (fun h => by have := hlS _ h; omega) (fun h => by have := h.1; omega)
  have hbx6 : Boxed w6 w4.heap.size 26 (.slice (some ⟨w3.heap.size, 0, none⟩) 0 (l.length + plen)) := (hB6.block _ (by simp)).trans (Boxed.new w4 _ _)
  have hrow6 := ownsRow_below (n := 0) (ownsRow_below (n := 0) hown4 (bel_alloc (Below.refl w4.heap.size w4) (.cells #[.slice (some ⟨w3.heap.size, 0, none⟩) 0 (l.length + plen)] 26))) hB6
  have hD6 := (hD4.after (bel_alloc (Below.refl w4.heap.size w4) (.cells #[.slice (some ⟨w3.heap.size, 0, none⟩) 0 (l.length + plen)] 26))).after hB6
  have hw6 : w.heap.size ≤ w6.heap.size := hD6.bel.size
  simp only [World.size_alloc] at HI6
  refine range_outer rfl (enters_of Tryz.func96 (by kernel_rfl) rfl) HI6.out (fun _ => rfl) (fun k hk => hk.elim (fun h => Nat.lt_of_lt_of_le (hlS k h) hw6) (fun h => h.2)) (fun _ h => h.elim)
    (fun pre W => doJ w #[.int .i64 id, .int .i64 (pi + 1), .int .i64 pt, .int .i64 ht, .int .i64 hv, .int .i64 hc, .slice a l.length cap] #[.int .i64 pg, .int .i64 4, .slice (some ad) plen pcap, .int .i64 pht, .int .i64 phv, .int .i64 phc, .int .i64 pi, .int .i64 pt, .bool pm, .bool ph] w3.heap.size w4.heap.size (l.length + plen) pre.length (entryCells pre) w6.heap.size W) (fun _ _ _ => False) (fun _ => doJ_stab hw6) (fun _ _ => Stab.pure _) ⟨hbx6, hrow6, hD6, Nat.le_refl _⟩ ?hr ?hd (fun _ _ _ _ _ _ h => h.elim)
  case hr =>
    rintro L0 pre x suf W hx hl' hi1 hrec
    dsimp only [EntryC.enc, EntryC.val]
    have hpl : pre.length < X.length := by have h1 := congrArg List.length hx; simp at h1; omega
    gi_wp2
    refine rdThen_mk (fun W' => doJ w #[.int .i64 id, .int .i64 (pi + 1), .int .i64 pt, .int .i64 ht, .int .i64 hv, .int .i64 hc, .slice a l.length cap] #[.int .i64 pg, .int .i64 4, .slice (some ad) plen pcap, .int .i64 pht, .int .i64 phv, .int .i64 phc, .int .i64 pi, .int .i64 pt, .bool pm, .bool ph] w3.heap.size w4.heap.size (l.length + plen) pre.length (entryCells pre) w6.heap.size W' ∧ W'.heap[W.heap.size]? = some (.cells #[.int .i64 x.i, .int .i64 x.t, .string x.d] 61 (0, 0)))
      ((doJ_stab hw6).and (Stab.block (fun h => h) (.inr rfl))) ⟨doJ_stab hw6 _ _ hi1 (Moves.alloc _ _), World.alloc_heap_new W _⟩ ((Rd.refl _ _ _).alloc _) ?_
    clear hi1 hrec
    obtain ⟨Xb, hXb⟩ : ∃ Xb, Xb = W.heap.size := ⟨_, rfl⟩
    rw [← hXb]
    clear hXb W
    rintro W ⟨hJ, hblk⟩ hrec
    have hcL := hJ.1.cell
    have hrow := hJ.2.1
    have HJ := Lib.hid hJ
    have d0 : W.cell? ⟨Xb, 0, none⟩ = some (.int .i64 x.i) := cell_of_row W Xb 0 _ _ _ hblk
    have d1 : W.cell? ⟨Xb, 1, none⟩ = some (.int .i64 x.t) := cell_of_row W Xb 1 _ _ _ hblk
    have d2 : W.cell? ⟨Xb, 2, none⟩ = some (.string x.d) := cell_of_row W Xb 2 _ _ _ hblk
    clear hJ hblk hbx6 hrow6 hD6 hI6 hX
    gi_wp2_with (gi_at_builtin; refine wpListIn_append_fits _ rfl _ _ 26 rfl w3.heap.size 61 i0 3 Tryz.underlying26 hi hz1 w3.heap.size pre.length (l.length + plen) (entryCells pre) rfl (hrow.alloc _) ⟨W.heap.size, 0, none⟩ 1 1 x.cells rfl rfl (news_new _ _ _) (by simp [Value.oneCell', EntryC.cells]) (by omega) ?_; intro w9 hown9 hgrow9; obtain ⟨hb9, hR9, hJ9⟩ := doJ_append (B := w6.heap.size) (S := fun k => inBlkE a l.length k ∨ span (w4.heap.size + 1) w6.heap.size k) HJ.out hG0 hGL hS1 hS2 hown9 hgrow9; have hc9 := hb9.cell; have hf9 := hb9.frozen)
    refine ⟨hR9, ?_⟩
    dsimp only
    rw [List.length_append, entryCells_snoc]
    exact hJ9
  case hd =>
    rintro W ⟨hbx, hrow, hDo, hs⟩ hDef
    have hcL := hbx.cell
    obtain ⟨g0, g1, g2, g3, g4, g5, g6, fg⟩ := cells7 hDo.gb
    obtain ⟨p1, p2, p3, p4, p5, p6, p7⟩ := cells10 hDo.pb
    obtain ⟨r0, r1, r2, r3, r4, r5, r6, fr⟩ := cells7 hDo.rb
    have HX := Lib.hid hX
    clear hbx6 hrow6 hD6 hI6 hX hbx
    gi_wp2_with (gi_at_builtin; refine wpListIn_append_fits _ rfl _ _ 26 rfl w3.heap.size 61 i0 3 Tryz.underlying26 hi hz1 w3.heap.size X.length (l.length + plen) (entryCells X) rfl hrow ad plen pcap (entryCells pl) rfl hpl3 (HPL.out W (hDo.bel)) hone (by omega) ?_; intro w9 hown9 hgrow9; have hD9 := Lib.hid (hDo.grown hgrow9 (fun k e => by cases e; exact hG0)); have hDf := Lib.hid ((hgrow9.block _ (heap_lt hDef) (fun e => by have h9 := Option.some.inj e; omega)).trans hDef); clear g0 g1 g2 g3 g4 g5 g6 fg p1 p2 p3 p4 p5 p6 p7 r0 r1 r2 r3 r4 r5 r6 fr; obtain ⟨g0, g1, g2, g3, g4, g5, g6, fg⟩ := cells7 hD9.out.gb; obtain ⟨r0, r1, r2, r3, r4, r5, r6, fr⟩ := cells7 hD9.out.rb)
    have hE2 := Lib.hid (hD9.out.set 6 (.slice (some ⟨w3.heap.size, 0, none⟩) (X.length + plen) (l.length + plen)))
    have hb7 := st7_block hE2.out.rb (.int .i64 id) (.int .i64 (pi + 1)) (.int .i64 pt) (.int .i64 ht) (.int .i64 hv) (.int .i64 hc) (.slice (some ⟨w3.heap.size, 0, none⟩) (X.length + plen) (l.length + plen))
    have hF7 := (FrameT.setCell w9 w.heap.size 6 (.slice (some ⟨w3.heap.size, 0, none⟩) (X.length + plen) (l.length + plen))).mono (U := fun k => k = w.heap.size ∨ k = w.heap.size + 1 + 1) (fun k h => .inl h)
    have hF8 := hF7.trans ((st7_frame (w9.setCell ⟨w.heap.size, 6, none⟩ (.slice (some ⟨w3.heap.size, 0, none⟩) (X.length + plen) (l.length + plen))) (w.heap.size + 1 + 1) (.int .i64 id) (.int .i64 (pi + 1)) (.int .i64 pt) (.int .i64 ht) (.int .i64 hv) (.int .i64 hc) (.slice (some ⟨w3.heap.size, 0, none⟩) (X.length + plen) (l.length + plen))).mono (fun k h => .inr h))
    have hown2 := own_frame hown9 hF8 (fun k hk h => by rcases h with h | h <;> omega)
    have hbel := hD9.out.bel.trans (hF8.toBelow hD9.out.bel.size (fun k h => by rcases h with h | h <;> omega))
    have hDz := hF8.get hDf.out (fun h => by rcases h with h | h <;> omega)
    clear g0 g1 g2 g3 g4 g5 g6 fg r0 r1 r2 r3 r4 r5 r6 fr
    obtain ⟨e0, e1, e2, e3, e4, e5, e6, -⟩ := cells7 hb7
    replace e0 := cell_putObj (o' := .deferred none) e0 hDz rfl
    replace e1 := cell_putObj (o' := .deferred none) e1 hDz rfl
    replace e2 := cell_putObj (o' := .deferred none) e2 hDz rfl
    replace e3 := cell_putObj (o' := .deferred none) e3 hDz rfl
    replace e4 := cell_putObj (o' := .deferred none) e4 hDz rfl
    replace e5 := cell_putObj (o' := .deferred none) e5 hDz rfl
    replace e6 := cell_putObj (o' := .deferred none) e6 hDz rfl
    refine leave_one hDz (v := .tuple #[.agg #[.int .i64 id, .int .i64 (pi + 1), .int .i64 pt, .int .i64 ht, .int .i64 hv, .int .i64 hc, .slice (some ⟨w3.heap.size, 0, none⟩) (X.length + plen) (l.length + plen)], .int .i64 0]) (by simp [results, Tryz.results68, go_sem, e0, e1, e2, e3, e4, e5, e6]) ?_
    have hm9 : Moves w6.heap.size (fun _ => False) _ _ := Moves.putObj _ (.deferred none) (Nat.le_refl _) hDz rfl
    obtain ⟨va', vc', hx, -, hrv⟩ := rowV_own (Stab.ownsRow (B := w6.heap.size) (T := fun _ => False) (fun _ h => h.elim) _ _ hown2 hm9)
    cases hx
    have hlen9 : (btw l (pi + 1) maxI ++ pl).length = X.length + plen := by rw [List.length_append, ← HX.out, hplen]
    refine ⟨_, _, by dsimp only; rw [hlen9], ⟨by dsimp only; rw [hlen9]; omega, ?_⟩, below_putObj hbel (Nat.le_refl _) hw6 _, fun k hk => by obtain ⟨b9, o9, e9, _, rfl⟩ := hk; cases e9; omega⟩
    dsimp only
    rw [hlen9, ← HX.out, show entryCells (X ++ pl) = entryCells X ++ entryCells pl by simp [entryCells]]
    exact hrv

set_option maxRecDepth 100000 in
set_option maxHeartbeats 4000000 in
theorem do_4sx (id fi te ht hv hc : Int) (l : List EntryC) (a : Option Addr) (cap : Nat) (pg : Int) (ad : Addr) (plen pcap : Nat) (pht phv phc pi pt : Int) (pm ph : Bool) (pl : List EntryC) (w : World) (hg : HasG w a ⟨id, fi, te, ht, hv, hc, l⟩) (hG : isG ⟨id, fi, te, ht, hv, hc, l⟩ = true) (hp : HasE w ⟨pg, 4, (some ad), plen, pcap, pht, phv, phc, pi, pt, pm, ph⟩ pl) (hce : chkG ⟨id, fi, te, ht, hv, hc, l⟩ ⟨pg, 4, (some ad), plen, pcap, pht, phv, phc, pi, pt, pm, ph⟩ pl = 0) (h30 : l.length ≤ 100000) (hue : entT l pi ≠ pt) : Calls Tryz.prog 68 #[.agg #[.int .i64 id, .int .i64 fi, .int .i64 te, .int .i64 ht, .int .i64 hv, .int .i64 hc, .slice a l.length cap], .agg #[.int .i64 pg, .int .i64 4, .slice (some ad) plen pcap, .int .i64 pht, .int .i64 phv, .int .i64 phc, .int .i64 pi, .int .i64 pt, .bool pm, .bool ph]] w (DoPost w { id := id, fi := pi + 1, te := pt, ht := ht, hv := hv, hc := hc, l := btw l (pi + 1) minI ++ pl } 0) := by
  obtain ⟨i0, hi, hz0, hz1, hz2⟩ := info_parts infoEntry
  have GC := Lib.hid (fun W (hB : Below w.heap.size w W) => (show Gives Tryz.prog 83 #[.agg #[.int .i64 id, .int .i64 fi, .int .i64 te, .int .i64 ht, .int .i64 hv, .int .i64 hc, .slice a l.length cap], .agg #[.int .i64 pg, .int .i64 4, .slice (some ad) plen pcap, .int .i64 pht, .int .i64 phv, .int .i64 phc, .int .i64 pi, .int .i64 pt, .bool pm, .bool ph]] W (.int .i64 0) from by have := chk_any id fi te ht hv hc l a cap pg 4 (some ad) plen pcap pht phv phc pi pt pm ph pl W (hg.below hB) hG (hp.below hB); rwa [hce] at this))
  have hm := hg.1
  have HG := Lib.hid hg.2
  have M := Lib.hid (fun W (hB : Below w.heap.size w W) lo hi => btw_makes a l.length cap l lo hi rfl hm W (HG.out.below hB))
  have hplen := hp.1
  have hpb := hp.2.1
  have hprow := hp.2.2
  dsimp only at hplen hpb hprow hm
  have hpl3 : (entryCells pl).length = plen * 3 := hprow.1
  have HPL := Lib.hid (fun W (hB : Below w.heap.size w W) => (show ∀ j u, (entryCells pl)[j]? = some u → W.cell? (ad.add j) = some u from fun j u hu => by
    obtain ⟨hj, rfl⟩ := List.getElem?_eq_some_iff.1 hu
    obtain ⟨b, off, e, hb, hx⟩ := (hprow.below hB).2.2 (by rcases Nat.eq_zero_or_pos plen with h | h; (rw [h] at hpl3; omega); exact h)
    cases e
    rw [add_off]
    exact hx j hj))
  have hone : ∀ u ∈ entryCells pl, u.oneCell' = true := by
    intro u hu
    simp only [entryCells, List.mem_flatten, List.mem_map] at hu
    obtain ⟨_, ⟨e, _, rfl⟩, hu⟩ := hu
    simp only [EntryC.cells, List.mem_cons, List.not_mem_nil, or_false] at hu
    rcases hu with rfl | rfl | rfl <;> rfl
  obtain ⟨h0l, hpl0⟩ : plen = 0 ∧ pl = [] := by
    have h1 : isB ⟨pg, 4, (some ad), plen, pcap, pht, phv, phc, pi, pt, pm, ph⟩ pl = true := by
      cases h : isB ⟨pg, 4, (some ad), plen, pcap, pht, phv, phc, pi, pt, pm, ph⟩ pl
      · rw [show chkG ⟨id, fi, te, ht, hv, hc, l⟩ ⟨pg, 4, (some ad), plen, pcap, pht, phv, phc, pi, pt, pm, ph⟩ pl = 11 from if_pos (.inl h)] at hce; exact absurd hce (by decide)
      · rfl
    rcases (isB_iff _ _).1 h1 with ⟨_, h | h | h | h | h | h⟩
    all_goals (have h9 := h.1; dsimp only at h9)
    all_goals first | omega | skip
    have h8 : pl = [] := by first | exact h.2.2.1 | exact h.2.2.2.1
    exact ⟨by rw [h8] at hplen; simpa using hplen.symm, h8⟩
  have hp6 : plen ≤ 6 := by omega
  have HN0 := Lib.hid (And.intro hpl0 h0l)
  clear h0l hpl0
  have hPI : 1 ≤ pi ∧ pi ≤ 1099511627776 := by
    have h1 : isB ⟨pg, 4, (some ad), plen, pcap, pht, phv, phc, pi, pt, pm, ph⟩ pl = true := by
      cases h : isB ⟨pg, 4, (some ad), plen, pcap, pht, phv, phc, pi, pt, pm, ph⟩ pl
      · rw [show chkG ⟨id, fi, te, ht, hv, hc, l⟩ ⟨pg, 4, (some ad), plen, pcap, pht, phv, phc, pi, pt, pm, ph⟩ pl = 11 from if_pos (.inl h)] at hce; exact absurd hce (by decide)
      · rfl
    rcases (isB_iff _ _).1 h1 with ⟨_, h | h | h | h | h | h⟩
    all_goals (have h9 := h.1; dsimp only at h9)
    all_goals first | omega | skip
    exact wB_iff.1 h.2.1
  have GE := Lib.hid (fun W (hB : Below w.heap.size w W) => entT_any ⟨id, fi, te, ht, hv, hc, l⟩ a cap pi W (hg.below hB))
  dsimp only [GM.val] at GE
  generalize entT l pi = u at *
  have HS := Lib.hid (DoW.start w #[.int .i64 id, .int .i64 fi, .int .i64 te, .int .i64 ht, .int .i64 hv, .int .i64 hc, .slice a l.length cap] #[.int .i64 pg, .int .i64 4, .slice (some ad) plen pcap, .int .i64 pht, .int .i64 phv, .int .i64 phc, .int .i64 pi, .int .i64 pt, .bool pm, .bool ph])
  clear hg hG hp hce
  refine (callsIn_wide (n := 9)).1 ?_
  refine callsIn_of_wp_marks Tryz.func68 rfl trivial ?_ rfl
  simp only [Tryz.ntmps68, List.size_toArray, List.length_cons, List.length_nil, Nat.reduceAdd, Nat.reduceSub, Array.replicate_succ, Array.replicate_zero, List.push_toArray, List.append_toArray, List.nil_append, List.cons_append]
  gi_wp2_with (gi_at_call 83; ((with_reducible refine (callsIn_wide.2 (GC.out _ HS.out.bel)).mono ?_); rintro e w1 ⟨rfl, hB1⟩; have HD := Lib.hid (HS.out.after hB1); obtain ⟨g0, g1, g2, g3, g4, g5, g6, fg⟩ := cells7 HD.out.gb; obtain ⟨p1, p2, p3, p4, p5, p6, p7⟩ := cells10 HD.out.pb))
  have HC9 := Lib.hid (fun W (hW : Above w1 W) => And.intro (cells7 (HD.out.after hW).gb) (cells10 (HD.out.after hW).pb))
  clear g0 g1 g2 g3 g4 g5 g6 fg p1 p2 p3 p4 p5 p6 p7
  refine wpIn_region_below rfl (by kernel_rfl) (by kernel_rfl) ?_
  repeat (first
    | (refine BigFrame.wpQuietIn_skip (by first | quiet_asked_in | exact fun _ _ _ _ => trivial) (by rfl) ?_; (try simp only [Act.put, List.setIfInBounds_toArray, List.set_cons_zero, List.set_cons_succ]))
    | (refine BigFrame.wpQuietIn_want (by first | quiet_asked_in | exact fun _ _ _ _ => trivial) (by rfl) (fun K hK => ?_); apply Exists.intro; refine ⟨fun W hW => ?_, hK _ ?_⟩; (focus (have hWB : Below _ _ W := hW; obtain ⟨⟨g0, g1, g2, g3, g4, g5, g6, fg⟩, ⟨p1, p2, p3, p4, p5, p6, p7⟩⟩ := HC9.out _ hW; go_simp; (first | done | with_reducible rfl | (gi_at_call 84; refine callsIn_wide.2 ?_; with_reducible exact gives_above hW (GE.out _ (bel2 HD.out.bel hWB))) | (rw [if_neg (by omega)]; go_simp; (first | done | with_reducible rfl))))); clear hK K; (try simp only [Act.put, List.setIfInBounds_toArray, List.set_cons_zero, List.set_cons_succ])))
  refine wpQuietIn_nil ?_
  intro w2 hB2
  have hD2 := HD.out.after hB2
  obtain ⟨g0, g1, g2, g3, g4, g5, g6, fg⟩ := cells7 hD2.gb
  obtain ⟨p1, p2, p3, p4, p5, p6, p7⟩ := cells10 hD2.pb
  have HDa := Lib.hid hD2
  clear hD2
  have tq : (u != pt) = true := by rw [bne_iff_ne]; exact hue
  have tq2 : (u == pt) = false := by rw [beq_eq_false_iff_ne]; exact hue
  clear hue
  gi_wp2
  gi_region
  have HD2 := Lib.hid (show DoW w #[.int .i64 id, .int .i64 (pi + 1), .int .i64 pt, .int .i64 ht, .int .i64 hv, .int .i64 hc, .slice a l.length cap] #[.int .i64 pg, .int .i64 4, .slice (some ad) plen pcap, .int .i64 pht, .int .i64 phv, .int .i64 phc, .int .i64 pi, .int .i64 pt, .bool pm, .bool ph] ((w2.setCell ⟨w.heap.size, 1, none⟩ (.int .i64 (pi + 1))).setCell ⟨w.heap.size, 2, none⟩ (.int .i64 pt)).drew from ((HDa.out.set 1 (.int .i64 (pi + 1))).set 2 (.int .i64 pt)).drew)
  generalize ((w2.setCell ⟨w.heap.size, 1, none⟩ (.int .i64 (pi + 1))).setCell ⟨w.heap.size, 2, none⟩ (.int .i64 pt)).drew = w3 at *
  clear g0 g1 g2 g3 g4 g5 g6 fg p1 p2 p3 p4 p5 p6 p7
  obtain ⟨g0, g1, g2, g3, g4, g5, g6, fg⟩ := cells7 HD2.out.gb
  obtain ⟨p1, p2, p3, p4, p5, p6, p7⟩ := cells10 HD2.out.pb
  gi_wp2_with (first
    | (gi_at_make; (refine wpListIn_make_own _ rfl _ _ 26 rfl w3.heap.size 61 i0 (.agg #[.int .i64 0, .int .i64 0, .string ⟨#[]⟩]) 3 Tryz.underlying26 hi hz0 hz1 .i64 .i64 ((l.length : Int) + (plen : Int)) (l.length + plen) rfl rfl (by push_cast; rfl) (by rw [hz2]; omega) (by unfold maxLen; omega) (Nat.le_refl _) ?_; intro w4 hown4 hgrow4; have hD4 := HD2.out.grown hgrow4 (fun k e => by cases e); have hlt0 : w.heap.size + 3 ≤ w3.heap.size := (by have h9 := HD2.out.lt; simpa using h9); have hlt4 : w3.heap.size < w4.heap.size := (by rcases hown4.2 with ⟨hv, _⟩ | ⟨g, _, _, hv, _, hgg, _⟩; (cases hv); (cases hv; exact heap_lt hgg)); clear g0 g1 g2 g3 g4 g5 g6 fg p1 p2 p3 p4 p5 p6 p7; have hD5 := Lib.hid (hD4.after (bel_alloc (Below.refl w4.heap.size w4) (.cells #[.slice (some ⟨w3.heap.size, 0, none⟩) 0 (l.length + plen)] 26))); obtain ⟨g0, g1, g2, g3, g4, g5, g6, fg⟩ := cells7 hD5.out.gb; obtain ⟨p1, p2, p3, p4, p5, p6, p7⟩ := cells10 hD5.out.pb))
    | (gi_at_call 85; (refine (callsIn_wide.2 (M.out _ (bel_alloc hD4.bel (.cells #[.slice (some ⟨w3.heap.size, 0, none⟩) 0 (l.length + plen)] 26)) (pi + 1) minI)).mono ?_; rintro e w6 ⟨lb, rfl, hB6, hI6⟩)))
  have hG0 : w.heap.size + 3 ≤ w3.heap.size := hlt0
  obtain ⟨X, hX⟩ : ∃ X, X = btw l (pi + 1) minI := ⟨_, rfl⟩
  have hXl : X.length ≤ l.length := by rw [hX]; exact btw_len _ _ _
  rw [← hX] at hI6
  have hs4 : w4.heap.size + 1 ≤ w6.heap.size := by have := hB6.size; simpa using this
  have hGL : w3.heap.size < w4.heap.size := hlt4
  have HI6 := Lib.hid hI6
  have hlS : ∀ k, inBlkE a l.length k → k < w.heap.size := fun k hk => btw_lt HG.out hk
  have hS1 : ¬ (inBlkE a l.length w3.heap.size ∨ span (w4.heap.size + 1) w6.heap.size w3.heap.size) := fun h => h.elim (fun h => by have := hlS _ h; omega) (fun h => by have := h.1; omega)
  have hS2 : ¬ (inBlkE a l.length w4.heap.size ∨ span (w4.heap.size + 1) w6.heap.size w4.heap.size) := fun h => h.elim (fun h => by have := hlS _ h; omega) (fun h => by have := h.1; omega)
  have hbx6 : Boxed w6 w4.heap.size 26 (.slice (some ⟨w3.heap.size, 0, none⟩) 0 (l.length + plen)) := (hB6.block _ (by simp)).trans (Boxed.new w4 _ _)
  have hrow6 := ownsRow_below (n := 0) (ownsRow_below (n := 0) hown4 (bel_alloc (Below.refl w4.heap.size w4) (.cells #[.slice (some ⟨w3.heap.size, 0, none⟩) 0 (l.length + plen)] 26))) hB6
  have hD6 := (hD4.after (bel_alloc (Below.refl w4.heap.size w4) (.cells #[.slice (some ⟨w3.heap.size, 0, none⟩) 0 (l.length + plen)] 26))).after hB6
  have hw6 : w.heap.size ≤ w6.heap.size := hD6.bel.size
  simp only [World.size_alloc] at HI6
  refine range_outer rfl (enters_of Tryz.func96 (by kernel_rfl) rfl) HI6.out (fun _ => rfl) (fun k hk => hk.elim (fun h => Nat.lt_of_lt_of_le (hlS k h) hw6) (fun h => h.2)) (fun _ h => h.elim)
    (fun pre W => doJ w #[.int .i64 id, .int .i64 (pi + 1), .int .i64 pt, .int .i64 ht, .int .i64 hv, .int .i64 hc, .slice a l.length cap] #[.int .i64 pg, .int .i64 4, .slice (some ad) plen pcap, .int .i64 pht, .int .i64 phv, .int .i64 phc, .int .i64 pi, .int .i64 pt, .bool pm, .bool ph] w3.heap.size w4.heap.size (l.length + plen) pre.length (entryCells pre) w6.heap.size W) (fun _ _ _ => False) (fun _ => doJ_stab hw6) (fun _ _ => Stab.pure _) ⟨hbx6, hrow6, hD6, Nat.le_refl _⟩ ?hr ?hd (fun _ _ _ _ _ _ h => h.elim)
  case hr =>
    rintro L0 pre x suf W hx hl' hi1 hrec
    dsimp only [EntryC.enc, EntryC.val]
    have hpl : pre.length < X.length := by have h1 := congrArg List.length hx; simp at h1; omega
    gi_wp2
    refine rdThen_mk (fun W' => doJ w #[.int .i64 id, .int .i64 (pi + 1), .int .i64 pt, .int .i64 ht, .int .i64 hv, .int .i64 hc, .slice a l.length cap] #[.int .i64 pg, .int .i64 4, .slice (some ad) plen pcap, .int .i64 pht, .int .i64 phv, .int .i64 phc, .int .i64 pi, .int .i64 pt, .bool pm, .bool ph] w3.heap.size w4.heap.size (l.length + plen) pre.length (entryCells pre) w6.heap.size W' ∧ W'.heap[W.heap.size]? = some (.cells #[.int .i64 x.i, .int .i64 x.t, .string x.d] 61 (0, 0)))
      ((doJ_stab hw6).and (Stab.block (fun h => h) (.inr rfl))) ⟨doJ_stab hw6 _ _ hi1 (Moves.alloc _ _), World.alloc_heap_new W _⟩ ((Rd.refl _ _ _).alloc _) ?_
    clear hi1 hrec
    obtain ⟨Xb, hXb⟩ : ∃ Xb, Xb = W.heap.size := ⟨_, rfl⟩
    rw [← hXb]
    clear hXb W
    rintro W ⟨hJ, hblk⟩ hrec
    have hcL := hJ.1.cell
    have hrow := hJ.2.1
    have HJ := Lib.hid hJ
    have d0 : W.cell? ⟨Xb, 0, none⟩ = some (.int .i64 x.i) := cell_of_row W Xb 0 _ _ _ hblk
    have d1 : W.cell? ⟨Xb, 1, none⟩ = some (.int .i64 x.t) := cell_of_row W Xb 1 _ _ _ hblk
    have d2 : W.cell? ⟨Xb, 2, none⟩ = some (.string x.d) := cell_of_row W Xb 2 _ _ _ hblk
    clear hJ hblk hbx6 hrow6 hD6 hI6 hX
    gi_wp2_with (gi_at_builtin; refine wpListIn_append_fits _ rfl _ _ 26 rfl w3.heap.size 61 i0 3 Tryz.underlying26 hi hz1 w3.heap.size pre.length (l.length + plen) (entryCells pre) rfl (hrow.alloc _) ⟨W.heap.size, 0, none⟩ 1 1 x.cells rfl rfl (news_new _ _ _) (by simp [Value.oneCell', EntryC.cells]) (by omega) ?_; intro w9 hown9 hgrow9; obtain ⟨hb9, hR9, hJ9⟩ := doJ_append (B := w6.heap.size) (S := fun k => inBlkE a l.length k ∨ span (w4.heap.size + 1) w6.heap.size k) HJ.out hG0 hGL hS1 hS2 hown9 hgrow9; have hc9 := hb9.cell; have hf9 := hb9.frozen)
    refine ⟨hR9, ?_⟩
    dsimp only
    rw [List.length_append, entryCells_snoc]
    exact hJ9
  case hd =>
    rintro W ⟨hbx, hrow, hDo, hs⟩ hDef
    have hcL := hbx.cell
    obtain ⟨g0, g1, g2, g3, g4, g5, g6, fg⟩ := cells7 hDo.gb
    obtain ⟨p1, p2, p3, p4, p5, p6, p7⟩ := cells10 hDo.pb
    obtain ⟨r0, r1, r2, r3, r4, r5, r6, fr⟩ := cells7 hDo.rb
    have HX := Lib.hid hX
    clear hbx6 hrow6 hD6 hI6 hX hbx
    gi_wp2_with (gi_at_builtin; refine wpListIn_append_fits _ rfl _ _ 26 rfl w3.heap.size 61 i0 3 Tryz.underlying26 hi hz1 w3.heap.size X.length (l.length + plen) (entryCells X) rfl hrow ad plen pcap (entryCells pl) rfl hpl3 (HPL.out W (hDo.bel)) hone (by omega) ?_; intro w9 hown9 hgrow9; have hD9 := Lib.hid (hDo.grown hgrow9 (fun k e => by cases e; exact hG0)); have hDf := Lib.hid ((hgrow9.block _ (heap_lt hDef) (fun e => by have h9 := Option.some.inj e; omega)).trans hDef); clear g0 g1 g2 g3 g4 g5 g6 fg p1 p2 p3 p4 p5 p6 p7 r0 r1 r2 r3 r4 r5 r6 fr; obtain ⟨g0, g1, g2, g3, g4, g5, g6, fg⟩ := cells7 hD9.out.gb; obtain ⟨r0, r1, r2, r3, r4, r5, r6, fr⟩ := cells7 hD9.out.rb)
    have hE2 := Lib.hid (hD9.out.set 6 (.slice (some ⟨w3.heap.size, 0, none⟩) (X.length + plen) (l.length + plen)))
    have hb7 := st7_block hE2.out.rb (.int .i64 id) (.int .i64 (pi + 1)) (.int .i64 pt) (.int .i64 ht) (.int .i64 hv) (.int .i64 hc) (.slice (some ⟨w3.heap.size, 0, none⟩) (X.length + plen) (l.length + plen))
    have hF7 := (FrameT.setCell w9 w.heap.size 6 (.slice (some ⟨w3.heap.size, 0, none⟩) (X.length + plen) (l.length + plen))).mono (U := fun k => k = w.heap.size ∨ k = w.heap.size + 1 + 1) (fun k h => .inl h)
    have hF8 := hF7.trans ((st7_frame (w9.setCell ⟨w.heap.size, 6, none⟩ (.slice (some ⟨w3.heap.size, 0, none⟩) (X.length + plen) (l.length + plen))) (w.heap.size + 1 + 1) (.int .i64 id) (.int .i64 (pi + 1)) (.int .i64 pt) (.int .i64 ht) (.int .i64 hv) (.int .i64 hc) (.slice (some ⟨w3.heap.size, 0, none⟩) (X.length + plen) (l.length + plen))).mono (fun k h => .inr h))
    have hown2 := own_frame hown9 hF8 (fun k hk h => by rcases h with h | h <;> omega)
    have hbel := hD9.out.bel.trans (hF8.toBelow hD9.out.bel.size (fun k h => by rcases h with h | h <;> omega))
    have hDz := hF8.get hDf.out (fun h => by rcases h with h | h <;> omega)
    clear g0 g1 g2 g3 g4 g5 g6 fg r0 r1 r2 r3 r4 r5 r6 fr
    obtain ⟨e0, e1, e2, e3, e4, e5, e6, -⟩ := cells7 hb7
    replace e0 := cell_putObj (o' := .deferred none) e0 hDz rfl
    replace e1 := cell_putObj (o' := .deferred none) e1 hDz rfl
    replace e2 := cell_putObj (o' := .deferred none) e2 hDz rfl
    replace e3 := cell_putObj (o' := .deferred none) e3 hDz rfl
    replace e4 := cell_putObj (o' := .deferred none) e4 hDz rfl
    replace e5 := cell_putObj (o' := .deferred none) e5 hDz rfl
    replace e6 := cell_putObj (o' := .deferred none) e6 hDz rfl
    refine leave_one hDz (v := .tuple #[.agg #[.int .i64 id, .int .i64 (pi + 1), .int .i64 pt, .int .i64 ht, .int .i64 hv, .int .i64 hc, .slice (some ⟨w3.heap.size, 0, none⟩) (X.length + plen) (l.length + plen)], .int .i64 0]) (by simp [results, Tryz.results68, go_sem, e0, e1, e2, e3, e4, e5, e6]) ?_
    have hm9 : Moves w6.heap.size (fun _ => False) _ _ := Moves.putObj _ (.deferred none) (Nat.le_refl _) hDz rfl
    obtain ⟨va', vc', hx, -, hrv⟩ := rowV_own (Stab.ownsRow (B := w6.heap.size) (T := fun _ => False) (fun _ h => h.elim) _ _ hown2 hm9)
    cases hx
    have hlen9 : (btw l (pi + 1) minI ++ pl).length = X.length + plen := by rw [List.length_append, ← HX.out, hplen]
    refine ⟨_, _, by dsimp only; rw [hlen9], ⟨by dsimp only; rw [hlen9]; omega, ?_⟩, below_putObj hbel (Nat.le_refl _) hw6 _, fun k hk => by obtain ⟨b9, o9, e9, _, rfl⟩ := hk; cases e9; omega⟩
    dsimp only
    rw [hlen9, ← HX.out, show entryCells (X ++ pl) = entryCells X ++ entryCells pl by simp [entryCells]]
    exact hrv

theorem do_any (id fi te ht hv hc : Int) (l : List EntryC) (a : Option Addr) (cap : Nat) (pg pk : Int) (pa : Option Addr) (plen pcap : Nat) (pht phv phc pi pt : Int) (pm ph : Bool) (pl : List EntryC) (w : World) (hg : HasG w a ⟨id, fi, te, ht, hv, hc, l⟩) (hG : isG ⟨id, fi, te, ht, hv, hc, l⟩ = true) (hp : HasE w ⟨pg, pk, pa, plen, pcap, pht, phv, phc, pi, pt, pm, ph⟩ pl) (h30 : l.length ≤ 100000) : Calls Tryz.prog 68 #[.agg #[.int .i64 id, .int .i64 fi, .int .i64 te, .int .i64 ht, .int .i64 hv, .int .i64 hc, .slice a l.length cap], .agg #[.int .i64 pg, .int .i64 pk, .slice pa plen pcap, .int .i64 pht, .int .i64 phv, .int .i64 phc, .int .i64 pi, .int .i64 pt, .bool pm, .bool ph]] w (DoPost w (doG ⟨id, fi, te, ht, hv, hc, l⟩ ⟨pg, pk, pa, plen, pcap, pht, phv, phc, pi, pt, pm, ph⟩ pl) (chkG ⟨id, fi, te, ht, hv, hc, l⟩ ⟨pg, pk, pa, plen, pcap, pht, phv, phc, pi, pt, pm, ph⟩ pl)) := by
  by_cases hce : chkG ⟨id, fi, te, ht, hv, hc, l⟩ ⟨pg, pk, pa, plen, pcap, pht, phv, phc, pi, pt, pm, ph⟩ pl = 0
  · have h1 : isB ⟨pg, pk, pa, plen, pcap, pht, phv, phc, pi, pt, pm, ph⟩ pl = true := by
      cases h : isB ⟨pg, pk, pa, plen, pcap, pht, phv, phc, pi, pt, pm, ph⟩ pl
      · rw [show chkG ⟨id, fi, te, ht, hv, hc, l⟩ ⟨pg, pk, pa, plen, pcap, pht, phv, phc, pi, pt, pm, ph⟩ pl = 11 from if_pos (.inl h)] at hce; exact absurd hce (by decide)
      · rfl
    have hn : ¬ (isB ⟨pg, pk, pa, plen, pcap, pht, phv, phc, pi, pt, pm, ph⟩ pl = false ∨ pk = 6 ∨ pk = 5 ∨ pg ≠ id) := fun h => by
      rw [show chkG ⟨id, fi, te, ht, hv, hc, l⟩ ⟨pg, pk, pa, plen, pcap, pht, phv, phc, pi, pt, pm, ph⟩ pl = 11 from if_pos h] at hce; exact absurd hce (by decide)
    have hD : doG ⟨id, fi, te, ht, hv, hc, l⟩ ⟨pg, pk, pa, plen, pcap, pht, phv, phc, pi, pt, pm, ph⟩ pl = if pk = 1 then { (⟨id, fi, te, ht, hv, hc, l⟩ : GM) with l := btw l minI (headI pl - 1) ++ pl } else if pk = 2 then { (⟨id, fi, te, ht, hv, hc, l⟩ : GM) with ht := pht, hv := phv, hc := phc, l := btw l minI maxI ++ pl } else if pk = 3 then { (⟨id, fi, te, ht, hv, hc, l⟩ : GM) with fi := pi + 1, te := entT l pi, l := btw l (pi + 1) maxI ++ pl } else { (⟨id, fi, te, ht, hv, hc, l⟩ : GM) with fi := pi + 1, te := pt, l := btw l (pi + 1) (if entT l pi ≠ pt then minI else maxI) ++ pl } := by
      unfold doG; rw [hce, if_neg (by simp)]
    rw [hD, hce]
    clear hD
    rcases (isB_iff _ _).1 h1 with ⟨_, h | h | h | h | h | h⟩
    · obtain rfl : pk = 1 := h.1
      rw [if_pos rfl]
      have hpl := hp.1
      have hrow := hp.2.2
      dsimp only at hpl hrow
      obtain ⟨b, off, rfl, _, _⟩ := hrow.2.2 (by have := h.2.1; dsimp only at this; omega)
      exact do_1 id fi te ht hv hc l a cap pg b off plen pcap pht phv phc pi pt pm ph pl w hg hG hp hce h30
    · obtain rfl : pk = 2 := h.1
      rw [if_neg (by decide), if_pos rfl]
      cases pa with
      | none => exact do_2n id fi te ht hv hc l a cap pg plen pcap pht phv phc pi pt pm ph pl w hg hG hp hce h30
      | some ad => exact do_2s id fi te ht hv hc l a cap pg ad plen pcap pht phv phc pi pt pm ph pl w hg hG hp hce h30
    · obtain rfl : pk = 3 := h.1
      rw [if_neg (by decide), if_neg (by decide), if_pos rfl]
      cases pa with
      | none => exact do_3n id fi te ht hv hc l a cap pg plen pcap pht phv phc pi pt pm ph pl w hg hG hp hce h30
      | some ad => exact do_3s id fi te ht hv hc l a cap pg ad plen pcap pht phv phc pi pt pm ph pl w hg hG hp hce h30
    · obtain rfl : pk = 4 := h.1
      rw [if_neg (by decide), if_neg (by decide), if_neg (by decide)]
      by_cases hu : entT l pi = pt
      · rw [if_neg (fun h => h hu)]
        cases pa with
        | none => exact do_4ny id fi te ht hv hc l a cap pg plen pcap pht phv phc pi pt pm ph pl w hg hG hp hce h30 hu
        | some ad => exact do_4sy id fi te ht hv hc l a cap pg ad plen pcap pht phv phc pi pt pm ph pl w hg hG hp hce h30 hu
      · rw [if_pos hu]
        cases pa with
        | none => exact do_4nx id fi te ht hv hc l a cap pg plen pcap pht phv phc pi pt pm ph pl w hg hG hp hce h30 hu
        | some ad => exact do_4sx id fi te ht hv hc l a cap pg ad plen pcap pht phv phc pi pt pm ph pl w hg hG hp hce h30 hu
    · exact absurd (.inr (.inr (.inl h.1))) hn
    · exact absurd (.inr (.inl h.1)) hn
  · rw [show doG ⟨id, fi, te, ht, hv, hc, l⟩ ⟨pg, pk, pa, plen, pcap, pht, phv, phc, pi, pt, pm, ph⟩ pl = ⟨id, fi, te, ht, hv, hc, l⟩ from if_pos hce]
    exact do_err id fi te ht hv hc l a cap pg pk pa plen pcap pht phv phc pi pt pm ph pl w hg hG hp hce

end Go.Proofs.YthedmemkckclpaaGreat
