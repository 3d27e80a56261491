/- The contracts of package group's checkAppend, checkCompact, Check. -/
import Derived.Test.YtfmcebmkclaafaaGrpIs
import Derived.Test.YtfmcebmkclaafaaQuietC
namespace Go.Proofs.Ytfmcebmkclaafaa
open Go.RowKit Go.Shelf
set_option linter.unusedVariables false
attribute [local go_sem] Oper.semAt_some wide_fn wide_round_fn

theorem gp_cells {w W : World} {id fi te ht hv hc : Int} {l : List EntryC} {a : Option Addr} {cap : Nat} {pg pk : Int} {pa : Option Addr} {plen pcap : Nat} {pht phv phc pi pt : Int} {pm ph : Bool} (h : Below ((w.alloc (.cells #[.int .i64 id, .int .i64 fi, .int .i64 te, .int .i64 ht, .int .i64 hv, .int .i64 hc, .slice a l.length cap] 26)).alloc (.cells #[.int .i64 pg, .int .i64 pk, .slice pa plen pcap, .int .i64 pht, .int .i64 phv, .int .i64 phc, .int .i64 pi, .int .i64 pt, .bool pm, .bool ph] 28)).heap.size ((w.alloc (.cells #[.int .i64 id, .int .i64 fi, .int .i64 te, .int .i64 ht, .int .i64 hv, .int .i64 hc, .slice a l.length cap] 26)).alloc (.cells #[.int .i64 pg, .int .i64 pk, .slice pa plen pcap, .int .i64 pht, .int .i64 phv, .int .i64 phc, .int .i64 pi, .int .i64 pt, .bool pm, .bool ph] 28)) W) :
    W.cell? ⟨w.heap.size, 0, none⟩ = some (.int .i64 id) ∧ W.cell? ⟨w.heap.size, 1, none⟩ = some (.int .i64 fi) ∧ W.cell? ⟨w.heap.size, 2, none⟩ = some (.int .i64 te) ∧ W.cell? ⟨w.heap.size, 3, none⟩ = some (.int .i64 ht) ∧ W.cell? ⟨w.heap.size, 4, none⟩ = some (.int .i64 hv) ∧ W.cell? ⟨w.heap.size, 5, none⟩ = some (.int .i64 hc) ∧ W.cell? ⟨w.heap.size, 6, none⟩ = some (.slice a l.length cap) ∧ W.cell? ⟨w.heap.size + 1, 0, none⟩ = some (.int .i64 pg) ∧ W.cell? ⟨w.heap.size + 1, 1, none⟩ = some (.int .i64 pk) ∧ W.cell? ⟨w.heap.size + 1, 2, none⟩ = some (.slice pa plen pcap) ∧ W.cell? ⟨w.heap.size + 1, 3, none⟩ = some (.int .i64 pht) ∧ W.cell? ⟨w.heap.size + 1, 4, none⟩ = some (.int .i64 phv) ∧ W.cell? ⟨w.heap.size + 1, 5, none⟩ = some (.int .i64 phc) ∧ W.cell? ⟨w.heap.size + 1, 6, none⟩ = some (.int .i64 pi) ∧ W.cell? ⟨w.heap.size + 1, 7, none⟩ = some (.int .i64 pt) ∧ W.cell? ⟨w.heap.size + 1, 8, none⟩ = some (.bool pm) ∧ W.cell? ⟨w.heap.size + 1, 9, none⟩ = some (.bool ph) := by
  have c1 : ∀ j, W.cell? ⟨w.heap.size, j, none⟩ = (#[.int .i64 id, .int .i64 fi, .int .i64 te, .int .i64 ht, .int .i64 hv, .int .i64 hc, .slice a l.length cap] : Array Value)[j]? := fun j => cell_of_row _ _ j _ _ _ ((h.block _ (by simp; omega)).trans (two_a w _ _ _ _))
  have c2 : ∀ j, W.cell? ⟨w.heap.size + 1, j, none⟩ = (#[.int .i64 pg, .int .i64 pk, .slice pa plen pcap, .int .i64 pht, .int .i64 phv, .int .i64 phc, .int .i64 pi, .int .i64 pt, .bool pm, .bool ph] : Array Value)[j]? := fun j => cell_of_row _ _ j _ _ _ ((h.block _ (by simp)).trans (two_b w _ _ _ _))
  exact ⟨c1 0, c1 1, c1 2, c1 3, c1 4, c1 5, c1 6, c2 0, c2 1, c2 2, c2 3, c2 4, c2 5, c2 6, c2 7, c2 8, c2 9⟩
theorem gp_bel (w : World) (A B : Array Value) (T U : TypeId) : Below w.heap.size w ((w.alloc (.cells A T)).alloc (.cells B U)) := bel_alloc (bel_alloc (Below.refl _ _) _) _

set_option maxRecDepth 100000 in
set_option maxHeartbeats 4000000 in
theorem chkA_any (id fi te ht hv hc : Int) (l : List EntryC) (a : Option Addr) (cap : Nat) (f : Int) (w : World) (hg : HasG w a ⟨id, fi, te, ht, hv, hc, l⟩) (hG : isG ⟨id, fi, te, ht, hv, hc, l⟩ = true) : Gives Try.prog 46 #[.agg #[.int .i64 id, .int .i64 fi, .int .i64 te, .int .i64 ht, .int .i64 hv, .int .i64 hc, .slice a l.length cap], .int .i64 f] w (.int .i64 (chkA ⟨id, fi, te, ht, hv, hc, l⟩ f)) := by
  have GL := Lib.hid (fun W (hB : Below w.heap.size w W) => last_any id fi te ht hv hc l a cap W (hg.below hB) hG)
  obtain ⟨⟨_, ⟨h1, h2⟩, _⟩, _, _⟩ := isG_iff.1 hG
  have hm := hg.1
  dsimp only at hm h1 h2
  have HA := Lib.hid (bel_alloc (Below.refl w.heap.size w) (.cells #[.int .i64 id, .int .i64 fi, .int .i64 te, .int .i64 ht, .int .i64 hv, .int .i64 hc, .slice a l.length cap] 26))
  clear hg hG
  unfold Gives chkA lastG
  dsimp only
  by_cases hc1 : f < fi
  · rw [if_pos hc1]
    go_enter Try.func46, Try.ntmps46
    go_wp2
    go_ret
    exact ⟨rfl, bel_alloc (Below.refl _ _) _⟩
  · rw [if_neg hc1]
    by_cases hc2 : fi - 1 + (l.length : Int) + 1 < f
    · rw [if_pos hc2]
      have ht : decide (fi - 1 + (l.length : Int) + 1 < f) = true := decide_eq_true hc2
      go_enter Try.func46, Try.ntmps46
      go_wp2_with (go_at_call 25; ((with_reducible refine (GL.out _ HA.out).mono ?_); rintro e w2 ⟨rfl, hB2⟩))
      go_ret
      exact ⟨rfl, blk_below hB2⟩
    · rw [if_neg hc2]
      have ht : decide (fi - 1 + (l.length : Int) + 1 < f) = false := decide_eq_false hc2
      go_enter Try.func46, Try.ntmps46
      go_wp2_with (go_at_call 25; ((with_reducible refine (GL.out _ HA.out).mono ?_); rintro e w2 ⟨rfl, hB2⟩))
      go_ret
      exact ⟨rfl, blk_below hB2⟩

attribute [local irreducible] wpQuiet
set_option maxRecDepth 100000 in
set_option maxHeartbeats 4000000 in
theorem chkC_any (id fi te ht hv hc : Int) (l : List EntryC) (a : Option Addr) (cap : Nat) (pg pk : Int) (pa : Option Addr) (plen pcap : Nat) (pht phv phc pi pt : Int) (pm ph : Bool) (w : World) (hg : HasG w a ⟨id, fi, te, ht, hv, hc, l⟩) (hG : isG ⟨id, fi, te, ht, hv, hc, l⟩ = true) : Gives Try.prog 47 #[.agg #[.int .i64 id, .int .i64 fi, .int .i64 te, .int .i64 ht, .int .i64 hv, .int .i64 hc, .slice a l.length cap], .agg #[.int .i64 pg, .int .i64 pk, .slice pa plen pcap, .int .i64 pht, .int .i64 phv, .int .i64 phc, .int .i64 pi, .int .i64 pt, .bool pm, .bool ph]] w (.int .i64 (chkC ⟨id, fi, te, ht, hv, hc, l⟩ pi pt)) := by
  have GL := Lib.hid (fun W (hB : Below w.heap.size w W) => last_any id fi te ht hv hc l a cap W (hg.below hB) hG)
  have GE := Lib.hid (fun W (hB : Below w.heap.size w W) => entT_any ⟨id, fi, te, ht, hv, hc, l⟩ a cap pi W (hg.below hB))
  obtain ⟨⟨_, ⟨h1, h2⟩, _⟩, _, _⟩ := isG_iff.1 hG
  have hm := hg.1
  dsimp only at hm h1 h2
  have HA := Lib.hid (gp_bel w #[.int .i64 id, .int .i64 fi, .int .i64 te, .int .i64 ht, .int .i64 hv, .int .i64 hc, .slice a l.length cap] #[.int .i64 pg, .int .i64 pk, .slice pa plen pcap, .int .i64 pht, .int .i64 phv, .int .i64 phc, .int .i64 pi, .int .i64 pt, .bool pm, .bool ph] 26 28)
  have HS := Lib.hid (fun W (hW : Above ((w.alloc (.cells #[.int .i64 id, .int .i64 fi, .int .i64 te, .int .i64 ht, .int .i64 hv, .int .i64 hc, .slice a l.length cap] 26)).alloc (.cells #[.int .i64 pg, .int .i64 pk, .slice pa plen pcap, .int .i64 pht, .int .i64 phv, .int .i64 phc, .int .i64 pi, .int .i64 pt, .bool pm, .bool ph] 28)) W) => gp_cells (id := id) (fi := fi) (te := te) (ht := ht) (hv := hv) (hc := hc) (l := l) (a := a) (cap := cap) (pg := pg) (pk := pk) (pa := pa) (plen := plen) (pcap := pcap) (pht := pht) (phv := phv) (phc := phc) (pi := pi) (pt := pt) (pm := pm) (ph := ph) (show Below ((w.alloc (.cells #[.int .i64 id, .int .i64 fi, .int .i64 te, .int .i64 ht, .int .i64 hv, .int .i64 hc, .slice a l.length cap] 26)).alloc (.cells #[.int .i64 pg, .int .i64 pk, .slice pa plen pcap, .int .i64 pht, .int .i64 phv, .int .i64 phc, .int .i64 pi, .int .i64 pt, .bool pm, .bool ph] 28)).heap.size ((w.alloc (.cells #[.int .i64 id, .int .i64 fi, .int .i64 te, .int .i64 ht, .int .i64 hv, .int .i64 hc, .slice a l.length cap] 26)).alloc (.cells #[.int .i64 pg, .int .i64 pk, .slice pa plen pcap, .int .i64 pht, .int .i64 phv, .int .i64 phc, .int .i64 pi, .int .i64 pt, .bool pm, .bool ph] 28)) W from hW))
  clear hg hG
  unfold Gives chkC lastG
  dsimp only [GM.val] at *
  generalize entT l pi = u at *
  by_cases hc1 : pi < fi
  · rw [if_pos hc1]
    go_enter Try.func47, Try.ntmps47
    go_wp2
    go_ret
    exact ⟨rfl, gp_bel _ _ _ _ _⟩
  · rw [if_neg hc1]
    by_cases hc2 : fi - 1 + (l.length : Int) < pi
    · rw [if_pos hc2]
      go_enter Try.func47, Try.ntmps47
      go_wp2
      refine wp_region_below (by kernel_rfl) (by kernel_rfl) ?_
      repeat (first
        | (refine BigFrame.wpQuiet_skip (by rfl) ?_; (try simp only [Act.put, List.setIfInBounds_toArray, List.set_cons_zero, List.set_cons_succ]))
        | (refine BigFrame.wpQuiet_want (by rfl) (fun K hK => ?_); apply Exists.intro; refine ⟨fun W hW => ?_, hK _ ?_⟩; (focus (have hWB : Below _ _ W := hW; obtain ⟨g0, g1, g2, g3, g4, g5, g6, p0, p1, p2, p3, p4, p5, p6, p7, p8, p9⟩ := HS.out _ hW; go_simp; (first | done | with_reducible rfl | (first | (go_at_call 25; with_reducible exact gives_above hW (GL.out _ (bel2 HA.out hWB))) | (go_at_call 41; with_reducible exact gives_above hW (GE.out _ (bel2 HA.out hWB)))) | (rw [if_neg (by omega)]; go_simp; (first | done | with_reducible rfl))))); clear hK K; (try simp only [Act.put, List.setIfInBounds_toArray, List.set_cons_zero, List.set_cons_succ])))
      refine wpQuiet_nil ?_
      intro w1 hB1
      replace hB1 : Below _ _ w1 := hB1
      go_wp2
      go_ret
      exact ⟨rfl, bel2 HA.out hB1⟩
    · rw [if_neg hc2]
      by_cases ht : pt = 0
      · have ht0 : (pt != 0) = false := by rw [bne_eq_false_iff_eq]; exact ht
        have ht1 : (pt == 0) = true := by rw [beq_iff_eq]; exact ht
        rw [if_neg (fun h => h.1 ht)]
        clear ht
        go_enter Try.func47, Try.ntmps47
        go_wp2
        refine wp_region_below (by kernel_rfl) (by kernel_rfl) ?_
        repeat (first
          | (refine BigFrame.wpQuiet_skip (by rfl) ?_; (try simp only [Act.put, List.setIfInBounds_toArray, List.set_cons_zero, List.set_cons_succ]))
          | (refine BigFrame.wpQuiet_want (by rfl) (fun K hK => ?_); apply Exists.intro; refine ⟨fun W hW => ?_, hK _ ?_⟩; (focus (have hWB : Below _ _ W := hW; obtain ⟨g0, g1, g2, g3, g4, g5, g6, p0, p1, p2, p3, p4, p5, p6, p7, p8, p9⟩ := HS.out _ hW; go_simp; (first | done | with_reducible rfl | (first | (go_at_call 25; with_reducible exact gives_above hW (GL.out _ (bel2 HA.out hWB))) | (go_at_call 41; with_reducible exact gives_above hW (GE.out _ (bel2 HA.out hWB)))) | (rw [if_neg (by omega)]; go_simp; (first | done | with_reducible rfl))))); clear hK K; (try simp only [Act.put, List.setIfInBounds_toArray, List.set_cons_zero, List.set_cons_succ])))
        refine wpQuiet_nil ?_
        intro w1 hB1
        replace hB1 : Below _ _ w1 := hB1
        have HA1 := Lib.hid (bel2 HA.out hB1)
        go_wp2
        clear HS
        have HS := Lib.hid (fun W (hW : Above w1 W) => gp_cells (id := id) (fi := fi) (te := te) (ht := ht) (hv := hv) (hc := hc) (l := l) (a := a) (cap := cap) (pg := pg) (pk := pk) (pa := pa) (plen := plen) (pcap := pcap) (pht := pht) (phv := phv) (phc := phc) (pi := pi) (pt := pt) (pm := pm) (ph := ph) (show Below ((w.alloc (.cells #[.int .i64 id, .int .i64 fi, .int .i64 te, .int .i64 ht, .int .i64 hv, .int .i64 hc, .slice a l.length cap] 26)).alloc (.cells #[.int .i64 pg, .int .i64 pk, .slice pa plen pcap, .int .i64 pht, .int .i64 phv, .int .i64 phc, .int .i64 pi, .int .i64 pt, .bool pm, .bool ph] 28)).heap.size ((w.alloc (.cells #[.int .i64 id, .int .i64 fi, .int .i64 te, .int .i64 ht, .int .i64 hv, .int .i64 hc, .slice a l.length cap] 26)).alloc (.cells #[.int .i64 pg, .int .i64 pk, .slice pa plen pcap, .int .i64 pht, .int .i64 phv, .int .i64 phc, .int .i64 pi, .int .i64 pt, .bool pm, .bool ph] 28)) W from bel2 hB1 hW))
        refine wp_region_below (by kernel_rfl) (by kernel_rfl) ?_
        repeat (first
          | (refine BigFrame.wpQuiet_skip (by rfl) ?_; (try simp only [Act.put, List.setIfInBounds_toArray, List.set_cons_zero, List.set_cons_succ]))
          | (refine BigFrame.wpQuiet_want (by rfl) (fun K hK => ?_); apply Exists.intro; refine ⟨fun W hW => ?_, hK _ ?_⟩; (focus (have hWB : Below _ _ W := hW; obtain ⟨g0, g1, g2, g3, g4, g5, g6, p0, p1, p2, p3, p4, p5, p6, p7, p8, p9⟩ := HS.out _ hW; go_simp; (first | done | with_reducible rfl | (first | (go_at_call 25; with_reducible exact gives_above hW (GL.out _ (bel2 HA.out hWB))) | (go_at_call 41; with_reducible exact gives_above hW (GE.out _ (bel2 HA.out hWB)))) | (rw [if_neg (by omega)]; go_simp; (first | done | with_reducible rfl))))); clear hK K; (try simp only [Act.put, List.setIfInBounds_toArray, List.set_cons_zero, List.set_cons_succ])))
        refine wpQuiet_nil ?_
        intro w2 hB2
        replace hB2 : Below _ _ w2 := hB2
        go_wp2
        go_ret
        exact ⟨rfl, bel2 HA1.out hB2⟩
      · have ht0 : (pt != 0) = true := by rw [bne_iff_ne]; exact ht
        have ht1 : (pt == 0) = false := by rw [beq_eq_false_iff_ne]; exact ht
        by_cases hu : pt = u
        · have hu0 : (pt != u) = false := by rw [bne_eq_false_iff_eq]; exact hu
          have hu1 : (pt == u) = true := by rw [beq_iff_eq]; exact hu
          rw [if_neg (fun h => h.2 hu)]
          clear ht hu
          go_enter Try.func47, Try.ntmps47
          go_wp2
          refine wp_region_below (by kernel_rfl) (by kernel_rfl) ?_
          repeat (first
            | (refine BigFrame.wpQuiet_skip (by rfl) ?_; (try simp only [Act.put, List.setIfInBounds_toArray, List.set_cons_zero, List.set_cons_succ]))
            | (refine BigFrame.wpQuiet_want (by rfl) (fun K hK => ?_); apply Exists.intro; refine ⟨fun W hW => ?_, hK _ ?_⟩; (focus (have hWB : Below _ _ W := hW; obtain ⟨g0, g1, g2, g3, g4, g5, g6, p0, p1, p2, p3, p4, p5, p6, p7, p8, p9⟩ := HS.out _ hW; go_simp; (first | done | with_reducible rfl | (first | (go_at_call 25; with_reducible exact gives_above hW (GL.out _ (bel2 HA.out hWB))) | (go_at_call 41; with_reducible exact gives_above hW (GE.out _ (bel2 HA.out hWB)))) | (rw [if_neg (by omega)]; go_simp; (first | done | with_reducible rfl))))); clear hK K; (try simp only [Act.put, List.setIfInBounds_toArray, List.set_cons_zero, List.set_cons_succ])))
          refine wpQuiet_nil ?_
          intro w1 hB1
          replace hB1 : Below _ _ w1 := hB1
          have HA1 := Lib.hid (bel2 HA.out hB1)
          go_wp2
          clear HS
          have HS := Lib.hid (fun W (hW : Above w1 W) => gp_cells (id := id) (fi := fi) (te := te) (ht := ht) (hv := hv) (hc := hc) (l := l) (a := a) (cap := cap) (pg := pg) (pk := pk) (pa := pa) (plen := plen) (pcap := pcap) (pht := pht) (phv := phv) (phc := phc) (pi := pi) (pt := pt) (pm := pm) (ph := ph) (show Below ((w.alloc (.cells #[.int .i64 id, .int .i64 fi, .int .i64 te, .int .i64 ht, .int .i64 hv, .int .i64 hc, .slice a l.length cap] 26)).alloc (.cells #[.int .i64 pg, .int .i64 pk, .slice pa plen pcap, .int .i64 pht, .int .i64 phv, .int .i64 phc, .int .i64 pi, .int .i64 pt, .bool pm, .bool ph] 28)).heap.size ((w.alloc (.cells #[.int .i64 id, .int .i64 fi, .int .i64 te, .int .i64 ht, .int .i64 hv, .int .i64 hc, .slice a l.length cap] 26)).alloc (.cells #[.int .i64 pg, .int .i64 pk, .slice pa plen pcap, .int .i64 pht, .int .i64 phv, .int .i64 phc, .int .i64 pi, .int .i64 pt, .bool pm, .bool ph] 28)) W from bel2 hB1 hW))
          refine wp_region_below (by kernel_rfl) (by kernel_rfl) ?_
          repeat (first
            | (refine BigFrame.wpQuiet_skip (by rfl) ?_; (try simp only [Act.put, List.setIfInBounds_toArray, List.set_cons_zero, List.set_cons_succ]))
            | (refine BigFrame.wpQuiet_want (by rfl) (fun K hK => ?_); apply Exists.intro; refine ⟨fun W hW => ?_, hK _ ?_⟩; (focus (have hWB : Below _ _ W := hW; obtain ⟨g0, g1, g2, g3, g4, g5, g6, p0, p1, p2, p3, p4, p5, p6, p7, p8, p9⟩ := HS.out _ hW; go_simp; (first | done | with_reducible rfl | (first | (go_at_call 25; with_reducible exact gives_above hW (GL.out _ (bel2 HA1.out hWB))) | (go_at_call 41; with_reducible exact gives_above hW (GE.out _ (bel2 HA1.out hWB)))) | (rw [if_neg (by omega)]; go_simp; (first | done | with_reducible rfl))))); clear hK K; (try simp only [Act.put, List.setIfInBounds_toArray, List.set_cons_zero, List.set_cons_succ])))
          refine wpQuiet_nil ?_
          intro w2 hB2
          replace hB2 : Below _ _ w2 := hB2
          go_wp2
          go_ret
          exact ⟨rfl, bel2 HA1.out hB2⟩
        · have hu0 : (pt != u) = true := by rw [bne_iff_ne]; exact hu
          have hu1 : (pt == u) = false := by rw [beq_eq_false_iff_ne]; exact hu
          rw [if_pos ⟨ht, hu⟩]
          clear ht hu
          go_enter Try.func47, Try.ntmps47
          go_wp2
          refine wp_region_below (by kernel_rfl) (by kernel_rfl) ?_
          repeat (first
            | (refine BigFrame.wpQuiet_skip (by rfl) ?_; (try simp only [Act.put, List.setIfInBounds_toArray, List.set_cons_zero, List.set_cons_succ]))
            | (refine BigFrame.wpQuiet_want (by rfl) (fun K hK => ?_); apply Exists.intro; refine ⟨fun W hW => ?_, hK _ ?_⟩; (focus (have hWB : Below _ _ W := hW; obtain ⟨g0, g1, g2, g3, g4, g5, g6, p0, p1, p2, p3, p4, p5, p6, p7, p8, p9⟩ := HS.out _ hW; go_simp; (first | done | with_reducible rfl | (first | (go_at_call 25; with_reducible exact gives_above hW (GL.out _ (bel2 HA.out hWB))) | (go_at_call 41; with_reducible exact gives_above hW (GE.out _ (bel2 HA.out hWB)))) | (rw [if_neg (by omega)]; go_simp; (first | done | with_reducible rfl))))); clear hK K; (try simp only [Act.put, List.setIfInBounds_toArray, List.set_cons_zero, List.set_cons_succ])))
          refine wpQuiet_nil ?_
          intro w1 hB1
          replace hB1 : Below _ _ w1 := hB1
          have HA1 := Lib.hid (bel2 HA.out hB1)
          go_wp2
          clear HS
          have HS := Lib.hid (fun W (hW : Above w1 W) => gp_cells (id := id) (fi := fi) (te := te) (ht := ht) (hv := hv) (hc := hc) (l := l) (a := a) (cap := cap) (pg := pg) (pk := pk) (pa := pa) (plen := plen) (pcap := pcap) (pht := pht) (phv := phv) (phc := phc) (pi := pi) (pt := pt) (pm := pm) (ph := ph) (show Below ((w.alloc (.cells #[.int .i64 id, .int .i64 fi, .int .i64 te, .int .i64 ht, .int .i64 hv, .int .i64 hc, .slice a l.length cap] 26)).alloc (.cells #[.int .i64 pg, .int .i64 pk, .slice pa plen pcap, .int .i64 pht, .int .i64 phv, .int .i64 phc, .int .i64 pi, .int .i64 pt, .bool pm, .bool ph] 28)).heap.size ((w.alloc (.cells #[.int .i64 id, .int .i64 fi, .int .i64 te, .int .i64 ht, .int .i64 hv, .int .i64 hc, .slice a l.length cap] 26)).alloc (.cells #[.int .i64 pg, .int .i64 pk, .slice pa plen pcap, .int .i64 pht, .int .i64 phv, .int .i64 phc, .int .i64 pi, .int .i64 pt, .bool pm, .bool ph] 28)) W from bel2 hB1 hW))
          refine wp_region_below (by kernel_rfl) (by kernel_rfl) ?_
          repeat (first
            | (refine BigFrame.wpQuiet_skip (by rfl) ?_; (try simp only [Act.put, List.setIfInBounds_toArray, List.set_cons_zero, List.set_cons_succ]))
            | (refine BigFrame.wpQuiet_want (by rfl) (fun K hK => ?_); apply Exists.intro; refine ⟨fun W hW => ?_, hK _ ?_⟩; (focus (have hWB : Below _ _ W := hW; obtain ⟨g0, g1, g2, g3, g4, g5, g6, p0, p1, p2, p3, p4, p5, p6, p7, p8, p9⟩ := HS.out _ hW; go_simp; (first | done | with_reducible rfl | (first | (go_at_call 25; with_reducible exact gives_above hW (GL.out _ (bel2 HA1.out hWB))) | (go_at_call 41; with_reducible exact gives_above hW (GE.out _ (bel2 HA1.out hWB)))) | (rw [if_neg (by omega)]; go_simp; (first | done | with_reducible rfl))))); clear hK K; (try simp only [Act.put, List.setIfInBounds_toArray, List.set_cons_zero, List.set_cons_succ])))
          refine wpQuiet_nil ?_
          intro w2 hB2
          replace hB2 : Below _ _ w2 := hB2
          go_wp2
          go_ret
          exact ⟨rfl, bel2 HA1.out hB2⟩

set_option maxRecDepth 100000 in
set_option maxHeartbeats 4000000 in
theorem chk_bad (id fi te ht hv hc : Int) (l : List EntryC) (a : Option Addr) (cap : Nat) (pg pk : Int) (pa : Option Addr) (plen pcap : Nat) (pht phv phc pi pt : Int) (pm ph : Bool) (pl : List EntryC) (w : World) (hg : HasG w a ⟨id, fi, te, ht, hv, hc, l⟩) (hG : isG ⟨id, fi, te, ht, hv, hc, l⟩ = true) (hp : HasE w ⟨pg, pk, pa, plen, pcap, pht, phv, phc, pi, pt, pm, ph⟩ pl) (hb : isB ⟨pg, pk, pa, plen, pcap, pht, phv, phc, pi, pt, pm, ph⟩ pl = false ∨ pk = 6 ∨ pk = 5 ∨ pg ≠ id) : Gives Try.prog 24 #[.agg #[.int .i64 id, .int .i64 fi, .int .i64 te, .int .i64 ht, .int .i64 hv, .int .i64 hc, .slice a l.length cap], .agg #[.int .i64 pg, .int .i64 pk, .slice pa plen pcap, .int .i64 pht, .int .i64 phv, .int .i64 phc, .int .i64 pi, .int .i64 pt, .bool pm, .bool ph]] w (.int .i64 11) := by
  have HA := Lib.hid (gp_bel w #[.int .i64 id, .int .i64 fi, .int .i64 te, .int .i64 ht, .int .i64 hv, .int .i64 hc, .slice a l.length cap] #[.int .i64 pg, .int .i64 pk, .slice pa plen pcap, .int .i64 pht, .int .i64 phv, .int .i64 phc, .int .i64 pi, .int .i64 pt, .bool pm, .bool ph] 26 28)
  have GI := Lib.hid (fun W (hB : Below w.heap.size w W) => is_any ⟨pg, pk, pa, plen, pcap, pht, phv, phc, pi, pt, pm, ph⟩ pl W (hp.below hB))
  clear hg hG hp
  unfold Gives
  generalize isB ⟨pg, pk, pa, plen, pcap, pht, phv, phc, pi, pt, pm, ph⟩ pl = bi at *
  dsimp only [PartC.val, PartC.arr] at GI
  cases bi
  · clear hb
    go_enter Try.func24, Try.ntmps24
    go_wp2_with (go_at_call 35; ((with_reducible refine (GI.out _ HA.out).mono ?_); rintro e w1 ⟨rfl, hB1⟩; obtain ⟨g0, g1, g2, g3, g4, g5, g6, p0, p1, p2, p3, p4, p5, p6, p7, p8, p9⟩ := gp_cells hB1))
    go_ret
    exact ⟨rfl, bel2 HA.out hB1⟩
  · have hb2 : pk = 6 ∨ (pk ≠ 6 ∧ pk = 5) ∨ (pk ≠ 6 ∧ pk ≠ 5 ∧ pg ≠ id) := by
      rcases hb with h | h | h | h
      · cases h
      · exact .inl h
      · exact .inr (.inl ⟨by omega, h⟩)
      · by_cases h6 : pk = 6
        · exact .inl h6
        · by_cases h5 : pk = 5
          · exact .inr (.inl ⟨h6, h5⟩)
          · exact .inr (.inr ⟨h6, h5, h⟩)
    clear hb
    rcases hb2 with rfl | ⟨-, rfl⟩ | ⟨h6, h5, hne⟩
    · go_enter Try.func24, Try.ntmps24
      go_wp2_with (go_at_call 35; ((with_reducible refine (GI.out _ HA.out).mono ?_); rintro e w1 ⟨rfl, hB1⟩; obtain ⟨g0, g1, g2, g3, g4, g5, g6, p0, p1, p2, p3, p4, p5, p6, p7, p8, p9⟩ := gp_cells hB1))
      go_ret
      exact ⟨rfl, bel2 HA.out hB1⟩
    · go_enter Try.func24, Try.ntmps24
      go_wp2_with (go_at_call 35; ((with_reducible refine (GI.out _ HA.out).mono ?_); rintro e w1 ⟨rfl, hB1⟩; obtain ⟨g0, g1, g2, g3, g4, g5, g6, p0, p1, p2, p3, p4, p5, p6, p7, p8, p9⟩ := gp_cells hB1))
      go_ret
      exact ⟨rfl, bel2 HA.out hB1⟩
    · have t6 : (pk == 6) = false := by rw [beq_eq_false_iff_ne]; exact h6
      have t5 : (pk == 5) = false := by rw [beq_eq_false_iff_ne]; exact h5
      have tg : (pg == id) = false := by rw [beq_eq_false_iff_ne]; exact hne
      have tg2 : (pg != id) = true := by rw [bne_iff_ne]; exact hne
      clear h6 h5 hne
      go_enter Try.func24, Try.ntmps24
      go_wp2_with (go_at_call 35; ((with_reducible refine (GI.out _ HA.out).mono ?_); rintro e w1 ⟨rfl, hB1⟩; obtain ⟨g0, g1, g2, g3, g4, g5, g6, p0, p1, p2, p3, p4, p5, p6, p7, p8, p9⟩ := gp_cells hB1))
      go_ret
      exact ⟨rfl, bel2 HA.out hB1⟩

set_option maxRecDepth 100000 in
set_option maxHeartbeats 4000000 in
theorem chk_2 (id fi te ht hv hc : Int) (l : List EntryC) (a : Option Addr) (cap : Nat) (pg : Int) (pa : Option Addr) (plen pcap : Nat) (pht phv phc pi pt : Int) (pm ph : Bool) (pl : List EntryC) (w : World) (hg : HasG w a ⟨id, fi, te, ht, hv, hc, l⟩) (hG : isG ⟨id, fi, te, ht, hv, hc, l⟩ = true) (hp : HasE w ⟨pg, 2, pa, plen, pcap, pht, phv, phc, pi, pt, pm, ph⟩ pl) (hb : isB ⟨pg, 2, pa, plen, pcap, pht, phv, phc, pi, pt, pm, ph⟩ pl = true) (hgi : pg = id) : Gives Try.prog 24 #[.agg #[.int .i64 id, .int .i64 fi, .int .i64 te, .int .i64 ht, .int .i64 hv, .int .i64 hc, .slice a l.length cap], .agg #[.int .i64 pg, .int .i64 2, .slice pa plen pcap, .int .i64 pht, .int .i64 phv, .int .i64 phc, .int .i64 pi, .int .i64 pt, .bool pm, .bool ph]] w (.int .i64 0) := by
  have HA := Lib.hid (gp_bel w #[.int .i64 id, .int .i64 fi, .int .i64 te, .int .i64 ht, .int .i64 hv, .int .i64 hc, .slice a l.length cap] #[.int .i64 pg, .int .i64 2, .slice pa plen pcap, .int .i64 pht, .int .i64 phv, .int .i64 phc, .int .i64 pi, .int .i64 pt, .bool pm, .bool ph] 26 28)
  have GI := Lib.hid (fun W (hB : Below w.heap.size w W) => is_any ⟨pg, 2, pa, plen, pcap, pht, phv, phc, pi, pt, pm, ph⟩ pl W (hp.below hB))
  rw [hb] at GI
  have tg : (pg == id) = true := by rw [beq_iff_eq]; exact hgi
  have tg2 : (pg != id) = false := by rw [bne_eq_false_iff_eq]; exact hgi
  clear hg hG hp hb hgi
  unfold Gives
  dsimp only [PartC.val, PartC.arr] at GI
  go_enter Try.func24, Try.ntmps24
  go_wp2_with (go_at_call 35; ((with_reducible refine (GI.out _ HA.out).mono ?_); rintro e w1 ⟨rfl, hB1⟩; obtain ⟨g0, g1, g2, g3, g4, g5, g6, p0, p1, p2, p3, p4, p5, p6, p7, p8, p9⟩ := gp_cells hB1))
  go_ret
  exact ⟨rfl, bel2 HA.out hB1⟩

set_option maxRecDepth 100000 in
set_option maxHeartbeats 4000000 in
theorem chk_4 (id fi te ht hv hc : Int) (l : List EntryC) (a : Option Addr) (cap : Nat) (pg : Int) (pa : Option Addr) (plen pcap : Nat) (pht phv phc pi pt : Int) (pm ph : Bool) (pl : List EntryC) (w : World) (hg : HasG w a ⟨id, fi, te, ht, hv, hc, l⟩) (hG : isG ⟨id, fi, te, ht, hv, hc, l⟩ = true) (hp : HasE w ⟨pg, 4, pa, plen, pcap, pht, phv, phc, pi, pt, pm, ph⟩ pl) (hb : isB ⟨pg, 4, pa, plen, pcap, pht, phv, phc, pi, pt, pm, ph⟩ pl = true) (hgi : pg = id) : Gives Try.prog 24 #[.agg #[.int .i64 id, .int .i64 fi, .int .i64 te, .int .i64 ht, .int .i64 hv, .int .i64 hc, .slice a l.length cap], .agg #[.int .i64 pg, .int .i64 4, .slice pa plen pcap, .int .i64 pht, .int .i64 phv, .int .i64 phc, .int .i64 pi, .int .i64 pt, .bool pm, .bool ph]] w (.int .i64 (if pi < fi then 15 else 0)) := by
  have HA := Lib.hid (gp_bel w #[.int .i64 id, .int .i64 fi, .int .i64 te, .int .i64 ht, .int .i64 hv, .int .i64 hc, .slice a l.length cap] #[.int .i64 pg, .int .i64 4, .slice pa plen pcap, .int .i64 pht, .int .i64 phv, .int .i64 phc, .int .i64 pi, .int .i64 pt, .bool pm, .bool ph] 26 28)
  have GI := Lib.hid (fun W (hB : Below w.heap.size w W) => is_any ⟨pg, 4, pa, plen, pcap, pht, phv, phc, pi, pt, pm, ph⟩ pl W (hp.below hB))
  rw [hb] at GI
  have tg : (pg == id) = true := by rw [beq_iff_eq]; exact hgi
  have tg2 : (pg != id) = false := by rw [bne_eq_false_iff_eq]; exact hgi
  clear hg hG hp hb hgi
  unfold Gives
  dsimp only [PartC.val, PartC.arr] at GI
  by_cases hc : pi < fi
  · rw [if_pos hc]
    go_enter Try.func24, Try.ntmps24
    go_wp2_with (go_at_call 35; ((with_reducible refine (GI.out _ HA.out).mono ?_); rintro e w1 ⟨rfl, hB1⟩; obtain ⟨g0, g1, g2, g3, g4, g5, g6, p0, p1, p2, p3, p4, p5, p6, p7, p8, p9⟩ := gp_cells hB1))
    go_ret
    exact ⟨rfl, bel2 HA.out hB1⟩
  · rw [if_neg hc]
    have hc2 : fi ≤ pi := by omega
    clear hc
    go_enter Try.func24, Try.ntmps24
    go_wp2_with (go_at_call 35; ((with_reducible refine (GI.out _ HA.out).mono ?_); rintro e w1 ⟨rfl, hB1⟩; obtain ⟨g0, g1, g2, g3, g4, g5, g6, p0, p1, p2, p3, p4, p5, p6, p7, p8, p9⟩ := gp_cells hB1))
    go_ret
    exact ⟨rfl, bel2 HA.out hB1⟩

set_option maxRecDepth 100000 in
set_option maxHeartbeats 4000000 in
theorem chk_3 (id fi te ht hv hc : Int) (l : List EntryC) (a : Option Addr) (cap : Nat) (pg : Int) (pa : Option Addr) (plen pcap : Nat) (pht phv phc pi pt : Int) (pm ph : Bool) (pl : List EntryC) (w : World) (hg : HasG w a ⟨id, fi, te, ht, hv, hc, l⟩) (hG : isG ⟨id, fi, te, ht, hv, hc, l⟩ = true) (hp : HasE w ⟨pg, 3, pa, plen, pcap, pht, phv, phc, pi, pt, pm, ph⟩ pl) (hb : isB ⟨pg, 3, pa, plen, pcap, pht, phv, phc, pi, pt, pm, ph⟩ pl = true) (hgi : pg = id) : Gives Try.prog 24 #[.agg #[.int .i64 id, .int .i64 fi, .int .i64 te, .int .i64 ht, .int .i64 hv, .int .i64 hc, .slice a l.length cap], .agg #[.int .i64 pg, .int .i64 3, .slice pa plen pcap, .int .i64 pht, .int .i64 phv, .int .i64 phc, .int .i64 pi, .int .i64 pt, .bool pm, .bool ph]] w (.int .i64 (chkC ⟨id, fi, te, ht, hv, hc, l⟩ pi pt)) := by
  have HA := Lib.hid (gp_bel w #[.int .i64 id, .int .i64 fi, .int .i64 te, .int .i64 ht, .int .i64 hv, .int .i64 hc, .slice a l.length cap] #[.int .i64 pg, .int .i64 3, .slice pa plen pcap, .int .i64 pht, .int .i64 phv, .int .i64 phc, .int .i64 pi, .int .i64 pt, .bool pm, .bool ph] 26 28)
  have GI := Lib.hid (fun W (hB : Below w.heap.size w W) => is_any ⟨pg, 3, pa, plen, pcap, pht, phv, phc, pi, pt, pm, ph⟩ pl W (hp.below hB))
  rw [hb] at GI
  have GC := Lib.hid (fun W (hB : Below w.heap.size w W) => chkC_any id fi te ht hv hc l a cap pg 3 pa plen pcap pht phv phc pi pt pm ph W (hg.below hB) hG)
  have tg : (pg == id) = true := by rw [beq_iff_eq]; exact hgi
  have tg2 : (pg != id) = false := by rw [bne_eq_false_iff_eq]; exact hgi
  clear hg hG hp hb hgi
  unfold Gives
  dsimp only [PartC.val, PartC.arr] at GI
  go_enter Try.func24, Try.ntmps24
  go_wp2_with (first
    | (go_at_call 35; ((with_reducible refine (GI.out _ HA.out).mono ?_); rintro e w1 ⟨rfl, hB1⟩; obtain ⟨g0, g1, g2, g3, g4, g5, g6, p0, p1, p2, p3, p4, p5, p6, p7, p8, p9⟩ := gp_cells hB1))
    | (go_at_call 47; ((with_reducible refine (GC.out _ (bel2 HA.out hB1)).mono ?_); rintro e w2 ⟨rfl, hB2⟩)))
  go_ret
  exact ⟨rfl, bel2 (bel2 HA.out hB1) hB2⟩

set_option maxRecDepth 100000 in
set_option maxHeartbeats 4000000 in
theorem chk_1 (id fi te ht hv hc : Int) (l : List EntryC) (a : Option Addr) (cap : Nat) (pg : Int) (pa : Option Addr) (plen pcap : Nat) (pht phv phc pi pt : Int) (pm ph : Bool) (pl : List EntryC) (w : World) (hg : HasG w a ⟨id, fi, te, ht, hv, hc, l⟩) (hG : isG ⟨id, fi, te, ht, hv, hc, l⟩ = true) (hp : HasE w ⟨pg, 1, pa, plen, pcap, pht, phv, phc, pi, pt, pm, ph⟩ pl) (hb : isB ⟨pg, 1, pa, plen, pcap, pht, phv, phc, pi, pt, pm, ph⟩ pl = true) (hgi : pg = id) : Gives Try.prog 24 #[.agg #[.int .i64 id, .int .i64 fi, .int .i64 te, .int .i64 ht, .int .i64 hv, .int .i64 hc, .slice a l.length cap], .agg #[.int .i64 pg, .int .i64 1, .slice pa plen pcap, .int .i64 pht, .int .i64 phv, .int .i64 phc, .int .i64 pi, .int .i64 pt, .bool pm, .bool ph]] w (.int .i64 (chkA ⟨id, fi, te, ht, hv, hc, l⟩ (headI pl))) := by
  have HA := Lib.hid (gp_bel w #[.int .i64 id, .int .i64 fi, .int .i64 te, .int .i64 ht, .int .i64 hv, .int .i64 hc, .slice a l.length cap] #[.int .i64 pg, .int .i64 1, .slice pa plen pcap, .int .i64 pht, .int .i64 phv, .int .i64 phc, .int .i64 pi, .int .i64 pt, .bool pm, .bool ph] 26 28)
  have GI := Lib.hid (fun W (hB : Below w.heap.size w W) => is_any ⟨pg, 1, pa, plen, pcap, pht, phv, phc, pi, pt, pm, ph⟩ pl W (hp.below hB))
  rw [hb] at GI
  have GC := Lib.hid (fun W (hB : Below w.heap.size w W) => chkA_any id fi te ht hv hc l a cap (headI pl) W (hg.below hB) hG)
  have hne : plen ≠ 0 := by
    rcases (isB_iff _ _).1 hb with ⟨_, h | h | h | h | h | h⟩
    · exact h.2.1
    all_goals (have h9 := h.1; dsimp only at h9; omega)
  have hpl := hp.1
  have hrow := hp.2.2
  dsimp only at hpl hrow
  have tg : (pg == id) = true := by rw [beq_iff_eq]; exact hgi
  have tg2 : (pg != id) = false := by rw [bne_eq_false_iff_eq]; exact hgi
  clear hg hG hp hb hgi
  unfold Gives
  dsimp only [PartC.val, PartC.arr] at GI
  obtain ⟨b, off, rfl, hbw, hx⟩ := hrow.2.2 (by omega)
  have h0 : 0 < pl.length := by omega
  have d0 : w.cell? ⟨b, off, none⟩ = some (.int .i64 (headI pl)) := by
    have := (entry_at hbw (Below.refl w.heap.size w) hx h0).1
    cases pl with
    | nil => simp at h0
    | cons e r => simpa [headI] using this
  have hp0 : (0 : Int) < (plen : Int) := by omega
  have hp1 : 0 < plen := by omega
  generalize chkA ⟨id, fi, te, ht, hv, hc, l⟩ (headI pl) = res at *
  generalize headI pl = hI at *
  clear hx hrow hpl h0 hne
  go_enter Try.func24, Try.ntmps24
  go_wp2_with (go_at_call 35; ((with_reducible refine (GI.out _ HA.out).mono ?_); rintro e w1 ⟨rfl, hB1⟩; obtain ⟨g0, g1, g2, g3, g4, g5, g6, p0, p1, p2, p3, p4, p5, p6, p7, p8, p9⟩ := gp_cells hB1))
  have HS := Lib.hid (fun W (hW : Above w1 W) => And.intro (gp_cells (show Below ((w.alloc (.cells #[.int .i64 id, .int .i64 fi, .int .i64 te, .int .i64 ht, .int .i64 hv, .int .i64 hc, .slice a l.length cap] 26)).alloc (.cells #[.int .i64 pg, .int .i64 1, .slice (some ⟨b, off, none⟩) plen pcap, .int .i64 pht, .int .i64 phv, .int .i64 phc, .int .i64 pi, .int .i64 pt, .bool pm, .bool ph] 28)).heap.size ((w.alloc (.cells #[.int .i64 id, .int .i64 fi, .int .i64 te, .int .i64 ht, .int .i64 hv, .int .i64 hc, .slice a l.length cap] 26)).alloc (.cells #[.int .i64 pg, .int .i64 1, .slice (some ⟨b, off, none⟩) plen pcap, .int .i64 pht, .int .i64 phv, .int .i64 phc, .int .i64 pi, .int .i64 pt, .bool pm, .bool ph] 28)) W from bel2 hB1 hW)) (((bel2 (bel2 HA.out hB1) hW).cell (p := ⟨b, off, none⟩) hbw).trans d0))
  clear d0 g0 g1 g2 g3 g4 g5 g6 p0 p1 p2 p3 p4 p5 p6 p7 p8 p9
  refine wp_region_below (by kernel_rfl) (by kernel_rfl) ?_
  repeat (first
    | (refine BigFrame.wpQuiet_skip (by rfl) ?_; (try simp only [Act.put, List.setIfInBounds_toArray, List.set_cons_zero, List.set_cons_succ]))
    | (refine BigFrame.wpQuiet_want (by rfl) (fun K hK => ?_); apply Exists.intro; refine ⟨fun W hW => ?_, hK _ ?_⟩; (focus (have hWB : Below _ _ W := hW; obtain ⟨⟨g0, g1, g2, g3, g4, g5, g6, p0, p1, p2, p3, p4, p5, p6, p7, p8, p9⟩, d0⟩ := HS.out _ hW; go_simp; (first | done | with_reducible rfl | (go_at_call 46; with_reducible exact gives_above hW (GC.out _ (bel2 (bel2 HA.out hB1) hWB))) | (rw [if_neg (by omega)]; go_simp; (first | done | with_reducible rfl))))); clear hK K; (try simp only [Act.put, List.setIfInBounds_toArray, List.set_cons_zero, List.set_cons_succ])))
  refine wpQuiet_nil ?_
  intro w2 hB2
  replace hB2 : Below _ _ w2 := hB2
  go_wp2
  go_ret
  exact ⟨rfl, bel2 (bel2 HA.out hB1) hB2⟩

theorem chk_any (id fi te ht hv hc : Int) (l : List EntryC) (a : Option Addr) (cap : Nat) (pg pk : Int) (pa : Option Addr) (plen pcap : Nat) (pht phv phc pi pt : Int) (pm ph : Bool) (pl : List EntryC) (w : World) (hg : HasG w a ⟨id, fi, te, ht, hv, hc, l⟩) (hG : isG ⟨id, fi, te, ht, hv, hc, l⟩ = true) (hp : HasE w ⟨pg, pk, pa, plen, pcap, pht, phv, phc, pi, pt, pm, ph⟩ pl) : Gives Try.prog 24 #[.agg #[.int .i64 id, .int .i64 fi, .int .i64 te, .int .i64 ht, .int .i64 hv, .int .i64 hc, .slice a l.length cap], .agg #[.int .i64 pg, .int .i64 pk, .slice pa plen pcap, .int .i64 pht, .int .i64 phv, .int .i64 phc, .int .i64 pi, .int .i64 pt, .bool pm, .bool ph]] w (.int .i64 (chkG ⟨id, fi, te, ht, hv, hc, l⟩ ⟨pg, pk, pa, plen, pcap, pht, phv, phc, pi, pt, pm, ph⟩ pl)) := by
  unfold chkG
  dsimp only
  by_cases hb : isB ⟨pg, pk, pa, plen, pcap, pht, phv, phc, pi, pt, pm, ph⟩ pl = false ∨ pk = 6 ∨ pk = 5 ∨ pg ≠ id
  · rw [if_pos hb]; exact chk_bad id fi te ht hv hc l a cap pg pk pa plen pcap pht phv phc pi pt pm ph pl w hg hG hp hb
  · rw [if_neg hb]
    have h1 : isB ⟨pg, pk, pa, plen, pcap, pht, phv, phc, pi, pt, pm, ph⟩ pl = true := by
      cases h : isB ⟨pg, pk, pa, plen, pcap, pht, phv, phc, pi, pt, pm, ph⟩ pl
      · exact absurd (.inl h) hb
      · rfl
    have hgi : pg = id := by
      by_cases h : pg = id
      · exact h
      · exact absurd (.inr (.inr (.inr h))) hb
    rcases (isB_iff _ _).1 h1 with ⟨_, h | h | h | h | h | h⟩
    · obtain rfl : pk = 1 := h.1
      exact chk_1 id fi te ht hv hc l a cap pg pa plen pcap pht phv phc pi pt pm ph pl w hg hG hp h1 hgi
    · obtain rfl : pk = 2 := h.1
      exact chk_2 id fi te ht hv hc l a cap pg pa plen pcap pht phv phc pi pt pm ph pl w hg hG hp h1 hgi
    · obtain rfl : pk = 3 := h.1
      exact chk_3 id fi te ht hv hc l a cap pg pa plen pcap pht phv phc pi pt pm ph pl w hg hG hp h1 hgi
    · obtain rfl : pk = 4 := h.1
      exact chk_4 id fi te ht hv hc l a cap pg pa plen pcap pht phv phc pi pt pm ph pl w hg hG hp h1 hgi
    · exact absurd (.inr (.inr (.inl h.1))) hb
    · exact absurd (.inr (.inl h.1)) hb

end Go.Proofs.Ytfmcebmkclaafaa
