/- Law GroupAppends: for every input the call answers true; its arguments read as they did. No condition. -/
import Derived.Test.YtfmcebmkclaafaaLaw
import Derived.Test.YtfmcebmkclaafaaFew6
import Derived.Test.YtfmcebmkclaafaaGrpMath
import Derived.Test.YtfmcebmkclaafaaRefSame
namespace Go.Proofs.Ytfmcebmkclaafaa.groupAppends
open Go.ChangeShapes Go.WideShapes Go.ChangeAt Go.RowKit Go.Shelf
open Go.ChangeMaps (open_string shut_string)
set_option linter.unusedVariables false
attribute [local go_sem] Oper.semAt_some wide_fn wide_round_fn

theorem app_reads {g : GM} {p : PartC} {pl : List EntryC} (hG : isG g = true) (hl : g.l.length ≤ 100000) (hpl : pl.length = p.len) (hc : chkG g p pl = 0) (hk : p.k = 1) :
    (1 ≤ headI pl ∧ headI pl ≤ 1099511627776) ∧ pl ≠ [] ∧ pl.length ≤ 6 ∧ lastG (doG g p pl) = headI pl + pl.length - 1 ∧ entsG (doG g p pl) (headI pl) (headI pl + pl.length - 1 + 1) = (pl, 0) ∧
      entsG (doG g p pl) g.fi (headI pl) = entsG g g.fi (headI pl) ∧ (entsG g g.fi (headI pl)).2 = 0 ∧ (doG g p pl).fi = g.fi := by
  obtain ⟨hb, hgi, hz⟩ := chk_zero hc
  obtain ⟨hG2, _, _, hl2⟩ := doG_isG hG hl hpl (p := p) (pl := pl)
  obtain ⟨_, h1, h2⟩ : p.k = 1 ∧ g.fi ≤ headI pl ∧ headI pl ≤ lastG g + 1 := by
    rcases hz with h | h | h | h
    · exact h
    all_goals omega
  obtain ⟨hne, hare⟩ : p.len ≠ 0 ∧ areB 1 pl = true := by
    rcases (isB_iff p pl).1 hb with ⟨_, h | h | h | h | h | h⟩
    · exact ⟨h.2.1, h.2.2.1⟩
    all_goals omega
  have h6 := (isB_bounds hpl hb).2.2.2.1
  have hh : 1 ≤ headI pl ∧ headI pl ≤ 1099511627776 := by
    cases pl with
    | nil => simp at hpl; omega
    | cons e r => exact (entryB_bd ((areB_bd hare).2 e List.mem_cons_self)).1
  obtain ⟨⟨_, hf, _⟩, _, hd⟩ := isG_iff.1 hG
  obtain ⟨_, _, hd2⟩ := isG_iff.1 hG2
  have hD : doG g p pl = { g with l := g.l.take (headI pl - g.fi).toNat ++ pl } := by
    unfold doG; rw [if_neg (by omega), if_pos hk, btw_below hd hf]
  rw [hD] at hd2 hG2 ⊢
  unfold lastG at h2
  have htl : (g.l.take (headI pl - g.fi).toNat).length = (headI pl - g.fi).toNat := by rw [List.length_take]; omega
  have hlast : lastG { g with l := g.l.take (headI pl - g.fi).toNat ++ pl } = headI pl + pl.length - 1 := by
    unfold lastG; simp only [List.length_append, htl]; push_cast; omega
  have hlp : 0 < pl.length := by omega
  refine ⟨hh, fun h => by rw [h] at hlp; simp at hlp, by omega, hlast, ?_, ?_, ?_, rfl⟩
  · unfold entsG
    rw [if_neg (by omega), if_neg (by show ¬ headI pl < g.fi; omega), hlast, if_neg (by omega), if_neg (by omega), btw_dense hd2]
    simp only
    rw [List.take_of_length_le (by simp only [List.length_append, htl]; omega), List.drop_left' (by rw [htl])]
  · unfold entsG
    rw [if_neg (by omega), if_neg (by show ¬ g.fi < g.fi; omega), hlast, if_neg (by omega)]
    rw [if_neg (show ¬ headI pl < g.fi by omega), if_neg (show ¬ g.fi < g.fi by omega), if_neg (show ¬ lastG g + 1 < headI pl by unfold lastG; omega)]
    by_cases he : g.fi = headI pl
    · rw [if_pos he, if_pos he]
    · rw [if_neg he, if_neg he, btw_dense hd2, btw_dense hd]
      simp only
      rw [List.take_append_of_le_length (by rw [htl]; omega), List.take_take, show min (headI pl - 1 - g.fi + 1).toNat (headI pl - g.fi).toNat = (headI pl - 1 - g.fi + 1).toNat by omega]
  · unfold entsG
    rw [if_neg (show ¬ headI pl < g.fi by omega), if_neg (show ¬ g.fi < g.fi by omega), if_neg (show ¬ lastG g + 1 < headI pl by unfold lastG; omega)]
    split <;> rfl

attribute [local irreducible] wpQuiet
set_option maxRecDepth 100000 in
set_option maxHeartbeats 4000000 in
theorem app_1 (id fi te ht hv hc : Int) (l : List EntryC) (a : Option Addr) (cap : Nat) (pg pk : Int) (pa : Option Addr) (plen pcap : Nat) (pht phv phc pi pt : Int) (pm ph : Bool) (pl : List EntryC) (w : World) (hg : GoodG w ⟨id, fi, te, ht, hv, hc, l⟩ a) (hp : GoodP w (⟨pg, pk, pa, plen, pcap, pht, phv, phc, pi, pt, pm, ph⟩, pl)) (hf : fewGB l = false) : Calls Try.prog 6 #[.agg #[.int .i64 id, .int .i64 fi, .int .i64 te, .int .i64 ht, .int .i64 hv, .int .i64 hc, .slice a l.length cap], .agg #[.int .i64 pg, .int .i64 pk, .slice pa plen pcap, .int .i64 pht, .int .i64 phv, .int .i64 phc, .int .i64 pi, .int .i64 pt, .bool pm, .bool ph]] w fun e w' => e = .returned (.bool true) ∧ Below w.heap.size w w' := by
  have GK := Lib.hid group_known
  have GFG := Lib.hid (fun W (hB : Below w.heap.size w W) => fewG_any id fi te ht hv hc l a cap W (hg.2.1.below hB) (fun e he => (hg.2.2 e he).2.2))
  rw [hf] at GFG
  clear hg hp
  have hg := two_a w #[.int .i64 id, .int .i64 fi, .int .i64 te, .int .i64 ht, .int .i64 hv, .int .i64 hc, .slice a l.length cap] #[.int .i64 pg, .int .i64 pk, .slice pa plen pcap, .int .i64 pht, .int .i64 phv, .int .i64 phc, .int .i64 pi, .int .i64 pt, .bool pm, .bool ph] 26 28
  have hp := two_b w #[.int .i64 id, .int .i64 fi, .int .i64 te, .int .i64 ht, .int .i64 hv, .int .i64 hc, .slice a l.length cap] #[.int .i64 pg, .int .i64 pk, .slice pa plen pcap, .int .i64 pht, .int .i64 phv, .int .i64 phc, .int .i64 pi, .int .i64 pt, .bool pm, .bool ph] 26 28
  have hA := gp_bel w #[.int .i64 id, .int .i64 fi, .int .i64 te, .int .i64 ht, .int .i64 hv, .int .i64 hc, .slice a l.length cap] #[.int .i64 pg, .int .i64 pk, .slice pa plen pcap, .int .i64 pht, .int .i64 phv, .int .i64 phc, .int .i64 pi, .int .i64 pt, .bool pm, .bool ph] 26 28
  obtain ⟨g0, g1, g2, g3, g4, g5, g6, -⟩ := cells7 hg
  obtain ⟨p0, p1, p2, p3, p4, p5, p6, p7, p8, p9⟩ := cells10a hp
  go_enter Try.func6, Try.ntmps6
  go_wp2_with (first
    | (go_at_call 12; ((with_reducible refine (GK.out _).mono ?_); rintro e w1 ⟨rfl, hB⟩; clear g0 g1 g2 g3 g4 g5 g6; clear p0 p1 p2 p3 p4 p5 p6 p7 p8 p9; replace hA := bel2 hA hB; replace hg := (hB.block _ (heap_lt hg)).trans hg; replace hp := (hB.block _ (heap_lt hp)).trans hp; obtain ⟨g0, g1, g2, g3, g4, g5, g6, -⟩ := cells7 hg; obtain ⟨p0, p1, p2, p3, p4, p5, p6, p7, p8, p9⟩ := cells10a hp; clear hB))
    | (go_at_call 13; ((with_reducible refine (GFG.out _ hA).mono ?_); rintro e w2 ⟨rfl, hB⟩; clear g0 g1 g2 g3 g4 g5 g6; clear p0 p1 p2 p3 p4 p5 p6 p7 p8 p9; replace hA := bel2 hA hB; replace hg := (hB.block _ (heap_lt hg)).trans hg; replace hp := (hB.block _ (heap_lt hp)).trans hp; obtain ⟨g0, g1, g2, g3, g4, g5, g6, -⟩ := cells7 hg; obtain ⟨p0, p1, p2, p3, p4, p5, p6, p7, p8, p9⟩ := cells10a hp; clear hB)))
  go_ret
  exact ⟨by simp, hA⟩

set_option maxRecDepth 100000 in
set_option maxHeartbeats 4000000 in
theorem app_2 (id fi te ht hv hc : Int) (l : List EntryC) (a : Option Addr) (cap : Nat) (pg pk : Int) (pa : Option Addr) (plen pcap : Nat) (pht phv phc pi pt : Int) (pm ph : Bool) (pl : List EntryC) (w : World) (hg : GoodG w ⟨id, fi, te, ht, hv, hc, l⟩ a) (hp : GoodP w (⟨pg, pk, pa, plen, pcap, pht, phv, phc, pi, pt, pm, ph⟩, pl)) (hf : fewGB l = true) (hf2 : few6B pl = false) : Calls Try.prog 6 #[.agg #[.int .i64 id, .int .i64 fi, .int .i64 te, .int .i64 ht, .int .i64 hv, .int .i64 hc, .slice a l.length cap], .agg #[.int .i64 pg, .int .i64 pk, .slice pa plen pcap, .int .i64 pht, .int .i64 phv, .int .i64 phc, .int .i64 pi, .int .i64 pt, .bool pm, .bool ph]] w fun e w' => e = .returned (.bool true) ∧ Below w.heap.size w w' := by
  have GK := Lib.hid group_known
  have GFG := Lib.hid (fun W (hB : Below w.heap.size w W) => fewG_any id fi te ht hv hc l a cap W (hg.2.1.below hB) (fun e he => (hg.2.2 e he).2.2))
  have GFP := Lib.hid (fun W (hB : Below w.heap.size w W) => few6_any ⟨pg, pk, pa, plen, pcap, pht, phv, phc, pi, pt, pm, ph⟩ pl W hp.2.1 (hp.2.2.1.below hB) (fun e he => (hp.2.2.2 e he).2.2))
  dsimp only [PartC.val, PartC.arr] at GFP
  rw [hf] at GFG
  rw [hf2] at GFP
  clear hg hp
  have hg := two_a w #[.int .i64 id, .int .i64 fi, .int .i64 te, .int .i64 ht, .int .i64 hv, .int .i64 hc, .slice a l.length cap] #[.int .i64 pg, .int .i64 pk, .slice pa plen pcap, .int .i64 pht, .int .i64 phv, .int .i64 phc, .int .i64 pi, .int .i64 pt, .bool pm, .bool ph] 26 28
  have hp := two_b w #[.int .i64 id, .int .i64 fi, .int .i64 te, .int .i64 ht, .int .i64 hv, .int .i64 hc, .slice a l.length cap] #[.int .i64 pg, .int .i64 pk, .slice pa plen pcap, .int .i64 pht, .int .i64 phv, .int .i64 phc, .int .i64 pi, .int .i64 pt, .bool pm, .bool ph] 26 28
  have hA := gp_bel w #[.int .i64 id, .int .i64 fi, .int .i64 te, .int .i64 ht, .int .i64 hv, .int .i64 hc, .slice a l.length cap] #[.int .i64 pg, .int .i64 pk, .slice pa plen pcap, .int .i64 pht, .int .i64 phv, .int .i64 phc, .int .i64 pi, .int .i64 pt, .bool pm, .bool ph] 26 28
  obtain ⟨g0, g1, g2, g3, g4, g5, g6, -⟩ := cells7 hg
  obtain ⟨p0, p1, p2, p3, p4, p5, p6, p7, p8, p9⟩ := cells10a hp
  go_enter Try.func6, Try.ntmps6
  go_wp2_with (first
    | (go_at_call 12; ((with_reducible refine (GK.out _).mono ?_); rintro e w1 ⟨rfl, hB⟩; clear g0 g1 g2 g3 g4 g5 g6; clear p0 p1 p2 p3 p4 p5 p6 p7 p8 p9; replace hA := bel2 hA hB; replace hg := (hB.block _ (heap_lt hg)).trans hg; replace hp := (hB.block _ (heap_lt hp)).trans hp; obtain ⟨g0, g1, g2, g3, g4, g5, g6, -⟩ := cells7 hg; obtain ⟨p0, p1, p2, p3, p4, p5, p6, p7, p8, p9⟩ := cells10a hp; clear hB))
    | (go_at_call 13; ((with_reducible refine (GFG.out _ hA).mono ?_); rintro e w2 ⟨rfl, hB⟩; clear g0 g1 g2 g3 g4 g5 g6; clear p0 p1 p2 p3 p4 p5 p6 p7 p8 p9; replace hA := bel2 hA hB; replace hg := (hB.block _ (heap_lt hg)).trans hg; replace hp := (hB.block _ (heap_lt hp)).trans hp; obtain ⟨g0, g1, g2, g3, g4, g5, g6, -⟩ := cells7 hg; obtain ⟨p0, p1, p2, p3, p4, p5, p6, p7, p8, p9⟩ := cells10a hp; clear hB))
    | (go_at_call 14; ((with_reducible refine (GFP.out _ hA).mono ?_); rintro e w3 ⟨rfl, hB⟩; clear g0 g1 g2 g3 g4 g5 g6; clear p0 p1 p2 p3 p4 p5 p6 p7 p8 p9; replace hA := bel2 hA hB; replace hg := (hB.block _ (heap_lt hg)).trans hg; replace hp := (hB.block _ (heap_lt hp)).trans hp; obtain ⟨g0, g1, g2, g3, g4, g5, g6, -⟩ := cells7 hg; obtain ⟨p0, p1, p2, p3, p4, p5, p6, p7, p8, p9⟩ := cells10a hp; clear hB)))
  go_ret
  exact ⟨by simp, hA⟩

set_option maxRecDepth 100000 in
set_option maxHeartbeats 4000000 in
theorem app_3 (id fi te ht hv hc : Int) (l : List EntryC) (a : Option Addr) (cap : Nat) (pg pk : Int) (pa : Option Addr) (plen pcap : Nat) (pht phv phc pi pt : Int) (pm ph : Bool) (pl : List EntryC) (w : World) (hg : GoodG w ⟨id, fi, te, ht, hv, hc, l⟩ a) (hp : GoodP w (⟨pg, pk, pa, plen, pcap, pht, phv, phc, pi, pt, pm, ph⟩, pl)) (hf : fewGB l = true) (hf2 : few6B pl = true) (hG : isG ⟨id, fi, te, ht, hv, hc, l⟩ = false) : Calls Try.prog 6 #[.agg #[.int .i64 id, .int .i64 fi, .int .i64 te, .int .i64 ht, .int .i64 hv, .int .i64 hc, .slice a l.length cap], .agg #[.int .i64 pg, .int .i64 pk, .slice pa plen pcap, .int .i64 pht, .int .i64 phv, .int .i64 phc, .int .i64 pi, .int .i64 pt, .bool pm, .bool ph]] w fun e w' => e = .returned (.bool true) ∧ Below w.heap.size w w' := by
  have GK := Lib.hid group_known
  have GFG := Lib.hid (fun W (hB : Below w.heap.size w W) => fewG_any id fi te ht hv hc l a cap W (hg.2.1.below hB) (fun e he => (hg.2.2 e he).2.2))
  have GFP := Lib.hid (fun W (hB : Below w.heap.size w W) => few6_any ⟨pg, pk, pa, plen, pcap, pht, phv, phc, pi, pt, pm, ph⟩ pl W hp.2.1 (hp.2.2.1.below hB) (fun e he => (hp.2.2.2 e he).2.2))
  dsimp only [PartC.val, PartC.arr] at GFP
  obtain ⟨hGH, h30⟩ := hg.has hf
  have GI := Lib.hid (fun W (hB : Below w.heap.size w W) => grpIs_any id fi te ht hv hc l a cap W (hGH.below hB))
  rw [hf] at GFG
  rw [hf2] at GFP
  rw [hG] at GI
  clear hGH
  clear hg hp
  have hg := two_a w #[.int .i64 id, .int .i64 fi, .int .i64 te, .int .i64 ht, .int .i64 hv, .int .i64 hc, .slice a l.length cap] #[.int .i64 pg, .int .i64 pk, .slice pa plen pcap, .int .i64 pht, .int .i64 phv, .int .i64 phc, .int .i64 pi, .int .i64 pt, .bool pm, .bool ph] 26 28
  have hp := two_b w #[.int .i64 id, .int .i64 fi, .int .i64 te, .int .i64 ht, .int .i64 hv, .int .i64 hc, .slice a l.length cap] #[.int .i64 pg, .int .i64 pk, .slice pa plen pcap, .int .i64 pht, .int .i64 phv, .int .i64 phc, .int .i64 pi, .int .i64 pt, .bool pm, .bool ph] 26 28
  have hA := gp_bel w #[.int .i64 id, .int .i64 fi, .int .i64 te, .int .i64 ht, .int .i64 hv, .int .i64 hc, .slice a l.length cap] #[.int .i64 pg, .int .i64 pk, .slice pa plen pcap, .int .i64 pht, .int .i64 phv, .int .i64 phc, .int .i64 pi, .int .i64 pt, .bool pm, .bool ph] 26 28
  obtain ⟨g0, g1, g2, g3, g4, g5, g6, -⟩ := cells7 hg
  obtain ⟨p0, p1, p2, p3, p4, p5, p6, p7, p8, p9⟩ := cells10a hp
  go_enter Try.func6, Try.ntmps6
  go_wp2_with (first
    | (go_at_call 12; ((with_reducible refine (GK.out _).mono ?_); rintro e w1 ⟨rfl, hB⟩; clear g0 g1 g2 g3 g4 g5 g6; clear p0 p1 p2 p3 p4 p5 p6 p7 p8 p9; replace hA := bel2 hA hB; replace hg := (hB.block _ (heap_lt hg)).trans hg; replace hp := (hB.block _ (heap_lt hp)).trans hp; obtain ⟨g0, g1, g2, g3, g4, g5, g6, -⟩ := cells7 hg; obtain ⟨p0, p1, p2, p3, p4, p5, p6, p7, p8, p9⟩ := cells10a hp; clear hB))
    | (go_at_call 13; ((with_reducible refine (GFG.out _ hA).mono ?_); rintro e w2 ⟨rfl, hB⟩; clear g0 g1 g2 g3 g4 g5 g6; clear p0 p1 p2 p3 p4 p5 p6 p7 p8 p9; replace hA := bel2 hA hB; replace hg := (hB.block _ (heap_lt hg)).trans hg; replace hp := (hB.block _ (heap_lt hp)).trans hp; obtain ⟨g0, g1, g2, g3, g4, g5, g6, -⟩ := cells7 hg; obtain ⟨p0, p1, p2, p3, p4, p5, p6, p7, p8, p9⟩ := cells10a hp; clear hB))
    | (go_at_call 14; ((with_reducible refine (GFP.out _ hA).mono ?_); rintro e w3 ⟨rfl, hB⟩; clear g0 g1 g2 g3 g4 g5 g6; clear p0 p1 p2 p3 p4 p5 p6 p7 p8 p9; replace hA := bel2 hA hB; replace hg := (hB.block _ (heap_lt hg)).trans hg; replace hp := (hB.block _ (heap_lt hp)).trans hp; obtain ⟨g0, g1, g2, g3, g4, g5, g6, -⟩ := cells7 hg; obtain ⟨p0, p1, p2, p3, p4, p5, p6, p7, p8, p9⟩ := cells10a hp; clear hB))
    | (go_at_call 15; ((with_reducible refine (GI.out _ hA).mono ?_); rintro e w4 ⟨rfl, hB⟩; clear g0 g1 g2 g3 g4 g5 g6; clear p0 p1 p2 p3 p4 p5 p6 p7 p8 p9; replace hA := bel2 hA hB; replace hg := (hB.block _ (heap_lt hg)).trans hg; replace hp := (hB.block _ (heap_lt hp)).trans hp; obtain ⟨g0, g1, g2, g3, g4, g5, g6, -⟩ := cells7 hg; obtain ⟨p0, p1, p2, p3, p4, p5, p6, p7, p8, p9⟩ := cells10a hp; clear hB)))
  go_ret
  exact ⟨by simp, hA⟩

set_option maxRecDepth 100000 in
set_option maxHeartbeats 4000000 in
theorem app_4 (id fi te ht hv hc : Int) (l : List EntryC) (a : Option Addr) (cap : Nat) (pg pk : Int) (pa : Option Addr) (plen pcap : Nat) (pht phv phc pi pt : Int) (pm ph : Bool) (pl : List EntryC) (w : World) (hg : GoodG w ⟨id, fi, te, ht, hv, hc, l⟩ a) (hp : GoodP w (⟨pg, pk, pa, plen, pcap, pht, phv, phc, pi, pt, pm, ph⟩, pl)) (hf : fewGB l = true) (hf2 : few6B pl = true) (hG : isG ⟨id, fi, te, ht, hv, hc, l⟩ = true) (hk : pk ≠ 1) : Calls Try.prog 6 #[.agg #[.int .i64 id, .int .i64 fi, .int .i64 te, .int .i64 ht, .int .i64 hv, .int .i64 hc, .slice a l.length cap], .agg #[.int .i64 pg, .int .i64 pk, .slice pa plen pcap, .int .i64 pht, .int .i64 phv, .int .i64 phc, .int .i64 pi, .int .i64 pt, .bool pm, .bool ph]] w fun e w' => e = .returned (.bool true) ∧ Below w.heap.size w w' := by
  have GK := Lib.hid group_known
  have GFG := Lib.hid (fun W (hB : Below w.heap.size w W) => fewG_any id fi te ht hv hc l a cap W (hg.2.1.below hB) (fun e he => (hg.2.2 e he).2.2))
  have GFP := Lib.hid (fun W (hB : Below w.heap.size w W) => few6_any ⟨pg, pk, pa, plen, pcap, pht, phv, phc, pi, pt, pm, ph⟩ pl W hp.2.1 (hp.2.2.1.below hB) (fun e he => (hp.2.2.2 e he).2.2))
  dsimp only [PartC.val, PartC.arr] at GFP
  obtain ⟨hGH, h30⟩ := hg.has hf
  have GI := Lib.hid (fun W (hB : Below w.heap.size w W) => grpIs_any id fi te ht hv hc l a cap W (hGH.below hB))
  rw [hf] at GFG
  rw [hf2] at GFP
  rw [hG] at GI
  have tk : (pk != 1) = true := by rw [bne_iff_ne]; exact hk
  have tk2 : (pk == 1) = false := by rw [beq_eq_false_iff_ne]; exact hk
  clear hGH hk
  clear hg hp
  have hg := two_a w #[.int .i64 id, .int .i64 fi, .int .i64 te, .int .i64 ht, .int .i64 hv, .int .i64 hc, .slice a l.length cap] #[.int .i64 pg, .int .i64 pk, .slice pa plen pcap, .int .i64 pht, .int .i64 phv, .int .i64 phc, .int .i64 pi, .int .i64 pt, .bool pm, .bool ph] 26 28
  have hp := two_b w #[.int .i64 id, .int .i64 fi, .int .i64 te, .int .i64 ht, .int .i64 hv, .int .i64 hc, .slice a l.length cap] #[.int .i64 pg, .int .i64 pk, .slice pa plen pcap, .int .i64 pht, .int .i64 phv, .int .i64 phc, .int .i64 pi, .int .i64 pt, .bool pm, .bool ph] 26 28
  have hA := gp_bel w #[.int .i64 id, .int .i64 fi, .int .i64 te, .int .i64 ht, .int .i64 hv, .int .i64 hc, .slice a l.length cap] #[.int .i64 pg, .int .i64 pk, .slice pa plen pcap, .int .i64 pht, .int .i64 phv, .int .i64 phc, .int .i64 pi, .int .i64 pt, .bool pm, .bool ph] 26 28
  obtain ⟨g0, g1, g2, g3, g4, g5, g6, -⟩ := cells7 hg
  obtain ⟨p0, p1, p2, p3, p4, p5, p6, p7, p8, p9⟩ := cells10a hp
  go_enter Try.func6, Try.ntmps6
  go_wp2_with (first
    | (go_at_call 12; ((with_reducible refine (GK.out _).mono ?_); rintro e w1 ⟨rfl, hB⟩; clear g0 g1 g2 g3 g4 g5 g6; clear p0 p1 p2 p3 p4 p5 p6 p7 p8 p9; replace hA := bel2 hA hB; replace hg := (hB.block _ (heap_lt hg)).trans hg; replace hp := (hB.block _ (heap_lt hp)).trans hp; obtain ⟨g0, g1, g2, g3, g4, g5, g6, -⟩ := cells7 hg; obtain ⟨p0, p1, p2, p3, p4, p5, p6, p7, p8, p9⟩ := cells10a hp; clear hB))
    | (go_at_call 13; ((with_reducible refine (GFG.out _ hA).mono ?_); rintro e w2 ⟨rfl, hB⟩; clear g0 g1 g2 g3 g4 g5 g6; clear p0 p1 p2 p3 p4 p5 p6 p7 p8 p9; replace hA := bel2 hA hB; replace hg := (hB.block _ (heap_lt hg)).trans hg; replace hp := (hB.block _ (heap_lt hp)).trans hp; obtain ⟨g0, g1, g2, g3, g4, g5, g6, -⟩ := cells7 hg; obtain ⟨p0, p1, p2, p3, p4, p5, p6, p7, p8, p9⟩ := cells10a hp; clear hB))
    | (go_at_call 14; ((with_reducible refine (GFP.out _ hA).mono ?_); rintro e w3 ⟨rfl, hB⟩; clear g0 g1 g2 g3 g4 g5 g6; clear p0 p1 p2 p3 p4 p5 p6 p7 p8 p9; replace hA := bel2 hA hB; replace hg := (hB.block _ (heap_lt hg)).trans hg; replace hp := (hB.block _ (heap_lt hp)).trans hp; obtain ⟨g0, g1, g2, g3, g4, g5, g6, -⟩ := cells7 hg; obtain ⟨p0, p1, p2, p3, p4, p5, p6, p7, p8, p9⟩ := cells10a hp; clear hB))
    | (go_at_call 15; ((with_reducible refine (GI.out _ hA).mono ?_); rintro e w4 ⟨rfl, hB⟩; clear g0 g1 g2 g3 g4 g5 g6; clear p0 p1 p2 p3 p4 p5 p6 p7 p8 p9; replace hA := bel2 hA hB; replace hg := (hB.block _ (heap_lt hg)).trans hg; replace hp := (hB.block _ (heap_lt hp)).trans hp; obtain ⟨g0, g1, g2, g3, g4, g5, g6, -⟩ := cells7 hg; obtain ⟨p0, p1, p2, p3, p4, p5, p6, p7, p8, p9⟩ := cells10a hp; clear hB)))
  go_ret
  exact ⟨by simp, hA⟩

set_option maxRecDepth 100000 in
set_option maxHeartbeats 4000000 in
theorem app_5 (id fi te ht hv hc : Int) (l : List EntryC) (a : Option Addr) (cap : Nat) (pg pk : Int) (pa : Option Addr) (plen pcap : Nat) (pht phv phc pi pt : Int) (pm ph : Bool) (pl : List EntryC) (w : World) (hg : GoodG w ⟨id, fi, te, ht, hv, hc, l⟩ a) (hp : GoodP w (⟨pg, pk, pa, plen, pcap, pht, phv, phc, pi, pt, pm, ph⟩, pl)) (hf : fewGB l = true) (hf2 : few6B pl = true) (hG : isG ⟨id, fi, te, ht, hv, hc, l⟩ = true) (hk : pk = 1) (hc9 : chkG ⟨id, fi, te, ht, hv, hc, l⟩ ⟨pg, pk, pa, plen, pcap, pht, phv, phc, pi, pt, pm, ph⟩ pl ≠ 0) : Calls Try.prog 6 #[.agg #[.int .i64 id, .int .i64 fi, .int .i64 te, .int .i64 ht, .int .i64 hv, .int .i64 hc, .slice a l.length cap], .agg #[.int .i64 pg, .int .i64 pk, .slice pa plen pcap, .int .i64 pht, .int .i64 phv, .int .i64 phc, .int .i64 pi, .int .i64 pt, .bool pm, .bool ph]] w fun e w' => e = .returned (.bool true) ∧ Below w.heap.size w w' := by
  have GK := Lib.hid group_known
  have GFG := Lib.hid (fun W (hB : Below w.heap.size w W) => fewG_any id fi te ht hv hc l a cap W (hg.2.1.below hB) (fun e he => (hg.2.2 e he).2.2))
  have tq : (pk != 1) = false := by rw [bne_eq_false_iff_eq]; exact hk
  have tq2 : (pk == 1) = true := by rw [beq_iff_eq]; exact hk
  have GFP := Lib.hid (fun W (hB : Below w.heap.size w W) => few6_any ⟨pg, pk, pa, plen, pcap, pht, phv, phc, pi, pt, pm, ph⟩ pl W hp.2.1 (hp.2.2.1.below hB) (fun e he => (hp.2.2.2 e he).2.2))
  dsimp only [PartC.val, PartC.arr] at GFP
  obtain ⟨hGH, h30⟩ := hg.has hf
  have GI := Lib.hid (fun W (hB : Below w.heap.size w W) => grpIs_any id fi te ht hv hc l a cap W (hGH.below hB))
  have hPE := hp.has hf2
  have GD := Lib.hid (fun W (hB : Below w.heap.size w W) => do_any id fi te ht hv hc l a cap pg pk pa plen pcap pht phv phc pi pt pm ph pl W (hGH.below hB) hG (hPE.below hB) (by dsimp only at h30; omega))
  rw [hf] at GFG
  rw [hf2] at GFP
  rw [hG] at GI
  generalize doG ⟨id, fi, te, ht, hv, hc, l⟩ ⟨pg, pk, pa, plen, pcap, pht, phv, phc, pi, pt, pm, ph⟩ pl = H at *
  generalize chkG ⟨id, fi, te, ht, hv, hc, l⟩ ⟨pg, pk, pa, plen, pcap, pht, phv, phc, pi, pt, pm, ph⟩ pl = c at *
  have tk : (c != 0) = true := by rw [bne_iff_ne]; exact hc9
  have tk2 : (c == 0) = false := by rw [beq_eq_false_iff_ne]; exact hc9
  clear hGH hc9 hPE hk
  clear hg hp
  have hg := two_a w #[.int .i64 id, .int .i64 fi, .int .i64 te, .int .i64 ht, .int .i64 hv, .int .i64 hc, .slice a l.length cap] #[.int .i64 pg, .int .i64 pk, .slice pa plen pcap, .int .i64 pht, .int .i64 phv, .int .i64 phc, .int .i64 pi, .int .i64 pt, .bool pm, .bool ph] 26 28
  have hp := two_b w #[.int .i64 id, .int .i64 fi, .int .i64 te, .int .i64 ht, .int .i64 hv, .int .i64 hc, .slice a l.length cap] #[.int .i64 pg, .int .i64 pk, .slice pa plen pcap, .int .i64 pht, .int .i64 phv, .int .i64 phc, .int .i64 pi, .int .i64 pt, .bool pm, .bool ph] 26 28
  have hA := gp_bel w #[.int .i64 id, .int .i64 fi, .int .i64 te, .int .i64 ht, .int .i64 hv, .int .i64 hc, .slice a l.length cap] #[.int .i64 pg, .int .i64 pk, .slice pa plen pcap, .int .i64 pht, .int .i64 phv, .int .i64 phc, .int .i64 pi, .int .i64 pt, .bool pm, .bool ph] 26 28
  obtain ⟨g0, g1, g2, g3, g4, g5, g6, -⟩ := cells7 hg
  obtain ⟨p0, p1, p2, p3, p4, p5, p6, p7, p8, p9⟩ := cells10a hp
  go_enter Try.func6, Try.ntmps6
  go_wp2_with (first
    | (go_at_call 12; ((with_reducible refine (GK.out _).mono ?_); rintro e w1 ⟨rfl, hB⟩; clear g0 g1 g2 g3 g4 g5 g6; clear p0 p1 p2 p3 p4 p5 p6 p7 p8 p9; replace hA := bel2 hA hB; replace hg := (hB.block _ (heap_lt hg)).trans hg; replace hp := (hB.block _ (heap_lt hp)).trans hp; obtain ⟨g0, g1, g2, g3, g4, g5, g6, -⟩ := cells7 hg; obtain ⟨p0, p1, p2, p3, p4, p5, p6, p7, p8, p9⟩ := cells10a hp; clear hB))
    | (go_at_call 13; ((with_reducible refine (GFG.out _ hA).mono ?_); rintro e w2 ⟨rfl, hB⟩; clear g0 g1 g2 g3 g4 g5 g6; clear p0 p1 p2 p3 p4 p5 p6 p7 p8 p9; replace hA := bel2 hA hB; replace hg := (hB.block _ (heap_lt hg)).trans hg; replace hp := (hB.block _ (heap_lt hp)).trans hp; obtain ⟨g0, g1, g2, g3, g4, g5, g6, -⟩ := cells7 hg; obtain ⟨p0, p1, p2, p3, p4, p5, p6, p7, p8, p9⟩ := cells10a hp; clear hB))
    | (go_at_call 14; ((with_reducible refine (GFP.out _ hA).mono ?_); rintro e w3 ⟨rfl, hB⟩; clear g0 g1 g2 g3 g4 g5 g6; clear p0 p1 p2 p3 p4 p5 p6 p7 p8 p9; replace hA := bel2 hA hB; replace hg := (hB.block _ (heap_lt hg)).trans hg; replace hp := (hB.block _ (heap_lt hp)).trans hp; obtain ⟨g0, g1, g2, g3, g4, g5, g6, -⟩ := cells7 hg; obtain ⟨p0, p1, p2, p3, p4, p5, p6, p7, p8, p9⟩ := cells10a hp; clear hB))
    | (go_at_call 15; ((with_reducible refine (GI.out _ hA).mono ?_); rintro e w4 ⟨rfl, hB⟩; clear g0 g1 g2 g3 g4 g5 g6; clear p0 p1 p2 p3 p4 p5 p6 p7 p8 p9; replace hA := bel2 hA hB; replace hg := (hB.block _ (heap_lt hg)).trans hg; replace hp := (hB.block _ (heap_lt hp)).trans hp; obtain ⟨g0, g1, g2, g3, g4, g5, g6, -⟩ := cells7 hg; obtain ⟨p0, p1, p2, p3, p4, p5, p6, p7, p8, p9⟩ := cells10a hp; clear hB))
    | (go_at_call 22; ((with_reducible refine (GD.out _ hA).mono ?_); rintro e w5 ⟨ha, hcp, rfl, hGHH, hB⟩; clear g0 g1 g2 g3 g4 g5 g6; clear p0 p1 p2 p3 p4 p5 p6 p7 p8 p9; replace hA := bel2 hA hB; replace hg := (hB.block _ (heap_lt hg)).trans hg; replace hp := (hB.block _ (heap_lt hp)).trans hp; clear hB; have hB := bel_alloc (Below.refl w5.heap.size w5) (.cells #[.int .i64 H.id, .int .i64 H.fi, .int .i64 H.te, .int .i64 H.ht, .int .i64 H.hv, .int .i64 H.hc, .slice ha H.l.length hcp] 26); have hh := World.alloc_heap_new w5 (.cells #[.int .i64 H.id, .int .i64 H.fi, .int .i64 H.te, .int .i64 H.ht, .int .i64 H.hv, .int .i64 H.hc, .slice ha H.l.length hcp] 26); replace hGHH := hGHH.below hB; replace hA := bel2 hA hB; replace hg := (hB.block _ (heap_lt hg)).trans hg; replace hp := (hB.block _ (heap_lt hp)).trans hp; obtain ⟨g0, g1, g2, g3, g4, g5, g6, -⟩ := cells7 hg; obtain ⟨p0, p1, p2, p3, p4, p5, p6, p7, p8, p9⟩ := cells10a hp; obtain ⟨h0, h1, h2, h3, h4, h5, h6, -⟩ := cells7 hh; clear hB)))
  go_ret
  exact ⟨by simp, hA⟩

theorem zeroP_sameB (x y : Option Addr) (n m c d : Nat) (l : List EntryC) : sameB ⟨0, 0, x, n, c, 0, 0, 0, 0, 0, false, false⟩ ⟨0, 0, y, m, d, 0, 0, 0, 0, 0, false, false⟩ l l = true := by simp [sameB]
set_option maxRecDepth 100000 in
set_option maxHeartbeats 4000000 in
theorem app_6 (id fi te ht hv hc : Int) (l : List EntryC) (a : Option Addr) (cap : Nat) (pg pk : Int) (pa : Option Addr) (plen pcap : Nat) (pht phv phc pi pt : Int) (pm ph : Bool) (pl : List EntryC) (w : World) (hg : GoodG w ⟨id, fi, te, ht, hv, hc, l⟩ a) (hp : GoodP w (⟨pg, pk, pa, plen, pcap, pht, phv, phc, pi, pt, pm, ph⟩, pl)) (hf : fewGB l = true) (hf2 : few6B pl = true) (hG : isG ⟨id, fi, te, ht, hv, hc, l⟩ = true) (hk : pk = 1) (hc9 : chkG ⟨id, fi, te, ht, hv, hc, l⟩ ⟨pg, pk, pa, plen, pcap, pht, phv, phc, pi, pt, pm, ph⟩ pl = 0) : Calls Try.prog 6 #[.agg #[.int .i64 id, .int .i64 fi, .int .i64 te, .int .i64 ht, .int .i64 hv, .int .i64 hc, .slice a l.length cap], .agg #[.int .i64 pg, .int .i64 pk, .slice pa plen pcap, .int .i64 pht, .int .i64 phv, .int .i64 phc, .int .i64 pi, .int .i64 pt, .bool pm, .bool ph]] w fun e w' => e = .returned (.bool true) ∧ Below w.heap.size w w' := by
  have GK := Lib.hid group_known
  have GFG := Lib.hid (fun W (hB : Below w.heap.size w W) => fewG_any id fi te ht hv hc l a cap W (hg.2.1.below hB) (fun e he => (hg.2.2 e he).2.2))
  have tq : (pk != 1) = false := by rw [bne_eq_false_iff_eq]; exact hk
  have tq2 : (pk == 1) = true := by rw [beq_iff_eq]; exact hk
  have GFP := Lib.hid (fun W (hB : Below w.heap.size w W) => few6_any ⟨pg, pk, pa, plen, pcap, pht, phv, phc, pi, pt, pm, ph⟩ pl W hp.2.1 (hp.2.2.1.below hB) (fun e he => (hp.2.2.2 e he).2.2))
  dsimp only [PartC.val, PartC.arr] at GFP
  obtain ⟨hGH, h30⟩ := hg.has hf
  have GI := Lib.hid (fun W (hB : Below w.heap.size w W) => grpIs_any id fi te ht hv hc l a cap W (hGH.below hB))
  have hPE := hp.has hf2
  have GD := Lib.hid (fun W (hB : Below w.heap.size w W) => do_any id fi te ht hv hc l a cap pg pk pa plen pcap pht phv phc pi pt pm ph pl W (hGH.below hB) hG (hPE.below hB) (by dsimp only at h30; omega))
  rw [hf] at GFG
  rw [hf2] at GFP
  rw [hG] at GI
  obtain ⟨hh1, hne, hp6, hlast, hr1, hr2, hr3, hfi⟩ := app_reads hG (by dsimp only at h30 ⊢; omega) hPE.1 hc9 hk
  obtain ⟨hGX, -, -, hlX⟩ := doG_isG hG (by dsimp only at h30 ⊢; omega) hPE.1 (p := ⟨pg, pk, pa, plen, pcap, pht, phv, phc, pi, pt, pm, ph⟩) (pl := pl)
  rw [hc9] at GD
  have hplen : pl.length = plen := hPE.1
  have hprow : RowV w pa plen 3 (entryCells pl) := hPE.2.2
  obtain rfl : plen = pl.length := hplen.symm
  dsimp only at h30 hlX hfi
  have hp6 : pl.length ≤ 6 := hp6
  have GEG := Lib.hid (fun W (hB : Below w.heap.size w W) => ents_any id fi te ht hv hc l a cap fi (headI pl) W (hGH.below hB) hG (by omega))
  dsimp only at hr2 hr3
  have hlp : 0 < pl.length := by
    rcases Nat.eq_zero_or_pos pl.length with h | h
    · exact absurd (List.eq_nil_of_length_eq_zero h) hne
    · exact h
  obtain ⟨pb, po, rfl, hbw, hx⟩ := hprow.2.2 (by omega)
  have hd0 : w.cell? ⟨pb, po, none⟩ = some (.int .i64 (headI pl)) := by
    have := (entry_at hbw (Below.refl w.heap.size w) hx (k := 0) hlp).1
    cases pl with
    | nil => simp at hlp
    | cons e r => simpa [headI] using this
  have HD0 := Lib.hid (fun W (hB : Below w.heap.size w W) => (hB.cell (p := ⟨pb, po, none⟩) hbw).trans hd0)
  generalize hHe : doG ⟨id, fi, te, ht, hv, hc, l⟩ ⟨pg, pk, some ⟨pb, po, none⟩, pl.length, pcap, pht, phv, phc, pi, pt, pm, ph⟩ pl = H at *
  have hre : (entsG H fi (headI pl)).2 = 0 := by rw [hr2]; exact hr3
  have GES := Lib.hid (fun W xa xc (h : RowV W xa pl.length 3 (entryCells pl)) (hB : Below w.heap.size w W) => (show Gives Try.prog 32 #[.agg #[.int .i64 0, .int .i64 0, .slice xa pl.length xc, .int .i64 0, .int .i64 0, .int .i64 0, .int .i64 0, .int .i64 0, .bool false, .bool false], .agg #[.int .i64 0, .int .i64 0, .slice (some ⟨pb, po, none⟩) pl.length pcap, .int .i64 0, .int .i64 0, .int .i64 0, .int .i64 0, .int .i64 0, .bool false, .bool false]] W (.bool true) from by have := refSame_any ⟨0, 0, xa, pl.length, xc, 0, 0, 0, 0, 0, false, false⟩ ⟨0, 0, some ⟨pb, po, none⟩, pl.length, pcap, 0, 0, 0, 0, 0, false, false⟩ pl pl W ⟨rfl, by show pl.length < 1000000; omega, h⟩ ((hPE.below hB)); rwa [zeroP_sameB] at this))
  have GES2 := Lib.hid (fun W ya yc za zc (Y : List EntryC) (hy : Y.length ≤ 100) (h : RowV W ya Y.length 3 (entryCells Y)) (h2 : RowV W za Y.length 3 (entryCells Y)) => (show Gives Try.prog 32 #[.agg #[.int .i64 0, .int .i64 0, .slice ya Y.length yc, .int .i64 0, .int .i64 0, .int .i64 0, .int .i64 0, .int .i64 0, .bool false, .bool false], .agg #[.int .i64 0, .int .i64 0, .slice za Y.length zc, .int .i64 0, .int .i64 0, .int .i64 0, .int .i64 0, .int .i64 0, .bool false, .bool false]] W (.bool true) from by have := refSame_any ⟨0, 0, ya, Y.length, yc, 0, 0, 0, 0, 0, false, false⟩ ⟨0, 0, za, Y.length, zc, 0, 0, 0, 0, 0, false, false⟩ Y Y W ⟨rfl, by show Y.length < 1000000; omega, h⟩ ⟨rfl, by show Y.length < 1000000; omega, h2⟩; rwa [zeroP_sameB] at this))
  have hYl : (entsG ⟨id, fi, te, ht, hv, hc, l⟩ fi (headI pl)).1.length ≤ 100 := by
    unfold entsG
    split
    · simp
    · split
      · simp
      · split
        · simp
        · split
          · simp
          · exact Nat.le_trans (btw_len _ _ _) (by show l.length ≤ 100; omega)
  have hEX : entsG H fi (headI pl) = ((entsG ⟨id, fi, te, ht, hv, hc, l⟩ fi (headI pl)).1, 0) := by rw [hr2, ← hr3]
  rw [hr3] at GEG
  generalize (entsG ⟨id, fi, te, ht, hv, hc, l⟩ fi (headI pl)).1 = Y at *
  obtain ⟨fI, hfI⟩ : ∃ fI, fI = headI pl := ⟨_, rfl⟩
  rw [← hfI] at hh1 hlast hr1 hr2 hr3 hEX GEG HD0
  have hH7 : H.l.length ≤ 1000 := by omega
  have GLH := Lib.hid (fun W x c (h : HasG W x H) => (show Gives Try.prog 25 #[.agg #[.int .i64 H.id, .int .i64 H.fi, .int .i64 H.te, .int .i64 H.ht, .int .i64 H.hv, .int .i64 H.hc, .slice x H.l.length c]] W (.int .i64 (fI + pl.length - 1)) from by have := last_any H.id H.fi H.te H.ht H.hv H.hc H.l x c W h hGX; rw [show H.fi - 1 + (H.l.length : Int) = fI + pl.length - 1 from hlast] at this; exact this))
  rw [show fI + (pl.length : Int) - 1 + 1 = fI + pl.length by omega] at hr1
  have GE1 := Lib.hid (fun W x c (h : HasG W x H) => (show Calls Try.prog 29 #[.agg #[.int .i64 H.id, .int .i64 H.fi, .int .i64 H.te, .int .i64 H.ht, .int .i64 H.hv, .int .i64 H.hc, .slice x H.l.length c], .int .i64 fI, .int .i64 (fI + pl.length)] W (RowPost W pl 0) from by have := ents_any H.id H.fi H.te H.ht H.hv H.hc H.l x c fI (fI + pl.length) W h hGX hH7; rwa [show entsG ⟨H.id, H.fi, H.te, H.ht, H.hv, H.hc, H.l⟩ fI (fI + pl.length) = (pl, 0) from hr1] at this))
  have GE2 := Lib.hid (fun W x c (h : HasG W x H) => (show Calls Try.prog 29 #[.agg #[.int .i64 H.id, .int .i64 H.fi, .int .i64 H.te, .int .i64 H.ht, .int .i64 H.hv, .int .i64 H.hc, .slice x H.l.length c], .int .i64 H.fi, .int .i64 fI] W (RowPost W Y 0) from by have := ents_any H.id H.fi H.te H.ht H.hv H.hc H.l x c H.fi fI W h hGX hH7; rwa [show entsG ⟨H.id, H.fi, H.te, H.ht, H.hv, H.hc, H.l⟩ H.fi fI = (Y, 0) from by rw [← hEX, ← hfi]] at this))
  have hn7 : fI + (pl.length : Int) ≤ 9223372036854775807 := by omega
  have hwr : IntKind.i64.wrap (fI + (pl.length : Int)) = fI + (pl.length : Int) := IntWalk.i64_in _ (by omega)
  have hn8 : (1 : Int) ≤ fI + (pl.length : Int) - 1 := by omega
  have hp0 : (0 : Int) < (pl.length : Int) := by omega
  have hp1 : 0 < pl.length := by omega
  have tpl : ((pl.length : Int) == 0) = false := by rw [beq_eq_false_iff_ne]; omega
  have hwr3 : IntKind.i64.wrap (fI + (pl.length : Int) - 1) = fI + (pl.length : Int) - 1 := IntWalk.i64_in _ (by omega)
  clear hGH hc9 hPE hk hr1 hr2 hr3 hlast hHe hre hEX hfI hx hd0 hprow hfi hlX hplen hne hlp hh1
  clear hg hp
  have hg := two_a w #[.int .i64 id, .int .i64 fi, .int .i64 te, .int .i64 ht, .int .i64 hv, .int .i64 hc, .slice a l.length cap] #[.int .i64 pg, .int .i64 pk, .slice (some ⟨pb, po, none⟩) pl.length pcap, .int .i64 pht, .int .i64 phv, .int .i64 phc, .int .i64 pi, .int .i64 pt, .bool pm, .bool ph] 26 28
  have hp := two_b w #[.int .i64 id, .int .i64 fi, .int .i64 te, .int .i64 ht, .int .i64 hv, .int .i64 hc, .slice a l.length cap] #[.int .i64 pg, .int .i64 pk, .slice (some ⟨pb, po, none⟩) pl.length pcap, .int .i64 pht, .int .i64 phv, .int .i64 phc, .int .i64 pi, .int .i64 pt, .bool pm, .bool ph] 26 28
  have hA := gp_bel w #[.int .i64 id, .int .i64 fi, .int .i64 te, .int .i64 ht, .int .i64 hv, .int .i64 hc, .slice a l.length cap] #[.int .i64 pg, .int .i64 pk, .slice (some ⟨pb, po, none⟩) pl.length pcap, .int .i64 pht, .int .i64 phv, .int .i64 phc, .int .i64 pi, .int .i64 pt, .bool pm, .bool ph] 26 28
  obtain ⟨g0, g1, g2, g3, g4, g5, g6, -⟩ := cells7 hg
  obtain ⟨p0, p1, p2, p3, p4, p5, p6, p7, p8, p9⟩ := cells10a hp
  go_enter Try.func6, Try.ntmps6
  go_wp2_with (first
    | (go_at_call 12; ((with_reducible refine (GK.out _).mono ?_); rintro e w1 ⟨rfl, hB⟩; clear g0 g1 g2 g3 g4 g5 g6; clear p0 p1 p2 p3 p4 p5 p6 p7 p8 p9; replace hA := bel2 hA hB; replace hg := (hB.block _ (heap_lt hg)).trans hg; replace hp := (hB.block _ (heap_lt hp)).trans hp; obtain ⟨g0, g1, g2, g3, g4, g5, g6, -⟩ := cells7 hg; obtain ⟨p0, p1, p2, p3, p4, p5, p6, p7, p8, p9⟩ := cells10a hp; clear hB))
    | (go_at_call 13; ((with_reducible refine (GFG.out _ hA).mono ?_); rintro e w2 ⟨rfl, hB⟩; clear g0 g1 g2 g3 g4 g5 g6; clear p0 p1 p2 p3 p4 p5 p6 p7 p8 p9; replace hA := bel2 hA hB; replace hg := (hB.block _ (heap_lt hg)).trans hg; replace hp := (hB.block _ (heap_lt hp)).trans hp; obtain ⟨g0, g1, g2, g3, g4, g5, g6, -⟩ := cells7 hg; obtain ⟨p0, p1, p2, p3, p4, p5, p6, p7, p8, p9⟩ := cells10a hp; clear hB))
    | (go_at_call 14; ((with_reducible refine (GFP.out _ hA).mono ?_); rintro e w3 ⟨rfl, hB⟩; clear g0 g1 g2 g3 g4 g5 g6; clear p0 p1 p2 p3 p4 p5 p6 p7 p8 p9; replace hA := bel2 hA hB; replace hg := (hB.block _ (heap_lt hg)).trans hg; replace hp := (hB.block _ (heap_lt hp)).trans hp; obtain ⟨g0, g1, g2, g3, g4, g5, g6, -⟩ := cells7 hg; obtain ⟨p0, p1, p2, p3, p4, p5, p6, p7, p8, p9⟩ := cells10a hp; clear hB))
    | (go_at_call 15; ((with_reducible refine (GI.out _ hA).mono ?_); rintro e w4 ⟨rfl, hB⟩; clear g0 g1 g2 g3 g4 g5 g6; clear p0 p1 p2 p3 p4 p5 p6 p7 p8 p9; replace hA := bel2 hA hB; replace hg := (hB.block _ (heap_lt hg)).trans hg; replace hp := (hB.block _ (heap_lt hp)).trans hp; obtain ⟨g0, g1, g2, g3, g4, g5, g6, -⟩ := cells7 hg; obtain ⟨p0, p1, p2, p3, p4, p5, p6, p7, p8, p9⟩ := cells10a hp; clear hB))
    | (go_at_call 22; ((with_reducible refine (GD.out _ hA).mono ?_); rintro e w5 ⟨ha, hcp, rfl, hGHH, hB⟩; clear g0 g1 g2 g3 g4 g5 g6; clear p0 p1 p2 p3 p4 p5 p6 p7 p8 p9; replace hA := bel2 hA hB; replace hg := (hB.block _ (heap_lt hg)).trans hg; replace hp := (hB.block _ (heap_lt hp)).trans hp; clear hB; have hB := bel_alloc (Below.refl w5.heap.size w5) (.cells #[.int .i64 H.id, .int .i64 H.fi, .int .i64 H.te, .int .i64 H.ht, .int .i64 H.hv, .int .i64 H.hc, .slice ha H.l.length hcp] 26); have hh := World.alloc_heap_new w5 (.cells #[.int .i64 H.id, .int .i64 H.fi, .int .i64 H.te, .int .i64 H.ht, .int .i64 H.hv, .int .i64 H.hc, .slice ha H.l.length hcp] 26); replace hGHH := hGHH.below hB; replace hA := bel2 hA hB; replace hg := (hB.block _ (heap_lt hg)).trans hg; replace hp := (hB.block _ (heap_lt hp)).trans hp; obtain ⟨g0, g1, g2, g3, g4, g5, g6, -⟩ := cells7 hg; obtain ⟨p0, p1, p2, p3, p4, p5, p6, p7, p8, p9⟩ := cells10a hp; obtain ⟨h0, h1, h2, h3, h4, h5, h6, -⟩ := cells7 hh; clear hB; have hdq := HD0.out _ hA)))
  obtain ⟨w6, hw6⟩ : ∃ w6, w6 = w5.alloc (.cells #[.int .i64 H.id, .int .i64 H.fi, .int .i64 H.te, .int .i64 H.ht, .int .i64 H.hv, .int .i64 H.hc, .slice ha H.l.length hcp] 26) := ⟨_, rfl⟩
  rw [← hw6] at hg hp hh hA hGHH g0 g1 g2 g3 g4 g5 g6 p0 p1 p2 p3 p4 p5 p6 p7 p8 p9 h0 h1 h2 h3 h4 h5 h6 hdq ⊢
  have hlt6 : w5.heap.size < w6.heap.size := heap_lt hh
  clear hw6
  have KH := Lib.hid (fun W' (hW : Below w6.heap.size w6 W') => And.intro (cells7 ((hW.block _ (heap_lt hh)).trans hh)) (hGHH.below hW))
  go_region_held3 (fun W' => W'.cell? ⟨w5.heap.size, 0, none⟩ = some (.int .i64 H.id) ∧ W'.cell? ⟨w5.heap.size, 1, none⟩ = some (.int .i64 H.fi) ∧ W'.cell? ⟨w5.heap.size, 2, none⟩ = some (.int .i64 H.te) ∧ W'.cell? ⟨w5.heap.size, 3, none⟩ = some (.int .i64 H.ht) ∧ W'.cell? ⟨w5.heap.size, 4, none⟩ = some (.int .i64 H.hv) ∧ W'.cell? ⟨w5.heap.size, 5, none⟩ = some (.int .i64 H.hc) ∧ W'.cell? ⟨w5.heap.size, 6, none⟩ = some (.slice ha H.l.length hcp)) (go_keep) (first
    | (go_at_call 25; ((with_reducible refine (GLH.out _ _ _ ?_).mono ?_); (focus (first | exact (KH.out _ (Below.refl _ _).drew).2 | exact (KH.out _ (Below.refl _ _)).2)); rintro e w7 ⟨rfl, hB7⟩; have hX7 : Below w6.heap.size w6 w7 := (by first | exact hB7 | exact bel2 (Below.refl _ _).drew hB7); obtain ⟨z0, z1, z2, z3, z4, z5, z6, -⟩ := (KH.out w7 hX7).1))
    | (go_at_call 29; ((with_reducible refine (GE1.out _ _ _ ?_).mono ?_); (focus (first | exact (KH.out _ hX7).2 | exact (KH.out _ hX7.drew).2)); rintro e w8 ⟨xa, xc, rfl, hr8, hB8⟩; have hX8 : Below w6.heap.size w6 w8 := (by first | exact bel2 hX7 hB8 | exact bel2 hX7.drew hB8); obtain ⟨y0, y1, y2, y3, y4, y5, y6, -⟩ := (KH.out w8 hX8).1)))
  have hB := hX8
  clear g0 g1 g2 g3 g4 g5 g6; clear p0 p1 p2 p3 p4 p5 p6 p7 p8 p9; clear h0 h1 h2 h3 h4 h5 h6; clear y0 y1 y2 y3 y4 y5 y6; clear z0 z1 z2 z3 z4 z5 z6
  replace hGHH := hGHH.below hB
  replace hA := bel2 hA hB
  replace hg := (hB.block _ (heap_lt hg)).trans hg
  replace hp := (hB.block _ (heap_lt hp)).trans hp
  replace hh := (hB.block _ (heap_lt hh)).trans hh
  obtain ⟨g0, g1, g2, g3, g4, g5, g6, -⟩ := cells7 hg
  obtain ⟨p0, p1, p2, p3, p4, p5, p6, p7, p8, p9⟩ := cells10a hp
  obtain ⟨h0, h1, h2, h3, h4, h5, h6, -⟩ := cells7 hh
  clear hB hB7 hB8 hX7 hX8 KH hdq
  go_wp2_with (first
    | (go_at_call 29; ((with_reducible refine (GE2.out _ _ _ hGHH).mono ?_); rintro e w9 ⟨ya, yc, rfl, hr9, hB⟩; clear g0 g1 g2 g3 g4 g5 g6; clear p0 p1 p2 p3 p4 p5 p6 p7 p8 p9; clear h0 h1 h2 h3 h4 h5 h6; replace hGHH := hGHH.below hB; replace hr8 := hr8.below hB; replace hA := bel2 hA hB; replace hg := (hB.block _ (heap_lt hg)).trans hg; replace hp := (hB.block _ (heap_lt hp)).trans hp; replace hh := (hB.block _ (heap_lt hh)).trans hh; obtain ⟨g0, g1, g2, g3, g4, g5, g6, -⟩ := cells7 hg; obtain ⟨p0, p1, p2, p3, p4, p5, p6, p7, p8, p9⟩ := cells10a hp; obtain ⟨h0, h1, h2, h3, h4, h5, h6, -⟩ := cells7 hh; clear hB))
    | (go_at_call 29; ((with_reducible refine (GEG.out _ hA).mono ?_); rintro e w10 ⟨za, zc, rfl, hr10, hB⟩; clear g0 g1 g2 g3 g4 g5 g6; clear p0 p1 p2 p3 p4 p5 p6 p7 p8 p9; clear h0 h1 h2 h3 h4 h5 h6; replace hGHH := hGHH.below hB; replace hr8 := hr8.below hB; replace hr9 := hr9.below hB; replace hA := bel2 hA hB; replace hg := (hB.block _ (heap_lt hg)).trans hg; replace hp := (hB.block _ (heap_lt hp)).trans hp; replace hh := (hB.block _ (heap_lt hh)).trans hh; obtain ⟨g0, g1, g2, g3, g4, g5, g6, -⟩ := cells7 hg; obtain ⟨p0, p1, p2, p3, p4, p5, p6, p7, p8, p9⟩ := cells10a hp; obtain ⟨h0, h1, h2, h3, h4, h5, h6, -⟩ := cells7 hh; clear hB)))
  have HS9 := Lib.hid (fun W (hW : Above w10 W) => And.intro (cells7 ((Below.block hW _ (heap_lt hh)).trans hh)) ((Below.cell hW (p := ⟨w.heap.size + 1, 2, none⟩) (heap_lt hp)).trans p2))
  clear g0 g1 g2 g3 g4 g5 g6 p0 p1 p2 p3 p4 p5 p6 p7 p8 p9 h0 h1 h2 h3 h4 h5 h6
  refine wp_region_below (by kernel_rfl) (by kernel_rfl) ?_
  repeat (first
    | (refine BigFrame.wpQuiet_skip (by rfl) ?_; (try simp only [Act.put, List.setIfInBounds_toArray, List.set_cons_zero, List.set_cons_succ]))
    | (refine BigFrame.wpQuiet_want (by rfl) (fun K hK => ?_); apply Exists.intro; refine ⟨fun W hW => ?_, hK _ ?_⟩; (focus (have hWB : Below _ _ W := hW; obtain ⟨⟨h0, h1, h2, h3, h4, h5, h6, -⟩, p2⟩ := HS9.out _ hW; go_simp; (first | done | with_reducible rfl | (first | (go_at_call 32; with_reducible exact gives_above hW (GES.out _ _ _ (hr8.below hWB) (bel2 hA hWB))) | (go_at_call 32; with_reducible exact gives_above hW (GES2.out _ _ _ _ _ _ hYl (hr9.below hWB) (hr10.below hWB))) | (go_at_call 25; with_reducible exact gives_above hW (GLH.out _ _ _ (hGHH.below hWB)))) | (rw [if_neg (by omega)]; go_simp; (first | done | with_reducible rfl))))); clear hK K; (try simp only [Act.put, List.setIfInBounds_toArray, List.set_cons_zero, List.set_cons_succ])))
  refine wpQuiet_nil ?_
  intro w11 hB11
  replace hB11 : Below _ _ w11 := hB11
  go_wp2
  go_ret
  exact ⟨by simp, bel2 hA hB11⟩


theorem walk (w : World) (g : GM) (a : Option Addr) (cap : Nat) (hg : GoodG w g a) (p : PartC) (pl : List EntryC) (gp : goodPart p) (hl : pl.length = p.len) (hrow : RowV w p.a p.len 3 (entryCells pl)) (he : ∀ e ∈ pl, goodEntry e) : Calls Try.prog 6 #[g.val a cap, p.val] w fun e w' => e = .returned (.bool true) ∧ Below w.heap.size w w' := by
  obtain ⟨id, fi, te, ht, hv, hc, l⟩ := g
  obtain ⟨pg, pk, pa, plen, pcap, pht, phv, phc, pi, pt, pm, ph⟩ := p
  have hp : GoodP w (⟨pg, pk, pa, plen, pcap, pht, phv, phc, pi, pt, pm, ph⟩, pl) := ⟨gp, hl, hrow, he⟩
  cases hf : fewGB l
  · exact app_1 id fi te ht hv hc l a cap pg pk pa plen pcap pht phv phc pi pt pm ph pl w hg hp hf
  cases hf2 : few6B pl
  · exact app_2 id fi te ht hv hc l a cap pg pk pa plen pcap pht phv phc pi pt pm ph pl w hg hp hf hf2
  cases hG : isG ⟨id, fi, te, ht, hv, hc, l⟩
  · exact app_3 id fi te ht hv hc l a cap pg pk pa plen pcap pht phv phc pi pt pm ph pl w hg hp hf hf2 hG
  by_cases hk : pk = 1
  · by_cases hc9 : chkG ⟨id, fi, te, ht, hv, hc, l⟩ ⟨pg, pk, pa, plen, pcap, pht, phv, phc, pi, pt, pm, ph⟩ pl = 0
    · exact app_6 id fi te ht hv hc l a cap pg pk pa plen pcap pht phv phc pi pt pm ph pl w hg hp hf hf2 hG hk hc9
    · exact app_5 id fi te ht hv hc l a cap pg pk pa plen pcap pht phv phc pi pt pm ph pl w hg hp hf hf2 hG hk hc9
  · exact app_4 id fi te ht hv hc l a cap pg pk pa plen pcap pht phv phc pi pt pm ph pl w hg hp hf hf2 hG hk

set_option maxRecDepth 100000 in
theorem lifted (os : Os) (started : os.Started) (H : Type) (enc : TypeId × Value → H) :
    ReturnsInHanded {} Try.checked os 6 .any (Rows.groupAppendsSpec.pre6 enc Try.prog Try.f6 Rows.groupAppendsRow.domain false) (Rows.groupAppendsSpec.post enc Try.prog Try.f6 false true false false) := by
  refine returnsInHanded_of_change (C := Try.checked) Try.own started (by kernel_rfl) Try.func6
    (ChangeSpec.witness6 (enc := enc) (C := Try.checked) false ⟨#[], #[.agg #[.int .i64 0, .int .i64 0, .int .i64 0, .int .i64 0, .int .i64 0, .int .i64 0, .slice none 0 0], .agg #[.int .i64 0, .int .i64 0, .slice none 0 0, .int .i64 0, .int .i64 0, .int .i64 0, .int .i64 0, .int .i64 0, .bool false, .bool false]], []⟩ 8 (by kernel_rfl) (by kernel_rfl) (by kernel_rfl) (by kernel_rfl)) ?_
  intro W base args ds gs before hval hW _ _
  refine law_contract (T := 4) (n := 2) Try.laid Try.underlying4 rfl rfl ⟨rfl, fun H ds h => by match ds, h with | [_, _], _ => rfl⟩ (of_all (by kernel_rfl)) hW ?_
  intro ps hA
  rw [Try.params6] at hA hval
  obtain ⟨v0, vs0, d0, ds0, p0, q0, hargs, rfl, rfl, h0, r0⟩ := trodAll_cons hA
  obtain ⟨v1, vs1, d1, ds1, p1, q1, rfl, rfl, rfl, h1, r1⟩ := trodAll_cons r0
  obtain ⟨rfl, rfl, rfl⟩ := trodAll_nil r1
  obtain rfl : args = #[v0, v1] := by cases args; simp_all
  obtain ⟨p0, a0, c0, rfl, g0⟩ := open_group (hval 0 26 v0 rfl rfl) h0
  obtain ⟨p1, rfl, g1, l1, k1, w1, e1⟩ := open_part (hval 1 28 v1 rfl rfl) h1
  exact walk W p0 a0 c0 g0 p1 l1 g1 k1 w1 e1

theorem holds : Rows.GroupAppendsSaid :=
  OpenClaim.holds_of_wide 6 Try.f6 rfl rfl rfl rfl rfl rfl rfl ⟨rfl, rfl, rfl, rfl, rfl⟩ rfl rfl rfl rfl rfl (by kernel_rfl) Try.func6 (by kernel_rfl)
    (of_decide_eq_true (by kernel_rfl)) (by unfold Func.isWrapper; first | (rw [if_pos (by decide +kernel)]; kernel_rfl) | (rw [if_neg (by decide +kernel)]; exact ⟨rfl, rfl⟩))
    (fun os started H enc _ => lifted os started H enc)

end Go.Proofs.Ytfmcebmkclaafaa.groupAppends
