/- Law GroupTells: for every input the call answers true; its arguments read as they did. No condition. -/
import Derived.Test.YtfmcebmkclaafaaLaw
import Derived.Test.YtfmcebmkclaafaaKnown6
import Derived.Test.YtfmcebmkclaafaaRef6a
import Derived.Test.YtfmcebmkclaafaaRef6e
import Derived.Test.YtfmcebmkclaafaaOpenPart
namespace Go.Proofs.Ytfmcebmkclaafaa.groupTells
open Go.ChangeShapes Go.WideShapes Go.ChangeAt Go.RowKit Go.Shelf
open Go.ChangeMaps (open_string shut_string)
set_option linter.unusedVariables false
attribute [local go_sem] Oper.semAt_some wide_fn wide_round_fn

attribute [local irreducible] wpQuiet
set_option maxRecDepth 100000 in
set_option maxHeartbeats 4000000 in
theorem gt_1 (w : World) (id fi te ht hv hc : Int) (l : List EntryC) (a : Option Addr) (cap : Nat) (hg : GoodG w ⟨id, fi, te, ht, hv, hc, l⟩ a) (id2 fi2 te2 ht2 hv2 hc2 : Int) (l2 : List EntryC) (a2 : Option Addr) (cap2 : Nat) (hh : GoodG w ⟨id2, fi2, te2, ht2, hv2, hc2, l2⟩ a2) (pg pk : Int) (pa : Option Addr) (plen pcap : Nat) (pht phv phc pi pt : Int) (pm ph : Bool) (pl : List EntryC) (hgp : goodPart (⟨pg, pk, pa, plen, pcap, pht, phv, phc, pi, pt, pm, ph⟩ : PartC)) (hpl : pl.length = plen) (hpr : RowV w pa plen 3 (entryCells pl)) (hpg : ∀ e ∈ pl, goodEntry e) (hf1 : fewGB l = false) : Calls Try.prog 3 #[.agg #[.int .i64 id, .int .i64 fi, .int .i64 te, .int .i64 ht, .int .i64 hv, .int .i64 hc, .slice a l.length cap], .agg #[.int .i64 id2, .int .i64 fi2, .int .i64 te2, .int .i64 ht2, .int .i64 hv2, .int .i64 hc2, .slice a2 l2.length cap2], .agg #[.int .i64 pg, .int .i64 pk, .slice pa plen pcap, .int .i64 pht, .int .i64 phv, .int .i64 phc, .int .i64 pi, .int .i64 pt, .bool pm, .bool ph]] w fun e w' => e = .returned (.bool true) ∧ Below w.heap.size w w' := by
  have GK := Lib.hid group_known
  have GF1 := Lib.hid (fun W (hB : Below w.heap.size w W) => fewG_any id fi te ht hv hc l a cap W (hg.2.1.below hB) (fun e he => (hg.2.2 e he).2.2))
  rw [hf1] at GF1
  clear hg hh hgp hpr hpg hpl
  have hC : Below w.heap.size w (((w.alloc (.cells #[.int .i64 id, .int .i64 fi, .int .i64 te, .int .i64 ht, .int .i64 hv, .int .i64 hc, .slice a l.length cap] 26)).alloc (.cells #[.int .i64 id2, .int .i64 fi2, .int .i64 te2, .int .i64 ht2, .int .i64 hv2, .int .i64 hc2, .slice a2 l2.length cap2] 26)).alloc (.cells #[.int .i64 pg, .int .i64 pk, .slice pa plen pcap, .int .i64 pht, .int .i64 phv, .int .i64 phc, .int .i64 pi, .int .i64 pt, .bool pm, .bool ph] 28)) := bel_alloc (bel_alloc (bel_alloc (Below.refl _ _) _) _) _
  obtain ⟨hgb, hhb, hpb, -⟩ := alloc3 w #[.int .i64 id, .int .i64 fi, .int .i64 te, .int .i64 ht, .int .i64 hv, .int .i64 hc, .slice a l.length cap] #[.int .i64 id2, .int .i64 fi2, .int .i64 te2, .int .i64 ht2, .int .i64 hv2, .int .i64 hc2, .slice a2 l2.length cap2] #[.int .i64 pg, .int .i64 pk, .slice pa plen pcap, .int .i64 pht, .int .i64 phv, .int .i64 phc, .int .i64 pi, .int .i64 pt, .bool pm, .bool ph] 26 26 28
  obtain ⟨x0, x1, x2, x3, x4, x5, x6, -⟩ := cells7 hgb; obtain ⟨y0, y1, y2, y3, y4, y5, y6, -⟩ := cells7 hhb; obtain ⟨z0, z1, z2, z3, z4, z5, z6, z7, z8, z9⟩ := cells10a hpb
  go_enter Try.func3, Try.ntmps3
  go_wp2_with (first
    | (go_at_call 12; ((with_reducible refine (GK.out _).mono ?_); rintro e w1 ⟨rfl, hB⟩; replace hC := bel2 hC hB; replace hgb := (hB.block _ (heap_lt hgb)).trans hgb; replace hhb := (hB.block _ (heap_lt hhb)).trans hhb; replace hpb := (hB.block _ (heap_lt hpb)).trans hpb; clear hB x0 x1 x2 x3 x4 x5 x6 y0 y1 y2 y3 y4 y5 y6 z0 z1 z2 z3 z4 z5 z6 z7 z8 z9; obtain ⟨x0, x1, x2, x3, x4, x5, x6, -⟩ := cells7 hgb; obtain ⟨y0, y1, y2, y3, y4, y5, y6, -⟩ := cells7 hhb; obtain ⟨z0, z1, z2, z3, z4, z5, z6, z7, z8, z9⟩ := cells10a hpb))
    | (go_at_call 13; ((with_reducible refine (GF1.out _ hC).mono ?_); rintro e w2 ⟨rfl, hB⟩; replace hC := bel2 hC hB; replace hgb := (hB.block _ (heap_lt hgb)).trans hgb; replace hhb := (hB.block _ (heap_lt hhb)).trans hhb; replace hpb := (hB.block _ (heap_lt hpb)).trans hpb; clear hB x0 x1 x2 x3 x4 x5 x6 y0 y1 y2 y3 y4 y5 y6 z0 z1 z2 z3 z4 z5 z6 z7 z8 z9; obtain ⟨x0, x1, x2, x3, x4, x5, x6, -⟩ := cells7 hgb; obtain ⟨y0, y1, y2, y3, y4, y5, y6, -⟩ := cells7 hhb; obtain ⟨z0, z1, z2, z3, z4, z5, z6, z7, z8, z9⟩ := cells10a hpb)))
  go_ret
  exact ⟨by simp, hC⟩

set_option maxRecDepth 100000 in
set_option maxHeartbeats 4000000 in
theorem gt_2 (w : World) (id fi te ht hv hc : Int) (l : List EntryC) (a : Option Addr) (cap : Nat) (hg : GoodG w ⟨id, fi, te, ht, hv, hc, l⟩ a) (id2 fi2 te2 ht2 hv2 hc2 : Int) (l2 : List EntryC) (a2 : Option Addr) (cap2 : Nat) (hh : GoodG w ⟨id2, fi2, te2, ht2, hv2, hc2, l2⟩ a2) (pg pk : Int) (pa : Option Addr) (plen pcap : Nat) (pht phv phc pi pt : Int) (pm ph : Bool) (pl : List EntryC) (hgp : goodPart (⟨pg, pk, pa, plen, pcap, pht, phv, phc, pi, pt, pm, ph⟩ : PartC)) (hpl : pl.length = plen) (hpr : RowV w pa plen 3 (entryCells pl)) (hpg : ∀ e ∈ pl, goodEntry e) (hf1 : fewGB l = true) (hf2 : fewGB l2 = false) : Calls Try.prog 3 #[.agg #[.int .i64 id, .int .i64 fi, .int .i64 te, .int .i64 ht, .int .i64 hv, .int .i64 hc, .slice a l.length cap], .agg #[.int .i64 id2, .int .i64 fi2, .int .i64 te2, .int .i64 ht2, .int .i64 hv2, .int .i64 hc2, .slice a2 l2.length cap2], .agg #[.int .i64 pg, .int .i64 pk, .slice pa plen pcap, .int .i64 pht, .int .i64 phv, .int .i64 phc, .int .i64 pi, .int .i64 pt, .bool pm, .bool ph]] w fun e w' => e = .returned (.bool true) ∧ Below w.heap.size w w' := by
  have GK := Lib.hid group_known
  have GF1 := Lib.hid (fun W (hB : Below w.heap.size w W) => fewG_any id fi te ht hv hc l a cap W (hg.2.1.below hB) (fun e he => (hg.2.2 e he).2.2))
  rw [hf1] at GF1
  have GF2 := Lib.hid (fun W (hB : Below w.heap.size w W) => fewG_any id2 fi2 te2 ht2 hv2 hc2 l2 a2 cap2 W (hh.2.1.below hB) (fun e he => (hh.2.2 e he).2.2))
  rw [hf2] at GF2
  clear hg hh hgp hpr hpg hpl
  have hC : Below w.heap.size w (((w.alloc (.cells #[.int .i64 id, .int .i64 fi, .int .i64 te, .int .i64 ht, .int .i64 hv, .int .i64 hc, .slice a l.length cap] 26)).alloc (.cells #[.int .i64 id2, .int .i64 fi2, .int .i64 te2, .int .i64 ht2, .int .i64 hv2, .int .i64 hc2, .slice a2 l2.length cap2] 26)).alloc (.cells #[.int .i64 pg, .int .i64 pk, .slice pa plen pcap, .int .i64 pht, .int .i64 phv, .int .i64 phc, .int .i64 pi, .int .i64 pt, .bool pm, .bool ph] 28)) := bel_alloc (bel_alloc (bel_alloc (Below.refl _ _) _) _) _
  obtain ⟨hgb, hhb, hpb, -⟩ := alloc3 w #[.int .i64 id, .int .i64 fi, .int .i64 te, .int .i64 ht, .int .i64 hv, .int .i64 hc, .slice a l.length cap] #[.int .i64 id2, .int .i64 fi2, .int .i64 te2, .int .i64 ht2, .int .i64 hv2, .int .i64 hc2, .slice a2 l2.length cap2] #[.int .i64 pg, .int .i64 pk, .slice pa plen pcap, .int .i64 pht, .int .i64 phv, .int .i64 phc, .int .i64 pi, .int .i64 pt, .bool pm, .bool ph] 26 26 28
  obtain ⟨x0, x1, x2, x3, x4, x5, x6, -⟩ := cells7 hgb; obtain ⟨y0, y1, y2, y3, y4, y5, y6, -⟩ := cells7 hhb; obtain ⟨z0, z1, z2, z3, z4, z5, z6, z7, z8, z9⟩ := cells10a hpb
  go_enter Try.func3, Try.ntmps3
  go_wp2_with (first
    | (go_at_call 12; ((with_reducible refine (GK.out _).mono ?_); rintro e w1 ⟨rfl, hB⟩; replace hC := bel2 hC hB; replace hgb := (hB.block _ (heap_lt hgb)).trans hgb; replace hhb := (hB.block _ (heap_lt hhb)).trans hhb; replace hpb := (hB.block _ (heap_lt hpb)).trans hpb; clear hB x0 x1 x2 x3 x4 x5 x6 y0 y1 y2 y3 y4 y5 y6 z0 z1 z2 z3 z4 z5 z6 z7 z8 z9; obtain ⟨x0, x1, x2, x3, x4, x5, x6, -⟩ := cells7 hgb; obtain ⟨y0, y1, y2, y3, y4, y5, y6, -⟩ := cells7 hhb; obtain ⟨z0, z1, z2, z3, z4, z5, z6, z7, z8, z9⟩ := cells10a hpb))
    | (go_at_call 13; ((with_reducible refine (GF1.out _ hC).mono ?_); rintro e w2 ⟨rfl, hB⟩; replace hC := bel2 hC hB; replace hgb := (hB.block _ (heap_lt hgb)).trans hgb; replace hhb := (hB.block _ (heap_lt hhb)).trans hhb; replace hpb := (hB.block _ (heap_lt hpb)).trans hpb; clear hB x0 x1 x2 x3 x4 x5 x6 y0 y1 y2 y3 y4 y5 y6 z0 z1 z2 z3 z4 z5 z6 z7 z8 z9; obtain ⟨x0, x1, x2, x3, x4, x5, x6, -⟩ := cells7 hgb; obtain ⟨y0, y1, y2, y3, y4, y5, y6, -⟩ := cells7 hhb; obtain ⟨z0, z1, z2, z3, z4, z5, z6, z7, z8, z9⟩ := cells10a hpb))
    | (go_at_call 13; ((with_reducible refine (GF2.out _ hC).mono ?_); rintro e w3 ⟨rfl, hB⟩; replace hC := bel2 hC hB; replace hgb := (hB.block _ (heap_lt hgb)).trans hgb; replace hhb := (hB.block _ (heap_lt hhb)).trans hhb; replace hpb := (hB.block _ (heap_lt hpb)).trans hpb; clear hB x0 x1 x2 x3 x4 x5 x6 y0 y1 y2 y3 y4 y5 y6 z0 z1 z2 z3 z4 z5 z6 z7 z8 z9; obtain ⟨x0, x1, x2, x3, x4, x5, x6, -⟩ := cells7 hgb; obtain ⟨y0, y1, y2, y3, y4, y5, y6, -⟩ := cells7 hhb; obtain ⟨z0, z1, z2, z3, z4, z5, z6, z7, z8, z9⟩ := cells10a hpb)))
  go_ret
  exact ⟨by simp, hC⟩

set_option maxRecDepth 100000 in
set_option maxHeartbeats 4000000 in
theorem gt_3 (w : World) (id fi te ht hv hc : Int) (l : List EntryC) (a : Option Addr) (cap : Nat) (hg : GoodG w ⟨id, fi, te, ht, hv, hc, l⟩ a) (id2 fi2 te2 ht2 hv2 hc2 : Int) (l2 : List EntryC) (a2 : Option Addr) (cap2 : Nat) (hh : GoodG w ⟨id2, fi2, te2, ht2, hv2, hc2, l2⟩ a2) (pg pk : Int) (pa : Option Addr) (plen pcap : Nat) (pht phv phc pi pt : Int) (pm ph : Bool) (pl : List EntryC) (hgp : goodPart (⟨pg, pk, pa, plen, pcap, pht, phv, phc, pi, pt, pm, ph⟩ : PartC)) (hpl : pl.length = plen) (hpr : RowV w pa plen 3 (entryCells pl)) (hpg : ∀ e ∈ pl, goodEntry e) (hf1 : fewGB l = true) (hf2 : fewGB l2 = true) (hf3 : few6B pl = false) : Calls Try.prog 3 #[.agg #[.int .i64 id, .int .i64 fi, .int .i64 te, .int .i64 ht, .int .i64 hv, .int .i64 hc, .slice a l.length cap], .agg #[.int .i64 id2, .int .i64 fi2, .int .i64 te2, .int .i64 ht2, .int .i64 hv2, .int .i64 hc2, .slice a2 l2.length cap2], .agg #[.int .i64 pg, .int .i64 pk, .slice pa plen pcap, .int .i64 pht, .int .i64 phv, .int .i64 phc, .int .i64 pi, .int .i64 pt, .bool pm, .bool ph]] w fun e w' => e = .returned (.bool true) ∧ Below w.heap.size w w' := by
  have GK := Lib.hid group_known
  have GF1 := Lib.hid (fun W (hB : Below w.heap.size w W) => fewG_any id fi te ht hv hc l a cap W (hg.2.1.below hB) (fun e he => (hg.2.2 e he).2.2))
  rw [hf1] at GF1
  have GF2 := Lib.hid (fun W (hB : Below w.heap.size w W) => fewG_any id2 fi2 te2 ht2 hv2 hc2 l2 a2 cap2 W (hh.2.1.below hB) (fun e he => (hh.2.2 e he).2.2))
  rw [hf2] at GF2
  have GF3 := Lib.hid (fun W (hB : Below w.heap.size w W) => (show Gives Try.prog 14 #[.agg #[.int .i64 pg, .int .i64 pk, .slice pa plen pcap, .int .i64 pht, .int .i64 phv, .int .i64 phc, .int .i64 pi, .int .i64 pt, .bool pm, .bool ph]] W (.bool (few6B pl)) from few6_any ⟨pg, pk, pa, plen, pcap, pht, phv, phc, pi, pt, pm, ph⟩ pl W hpl (hpr.below hB) (fun e he => (hpg e he).2.2)))
  rw [hf3] at GF3
  clear hg hh hgp hpr hpg hpl
  have hC : Below w.heap.size w (((w.alloc (.cells #[.int .i64 id, .int .i64 fi, .int .i64 te, .int .i64 ht, .int .i64 hv, .int .i64 hc, .slice a l.length cap] 26)).alloc (.cells #[.int .i64 id2, .int .i64 fi2, .int .i64 te2, .int .i64 ht2, .int .i64 hv2, .int .i64 hc2, .slice a2 l2.length cap2] 26)).alloc (.cells #[.int .i64 pg, .int .i64 pk, .slice pa plen pcap, .int .i64 pht, .int .i64 phv, .int .i64 phc, .int .i64 pi, .int .i64 pt, .bool pm, .bool ph] 28)) := bel_alloc (bel_alloc (bel_alloc (Below.refl _ _) _) _) _
  obtain ⟨hgb, hhb, hpb, -⟩ := alloc3 w #[.int .i64 id, .int .i64 fi, .int .i64 te, .int .i64 ht, .int .i64 hv, .int .i64 hc, .slice a l.length cap] #[.int .i64 id2, .int .i64 fi2, .int .i64 te2, .int .i64 ht2, .int .i64 hv2, .int .i64 hc2, .slice a2 l2.length cap2] #[.int .i64 pg, .int .i64 pk, .slice pa plen pcap, .int .i64 pht, .int .i64 phv, .int .i64 phc, .int .i64 pi, .int .i64 pt, .bool pm, .bool ph] 26 26 28
  obtain ⟨x0, x1, x2, x3, x4, x5, x6, -⟩ := cells7 hgb; obtain ⟨y0, y1, y2, y3, y4, y5, y6, -⟩ := cells7 hhb; obtain ⟨z0, z1, z2, z3, z4, z5, z6, z7, z8, z9⟩ := cells10a hpb
  go_enter Try.func3, Try.ntmps3
  go_wp2_with (first
    | (go_at_call 12; ((with_reducible refine (GK.out _).mono ?_); rintro e w1 ⟨rfl, hB⟩; replace hC := bel2 hC hB; replace hgb := (hB.block _ (heap_lt hgb)).trans hgb; replace hhb := (hB.block _ (heap_lt hhb)).trans hhb; replace hpb := (hB.block _ (heap_lt hpb)).trans hpb; clear hB x0 x1 x2 x3 x4 x5 x6 y0 y1 y2 y3 y4 y5 y6 z0 z1 z2 z3 z4 z5 z6 z7 z8 z9; obtain ⟨x0, x1, x2, x3, x4, x5, x6, -⟩ := cells7 hgb; obtain ⟨y0, y1, y2, y3, y4, y5, y6, -⟩ := cells7 hhb; obtain ⟨z0, z1, z2, z3, z4, z5, z6, z7, z8, z9⟩ := cells10a hpb))
    | (go_at_call 13; ((with_reducible refine (GF1.out _ hC).mono ?_); rintro e w2 ⟨rfl, hB⟩; replace hC := bel2 hC hB; replace hgb := (hB.block _ (heap_lt hgb)).trans hgb; replace hhb := (hB.block _ (heap_lt hhb)).trans hhb; replace hpb := (hB.block _ (heap_lt hpb)).trans hpb; clear hB x0 x1 x2 x3 x4 x5 x6 y0 y1 y2 y3 y4 y5 y6 z0 z1 z2 z3 z4 z5 z6 z7 z8 z9; obtain ⟨x0, x1, x2, x3, x4, x5, x6, -⟩ := cells7 hgb; obtain ⟨y0, y1, y2, y3, y4, y5, y6, -⟩ := cells7 hhb; obtain ⟨z0, z1, z2, z3, z4, z5, z6, z7, z8, z9⟩ := cells10a hpb))
    | (go_at_call 13; ((with_reducible refine (GF2.out _ hC).mono ?_); rintro e w3 ⟨rfl, hB⟩; replace hC := bel2 hC hB; replace hgb := (hB.block _ (heap_lt hgb)).trans hgb; replace hhb := (hB.block _ (heap_lt hhb)).trans hhb; replace hpb := (hB.block _ (heap_lt hpb)).trans hpb; clear hB x0 x1 x2 x3 x4 x5 x6 y0 y1 y2 y3 y4 y5 y6 z0 z1 z2 z3 z4 z5 z6 z7 z8 z9; obtain ⟨x0, x1, x2, x3, x4, x5, x6, -⟩ := cells7 hgb; obtain ⟨y0, y1, y2, y3, y4, y5, y6, -⟩ := cells7 hhb; obtain ⟨z0, z1, z2, z3, z4, z5, z6, z7, z8, z9⟩ := cells10a hpb))
    | (go_at_call 14; ((with_reducible refine (GF3.out _ hC).mono ?_); rintro e w4 ⟨rfl, hB⟩; replace hC := bel2 hC hB; replace hgb := (hB.block _ (heap_lt hgb)).trans hgb; replace hhb := (hB.block _ (heap_lt hhb)).trans hhb; replace hpb := (hB.block _ (heap_lt hpb)).trans hpb; clear hB x0 x1 x2 x3 x4 x5 x6 y0 y1 y2 y3 y4 y5 y6 z0 z1 z2 z3 z4 z5 z6 z7 z8 z9; obtain ⟨x0, x1, x2, x3, x4, x5, x6, -⟩ := cells7 hgb; obtain ⟨y0, y1, y2, y3, y4, y5, y6, -⟩ := cells7 hhb; obtain ⟨z0, z1, z2, z3, z4, z5, z6, z7, z8, z9⟩ := cells10a hpb)))
  go_ret
  exact ⟨by simp, hC⟩

set_option maxRecDepth 100000 in
set_option maxHeartbeats 4000000 in
theorem gt_4 (w : World) (id fi te ht hv hc : Int) (l : List EntryC) (a : Option Addr) (cap : Nat) (hg : GoodG w ⟨id, fi, te, ht, hv, hc, l⟩ a) (id2 fi2 te2 ht2 hv2 hc2 : Int) (l2 : List EntryC) (a2 : Option Addr) (cap2 : Nat) (hh : GoodG w ⟨id2, fi2, te2, ht2, hv2, hc2, l2⟩ a2) (pg pk : Int) (pa : Option Addr) (plen pcap : Nat) (pht phv phc pi pt : Int) (pm ph : Bool) (pl : List EntryC) (hgp : goodPart (⟨pg, pk, pa, plen, pcap, pht, phv, phc, pi, pt, pm, ph⟩ : PartC)) (hpl : pl.length = plen) (hpr : RowV w pa plen 3 (entryCells pl)) (hpg : ∀ e ∈ pl, goodEntry e) (hf1 : fewGB l = true) (hf2 : fewGB l2 = true) (hf3 : few6B pl = true) (hG : isG ⟨id, fi, te, ht, hv, hc, l⟩ = false) : Calls Try.prog 3 #[.agg #[.int .i64 id, .int .i64 fi, .int .i64 te, .int .i64 ht, .int .i64 hv, .int .i64 hc, .slice a l.length cap], .agg #[.int .i64 id2, .int .i64 fi2, .int .i64 te2, .int .i64 ht2, .int .i64 hv2, .int .i64 hc2, .slice a2 l2.length cap2], .agg #[.int .i64 pg, .int .i64 pk, .slice pa plen pcap, .int .i64 pht, .int .i64 phv, .int .i64 phc, .int .i64 pi, .int .i64 pt, .bool pm, .bool ph]] w fun e w' => e = .returned (.bool true) ∧ Below w.heap.size w w' := by
  have GK := Lib.hid group_known
  have GF1 := Lib.hid (fun W (hB : Below w.heap.size w W) => fewG_any id fi te ht hv hc l a cap W (hg.2.1.below hB) (fun e he => (hg.2.2 e he).2.2))
  rw [hf1] at GF1
  have GF2 := Lib.hid (fun W (hB : Below w.heap.size w W) => fewG_any id2 fi2 te2 ht2 hv2 hc2 l2 a2 cap2 W (hh.2.1.below hB) (fun e he => (hh.2.2 e he).2.2))
  rw [hf2] at GF2
  have GF3 := Lib.hid (fun W (hB : Below w.heap.size w W) => (show Gives Try.prog 14 #[.agg #[.int .i64 pg, .int .i64 pk, .slice pa plen pcap, .int .i64 pht, .int .i64 phv, .int .i64 phc, .int .i64 pi, .int .i64 pt, .bool pm, .bool ph]] W (.bool (few6B pl)) from few6_any ⟨pg, pk, pa, plen, pcap, pht, phv, phc, pi, pt, pm, ph⟩ pl W hpl (hpr.below hB) (fun e he => (hpg e he).2.2)))
  rw [hf3] at GF3
  obtain ⟨hGH, h30⟩ := hg.has hf1
  obtain ⟨hHH, h31⟩ := hh.has hf2
  dsimp only at h30 h31
  have hPE : HasE w ⟨pg, pk, pa, plen, pcap, pht, phv, phc, pi, pt, pm, ph⟩ pl := GoodP.has (x := (⟨pg, pk, pa, plen, pcap, pht, phv, phc, pi, pt, pm, ph⟩, pl)) ⟨hgp, hpl, hpr, fun e he => hpg e he⟩ hf3
  have GI1 := Lib.hid (fun W (hB : Below w.heap.size w W) => grpIs_any id fi te ht hv hc l a cap W (hGH.below hB))
  have GI2 := Lib.hid (fun W (hB : Below w.heap.size w W) => refIsG_any id fi te ht hv hc l a cap W (hGH.below hB))
  have GS1 := Lib.hid (fun W (hB : Below w.heap.size w W) => grpSame_any id fi te ht hv hc l a cap id2 fi2 te2 ht2 hv2 hc2 l2 a2 cap2 W (hGH.below hB) (hHH.below hB))
  have GS2 := Lib.hid (fun W (hB : Below w.heap.size w W) => refSame6_any id fi te ht hv hc l a cap id2 fi2 te2 ht2 hv2 hc2 l2 a2 cap2 W (hGH.below hB) (hHH.below hB))
  have GN1 := Lib.hid (new_any id)
  have GN2 := Lib.hid (refNew_any id)
  have GS3 := Lib.hid (fun W => (show Gives Try.prog 18 #[.agg #[.int .i64 id, .int .i64 1, .int .i64 0, .int .i64 0, .int .i64 0, .int .i64 0, .slice none 0 0], .agg #[.int .i64 id, .int .i64 1, .int .i64 0, .int .i64 0, .int .i64 0, .int .i64 0, .slice none 0 0]] W (.bool true) from by have := refSame6_any id 1 0 0 0 0 [] none 0 id 1 0 0 0 0 [] none 0 W (hasG_nil _ _ _ _ _ _ _ _) (hasG_nil _ _ _ _ _ _ _ _); rwa [show sameG ⟨id, 1, 0, 0, 0, 0, []⟩ ⟨id, 1, 0, 0, 0, 0, []⟩ = true from sameG_iff.2 (by simp)] at this))
  generalize sameG ⟨id, fi, te, ht, hv, hc, l⟩ ⟨id2, fi2, te2, ht2, hv2, hc2, l2⟩ = bS at *
  rw [hG] at GI1 GI2
  clear hg hh hgp hpr hpg hpl hGH hHH hPE h30 h31 hG
  have hC : Below w.heap.size w (((w.alloc (.cells #[.int .i64 id, .int .i64 fi, .int .i64 te, .int .i64 ht, .int .i64 hv, .int .i64 hc, .slice a l.length cap] 26)).alloc (.cells #[.int .i64 id2, .int .i64 fi2, .int .i64 te2, .int .i64 ht2, .int .i64 hv2, .int .i64 hc2, .slice a2 l2.length cap2] 26)).alloc (.cells #[.int .i64 pg, .int .i64 pk, .slice pa plen pcap, .int .i64 pht, .int .i64 phv, .int .i64 phc, .int .i64 pi, .int .i64 pt, .bool pm, .bool ph] 28)) := bel_alloc (bel_alloc (bel_alloc (Below.refl _ _) _) _) _
  obtain ⟨hgb, hhb, hpb, -⟩ := alloc3 w #[.int .i64 id, .int .i64 fi, .int .i64 te, .int .i64 ht, .int .i64 hv, .int .i64 hc, .slice a l.length cap] #[.int .i64 id2, .int .i64 fi2, .int .i64 te2, .int .i64 ht2, .int .i64 hv2, .int .i64 hc2, .slice a2 l2.length cap2] #[.int .i64 pg, .int .i64 pk, .slice pa plen pcap, .int .i64 pht, .int .i64 phv, .int .i64 phc, .int .i64 pi, .int .i64 pt, .bool pm, .bool ph] 26 26 28
  obtain ⟨x0, x1, x2, x3, x4, x5, x6, -⟩ := cells7 hgb; obtain ⟨y0, y1, y2, y3, y4, y5, y6, -⟩ := cells7 hhb; obtain ⟨z0, z1, z2, z3, z4, z5, z6, z7, z8, z9⟩ := cells10a hpb
  go_enter Try.func3, Try.ntmps3
  go_wp2_with (first
    | (go_at_call 12; ((with_reducible refine (GK.out _).mono ?_); rintro e w1 ⟨rfl, hB⟩; replace hC := bel2 hC hB; replace hgb := (hB.block _ (heap_lt hgb)).trans hgb; replace hhb := (hB.block _ (heap_lt hhb)).trans hhb; replace hpb := (hB.block _ (heap_lt hpb)).trans hpb; clear hB x0 x1 x2 x3 x4 x5 x6 y0 y1 y2 y3 y4 y5 y6 z0 z1 z2 z3 z4 z5 z6 z7 z8 z9; obtain ⟨x0, x1, x2, x3, x4, x5, x6, -⟩ := cells7 hgb; obtain ⟨y0, y1, y2, y3, y4, y5, y6, -⟩ := cells7 hhb; obtain ⟨z0, z1, z2, z3, z4, z5, z6, z7, z8, z9⟩ := cells10a hpb))
    | (go_at_call 13; ((with_reducible refine (GF1.out _ hC).mono ?_); rintro e w2 ⟨rfl, hB⟩; replace hC := bel2 hC hB; replace hgb := (hB.block _ (heap_lt hgb)).trans hgb; replace hhb := (hB.block _ (heap_lt hhb)).trans hhb; replace hpb := (hB.block _ (heap_lt hpb)).trans hpb; clear hB x0 x1 x2 x3 x4 x5 x6 y0 y1 y2 y3 y4 y5 y6 z0 z1 z2 z3 z4 z5 z6 z7 z8 z9; obtain ⟨x0, x1, x2, x3, x4, x5, x6, -⟩ := cells7 hgb; obtain ⟨y0, y1, y2, y3, y4, y5, y6, -⟩ := cells7 hhb; obtain ⟨z0, z1, z2, z3, z4, z5, z6, z7, z8, z9⟩ := cells10a hpb))
    | (go_at_call 13; ((with_reducible refine (GF2.out _ hC).mono ?_); rintro e w3 ⟨rfl, hB⟩; replace hC := bel2 hC hB; replace hgb := (hB.block _ (heap_lt hgb)).trans hgb; replace hhb := (hB.block _ (heap_lt hhb)).trans hhb; replace hpb := (hB.block _ (heap_lt hpb)).trans hpb; clear hB x0 x1 x2 x3 x4 x5 x6 y0 y1 y2 y3 y4 y5 y6 z0 z1 z2 z3 z4 z5 z6 z7 z8 z9; obtain ⟨x0, x1, x2, x3, x4, x5, x6, -⟩ := cells7 hgb; obtain ⟨y0, y1, y2, y3, y4, y5, y6, -⟩ := cells7 hhb; obtain ⟨z0, z1, z2, z3, z4, z5, z6, z7, z8, z9⟩ := cells10a hpb))
    | (go_at_call 14; ((with_reducible refine (GF3.out _ hC).mono ?_); rintro e w4 ⟨rfl, hB⟩; replace hC := bel2 hC hB; replace hgb := (hB.block _ (heap_lt hgb)).trans hgb; replace hhb := (hB.block _ (heap_lt hhb)).trans hhb; replace hpb := (hB.block _ (heap_lt hpb)).trans hpb; clear hB x0 x1 x2 x3 x4 x5 x6 y0 y1 y2 y3 y4 y5 y6 z0 z1 z2 z3 z4 z5 z6 z7 z8 z9; obtain ⟨x0, x1, x2, x3, x4, x5, x6, -⟩ := cells7 hgb; obtain ⟨y0, y1, y2, y3, y4, y5, y6, -⟩ := cells7 hhb; obtain ⟨z0, z1, z2, z3, z4, z5, z6, z7, z8, z9⟩ := cells10a hpb)))
  have HS := Lib.hid (fun W (hW : Above w4 W) => And.intro (cells7 ((Below.block hW _ (heap_lt hgb)).trans hgb)) (And.intro (cells7 ((Below.block hW _ (heap_lt hhb)).trans hhb)) (cells10a ((Below.block hW _ (heap_lt hpb)).trans hpb))))
  refine wp_region_below (by kernel_rfl) (by kernel_rfl) ?_
  repeat (first
    | (refine BigFrame.wpQuiet_skip (by rfl) ?_; (try simp only [Act.put, List.setIfInBounds_toArray, List.set_cons_zero, List.set_cons_succ]))
    | (refine BigFrame.wpQuiet_want (by rfl) (fun K hK => ?_); apply Exists.intro; refine ⟨fun W hW => ?_, hK _ ?_⟩; (focus (have hWB : Below _ _ W := hW; obtain ⟨⟨x0, x1, x2, x3, x4, x5, x6, -⟩, ⟨y0, y1, y2, y3, y4, y5, y6, -⟩, z0, z1, z2, z3, z4, z5, z6, z7, z8, z9⟩ := HS.out _ hW; go_simp; (first | done | with_reducible rfl | (first | (go_at_call 15; with_reducible exact gives_above hW (GI1.out _ (bel2 hC hWB))) | (go_at_call 16; with_reducible exact gives_above hW (GI2.out _ (bel2 hC hWB))) | (go_at_call 17; with_reducible exact gives_above hW (GS1.out _ (bel2 hC hWB))) | (go_at_call 18; with_reducible exact gives_above hW (GS2.out _ (bel2 hC hWB))) | (go_at_call 19; with_reducible exact gives_above hW (GN1.out _)) | (go_at_call 20; with_reducible exact gives_above hW (GN2.out _)) | (go_at_call 18; with_reducible exact gives_above hW (GS3.out _))) | (rw [if_neg (by omega)]; go_simp; (first | done | with_reducible rfl))))); clear hK K; (try simp only [Act.put, List.setIfInBounds_toArray, List.set_cons_zero, List.set_cons_succ])))
  refine wpQuiet_nil ?_
  intro w5 hB
  replace hB : Below _ _ w5 := hB
  replace hC := bel2 hC hB; replace hgb := (hB.block _ (heap_lt hgb)).trans hgb; replace hhb := (hB.block _ (heap_lt hhb)).trans hhb; replace hpb := (hB.block _ (heap_lt hpb)).trans hpb
  clear HS hB x0 x1 x2 x3 x4 x5 x6 y0 y1 y2 y3 y4 y5 y6 z0 z1 z2 z3 z4 z5 z6 z7 z8 z9
  obtain ⟨x0, x1, x2, x3, x4, x5, x6, -⟩ := cells7 hgb; obtain ⟨y0, y1, y2, y3, y4, y5, y6, -⟩ := cells7 hhb; obtain ⟨z0, z1, z2, z3, z4, z5, z6, z7, z8, z9⟩ := cells10a hpb
  go_wp2_with (first
    | (go_at_call 16; ((with_reducible refine (GI2.out _ hC).mono ?_); rintro e w6 ⟨rfl, hB⟩; replace hC := bel2 hC hB; replace hgb := (hB.block _ (heap_lt hgb)).trans hgb; replace hhb := (hB.block _ (heap_lt hhb)).trans hhb; replace hpb := (hB.block _ (heap_lt hpb)).trans hpb; clear hB x0 x1 x2 x3 x4 x5 x6 y0 y1 y2 y3 y4 y5 y6 z0 z1 z2 z3 z4 z5 z6 z7 z8 z9; obtain ⟨x0, x1, x2, x3, x4, x5, x6, -⟩ := cells7 hgb; obtain ⟨y0, y1, y2, y3, y4, y5, y6, -⟩ := cells7 hhb; obtain ⟨z0, z1, z2, z3, z4, z5, z6, z7, z8, z9⟩ := cells10a hpb)))
  go_ret
  exact ⟨by simp, hC⟩

set_option maxRecDepth 100000 in
set_option maxHeartbeats 4000000 in
theorem gt_5 (w : World) (id fi te ht hv hc : Int) (l : List EntryC) (a : Option Addr) (cap : Nat) (hg : GoodG w ⟨id, fi, te, ht, hv, hc, l⟩ a) (id2 fi2 te2 ht2 hv2 hc2 : Int) (l2 : List EntryC) (a2 : Option Addr) (cap2 : Nat) (hh : GoodG w ⟨id2, fi2, te2, ht2, hv2, hc2, l2⟩ a2) (pg pk : Int) (pa : Option Addr) (plen pcap : Nat) (pht phv phc pi pt : Int) (pm ph : Bool) (pl : List EntryC) (hgp : goodPart (⟨pg, pk, pa, plen, pcap, pht, phv, phc, pi, pt, pm, ph⟩ : PartC)) (hpl : pl.length = plen) (hpr : RowV w pa plen 3 (entryCells pl)) (hpg : ∀ e ∈ pl, goodEntry e) (hf1 : fewGB l = true) (hf2 : fewGB l2 = true) (hf3 : few6B pl = true) (hG : isG ⟨id, fi, te, ht, hv, hc, l⟩ = true) (hc0 : chkG ⟨id, fi, te, ht, hv, hc, l⟩ ⟨pg, pk, pa, plen, pcap, pht, phv, phc, pi, pt, pm, ph⟩ pl = 0) : Calls Try.prog 3 #[.agg #[.int .i64 id, .int .i64 fi, .int .i64 te, .int .i64 ht, .int .i64 hv, .int .i64 hc, .slice a l.length cap], .agg #[.int .i64 id2, .int .i64 fi2, .int .i64 te2, .int .i64 ht2, .int .i64 hv2, .int .i64 hc2, .slice a2 l2.length cap2], .agg #[.int .i64 pg, .int .i64 pk, .slice pa plen pcap, .int .i64 pht, .int .i64 phv, .int .i64 phc, .int .i64 pi, .int .i64 pt, .bool pm, .bool ph]] w fun e w' => e = .returned (.bool true) ∧ Below w.heap.size w w' := by
  have GK := Lib.hid group_known
  have GF1 := Lib.hid (fun W (hB : Below w.heap.size w W) => fewG_any id fi te ht hv hc l a cap W (hg.2.1.below hB) (fun e he => (hg.2.2 e he).2.2))
  rw [hf1] at GF1
  have GF2 := Lib.hid (fun W (hB : Below w.heap.size w W) => fewG_any id2 fi2 te2 ht2 hv2 hc2 l2 a2 cap2 W (hh.2.1.below hB) (fun e he => (hh.2.2 e he).2.2))
  rw [hf2] at GF2
  have GF3 := Lib.hid (fun W (hB : Below w.heap.size w W) => (show Gives Try.prog 14 #[.agg #[.int .i64 pg, .int .i64 pk, .slice pa plen pcap, .int .i64 pht, .int .i64 phv, .int .i64 phc, .int .i64 pi, .int .i64 pt, .bool pm, .bool ph]] W (.bool (few6B pl)) from few6_any ⟨pg, pk, pa, plen, pcap, pht, phv, phc, pi, pt, pm, ph⟩ pl W hpl (hpr.below hB) (fun e he => (hpg e he).2.2)))
  rw [hf3] at GF3
  obtain ⟨hGH, h30⟩ := hg.has hf1
  obtain ⟨hHH, h31⟩ := hh.has hf2
  dsimp only at h30 h31
  have hPE : HasE w ⟨pg, pk, pa, plen, pcap, pht, phv, phc, pi, pt, pm, ph⟩ pl := GoodP.has (x := (⟨pg, pk, pa, plen, pcap, pht, phv, phc, pi, pt, pm, ph⟩, pl)) ⟨hgp, hpl, hpr, fun e he => hpg e he⟩ hf3
  have GI1 := Lib.hid (fun W (hB : Below w.heap.size w W) => grpIs_any id fi te ht hv hc l a cap W (hGH.below hB))
  have GI2 := Lib.hid (fun W (hB : Below w.heap.size w W) => refIsG_any id fi te ht hv hc l a cap W (hGH.below hB))
  have GS1 := Lib.hid (fun W (hB : Below w.heap.size w W) => grpSame_any id fi te ht hv hc l a cap id2 fi2 te2 ht2 hv2 hc2 l2 a2 cap2 W (hGH.below hB) (hHH.below hB))
  have GS2 := Lib.hid (fun W (hB : Below w.heap.size w W) => refSame6_any id fi te ht hv hc l a cap id2 fi2 te2 ht2 hv2 hc2 l2 a2 cap2 W (hGH.below hB) (hHH.below hB))
  have GN1 := Lib.hid (new_any id)
  have GN2 := Lib.hid (refNew_any id)
  have GS3 := Lib.hid (fun W => (show Gives Try.prog 18 #[.agg #[.int .i64 id, .int .i64 1, .int .i64 0, .int .i64 0, .int .i64 0, .int .i64 0, .slice none 0 0], .agg #[.int .i64 id, .int .i64 1, .int .i64 0, .int .i64 0, .int .i64 0, .int .i64 0, .slice none 0 0]] W (.bool true) from by have := refSame6_any id 1 0 0 0 0 [] none 0 id 1 0 0 0 0 [] none 0 W (hasG_nil _ _ _ _ _ _ _ _) (hasG_nil _ _ _ _ _ _ _ _); rwa [show sameG ⟨id, 1, 0, 0, 0, 0, []⟩ ⟨id, 1, 0, 0, 0, 0, []⟩ = true from sameG_iff.2 (by simp)] at this))
  generalize sameG ⟨id, fi, te, ht, hv, hc, l⟩ ⟨id2, fi2, te2, ht2, hv2, hc2, l2⟩ = bS at *
  have GC1 := Lib.hid (fun W (hB : Below w.heap.size w W) => chk_any id fi te ht hv hc l a cap pg pk pa plen pcap pht phv phc pi pt pm ph pl W (hGH.below hB) hG (hPE.below hB))
  have GC2 := Lib.hid (fun W (hB : Below w.heap.size w W) => refChk_any id fi te ht hv hc l a cap pg pk pa plen pcap pht phv phc pi pt pm ph pl W (hGH.below hB) hG (hPE.below hB))
  have GD := Lib.hid (fun W (hB : Below w.heap.size w W) => do_any id fi te ht hv hc l a cap pg pk pa plen pcap pht phv phc pi pt pm ph pl W (hGH.below hB) hG (hPE.below hB) (by omega))
  have GL1 := Lib.hid (fun W (hB : Below w.heap.size w W) => last_any id fi te ht hv hc l a cap W (hGH.below hB) hG)
  have GL2 := Lib.hid (fun W (hB : Below w.heap.size w W) => refLast_any id fi te ht hv hc l a cap W (hGH.below hB) hG)
  have GR := Lib.hid (fun W (hB : Below w.heap.size w W) => refDo_any id fi te ht hv hc l a cap pg pk pa plen pcap pht phv phc pi pt pm ph pl W (hGH.below hB) hG (hPE.below hB) hc0 (by omega))
  rw [hc0] at GC1 GC2 GD
  rw [hG] at GI1 GI2
  unfold RDoPost at GR
  unfold DoPost at GD
  have hra : ∀ k, inBlkE a l.length k → k < w.heap.size := fun k hk => inBlkE_lt hGH.2 hk
  generalize doG ⟨id, fi, te, ht, hv, hc, l⟩ ⟨pg, pk, pa, plen, pcap, pht, phv, phc, pi, pt, pm, ph⟩ pl = D at *
  obtain ⟨did, dfi, dte, dht, dhv, dhc, dl⟩ := D
  dsimp only at GR GD
  clear hg hh hgp hpr hpg hpl hHH hPE h30 h31 hG hGH hc0
  have hC : Below w.heap.size w (((w.alloc (.cells #[.int .i64 id, .int .i64 fi, .int .i64 te, .int .i64 ht, .int .i64 hv, .int .i64 hc, .slice a l.length cap] 26)).alloc (.cells #[.int .i64 id2, .int .i64 fi2, .int .i64 te2, .int .i64 ht2, .int .i64 hv2, .int .i64 hc2, .slice a2 l2.length cap2] 26)).alloc (.cells #[.int .i64 pg, .int .i64 pk, .slice pa plen pcap, .int .i64 pht, .int .i64 phv, .int .i64 phc, .int .i64 pi, .int .i64 pt, .bool pm, .bool ph] 28)) := bel_alloc (bel_alloc (bel_alloc (Below.refl _ _) _) _) _
  obtain ⟨hgb, hhb, hpb, -⟩ := alloc3 w #[.int .i64 id, .int .i64 fi, .int .i64 te, .int .i64 ht, .int .i64 hv, .int .i64 hc, .slice a l.length cap] #[.int .i64 id2, .int .i64 fi2, .int .i64 te2, .int .i64 ht2, .int .i64 hv2, .int .i64 hc2, .slice a2 l2.length cap2] #[.int .i64 pg, .int .i64 pk, .slice pa plen pcap, .int .i64 pht, .int .i64 phv, .int .i64 phc, .int .i64 pi, .int .i64 pt, .bool pm, .bool ph] 26 26 28
  obtain ⟨x0, x1, x2, x3, x4, x5, x6, -⟩ := cells7 hgb; obtain ⟨y0, y1, y2, y3, y4, y5, y6, -⟩ := cells7 hhb; obtain ⟨z0, z1, z2, z3, z4, z5, z6, z7, z8, z9⟩ := cells10a hpb
  go_enter Try.func3, Try.ntmps3
  go_wp2_with (first
    | (go_at_call 12; ((with_reducible refine (GK.out _).mono ?_); rintro e w1 ⟨rfl, hB⟩; replace hC := bel2 hC hB; replace hgb := (hB.block _ (heap_lt hgb)).trans hgb; replace hhb := (hB.block _ (heap_lt hhb)).trans hhb; replace hpb := (hB.block _ (heap_lt hpb)).trans hpb; clear hB x0 x1 x2 x3 x4 x5 x6 y0 y1 y2 y3 y4 y5 y6 z0 z1 z2 z3 z4 z5 z6 z7 z8 z9; obtain ⟨x0, x1, x2, x3, x4, x5, x6, -⟩ := cells7 hgb; obtain ⟨y0, y1, y2, y3, y4, y5, y6, -⟩ := cells7 hhb; obtain ⟨z0, z1, z2, z3, z4, z5, z6, z7, z8, z9⟩ := cells10a hpb))
    | (go_at_call 13; ((with_reducible refine (GF1.out _ hC).mono ?_); rintro e w2 ⟨rfl, hB⟩; replace hC := bel2 hC hB; replace hgb := (hB.block _ (heap_lt hgb)).trans hgb; replace hhb := (hB.block _ (heap_lt hhb)).trans hhb; replace hpb := (hB.block _ (heap_lt hpb)).trans hpb; clear hB x0 x1 x2 x3 x4 x5 x6 y0 y1 y2 y3 y4 y5 y6 z0 z1 z2 z3 z4 z5 z6 z7 z8 z9; obtain ⟨x0, x1, x2, x3, x4, x5, x6, -⟩ := cells7 hgb; obtain ⟨y0, y1, y2, y3, y4, y5, y6, -⟩ := cells7 hhb; obtain ⟨z0, z1, z2, z3, z4, z5, z6, z7, z8, z9⟩ := cells10a hpb))
    | (go_at_call 13; ((with_reducible refine (GF2.out _ hC).mono ?_); rintro e w3 ⟨rfl, hB⟩; replace hC := bel2 hC hB; replace hgb := (hB.block _ (heap_lt hgb)).trans hgb; replace hhb := (hB.block _ (heap_lt hhb)).trans hhb; replace hpb := (hB.block _ (heap_lt hpb)).trans hpb; clear hB x0 x1 x2 x3 x4 x5 x6 y0 y1 y2 y3 y4 y5 y6 z0 z1 z2 z3 z4 z5 z6 z7 z8 z9; obtain ⟨x0, x1, x2, x3, x4, x5, x6, -⟩ := cells7 hgb; obtain ⟨y0, y1, y2, y3, y4, y5, y6, -⟩ := cells7 hhb; obtain ⟨z0, z1, z2, z3, z4, z5, z6, z7, z8, z9⟩ := cells10a hpb))
    | (go_at_call 14; ((with_reducible refine (GF3.out _ hC).mono ?_); rintro e w4 ⟨rfl, hB⟩; replace hC := bel2 hC hB; replace hgb := (hB.block _ (heap_lt hgb)).trans hgb; replace hhb := (hB.block _ (heap_lt hhb)).trans hhb; replace hpb := (hB.block _ (heap_lt hpb)).trans hpb; clear hB x0 x1 x2 x3 x4 x5 x6 y0 y1 y2 y3 y4 y5 y6 z0 z1 z2 z3 z4 z5 z6 z7 z8 z9; obtain ⟨x0, x1, x2, x3, x4, x5, x6, -⟩ := cells7 hgb; obtain ⟨y0, y1, y2, y3, y4, y5, y6, -⟩ := cells7 hhb; obtain ⟨z0, z1, z2, z3, z4, z5, z6, z7, z8, z9⟩ := cells10a hpb)))
  have HS := Lib.hid (fun W (hW : Above w4 W) => And.intro (cells7 ((Below.block hW _ (heap_lt hgb)).trans hgb)) (And.intro (cells7 ((Below.block hW _ (heap_lt hhb)).trans hhb)) (cells10a ((Below.block hW _ (heap_lt hpb)).trans hpb))))
  refine wp_region_below (by kernel_rfl) (by kernel_rfl) ?_
  repeat (first
    | (refine BigFrame.wpQuiet_skip (by rfl) ?_; (try simp only [Act.put, List.setIfInBounds_toArray, List.set_cons_zero, List.set_cons_succ]))
    | (refine BigFrame.wpQuiet_want (by rfl) (fun K hK => ?_); apply Exists.intro; refine ⟨fun W hW => ?_, hK _ ?_⟩; (focus (have hWB : Below _ _ W := hW; obtain ⟨⟨x0, x1, x2, x3, x4, x5, x6, -⟩, ⟨y0, y1, y2, y3, y4, y5, y6, -⟩, z0, z1, z2, z3, z4, z5, z6, z7, z8, z9⟩ := HS.out _ hW; go_simp; (first | done | with_reducible rfl | (first | (go_at_call 15; with_reducible exact gives_above hW (GI1.out _ (bel2 hC hWB))) | (go_at_call 16; with_reducible exact gives_above hW (GI2.out _ (bel2 hC hWB))) | (go_at_call 17; with_reducible exact gives_above hW (GS1.out _ (bel2 hC hWB))) | (go_at_call 18; with_reducible exact gives_above hW (GS2.out _ (bel2 hC hWB))) | (go_at_call 19; with_reducible exact gives_above hW (GN1.out _)) | (go_at_call 20; with_reducible exact gives_above hW (GN2.out _)) | (go_at_call 18; with_reducible exact gives_above hW (GS3.out _))) | (rw [if_neg (by omega)]; go_simp; (first | done | with_reducible rfl))))); clear hK K; (try simp only [Act.put, List.setIfInBounds_toArray, List.set_cons_zero, List.set_cons_succ])))
  refine wpQuiet_nil ?_
  intro w5 hB
  replace hB : Below _ _ w5 := hB
  replace hC := bel2 hC hB; replace hgb := (hB.block _ (heap_lt hgb)).trans hgb; replace hhb := (hB.block _ (heap_lt hhb)).trans hhb; replace hpb := (hB.block _ (heap_lt hpb)).trans hpb
  clear HS hB x0 x1 x2 x3 x4 x5 x6 y0 y1 y2 y3 y4 y5 y6 z0 z1 z2 z3 z4 z5 z6 z7 z8 z9
  obtain ⟨x0, x1, x2, x3, x4, x5, x6, -⟩ := cells7 hgb; obtain ⟨y0, y1, y2, y3, y4, y5, y6, -⟩ := cells7 hhb; obtain ⟨z0, z1, z2, z3, z4, z5, z6, z7, z8, z9⟩ := cells10a hpb
  go_wp2_with (first
    | (go_at_call 16; ((with_reducible refine (GI2.out _ hC).mono ?_); rintro e w6 ⟨rfl, hB⟩; replace hC := bel2 hC hB; replace hgb := (hB.block _ (heap_lt hgb)).trans hgb; replace hhb := (hB.block _ (heap_lt hhb)).trans hhb; replace hpb := (hB.block _ (heap_lt hpb)).trans hpb; clear hB x0 x1 x2 x3 x4 x5 x6 y0 y1 y2 y3 y4 y5 y6 z0 z1 z2 z3 z4 z5 z6 z7 z8 z9; obtain ⟨x0, x1, x2, x3, x4, x5, x6, -⟩ := cells7 hgb; obtain ⟨y0, y1, y2, y3, y4, y5, y6, -⟩ := cells7 hhb; obtain ⟨z0, z1, z2, z3, z4, z5, z6, z7, z8, z9⟩ := cells10a hpb))
    | (go_at_call 21; ((with_reducible refine (GC2.out _ hC).mono ?_); rintro e w7 ⟨rfl, hB⟩; replace hC := bel2 hC hB; replace hgb := (hB.block _ (heap_lt hgb)).trans hgb; replace hhb := (hB.block _ (heap_lt hhb)).trans hhb; replace hpb := (hB.block _ (heap_lt hpb)).trans hpb; clear hB x0 x1 x2 x3 x4 x5 x6 y0 y1 y2 y3 y4 y5 y6 z0 z1 z2 z3 z4 z5 z6 z7 z8 z9; obtain ⟨x0, x1, x2, x3, x4, x5, x6, -⟩ := cells7 hgb; obtain ⟨y0, y1, y2, y3, y4, y5, y6, -⟩ := cells7 hhb; obtain ⟨z0, z1, z2, z3, z4, z5, z6, z7, z8, z9⟩ := cells10a hpb))
    | (go_at_call 22; ((with_reducible refine (GD.out _ hC).mono ?_); rintro e w8 ⟨da, dc, rfl, hDH, hB, -⟩; have hdl : (∀ k, inBlkE da dl.length k → k < w8.heap.size) := (fun k hk => inBlkE_lt hDH.2 hk); obtain ⟨v0, v1, v2, v3, v4, v5, v6, -⟩ := cells7 (((bel2 hB (bel_alloc (Below.refl w8.heap.size w8) (.cells #[.int .i64 did, .int .i64 dfi, .int .i64 dte, .int .i64 dht, .int .i64 dhv, .int .i64 dhc, .slice da dl.length dc] 26))).block _ (heap_lt hgb)).trans hgb); have hw8 : w.heap.size + 3 ≤ w8.heap.size := (by have h1 := hB.size; have h3 := heap_lt hpb; omega); replace hB := bel2 hB (gp_bel w8 #[.int .i64 did, .int .i64 dfi, .int .i64 dte, .int .i64 dht, .int .i64 dhv, .int .i64 dhc, .slice da dl.length dc] #[.int .i64 id, .int .i64 fi, .int .i64 te, .int .i64 ht, .int .i64 hv, .int .i64 hc, .slice a l.length cap] 26 26); have hxb := two_a w8 #[.int .i64 did, .int .i64 dfi, .int .i64 dte, .int .i64 dht, .int .i64 dhv, .int .i64 dhc, .slice da dl.length dc] #[.int .i64 id, .int .i64 fi, .int .i64 te, .int .i64 ht, .int .i64 hv, .int .i64 hc, .slice a l.length cap] 26 26; have hwb := two_b w8 #[.int .i64 did, .int .i64 dfi, .int .i64 dte, .int .i64 dht, .int .i64 dhv, .int .i64 dhc, .slice da dl.length dc] #[.int .i64 id, .int .i64 fi, .int .i64 te, .int .i64 ht, .int .i64 hv, .int .i64 hc, .slice a l.length cap] 26 26; replace hDH := hDH.below (gp_bel w8 #[.int .i64 did, .int .i64 dfi, .int .i64 dte, .int .i64 dht, .int .i64 dhv, .int .i64 dhc, .slice da dl.length dc] #[.int .i64 id, .int .i64 fi, .int .i64 te, .int .i64 ht, .int .i64 hv, .int .i64 hc, .slice a l.length cap] 26 26); replace hC := bel2 hC hB; replace hgb := (hB.block _ (heap_lt hgb)).trans hgb; replace hhb := (hB.block _ (heap_lt hhb)).trans hhb; replace hpb := (hB.block _ (heap_lt hpb)).trans hpb; clear hB x0 x1 x2 x3 x4 x5 x6 y0 y1 y2 y3 y4 y5 y6 z0 z1 z2 z3 z4 z5 z6 z7 z8 z9; obtain ⟨x0, x1, x2, x3, x4, x5, x6, -⟩ := cells7 hgb; obtain ⟨y0, y1, y2, y3, y4, y5, y6, -⟩ := cells7 hhb; obtain ⟨z0, z1, z2, z3, z4, z5, z6, z7, z8, z9⟩ := cells10a hpb))
    | (go_at_call 23; ((with_reducible refine (GR.out _ hC).mono ?_); rintro e w9 ⟨ra, rc, rfl, hRH, hB, hrn⟩; have hxb9 := (hB.block _ (heap_lt hxb)).trans hxb; have hwb9 := (hB.block _ (heap_lt hwb)).trans hwb; have hDH9 := hDH.below hB; replace hC := bel2 hC hB; replace hgb := (hB.block _ (heap_lt hgb)).trans hgb; replace hhb := (hB.block _ (heap_lt hhb)).trans hhb; replace hpb := (hB.block _ (heap_lt hpb)).trans hpb; clear hB x0 x1 x2 x3 x4 x5 x6 y0 y1 y2 y3 y4 y5 y6 z0 z1 z2 z3 z4 z5 z6 z7 z8 z9; obtain ⟨x0, x1, x2, x3, x4, x5, x6, -⟩ := cells7 hgb; obtain ⟨y0, y1, y2, y3, y4, y5, y6, -⟩ := cells7 hhb; obtain ⟨z0, z1, z2, z3, z4, z5, z6, z7, z8, z9⟩ := cells10a hpb; obtain ⟨u0, u1, u2, u3, u4, u5, u6, fu⟩ := cells7 hwb9)))
  have hr9 := st7_block (b := w8.heap.size + 1) hwb9 (.int .i64 did) (.int .i64 dfi) (.int .i64 dte) (.int .i64 dht) (.int .i64 dhv) (.int .i64 dhc) (.slice ra dl.length rc)
  have hF9 := st7_frame w9 (w8.heap.size + 1) (.int .i64 did) (.int .i64 dfi) (.int .i64 dte) (.int .i64 dht) (.int .i64 dhv) (.int .i64 dhc) (.slice ra dl.length rc)
  have hx9 := hF9.get hxb9 (show ¬ (w8.heap.size = w8.heap.size + 1) by omega)
  have hg9 := hF9.get hgb (show ¬ (w.heap.size = w8.heap.size + 1) by omega)
  have hp9 := hF9.get hpb (show ¬ (w.heap.size + 1 + 1 = w8.heap.size + 1) by omega)
  have hC9 := hC.trans (hF9.toBelow hC.size (fun k h => by omega))
  have hDH2 : HasG (st7 w9 (w8.heap.size + 1) (.int .i64 did) (.int .i64 dfi) (.int .i64 dte) (.int .i64 dht) (.int .i64 dhv) (.int .i64 dhc) (.slice ra dl.length rc)) da ⟨did, dfi, dte, dht, dhv, dhc, dl⟩ := ⟨hDH9.1, rowV_frame hDH9.2 hF9 (fun k hk h => by have := hdl k hk; omega)⟩
  have hRH2 : HasG (st7 w9 (w8.heap.size + 1) (.int .i64 did) (.int .i64 dfi) (.int .i64 dte) (.int .i64 dht) (.int .i64 dhv) (.int .i64 dhc) (.slice ra dl.length rc)) ra ⟨did, dfi, dte, dht, dhv, dhc, dl⟩ := ⟨hRH.1, rowV_frame hRH.2 hF9 (fun k hk h => by
    rcases hrn k hk with h1 | h1
    · have := hra k h1; omega
    · simp at h1; omega)⟩
  simp only [st7] at hr9 hx9 hg9 hp9 hC9 hDH2 hRH2
  clear x0 x1 x2 x3 x4 x5 x6 y0 y1 y2 y3 y4 y5 y6 z0 z1 z2 z3 z4 z5 z6 z7 z8 z9 u0 u1 u2 u3 u4 u5 u6 v0 v1 v2 v3 v4 v5 v6 fu hF9
  generalize (((((((w9.setCell ⟨w8.heap.size + 1, 0, none⟩ (.int .i64 did)).setCell ⟨w8.heap.size + 1, 1, none⟩ (.int .i64 dfi)).setCell ⟨w8.heap.size + 1, 2, none⟩ (.int .i64 dte)).setCell ⟨w8.heap.size + 1, 3, none⟩ (.int .i64 dht)).setCell ⟨w8.heap.size + 1, 4, none⟩ (.int .i64 dhv)).setCell ⟨w8.heap.size + 1, 5, none⟩ (.int .i64 dhc)).setCell ⟨w8.heap.size + 1, 6, none⟩ (.slice ra dl.length rc)) = wz at *
  have GSD := Lib.hid (fun W (h1 : HasG W da ⟨did, dfi, dte, dht, dhv, dhc, dl⟩) (h2 : HasG W ra ⟨did, dfi, dte, dht, dhv, dhc, dl⟩) => (show Gives Try.prog 18 #[.agg #[.int .i64 did, .int .i64 dfi, .int .i64 dte, .int .i64 dht, .int .i64 dhv, .int .i64 dhc, .slice da dl.length dc], .agg #[.int .i64 did, .int .i64 dfi, .int .i64 dte, .int .i64 dht, .int .i64 dhv, .int .i64 dhc, .slice ra dl.length rc]] W (.bool true) from by have := refSame6_any did dfi dte dht dhv dhc dl da dc did dfi dte dht dhv dhc dl ra rc W h1 h2; rwa [show sameG ⟨did, dfi, dte, dht, dhv, dhc, dl⟩ ⟨did, dfi, dte, dht, dhv, dhc, dl⟩ = true from sameG_iff.2 (by simp)] at this))
  have HS := Lib.hid (fun W (hW : Above wz W) => And.intro (cells7 ((Below.block hW _ (heap_lt hg9)).trans hg9)) (And.intro (cells10a ((Below.block hW _ (heap_lt hp9)).trans hp9)) (And.intro (cells7 ((Below.block hW _ (heap_lt hx9)).trans hx9)) (cells7 ((Below.block hW _ (heap_lt hr9)).trans hr9)))))
  refine wp_region_below (by kernel_rfl) (by kernel_rfl) ?_
  repeat (first
    | (refine BigFrame.wpQuiet_skip (by rfl) ?_; (try simp only [Act.put, List.setIfInBounds_toArray, List.set_cons_zero, List.set_cons_succ]))
    | (refine BigFrame.wpQuiet_want (by rfl) (fun K hK => ?_); apply Exists.intro; refine ⟨fun W hW => ?_, hK _ ?_⟩; (focus (have hWB : Below _ _ W := hW; obtain ⟨⟨x0, x1, x2, x3, x4, x5, x6, -⟩, ⟨z0, z1, z2, z3, z4, z5, z6, z7, z8, z9⟩, ⟨y0, y1, y2, y3, y4, y5, y6, -⟩, u0, u1, u2, u3, u4, u5, u6, -⟩ := HS.out _ hW; go_simp; (first | done | with_reducible rfl | (first | (go_at_call 24; with_reducible exact gives_above hW (GC1.out _ (bel2 hC9 hWB))) | (go_at_call 18; with_reducible exact gives_above hW (GSD.out _ (hDH2.below hWB) (hRH2.below hWB))) | (go_at_call 25; with_reducible exact gives_above hW (GL1.out _ (bel2 hC9 hWB))) | (go_at_call 26; with_reducible exact gives_above hW (GL2.out _ (bel2 hC9 hWB)))) | (rw [if_neg (by omega)]; go_simp; (first | done | with_reducible rfl))))); clear hK K; (try simp only [Act.put, List.setIfInBounds_toArray, List.set_cons_zero, List.set_cons_succ])))
  refine wpQuiet_nil ?_
  intro w12 hB
  replace hB : Below _ _ w12 := hB
  go_wp2
  go_ret
  exact ⟨by simp, bel2 hC9 hB⟩

set_option maxRecDepth 100000 in
set_option maxHeartbeats 4000000 in
theorem gt_6 (w : World) (id fi te ht hv hc : Int) (l : List EntryC) (a : Option Addr) (cap : Nat) (hg : GoodG w ⟨id, fi, te, ht, hv, hc, l⟩ a) (id2 fi2 te2 ht2 hv2 hc2 : Int) (l2 : List EntryC) (a2 : Option Addr) (cap2 : Nat) (hh : GoodG w ⟨id2, fi2, te2, ht2, hv2, hc2, l2⟩ a2) (pg pk : Int) (pa : Option Addr) (plen pcap : Nat) (pht phv phc pi pt : Int) (pm ph : Bool) (pl : List EntryC) (hgp : goodPart (⟨pg, pk, pa, plen, pcap, pht, phv, phc, pi, pt, pm, ph⟩ : PartC)) (hpl : pl.length = plen) (hpr : RowV w pa plen 3 (entryCells pl)) (hpg : ∀ e ∈ pl, goodEntry e) (hf1 : fewGB l = true) (hf2 : fewGB l2 = true) (hf3 : few6B pl = true) (hG : isG ⟨id, fi, te, ht, hv, hc, l⟩ = true) (hc0 : chkG ⟨id, fi, te, ht, hv, hc, l⟩ ⟨pg, pk, pa, plen, pcap, pht, phv, phc, pi, pt, pm, ph⟩ pl ≠ 0) : Calls Try.prog 3 #[.agg #[.int .i64 id, .int .i64 fi, .int .i64 te, .int .i64 ht, .int .i64 hv, .int .i64 hc, .slice a l.length cap], .agg #[.int .i64 id2, .int .i64 fi2, .int .i64 te2, .int .i64 ht2, .int .i64 hv2, .int .i64 hc2, .slice a2 l2.length cap2], .agg #[.int .i64 pg, .int .i64 pk, .slice pa plen pcap, .int .i64 pht, .int .i64 phv, .int .i64 phc, .int .i64 pi, .int .i64 pt, .bool pm, .bool ph]] w fun e w' => e = .returned (.bool true) ∧ Below w.heap.size w w' := by
  have GK := Lib.hid group_known
  have GF1 := Lib.hid (fun W (hB : Below w.heap.size w W) => fewG_any id fi te ht hv hc l a cap W (hg.2.1.below hB) (fun e he => (hg.2.2 e he).2.2))
  rw [hf1] at GF1
  have GF2 := Lib.hid (fun W (hB : Below w.heap.size w W) => fewG_any id2 fi2 te2 ht2 hv2 hc2 l2 a2 cap2 W (hh.2.1.below hB) (fun e he => (hh.2.2 e he).2.2))
  rw [hf2] at GF2
  have GF3 := Lib.hid (fun W (hB : Below w.heap.size w W) => (show Gives Try.prog 14 #[.agg #[.int .i64 pg, .int .i64 pk, .slice pa plen pcap, .int .i64 pht, .int .i64 phv, .int .i64 phc, .int .i64 pi, .int .i64 pt, .bool pm, .bool ph]] W (.bool (few6B pl)) from few6_any ⟨pg, pk, pa, plen, pcap, pht, phv, phc, pi, pt, pm, ph⟩ pl W hpl (hpr.below hB) (fun e he => (hpg e he).2.2)))
  rw [hf3] at GF3
  obtain ⟨hGH, h30⟩ := hg.has hf1
  obtain ⟨hHH, h31⟩ := hh.has hf2
  dsimp only at h30 h31
  have hPE : HasE w ⟨pg, pk, pa, plen, pcap, pht, phv, phc, pi, pt, pm, ph⟩ pl := GoodP.has (x := (⟨pg, pk, pa, plen, pcap, pht, phv, phc, pi, pt, pm, ph⟩, pl)) ⟨hgp, hpl, hpr, fun e he => hpg e he⟩ hf3
  have GI1 := Lib.hid (fun W (hB : Below w.heap.size w W) => grpIs_any id fi te ht hv hc l a cap W (hGH.below hB))
  have GI2 := Lib.hid (fun W (hB : Below w.heap.size w W) => refIsG_any id fi te ht hv hc l a cap W (hGH.below hB))
  have GS1 := Lib.hid (fun W (hB : Below w.heap.size w W) => grpSame_any id fi te ht hv hc l a cap id2 fi2 te2 ht2 hv2 hc2 l2 a2 cap2 W (hGH.below hB) (hHH.below hB))
  have GS2 := Lib.hid (fun W (hB : Below w.heap.size w W) => refSame6_any id fi te ht hv hc l a cap id2 fi2 te2 ht2 hv2 hc2 l2 a2 cap2 W (hGH.below hB) (hHH.below hB))
  have GN1 := Lib.hid (new_any id)
  have GN2 := Lib.hid (refNew_any id)
  have GS3 := Lib.hid (fun W => (show Gives Try.prog 18 #[.agg #[.int .i64 id, .int .i64 1, .int .i64 0, .int .i64 0, .int .i64 0, .int .i64 0, .slice none 0 0], .agg #[.int .i64 id, .int .i64 1, .int .i64 0, .int .i64 0, .int .i64 0, .int .i64 0, .slice none 0 0]] W (.bool true) from by have := refSame6_any id 1 0 0 0 0 [] none 0 id 1 0 0 0 0 [] none 0 W (hasG_nil _ _ _ _ _ _ _ _) (hasG_nil _ _ _ _ _ _ _ _); rwa [show sameG ⟨id, 1, 0, 0, 0, 0, []⟩ ⟨id, 1, 0, 0, 0, 0, []⟩ = true from sameG_iff.2 (by simp)] at this))
  generalize sameG ⟨id, fi, te, ht, hv, hc, l⟩ ⟨id2, fi2, te2, ht2, hv2, hc2, l2⟩ = bS at *
  have GC1 := Lib.hid (fun W (hB : Below w.heap.size w W) => chk_any id fi te ht hv hc l a cap pg pk pa plen pcap pht phv phc pi pt pm ph pl W (hGH.below hB) hG (hPE.below hB))
  have GC2 := Lib.hid (fun W (hB : Below w.heap.size w W) => refChk_any id fi te ht hv hc l a cap pg pk pa plen pcap pht phv phc pi pt pm ph pl W (hGH.below hB) hG (hPE.below hB))
  have GD := Lib.hid (fun W (hB : Below w.heap.size w W) => do_any id fi te ht hv hc l a cap pg pk pa plen pcap pht phv phc pi pt pm ph pl W (hGH.below hB) hG (hPE.below hB) (by omega))
  have GL1 := Lib.hid (fun W (hB : Below w.heap.size w W) => last_any id fi te ht hv hc l a cap W (hGH.below hB) hG)
  have GL2 := Lib.hid (fun W (hB : Below w.heap.size w W) => refLast_any id fi te ht hv hc l a cap W (hGH.below hB) hG)
  rw [show doG ⟨id, fi, te, ht, hv, hc, l⟩ ⟨pg, pk, pa, plen, pcap, pht, phv, phc, pi, pt, pm, ph⟩ pl = ⟨id, fi, te, ht, hv, hc, l⟩ from if_pos hc0] at GD
  unfold DoPost at GD
  dsimp only at GD
  rw [hG] at GI1 GI2
  have ht0 : (chkG ⟨id, fi, te, ht, hv, hc, l⟩ ⟨pg, pk, pa, plen, pcap, pht, phv, phc, pi, pt, pm, ph⟩ pl == 0) = false := by rw [beq_eq_false_iff_ne]; exact hc0
  have HGH := Lib.hid (fun W (hB : Below w.heap.size w W) => hGH.below hB)
  clear hc0
  generalize chkG ⟨id, fi, te, ht, hv, hc, l⟩ ⟨pg, pk, pa, plen, pcap, pht, phv, phc, pi, pt, pm, ph⟩ pl = c at *
  clear hg hh hgp hpr hpg hpl hHH hPE h30 h31 hG hGH
  have hC : Below w.heap.size w (((w.alloc (.cells #[.int .i64 id, .int .i64 fi, .int .i64 te, .int .i64 ht, .int .i64 hv, .int .i64 hc, .slice a l.length cap] 26)).alloc (.cells #[.int .i64 id2, .int .i64 fi2, .int .i64 te2, .int .i64 ht2, .int .i64 hv2, .int .i64 hc2, .slice a2 l2.length cap2] 26)).alloc (.cells #[.int .i64 pg, .int .i64 pk, .slice pa plen pcap, .int .i64 pht, .int .i64 phv, .int .i64 phc, .int .i64 pi, .int .i64 pt, .bool pm, .bool ph] 28)) := bel_alloc (bel_alloc (bel_alloc (Below.refl _ _) _) _) _
  obtain ⟨hgb, hhb, hpb, -⟩ := alloc3 w #[.int .i64 id, .int .i64 fi, .int .i64 te, .int .i64 ht, .int .i64 hv, .int .i64 hc, .slice a l.length cap] #[.int .i64 id2, .int .i64 fi2, .int .i64 te2, .int .i64 ht2, .int .i64 hv2, .int .i64 hc2, .slice a2 l2.length cap2] #[.int .i64 pg, .int .i64 pk, .slice pa plen pcap, .int .i64 pht, .int .i64 phv, .int .i64 phc, .int .i64 pi, .int .i64 pt, .bool pm, .bool ph] 26 26 28
  obtain ⟨x0, x1, x2, x3, x4, x5, x6, -⟩ := cells7 hgb; obtain ⟨y0, y1, y2, y3, y4, y5, y6, -⟩ := cells7 hhb; obtain ⟨z0, z1, z2, z3, z4, z5, z6, z7, z8, z9⟩ := cells10a hpb
  go_enter Try.func3, Try.ntmps3
  go_wp2_with (first
    | (go_at_call 12; ((with_reducible refine (GK.out _).mono ?_); rintro e w1 ⟨rfl, hB⟩; replace hC := bel2 hC hB; replace hgb := (hB.block _ (heap_lt hgb)).trans hgb; replace hhb := (hB.block _ (heap_lt hhb)).trans hhb; replace hpb := (hB.block _ (heap_lt hpb)).trans hpb; clear hB x0 x1 x2 x3 x4 x5 x6 y0 y1 y2 y3 y4 y5 y6 z0 z1 z2 z3 z4 z5 z6 z7 z8 z9; obtain ⟨x0, x1, x2, x3, x4, x5, x6, -⟩ := cells7 hgb; obtain ⟨y0, y1, y2, y3, y4, y5, y6, -⟩ := cells7 hhb; obtain ⟨z0, z1, z2, z3, z4, z5, z6, z7, z8, z9⟩ := cells10a hpb))
    | (go_at_call 13; ((with_reducible refine (GF1.out _ hC).mono ?_); rintro e w2 ⟨rfl, hB⟩; replace hC := bel2 hC hB; replace hgb := (hB.block _ (heap_lt hgb)).trans hgb; replace hhb := (hB.block _ (heap_lt hhb)).trans hhb; replace hpb := (hB.block _ (heap_lt hpb)).trans hpb; clear hB x0 x1 x2 x3 x4 x5 x6 y0 y1 y2 y3 y4 y5 y6 z0 z1 z2 z3 z4 z5 z6 z7 z8 z9; obtain ⟨x0, x1, x2, x3, x4, x5, x6, -⟩ := cells7 hgb; obtain ⟨y0, y1, y2, y3, y4, y5, y6, -⟩ := cells7 hhb; obtain ⟨z0, z1, z2, z3, z4, z5, z6, z7, z8, z9⟩ := cells10a hpb))
    | (go_at_call 13; ((with_reducible refine (GF2.out _ hC).mono ?_); rintro e w3 ⟨rfl, hB⟩; replace hC := bel2 hC hB; replace hgb := (hB.block _ (heap_lt hgb)).trans hgb; replace hhb := (hB.block _ (heap_lt hhb)).trans hhb; replace hpb := (hB.block _ (heap_lt hpb)).trans hpb; clear hB x0 x1 x2 x3 x4 x5 x6 y0 y1 y2 y3 y4 y5 y6 z0 z1 z2 z3 z4 z5 z6 z7 z8 z9; obtain ⟨x0, x1, x2, x3, x4, x5, x6, -⟩ := cells7 hgb; obtain ⟨y0, y1, y2, y3, y4, y5, y6, -⟩ := cells7 hhb; obtain ⟨z0, z1, z2, z3, z4, z5, z6, z7, z8, z9⟩ := cells10a hpb))
    | (go_at_call 14; ((with_reducible refine (GF3.out _ hC).mono ?_); rintro e w4 ⟨rfl, hB⟩; replace hC := bel2 hC hB; replace hgb := (hB.block _ (heap_lt hgb)).trans hgb; replace hhb := (hB.block _ (heap_lt hhb)).trans hhb; replace hpb := (hB.block _ (heap_lt hpb)).trans hpb; clear hB x0 x1 x2 x3 x4 x5 x6 y0 y1 y2 y3 y4 y5 y6 z0 z1 z2 z3 z4 z5 z6 z7 z8 z9; obtain ⟨x0, x1, x2, x3, x4, x5, x6, -⟩ := cells7 hgb; obtain ⟨y0, y1, y2, y3, y4, y5, y6, -⟩ := cells7 hhb; obtain ⟨z0, z1, z2, z3, z4, z5, z6, z7, z8, z9⟩ := cells10a hpb)))
  have HS := Lib.hid (fun W (hW : Above w4 W) => And.intro (cells7 ((Below.block hW _ (heap_lt hgb)).trans hgb)) (And.intro (cells7 ((Below.block hW _ (heap_lt hhb)).trans hhb)) (cells10a ((Below.block hW _ (heap_lt hpb)).trans hpb))))
  refine wp_region_below (by kernel_rfl) (by kernel_rfl) ?_
  repeat (first
    | (refine BigFrame.wpQuiet_skip (by rfl) ?_; (try simp only [Act.put, List.setIfInBounds_toArray, List.set_cons_zero, List.set_cons_succ]))
    | (refine BigFrame.wpQuiet_want (by rfl) (fun K hK => ?_); apply Exists.intro; refine ⟨fun W hW => ?_, hK _ ?_⟩; (focus (have hWB : Below _ _ W := hW; obtain ⟨⟨x0, x1, x2, x3, x4, x5, x6, -⟩, ⟨y0, y1, y2, y3, y4, y5, y6, -⟩, z0, z1, z2, z3, z4, z5, z6, z7, z8, z9⟩ := HS.out _ hW; go_simp; (first | done | with_reducible rfl | (first | (go_at_call 15; with_reducible exact gives_above hW (GI1.out _ (bel2 hC hWB))) | (go_at_call 16; with_reducible exact gives_above hW (GI2.out _ (bel2 hC hWB))) | (go_at_call 17; with_reducible exact gives_above hW (GS1.out _ (bel2 hC hWB))) | (go_at_call 18; with_reducible exact gives_above hW (GS2.out _ (bel2 hC hWB))) | (go_at_call 19; with_reducible exact gives_above hW (GN1.out _)) | (go_at_call 20; with_reducible exact gives_above hW (GN2.out _)) | (go_at_call 18; with_reducible exact gives_above hW (GS3.out _))) | (rw [if_neg (by omega)]; go_simp; (first | done | with_reducible rfl))))); clear hK K; (try simp only [Act.put, List.setIfInBounds_toArray, List.set_cons_zero, List.set_cons_succ])))
  refine wpQuiet_nil ?_
  intro w5 hB
  replace hB : Below _ _ w5 := hB
  replace hC := bel2 hC hB; replace hgb := (hB.block _ (heap_lt hgb)).trans hgb; replace hhb := (hB.block _ (heap_lt hhb)).trans hhb; replace hpb := (hB.block _ (heap_lt hpb)).trans hpb
  clear HS hB x0 x1 x2 x3 x4 x5 x6 y0 y1 y2 y3 y4 y5 y6 z0 z1 z2 z3 z4 z5 z6 z7 z8 z9
  obtain ⟨x0, x1, x2, x3, x4, x5, x6, -⟩ := cells7 hgb; obtain ⟨y0, y1, y2, y3, y4, y5, y6, -⟩ := cells7 hhb; obtain ⟨z0, z1, z2, z3, z4, z5, z6, z7, z8, z9⟩ := cells10a hpb
  go_wp2_with (first
    | (go_at_call 16; ((with_reducible refine (GI2.out _ hC).mono ?_); rintro e w6 ⟨rfl, hB⟩; replace hC := bel2 hC hB; replace hgb := (hB.block _ (heap_lt hgb)).trans hgb; replace hhb := (hB.block _ (heap_lt hhb)).trans hhb; replace hpb := (hB.block _ (heap_lt hpb)).trans hpb; clear hB x0 x1 x2 x3 x4 x5 x6 y0 y1 y2 y3 y4 y5 y6 z0 z1 z2 z3 z4 z5 z6 z7 z8 z9; obtain ⟨x0, x1, x2, x3, x4, x5, x6, -⟩ := cells7 hgb; obtain ⟨y0, y1, y2, y3, y4, y5, y6, -⟩ := cells7 hhb; obtain ⟨z0, z1, z2, z3, z4, z5, z6, z7, z8, z9⟩ := cells10a hpb))
    | (go_at_call 21; ((with_reducible refine (GC2.out _ hC).mono ?_); rintro e w7 ⟨rfl, hB⟩; replace hC := bel2 hC hB; replace hgb := (hB.block _ (heap_lt hgb)).trans hgb; replace hhb := (hB.block _ (heap_lt hhb)).trans hhb; replace hpb := (hB.block _ (heap_lt hpb)).trans hpb; clear hB x0 x1 x2 x3 x4 x5 x6 y0 y1 y2 y3 y4 y5 y6 z0 z1 z2 z3 z4 z5 z6 z7 z8 z9; obtain ⟨x0, x1, x2, x3, x4, x5, x6, -⟩ := cells7 hgb; obtain ⟨y0, y1, y2, y3, y4, y5, y6, -⟩ := cells7 hhb; obtain ⟨z0, z1, z2, z3, z4, z5, z6, z7, z8, z9⟩ := cells10a hpb))
    | (go_at_call 22; ((with_reducible refine (GD.out _ hC).mono ?_); rintro e w8 ⟨da, dc, rfl, hDH, hB, -⟩; have hdl : (∀ k, inBlkE da l.length k → k < w8.heap.size) := (fun k hk => inBlkE_lt hDH.2 hk); obtain ⟨v0, v1, v2, v3, v4, v5, v6, -⟩ := cells7 (((bel2 hB (bel_alloc (Below.refl w8.heap.size w8) (.cells #[.int .i64 id, .int .i64 fi, .int .i64 te, .int .i64 ht, .int .i64 hv, .int .i64 hc, .slice da l.length dc] 26))).block _ (heap_lt hgb)).trans hgb); have hw8 : w.heap.size + 3 ≤ w8.heap.size := (by have h1 := hB.size; have h3 := heap_lt hpb; omega); replace hB := bel2 hB (gp_bel w8 #[.int .i64 id, .int .i64 fi, .int .i64 te, .int .i64 ht, .int .i64 hv, .int .i64 hc, .slice da l.length dc] #[.int .i64 id, .int .i64 fi, .int .i64 te, .int .i64 ht, .int .i64 hv, .int .i64 hc, .slice a l.length cap] 26 26); have hxb := two_a w8 #[.int .i64 id, .int .i64 fi, .int .i64 te, .int .i64 ht, .int .i64 hv, .int .i64 hc, .slice da l.length dc] #[.int .i64 id, .int .i64 fi, .int .i64 te, .int .i64 ht, .int .i64 hv, .int .i64 hc, .slice a l.length cap] 26 26; have hwb := two_b w8 #[.int .i64 id, .int .i64 fi, .int .i64 te, .int .i64 ht, .int .i64 hv, .int .i64 hc, .slice da l.length dc] #[.int .i64 id, .int .i64 fi, .int .i64 te, .int .i64 ht, .int .i64 hv, .int .i64 hc, .slice a l.length cap] 26 26; replace hDH := hDH.below (gp_bel w8 #[.int .i64 id, .int .i64 fi, .int .i64 te, .int .i64 ht, .int .i64 hv, .int .i64 hc, .slice da l.length dc] #[.int .i64 id, .int .i64 fi, .int .i64 te, .int .i64 ht, .int .i64 hv, .int .i64 hc, .slice a l.length cap] 26 26); replace hC := bel2 hC hB; replace hgb := (hB.block _ (heap_lt hgb)).trans hgb; replace hhb := (hB.block _ (heap_lt hhb)).trans hhb; replace hpb := (hB.block _ (heap_lt hpb)).trans hpb; clear hB x0 x1 x2 x3 x4 x5 x6 y0 y1 y2 y3 y4 y5 y6 z0 z1 z2 z3 z4 z5 z6 z7 z8 z9; obtain ⟨x0, x1, x2, x3, x4, x5, x6, -⟩ := cells7 hgb; obtain ⟨y0, y1, y2, y3, y4, y5, y6, -⟩ := cells7 hhb; obtain ⟨z0, z1, z2, z3, z4, z5, z6, z7, z8, z9⟩ := cells10a hpb)))
  have hx9 := hxb
  have hg9 := hgb
  have hp9 := hpb
  have hC9 := hC
  have hr9 := hwb
  have hDH2 := hDH
  have hRH2 := HGH.out _ hC
  clear x0 x1 x2 x3 x4 x5 x6 y0 y1 y2 y3 y4 y5 y6 z0 z1 z2 z3 z4 z5 z6 z7 z8 z9 v0 v1 v2 v3 v4 v5 v6
  generalize ((w8.alloc (.cells #[.int .i64 id, .int .i64 fi, .int .i64 te, .int .i64 ht, .int .i64 hv, .int .i64 hc, .slice da l.length dc] 26)).alloc (.cells #[.int .i64 id, .int .i64 fi, .int .i64 te, .int .i64 ht, .int .i64 hv, .int .i64 hc, .slice a l.length cap] 26)) = wz at *
  have GSD := Lib.hid (fun W (h1 : HasG W da ⟨id, fi, te, ht, hv, hc, l⟩) (h2 : HasG W a ⟨id, fi, te, ht, hv, hc, l⟩) => (show Gives Try.prog 18 #[.agg #[.int .i64 id, .int .i64 fi, .int .i64 te, .int .i64 ht, .int .i64 hv, .int .i64 hc, .slice da l.length dc], .agg #[.int .i64 id, .int .i64 fi, .int .i64 te, .int .i64 ht, .int .i64 hv, .int .i64 hc, .slice a l.length cap]] W (.bool true) from by have := refSame6_any id fi te ht hv hc l da dc id fi te ht hv hc l a cap W h1 h2; rwa [show sameG ⟨id, fi, te, ht, hv, hc, l⟩ ⟨id, fi, te, ht, hv, hc, l⟩ = true from sameG_iff.2 (by simp)] at this))
  have HS := Lib.hid (fun W (hW : Above wz W) => And.intro (cells7 ((Below.block hW _ (heap_lt hg9)).trans hg9)) (And.intro (cells10a ((Below.block hW _ (heap_lt hp9)).trans hp9)) (And.intro (cells7 ((Below.block hW _ (heap_lt hx9)).trans hx9)) (cells7 ((Below.block hW _ (heap_lt hr9)).trans hr9)))))
  refine wp_region_below (by kernel_rfl) (by kernel_rfl) ?_
  repeat (first
    | (refine BigFrame.wpQuiet_skip (by rfl) ?_; (try simp only [Act.put, List.setIfInBounds_toArray, List.set_cons_zero, List.set_cons_succ]))
    | (refine BigFrame.wpQuiet_want (by rfl) (fun K hK => ?_); apply Exists.intro; refine ⟨fun W hW => ?_, hK _ ?_⟩; (focus (have hWB : Below _ _ W := hW; obtain ⟨⟨x0, x1, x2, x3, x4, x5, x6, -⟩, ⟨z0, z1, z2, z3, z4, z5, z6, z7, z8, z9⟩, ⟨y0, y1, y2, y3, y4, y5, y6, -⟩, u0, u1, u2, u3, u4, u5, u6, -⟩ := HS.out _ hW; go_simp; (first | done | with_reducible rfl | (first | (go_at_call 24; with_reducible exact gives_above hW (GC1.out _ (bel2 hC9 hWB))) | (go_at_call 18; with_reducible exact gives_above hW (GSD.out _ (hDH2.below hWB) (hRH2.below hWB))) | (go_at_call 25; with_reducible exact gives_above hW (GL1.out _ (bel2 hC9 hWB))) | (go_at_call 26; with_reducible exact gives_above hW (GL2.out _ (bel2 hC9 hWB)))) | (rw [if_neg (by omega)]; go_simp; (first | done | with_reducible rfl))))); clear hK K; (try simp only [Act.put, List.setIfInBounds_toArray, List.set_cons_zero, List.set_cons_succ])))
  refine wpQuiet_nil ?_
  intro w12 hB
  replace hB : Below _ _ w12 := hB
  go_wp2
  go_ret
  exact ⟨by simp, bel2 hC9 hB⟩

theorem walk (w : World) (g : GM) (a : Option Addr) (cap : Nat) (hg : GoodG w g a) (h : GM) (a2 : Option Addr) (cap2 : Nat) (hh : GoodG w h a2) (p : PartC) (pl : List EntryC) (hgp : goodPart p) (hpl : pl.length = p.len) (hpr : RowV w p.a p.len 3 (entryCells pl)) (hpg : ∀ e ∈ pl, goodEntry e) : Calls Try.prog 3 #[g.val a cap, h.val a2 cap2, p.val] w fun e w' => e = .returned (.bool true) ∧ Below w.heap.size w w' := by
  obtain ⟨id, fi, te, ht, hv, hc, l⟩ := g
  obtain ⟨id2, fi2, te2, ht2, hv2, hc2, l2⟩ := h
  obtain ⟨pg, pk, pa, plen, pcap, pht, phv, phc, pi, pt, pm, ph⟩ := p
  cases hf1 : fewGB l
  · exact gt_1 w id fi te ht hv hc l a cap hg id2 fi2 te2 ht2 hv2 hc2 l2 a2 cap2 hh pg pk pa plen pcap pht phv phc pi pt pm ph pl hgp hpl hpr hpg hf1
  cases hf2 : fewGB l2
  · exact gt_2 w id fi te ht hv hc l a cap hg id2 fi2 te2 ht2 hv2 hc2 l2 a2 cap2 hh pg pk pa plen pcap pht phv phc pi pt pm ph pl hgp hpl hpr hpg hf1 hf2
  cases hf3 : few6B pl
  · exact gt_3 w id fi te ht hv hc l a cap hg id2 fi2 te2 ht2 hv2 hc2 l2 a2 cap2 hh pg pk pa plen pcap pht phv phc pi pt pm ph pl hgp hpl hpr hpg hf1 hf2 hf3
  cases hG : isG ⟨id, fi, te, ht, hv, hc, l⟩
  · exact gt_4 w id fi te ht hv hc l a cap hg id2 fi2 te2 ht2 hv2 hc2 l2 a2 cap2 hh pg pk pa plen pcap pht phv phc pi pt pm ph pl hgp hpl hpr hpg hf1 hf2 hf3 hG
  by_cases hc0 : chkG ⟨id, fi, te, ht, hv, hc, l⟩ ⟨pg, pk, pa, plen, pcap, pht, phv, phc, pi, pt, pm, ph⟩ pl = 0
  · exact gt_5 w id fi te ht hv hc l a cap hg id2 fi2 te2 ht2 hv2 hc2 l2 a2 cap2 hh pg pk pa plen pcap pht phv phc pi pt pm ph pl hgp hpl hpr hpg hf1 hf2 hf3 hG hc0
  · exact gt_6 w id fi te ht hv hc l a cap hg id2 fi2 te2 ht2 hv2 hc2 l2 a2 cap2 hh pg pk pa plen pcap pht phv phc pi pt pm ph pl hgp hpl hpr hpg hf1 hf2 hf3 hG hc0

set_option maxRecDepth 100000 in
theorem lifted (os : Os) (started : os.Started) (H : Type) (enc : TypeId × Value → H) :
    ReturnsInHanded {} Try.checked os 3 .any (Rows.groupTellsSpec.pre6 enc Try.prog Try.f3 Rows.groupTellsRow.domain false) (Rows.groupTellsSpec.post enc Try.prog Try.f3 false true false false) := by
  refine returnsInHanded_of_change (C := Try.checked) Try.own started (by kernel_rfl) Try.func3
    (ChangeSpec.witness6 (enc := enc) (C := Try.checked) false ⟨#[], #[.agg #[.int .i64 0, .int .i64 0, .int .i64 0, .int .i64 0, .int .i64 0, .int .i64 0, .slice none 0 0], .agg #[.int .i64 0, .int .i64 0, .int .i64 0, .int .i64 0, .int .i64 0, .int .i64 0, .slice none 0 0], .agg #[.int .i64 0, .int .i64 0, .slice none 0 0, .int .i64 0, .int .i64 0, .int .i64 0, .int .i64 0, .int .i64 0, .bool false, .bool false]], []⟩ 8 (by kernel_rfl) (by kernel_rfl) (by kernel_rfl) (by kernel_rfl)) ?_
  intro W base args ds gs before hval hW _ _
  refine law_contract (T := 4) (n := 3) Try.laid Try.underlying4 rfl rfl ⟨rfl, fun H ds h => by match ds, h with | [_, _, _], _ => rfl⟩ (of_all (by kernel_rfl)) hW ?_
  intro ps hA
  rw [Try.params3] at hA hval
  obtain ⟨v0, vs0, d0, ds0, p0, q0, hargs, rfl, rfl, h0, r0⟩ := trodAll_cons hA
  obtain ⟨v1, vs1, d1, ds1, p1, q1, rfl, rfl, rfl, h1, r1⟩ := trodAll_cons r0
  obtain ⟨v2, vs2, d2, ds2, p2, q2, rfl, rfl, rfl, h2, r2⟩ := trodAll_cons r1
  obtain ⟨rfl, rfl, rfl⟩ := trodAll_nil r2
  obtain rfl : args = #[v0, v1, v2] := by cases args; simp_all
  obtain ⟨p0, a0, c0, rfl, g0⟩ := open_group (hval 0 26 v0 rfl rfl) h0
  obtain ⟨p1, a1, c1, rfl, g1⟩ := open_group (hval 1 26 v1 rfl rfl) h1
  obtain ⟨p2, rfl, g2, l2, k2, w2, e2⟩ := open_part (hval 2 28 v2 rfl rfl) h2
  exact walk W p0 a0 c0 g0 p1 a1 c1 g1 p2 l2 g2 k2 w2 e2

theorem holds : Rows.GroupTellsSaid :=
  OpenClaim.holds_of_wide 3 Try.f3 rfl rfl rfl rfl rfl rfl rfl ⟨rfl, rfl, rfl, rfl, rfl⟩ rfl rfl rfl rfl rfl (by kernel_rfl) Try.func3 (by kernel_rfl)
    (of_decide_eq_true (by kernel_rfl)) (by unfold Func.isWrapper; first | (rw [if_pos (by decide +kernel)]; kernel_rfl) | (rw [if_neg (by decide +kernel)]; exact ⟨rfl, rfl⟩))
    (fun os started H enc _ => lifted os started H enc)

end Go.Proofs.Ytfmcebmkclaafaa.groupTells
