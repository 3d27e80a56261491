/- Law SparseDense: for every input the call answers true; its arguments read as they did. No condition. -/
import Derived.Test.YtfbibpnkfmgkaaaLaw
import Derived.Test.YtfbibpnkfmgkaaaKnown12
import Derived.Test.YtfbibpnkfmgkaaaSprM
import Derived.Test.YtfbibpnkfmgkaaaFew12
import Derived.Test.YtfbibpnkfmgkaaaRef6a
import Derived.Test.YtfbibpnkfmgkaaaRef6e
import Derived.Test.YtfbibpnkfmgkaaaOpenPart
namespace Go.Proofs.Ytfbibpnkfmgkaaa.sparseDense
open Go.ChangeShapes Go.WideShapes Go.ChangeAt Go.RowKit Go.Shelf
open Go.ChangeMaps (open_string shut_string)
set_option linter.unusedVariables false
attribute [local go_sem] Oper.semAt_some wide_fn wide_round_fn

attribute [local irreducible] wpQuiet
set_option maxRecDepth 100000 in
set_option maxHeartbeats 4000000 in
theorem sd_1 (w : World) (id fi te ht hv hc : Int) (l : List EntryC) (a : Option Addr) (cap : Nat) (hg : GoodG w ⟨id, fi, te, ht, hv, hc, l⟩ a) (hcap : l.length ≤ cap) (pg : Int) (pk : Int) (pa : Option Addr) (plen pcap : Nat) (pht phv phc pi pt : Int) (pm ph : Bool) (pl : List EntryC) (hgp : goodPart (⟨pg, pk, pa, plen, pcap, pht, phv, phc, pi, pt, pm, ph⟩ : PartC)) (hpl : pl.length = plen) (hpr : RowV w pa plen 3 (entryCells pl)) (hpg : ∀ e ∈ pl, goodEntry e) (hpcap : plen ≤ pcap) (hf1 : fewGB l = false) : Calls Try.prog 4 #[.agg #[.int .i64 id, .int .i64 fi, .int .i64 te, .int .i64 ht, .int .i64 hv, .int .i64 hc, .slice a l.length cap], .agg #[.int .i64 pg, .int .i64 pk, .slice pa plen pcap, .int .i64 pht, .int .i64 phv, .int .i64 phc, .int .i64 pi, .int .i64 pt, .bool pm, .bool ph]] w fun e w' => e = .returned (.bool true) ∧ Below w.heap.size w w' := by
  have GK := Lib.hid spr_known
  have GF1 := Lib.hid (fun W (hB : Below w.heap.size w W) => fewG12_any id fi te ht hv hc l a cap W (hg.2.1.below hB) (fun e he => (hg.2.2 e he).2.2))
  rw [hf1] at GF1
  clear hg hgp hpr hpg hpl
  have hC : Below w.heap.size w ((w.alloc (.cells #[.int .i64 id, .int .i64 fi, .int .i64 te, .int .i64 ht, .int .i64 hv, .int .i64 hc, .slice a l.length cap] 26)).alloc (.cells #[.int .i64 pg, .int .i64 pk, .slice pa plen pcap, .int .i64 pht, .int .i64 phv, .int .i64 phc, .int .i64 pi, .int .i64 pt, .bool pm, .bool ph] 28)) := bel_alloc (bel_alloc (Below.refl _ _) _) _
  have hgb := two_a w #[.int .i64 id, .int .i64 fi, .int .i64 te, .int .i64 ht, .int .i64 hv, .int .i64 hc, .slice a l.length cap] #[.int .i64 pg, .int .i64 pk, .slice pa plen pcap, .int .i64 pht, .int .i64 phv, .int .i64 phc, .int .i64 pi, .int .i64 pt, .bool pm, .bool ph] 26 28
  have hpb := two_b w #[.int .i64 id, .int .i64 fi, .int .i64 te, .int .i64 ht, .int .i64 hv, .int .i64 hc, .slice a l.length cap] #[.int .i64 pg, .int .i64 pk, .slice pa plen pcap, .int .i64 pht, .int .i64 phv, .int .i64 phc, .int .i64 pi, .int .i64 pt, .bool pm, .bool ph] 26 28
  obtain ⟨x0, x1, x2, x3, x4, x5, x6, -⟩ := cells7 hgb; obtain ⟨z0, z1, z2, z3, z4, z5, z6, z7, z8, z9⟩ := cells10a hpb
  go_enter Try.func4, Try.ntmps4
  go_wp2_with (first
    | (go_at_call 9; ((with_reducible refine (GK.out _).mono ?_); rintro e w1 ⟨rfl, hB⟩; replace hC := bel2 hC hB; replace hgb := (hB.block _ (heap_lt hgb)).trans hgb; replace hpb := (hB.block _ (heap_lt hpb)).trans hpb; clear hB x0 x1 x2 x3 x4 x5 x6 z0 z1 z2 z3 z4 z5 z6 z7 z8 z9; obtain ⟨x0, x1, x2, x3, x4, x5, x6, -⟩ := cells7 hgb; obtain ⟨z0, z1, z2, z3, z4, z5, z6, z7, z8, z9⟩ := cells10a hpb))
    | (go_at_call 10; ((with_reducible refine (GF1.out _ hC).mono ?_); rintro e w2 ⟨rfl, hB⟩; replace hC := bel2 hC hB; replace hgb := (hB.block _ (heap_lt hgb)).trans hgb; replace hpb := (hB.block _ (heap_lt hpb)).trans hpb; clear hB x0 x1 x2 x3 x4 x5 x6 z0 z1 z2 z3 z4 z5 z6 z7 z8 z9; obtain ⟨x0, x1, x2, x3, x4, x5, x6, -⟩ := cells7 hgb; obtain ⟨z0, z1, z2, z3, z4, z5, z6, z7, z8, z9⟩ := cells10a hpb)))
  go_ret
  exact ⟨by simp, hC⟩

set_option maxRecDepth 100000 in
set_option maxHeartbeats 4000000 in
theorem sd_2 (w : World) (id fi te ht hv hc : Int) (l : List EntryC) (a : Option Addr) (cap : Nat) (hg : GoodG w ⟨id, fi, te, ht, hv, hc, l⟩ a) (hcap : l.length ≤ cap) (pg : Int) (pk : Int) (pa : Option Addr) (plen pcap : Nat) (pht phv phc pi pt : Int) (pm ph : Bool) (pl : List EntryC) (hgp : goodPart (⟨pg, pk, pa, plen, pcap, pht, phv, phc, pi, pt, pm, ph⟩ : PartC)) (hpl : pl.length = plen) (hpr : RowV w pa plen 3 (entryCells pl)) (hpg : ∀ e ∈ pl, goodEntry e) (hpcap : plen ≤ pcap) (hf1 : fewGB l = true) (hf3 : few6B pl = false) : Calls Try.prog 4 #[.agg #[.int .i64 id, .int .i64 fi, .int .i64 te, .int .i64 ht, .int .i64 hv, .int .i64 hc, .slice a l.length cap], .agg #[.int .i64 pg, .int .i64 pk, .slice pa plen pcap, .int .i64 pht, .int .i64 phv, .int .i64 phc, .int .i64 pi, .int .i64 pt, .bool pm, .bool ph]] w fun e w' => e = .returned (.bool true) ∧ Below w.heap.size w w' := by
  have GK := Lib.hid spr_known
  have GF1 := Lib.hid (fun W (hB : Below w.heap.size w W) => fewG12_any id fi te ht hv hc l a cap W (hg.2.1.below hB) (fun e he => (hg.2.2 e he).2.2))
  rw [hf1] at GF1
  have GF3 := Lib.hid (fun W (hB : Below w.heap.size w W) => (show Gives Try.prog 11 #[.agg #[.int .i64 pg, .int .i64 pk, .slice pa plen pcap, .int .i64 pht, .int .i64 phv, .int .i64 phc, .int .i64 pi, .int .i64 pt, .bool pm, .bool ph]] W (.bool (few6B pl)) from few12_any ⟨pg, pk, pa, plen, pcap, pht, phv, phc, pi, pt, pm, ph⟩ pl W hpl (hpr.below hB) (fun e he => (hpg e he).2.2)))
  rw [hf3] at GF3
  clear hg hgp hpr hpg hpl
  have hC : Below w.heap.size w ((w.alloc (.cells #[.int .i64 id, .int .i64 fi, .int .i64 te, .int .i64 ht, .int .i64 hv, .int .i64 hc, .slice a l.length cap] 26)).alloc (.cells #[.int .i64 pg, .int .i64 pk, .slice pa plen pcap, .int .i64 pht, .int .i64 phv, .int .i64 phc, .int .i64 pi, .int .i64 pt, .bool pm, .bool ph] 28)) := bel_alloc (bel_alloc (Below.refl _ _) _) _
  have hgb := two_a w #[.int .i64 id, .int .i64 fi, .int .i64 te, .int .i64 ht, .int .i64 hv, .int .i64 hc, .slice a l.length cap] #[.int .i64 pg, .int .i64 pk, .slice pa plen pcap, .int .i64 pht, .int .i64 phv, .int .i64 phc, .int .i64 pi, .int .i64 pt, .bool pm, .bool ph] 26 28
  have hpb := two_b w #[.int .i64 id, .int .i64 fi, .int .i64 te, .int .i64 ht, .int .i64 hv, .int .i64 hc, .slice a l.length cap] #[.int .i64 pg, .int .i64 pk, .slice pa plen pcap, .int .i64 pht, .int .i64 phv, .int .i64 phc, .int .i64 pi, .int .i64 pt, .bool pm, .bool ph] 26 28
  obtain ⟨x0, x1, x2, x3, x4, x5, x6, -⟩ := cells7 hgb; obtain ⟨z0, z1, z2, z3, z4, z5, z6, z7, z8, z9⟩ := cells10a hpb
  go_enter Try.func4, Try.ntmps4
  go_wp2_with (first
    | (go_at_call 9; ((with_reducible refine (GK.out _).mono ?_); rintro e w1 ⟨rfl, hB⟩; replace hC := bel2 hC hB; replace hgb := (hB.block _ (heap_lt hgb)).trans hgb; replace hpb := (hB.block _ (heap_lt hpb)).trans hpb; clear hB x0 x1 x2 x3 x4 x5 x6 z0 z1 z2 z3 z4 z5 z6 z7 z8 z9; obtain ⟨x0, x1, x2, x3, x4, x5, x6, -⟩ := cells7 hgb; obtain ⟨z0, z1, z2, z3, z4, z5, z6, z7, z8, z9⟩ := cells10a hpb))
    | (go_at_call 10; ((with_reducible refine (GF1.out _ hC).mono ?_); rintro e w2 ⟨rfl, hB⟩; replace hC := bel2 hC hB; replace hgb := (hB.block _ (heap_lt hgb)).trans hgb; replace hpb := (hB.block _ (heap_lt hpb)).trans hpb; clear hB x0 x1 x2 x3 x4 x5 x6 z0 z1 z2 z3 z4 z5 z6 z7 z8 z9; obtain ⟨x0, x1, x2, x3, x4, x5, x6, -⟩ := cells7 hgb; obtain ⟨z0, z1, z2, z3, z4, z5, z6, z7, z8, z9⟩ := cells10a hpb))
    | (go_at_call 11; ((with_reducible refine (GF3.out _ hC).mono ?_); rintro e w3 ⟨rfl, hB⟩; replace hC := bel2 hC hB; replace hgb := (hB.block _ (heap_lt hgb)).trans hgb; replace hpb := (hB.block _ (heap_lt hpb)).trans hpb; clear hB x0 x1 x2 x3 x4 x5 x6 z0 z1 z2 z3 z4 z5 z6 z7 z8 z9; obtain ⟨x0, x1, x2, x3, x4, x5, x6, -⟩ := cells7 hgb; obtain ⟨z0, z1, z2, z3, z4, z5, z6, z7, z8, z9⟩ := cells10a hpb)))
  go_ret
  exact ⟨by simp, hC⟩

set_option maxRecDepth 100000 in
set_option maxHeartbeats 4000000 in
theorem sd_3 (w : World) (id fi te ht hv hc : Int) (l : List EntryC) (a : Option Addr) (cap : Nat) (hg : GoodG w ⟨id, fi, te, ht, hv, hc, l⟩ a) (hcap : l.length ≤ cap) (pg : Int) (pk : Int) (pa : Option Addr) (plen pcap : Nat) (pht phv phc pi pt : Int) (pm ph : Bool) (pl : List EntryC) (hgp : goodPart (⟨pg, pk, pa, plen, pcap, pht, phv, phc, pi, pt, pm, ph⟩ : PartC)) (hpl : pl.length = plen) (hpr : RowV w pa plen 3 (entryCells pl)) (hpg : ∀ e ∈ pl, goodEntry e) (hpcap : plen ≤ pcap) (hf1 : fewGB l = true) (hf3 : few6B pl = true) (hG : isG ⟨id, fi, te, ht, hv, hc, l⟩ = false) : Calls Try.prog 4 #[.agg #[.int .i64 id, .int .i64 fi, .int .i64 te, .int .i64 ht, .int .i64 hv, .int .i64 hc, .slice a l.length cap], .agg #[.int .i64 pg, .int .i64 pk, .slice pa plen pcap, .int .i64 pht, .int .i64 phv, .int .i64 phc, .int .i64 pi, .int .i64 pt, .bool pm, .bool ph]] w fun e w' => e = .returned (.bool true) ∧ Below w.heap.size w w' := by
  have GK := Lib.hid spr_known
  have GF1 := Lib.hid (fun W (hB : Below w.heap.size w W) => fewG12_any id fi te ht hv hc l a cap W (hg.2.1.below hB) (fun e he => (hg.2.2 e he).2.2))
  rw [hf1] at GF1
  have GF3 := Lib.hid (fun W (hB : Below w.heap.size w W) => (show Gives Try.prog 11 #[.agg #[.int .i64 pg, .int .i64 pk, .slice pa plen pcap, .int .i64 pht, .int .i64 phv, .int .i64 phc, .int .i64 pi, .int .i64 pt, .bool pm, .bool ph]] W (.bool (few6B pl)) from few12_any ⟨pg, pk, pa, plen, pcap, pht, phv, phc, pi, pt, pm, ph⟩ pl W hpl (hpr.below hB) (fun e he => (hpg e he).2.2)))
  rw [hf3] at GF3
  obtain ⟨hGH, h30⟩ := hg.has hf1
  dsimp only at h30
  have hPE : HasE w ⟨pg, pk, pa, plen, pcap, pht, phv, phc, pi, pt, pm, ph⟩ pl := GoodP.has (x := (⟨pg, pk, pa, plen, pcap, pht, phv, phc, pi, pt, pm, ph⟩, pl)) ⟨hgp, hpl, hpr, fun e he => hpg e he⟩ hf3
  have GI := Lib.hid (fun W (hB : Below w.heap.size w W) => refIsG_any id fi te ht hv hc l a cap W (hGH.below hB))
  rw [hG] at GI
  clear hg hgp hpr hpg hpl hGH hPE h30
  have hC : Below w.heap.size w ((w.alloc (.cells #[.int .i64 id, .int .i64 fi, .int .i64 te, .int .i64 ht, .int .i64 hv, .int .i64 hc, .slice a l.length cap] 26)).alloc (.cells #[.int .i64 pg, .int .i64 pk, .slice pa plen pcap, .int .i64 pht, .int .i64 phv, .int .i64 phc, .int .i64 pi, .int .i64 pt, .bool pm, .bool ph] 28)) := bel_alloc (bel_alloc (Below.refl _ _) _) _
  have hgb := two_a w #[.int .i64 id, .int .i64 fi, .int .i64 te, .int .i64 ht, .int .i64 hv, .int .i64 hc, .slice a l.length cap] #[.int .i64 pg, .int .i64 pk, .slice pa plen pcap, .int .i64 pht, .int .i64 phv, .int .i64 phc, .int .i64 pi, .int .i64 pt, .bool pm, .bool ph] 26 28
  have hpb := two_b w #[.int .i64 id, .int .i64 fi, .int .i64 te, .int .i64 ht, .int .i64 hv, .int .i64 hc, .slice a l.length cap] #[.int .i64 pg, .int .i64 pk, .slice pa plen pcap, .int .i64 pht, .int .i64 phv, .int .i64 phc, .int .i64 pi, .int .i64 pt, .bool pm, .bool ph] 26 28
  obtain ⟨x0, x1, x2, x3, x4, x5, x6, -⟩ := cells7 hgb; obtain ⟨z0, z1, z2, z3, z4, z5, z6, z7, z8, z9⟩ := cells10a hpb
  go_enter Try.func4, Try.ntmps4
  go_wp2_with (first
    | (go_at_call 9; ((with_reducible refine (GK.out _).mono ?_); rintro e w1 ⟨rfl, hB⟩; replace hC := bel2 hC hB; replace hgb := (hB.block _ (heap_lt hgb)).trans hgb; replace hpb := (hB.block _ (heap_lt hpb)).trans hpb; clear hB x0 x1 x2 x3 x4 x5 x6 z0 z1 z2 z3 z4 z5 z6 z7 z8 z9; obtain ⟨x0, x1, x2, x3, x4, x5, x6, -⟩ := cells7 hgb; obtain ⟨z0, z1, z2, z3, z4, z5, z6, z7, z8, z9⟩ := cells10a hpb))
    | (go_at_call 10; ((with_reducible refine (GF1.out _ hC).mono ?_); rintro e w2 ⟨rfl, hB⟩; replace hC := bel2 hC hB; replace hgb := (hB.block _ (heap_lt hgb)).trans hgb; replace hpb := (hB.block _ (heap_lt hpb)).trans hpb; clear hB x0 x1 x2 x3 x4 x5 x6 z0 z1 z2 z3 z4 z5 z6 z7 z8 z9; obtain ⟨x0, x1, x2, x3, x4, x5, x6, -⟩ := cells7 hgb; obtain ⟨z0, z1, z2, z3, z4, z5, z6, z7, z8, z9⟩ := cells10a hpb))
    | (go_at_call 11; ((with_reducible refine (GF3.out _ hC).mono ?_); rintro e w3 ⟨rfl, hB⟩; replace hC := bel2 hC hB; replace hgb := (hB.block _ (heap_lt hgb)).trans hgb; replace hpb := (hB.block _ (heap_lt hpb)).trans hpb; clear hB x0 x1 x2 x3 x4 x5 x6 z0 z1 z2 z3 z4 z5 z6 z7 z8 z9; obtain ⟨x0, x1, x2, x3, x4, x5, x6, -⟩ := cells7 hgb; obtain ⟨z0, z1, z2, z3, z4, z5, z6, z7, z8, z9⟩ := cells10a hpb))
    | (go_at_call 16; ((with_reducible refine (GI.out _ hC).mono ?_); rintro e w4 ⟨rfl, hB⟩; replace hC := bel2 hC hB; replace hgb := (hB.block _ (heap_lt hgb)).trans hgb; replace hpb := (hB.block _ (heap_lt hpb)).trans hpb; clear hB x0 x1 x2 x3 x4 x5 x6 z0 z1 z2 z3 z4 z5 z6 z7 z8 z9; obtain ⟨x0, x1, x2, x3, x4, x5, x6, -⟩ := cells7 hgb; obtain ⟨z0, z1, z2, z3, z4, z5, z6, z7, z8, z9⟩ := cells10a hpb)))
  go_ret
  exact ⟨by simp, hC⟩

set_option maxRecDepth 100000 in
set_option maxHeartbeats 4000000 in
theorem sd_4 (w : World) (id fi te ht hv hc : Int) (l : List EntryC) (a : Option Addr) (cap : Nat) (hg : GoodG w ⟨id, fi, te, ht, hv, hc, l⟩ a) (hcap : l.length ≤ cap) (pg : Int) (pk : Int) (pa : Option Addr) (plen pcap : Nat) (pht phv phc pi pt : Int) (pm ph : Bool) (pl : List EntryC) (hgp : goodPart (⟨pg, pk, pa, plen, pcap, pht, phv, phc, pi, pt, pm, ph⟩ : PartC)) (hpl : pl.length = plen) (hpr : RowV w pa plen 3 (entryCells pl)) (hpg : ∀ e ∈ pl, goodEntry e) (hpcap : plen ≤ pcap) (hf1 : fewGB l = true) (hf3 : few6B pl = true) (hG : isG ⟨id, fi, te, ht, hv, hc, l⟩ = true) (hc0 : chkG ⟨id, fi, te, ht, hv, hc, l⟩ ⟨pg, pk, pa, plen, pcap, pht, phv, phc, pi, pt, pm, ph⟩ pl ≠ 0) : Calls Try.prog 4 #[.agg #[.int .i64 id, .int .i64 fi, .int .i64 te, .int .i64 ht, .int .i64 hv, .int .i64 hc, .slice a l.length cap], .agg #[.int .i64 pg, .int .i64 pk, .slice pa plen pcap, .int .i64 pht, .int .i64 phv, .int .i64 phc, .int .i64 pi, .int .i64 pt, .bool pm, .bool ph]] w fun e w' => e = .returned (.bool true) ∧ Below w.heap.size w w' := by
  have GK := Lib.hid spr_known
  have GF1 := Lib.hid (fun W (hB : Below w.heap.size w W) => fewG12_any id fi te ht hv hc l a cap W (hg.2.1.below hB) (fun e he => (hg.2.2 e he).2.2))
  rw [hf1] at GF1
  have GF3 := Lib.hid (fun W (hB : Below w.heap.size w W) => (show Gives Try.prog 11 #[.agg #[.int .i64 pg, .int .i64 pk, .slice pa plen pcap, .int .i64 pht, .int .i64 phv, .int .i64 phc, .int .i64 pi, .int .i64 pt, .bool pm, .bool ph]] W (.bool (few6B pl)) from few12_any ⟨pg, pk, pa, plen, pcap, pht, phv, phc, pi, pt, pm, ph⟩ pl W hpl (hpr.below hB) (fun e he => (hpg e he).2.2)))
  rw [hf3] at GF3
  obtain ⟨hGH, h30⟩ := hg.has hf1
  dsimp only at h30
  have hPE : HasE w ⟨pg, pk, pa, plen, pcap, pht, phv, phc, pi, pt, pm, ph⟩ pl := GoodP.has (x := (⟨pg, pk, pa, plen, pcap, pht, phv, phc, pi, pt, pm, ph⟩, pl)) ⟨hgp, hpl, hpr, fun e he => hpg e he⟩ hf3
  have GI := Lib.hid (fun W (hB : Below w.heap.size w W) => refIsG_any id fi te ht hv hc l a cap W (hGH.below hB))
  have GC := Lib.hid (fun W (hB : Below w.heap.size w W) => refChk_any id fi te ht hv hc l a cap pg pk pa plen pcap pht phv phc pi pt pm ph pl W (hGH.below hB) hG (hPE.below hB))
  rw [hG] at GI
  have ht0 : (chkG ⟨id, fi, te, ht, hv, hc, l⟩ ⟨pg, pk, pa, plen, pcap, pht, phv, phc, pi, pt, pm, ph⟩ pl != 0) = true := by rw [bne_iff_ne]; exact hc0
  have ht1 : decide (chkG ⟨id, fi, te, ht, hv, hc, l⟩ ⟨pg, pk, pa, plen, pcap, pht, phv, phc, pi, pt, pm, ph⟩ pl = 0) = false := by rw [decide_eq_false_iff_not]; exact hc0
  clear hg hgp hpr hpg hpl hGH hPE h30 hc0
  generalize chkG ⟨id, fi, te, ht, hv, hc, l⟩ ⟨pg, pk, pa, plen, pcap, pht, phv, phc, pi, pt, pm, ph⟩ pl = c at *
  have hC : Below w.heap.size w ((w.alloc (.cells #[.int .i64 id, .int .i64 fi, .int .i64 te, .int .i64 ht, .int .i64 hv, .int .i64 hc, .slice a l.length cap] 26)).alloc (.cells #[.int .i64 pg, .int .i64 pk, .slice pa plen pcap, .int .i64 pht, .int .i64 phv, .int .i64 phc, .int .i64 pi, .int .i64 pt, .bool pm, .bool ph] 28)) := bel_alloc (bel_alloc (Below.refl _ _) _) _
  have hgb := two_a w #[.int .i64 id, .int .i64 fi, .int .i64 te, .int .i64 ht, .int .i64 hv, .int .i64 hc, .slice a l.length cap] #[.int .i64 pg, .int .i64 pk, .slice pa plen pcap, .int .i64 pht, .int .i64 phv, .int .i64 phc, .int .i64 pi, .int .i64 pt, .bool pm, .bool ph] 26 28
  have hpb := two_b w #[.int .i64 id, .int .i64 fi, .int .i64 te, .int .i64 ht, .int .i64 hv, .int .i64 hc, .slice a l.length cap] #[.int .i64 pg, .int .i64 pk, .slice pa plen pcap, .int .i64 pht, .int .i64 phv, .int .i64 phc, .int .i64 pi, .int .i64 pt, .bool pm, .bool ph] 26 28
  obtain ⟨x0, x1, x2, x3, x4, x5, x6, -⟩ := cells7 hgb; obtain ⟨z0, z1, z2, z3, z4, z5, z6, z7, z8, z9⟩ := cells10a hpb
  go_enter Try.func4, Try.ntmps4
  go_wp2_with (first
    | (go_at_call 9; ((with_reducible refine (GK.out _).mono ?_); rintro e w1 ⟨rfl, hB⟩; replace hC := bel2 hC hB; replace hgb := (hB.block _ (heap_lt hgb)).trans hgb; replace hpb := (hB.block _ (heap_lt hpb)).trans hpb; clear hB x0 x1 x2 x3 x4 x5 x6 z0 z1 z2 z3 z4 z5 z6 z7 z8 z9; obtain ⟨x0, x1, x2, x3, x4, x5, x6, -⟩ := cells7 hgb; obtain ⟨z0, z1, z2, z3, z4, z5, z6, z7, z8, z9⟩ := cells10a hpb))
    | (go_at_call 10; ((with_reducible refine (GF1.out _ hC).mono ?_); rintro e w2 ⟨rfl, hB⟩; replace hC := bel2 hC hB; replace hgb := (hB.block _ (heap_lt hgb)).trans hgb; replace hpb := (hB.block _ (heap_lt hpb)).trans hpb; clear hB x0 x1 x2 x3 x4 x5 x6 z0 z1 z2 z3 z4 z5 z6 z7 z8 z9; obtain ⟨x0, x1, x2, x3, x4, x5, x6, -⟩ := cells7 hgb; obtain ⟨z0, z1, z2, z3, z4, z5, z6, z7, z8, z9⟩ := cells10a hpb))
    | (go_at_call 11; ((with_reducible refine (GF3.out _ hC).mono ?_); rintro e w3 ⟨rfl, hB⟩; replace hC := bel2 hC hB; replace hgb := (hB.block _ (heap_lt hgb)).trans hgb; replace hpb := (hB.block _ (heap_lt hpb)).trans hpb; clear hB x0 x1 x2 x3 x4 x5 x6 z0 z1 z2 z3 z4 z5 z6 z7 z8 z9; obtain ⟨x0, x1, x2, x3, x4, x5, x6, -⟩ := cells7 hgb; obtain ⟨z0, z1, z2, z3, z4, z5, z6, z7, z8, z9⟩ := cells10a hpb))
    | (go_at_call 16; ((with_reducible refine (GI.out _ hC).mono ?_); rintro e w4 ⟨rfl, hB⟩; replace hC := bel2 hC hB; replace hgb := (hB.block _ (heap_lt hgb)).trans hgb; replace hpb := (hB.block _ (heap_lt hpb)).trans hpb; clear hB x0 x1 x2 x3 x4 x5 x6 z0 z1 z2 z3 z4 z5 z6 z7 z8 z9; obtain ⟨x0, x1, x2, x3, x4, x5, x6, -⟩ := cells7 hgb; obtain ⟨z0, z1, z2, z3, z4, z5, z6, z7, z8, z9⟩ := cells10a hpb))
    | (go_at_call 19; ((with_reducible refine (GC.out _ hC).mono ?_); rintro e w5 ⟨rfl, hB⟩; replace hC := bel2 hC hB; replace hgb := (hB.block _ (heap_lt hgb)).trans hgb; replace hpb := (hB.block _ (heap_lt hpb)).trans hpb; clear hB x0 x1 x2 x3 x4 x5 x6 z0 z1 z2 z3 z4 z5 z6 z7 z8 z9; obtain ⟨x0, x1, x2, x3, x4, x5, x6, -⟩ := cells7 hgb; obtain ⟨z0, z1, z2, z3, z4, z5, z6, z7, z8, z9⟩ := cells10a hpb)))
  go_ret
  exact ⟨by simp, hC⟩

set_option maxRecDepth 100000 in
set_option maxHeartbeats 4000000 in
theorem sd_5 (w : World) (id fi te ht hv hc : Int) (l : List EntryC) (a : Option Addr) (cap : Nat) (hg : GoodG w ⟨id, fi, te, ht, hv, hc, l⟩ a) (hcap : l.length ≤ cap) (pk : Int) (pa : Option Addr) (plen pcap : Nat) (pht phv phc pi pt : Int) (pm ph : Bool) (pl : List EntryC) (hgp : goodPart (⟨id, pk, pa, plen, pcap, pht, phv, phc, pi, pt, pm, ph⟩ : PartC)) (hpl : pl.length = plen) (hpr : RowV w pa plen 3 (entryCells pl)) (hpg : ∀ e ∈ pl, goodEntry e) (hpcap : plen ≤ pcap) (hf1 : fewGB l = true) (hf3 : few6B pl = true) (hG : isG ⟨id, fi, te, ht, hv, hc, l⟩ = true) (hc0 : chkG ⟨id, fi, te, ht, hv, hc, l⟩ ⟨id, pk, pa, plen, pcap, pht, phv, phc, pi, pt, pm, ph⟩ pl = 0) (hk4 : pk ≠ 4) : Calls Try.prog 4 #[.agg #[.int .i64 id, .int .i64 fi, .int .i64 te, .int .i64 ht, .int .i64 hv, .int .i64 hc, .slice a l.length cap], .agg #[.int .i64 id, .int .i64 pk, .slice pa plen pcap, .int .i64 pht, .int .i64 phv, .int .i64 phc, .int .i64 pi, .int .i64 pt, .bool pm, .bool ph]] w fun e w' => e = .returned (.bool true) ∧ Below w.heap.size w w' := by
  have GK := Lib.hid spr_known
  have GF1 := Lib.hid (fun W (hB : Below w.heap.size w W) => fewG12_any id fi te ht hv hc l a cap W (hg.2.1.below hB) (fun e he => (hg.2.2 e he).2.2))
  rw [hf1] at GF1
  have GF3 := Lib.hid (fun W (hB : Below w.heap.size w W) => (show Gives Try.prog 11 #[.agg #[.int .i64 id, .int .i64 pk, .slice pa plen pcap, .int .i64 pht, .int .i64 phv, .int .i64 phc, .int .i64 pi, .int .i64 pt, .bool pm, .bool ph]] W (.bool (few6B pl)) from few12_any ⟨id, pk, pa, plen, pcap, pht, phv, phc, pi, pt, pm, ph⟩ pl W hpl (hpr.below hB) (fun e he => (hpg e he).2.2)))
  rw [hf3] at GF3
  obtain ⟨hGH, h30⟩ := hg.has hf1
  dsimp only at h30
  have hPE : HasE w ⟨id, pk, pa, plen, pcap, pht, phv, phc, pi, pt, pm, ph⟩ pl := GoodP.has (x := (⟨id, pk, pa, plen, pcap, pht, phv, phc, pi, pt, pm, ph⟩, pl)) ⟨hgp, hpl, hpr, fun e he => hpg e he⟩ hf3
  have GI := Lib.hid (fun W (hB : Below w.heap.size w W) => refIsG_any id fi te ht hv hc l a cap W (hGH.below hB))
  have GC := Lib.hid (fun W (hB : Below w.heap.size w W) => refChk_any id fi te ht hv hc l a cap id pk pa plen pcap pht phv phc pi pt pm ph pl W (hGH.below hB) hG (hPE.below hB))
  rw [hc0] at GC
  rw [hG] at GI
  have hgrow : RowV w a l.length 3 (entryCells l) := hGH.2
  have GA := Lib.hid (fun W (hB : Below w.heap.size w W) => (show Gives Try.prog 20 #[.agg #[.int .i64 id, .int .i64 fi, .int .i64 te, .int .i64 ht, .int .i64 hv, .int .i64 hc, .slice a l.length cap], .int .i64 pi] W (.int .i64 (atM l pi)) from by have := refAt_any id fi te ht hv hc l a cap pi W (hGH.below hB); exact this))
  have hce := hc0
  have hnf : ¬ fitB ⟨id, fi, te, ht, hv, hc, l⟩ ⟨id, pk, pa, plen, pcap, pht, phv, phc, pi, pt, pm, ph⟩ := fun h => hk4 h.1
  have hPE2 : HasE w ⟨id, pk, pa, plen, pcap, pht, phv, phc, pi, pt, pm, ph⟩ pl := hPE
  have hdd := dense_do hG hce (by show l.length ≤ 100000; omega) hnf
  have hBB := (chk_zero hce).1
  have GD := Lib.hid (fun W (hB : Below w.heap.size w W) => (show Calls Try.prog 12 #[.agg #[.int .i64 id, .int .i64 fi, .int .i64 te, .int .i64 ht, .int .i64 hv, .int .i64 hc, .slice a l.length cap], .agg #[.int .i64 id, .int .i64 pk, .slice pa plen pcap, .int .i64 pht, .int .i64 phv, .int .i64 phc, .int .i64 pi, .int .i64 pt, .bool pm, .bool ph]] W (SDoP W (doG ⟨id, fi, te, ht, hv, hc, l⟩ ⟨id, pk, pa, plen, pcap, pht, phv, phc, pi, pt, pm, ph⟩ pl)) from by
    have := sdo_valid id fi te ht hv hc l a cap pk pa plen pcap pht phv phc pi pt pm ph pl W (hGH.below hB) hcap (hPE2.below hB) (by omega) (by omega) (isG_isSp hG) hBB
    rwa [hdd] at this))
  have GR := Lib.hid (fun W (hB : Below w.heap.size w W) => refDo_any id fi te ht hv hc l a cap id pk pa plen pcap pht phv phc pi pt pm ph pl W (hGH.below hB) hG (hPE2.below hB) hce (by omega))
  have hl9 : l.length < 1000000 := hGH.1
  clear hg hgp hpr hpg hPE hPE2 h30 hGH hcap hpcap hdd hBB hce hc0 hnf
  unfold RDoPost at GR
  unfold SDoP at GD
  generalize doG ⟨id, fi, te, ht, hv, hc, l⟩ ⟨id, pk, pa, plen, pcap, pht, phv, phc, pi, pt, pm, ph⟩ pl = D at *
  obtain ⟨did, dfi, dte, dht, dhv, dhc, dl⟩ := D
  dsimp only at GR GD
  have GS := Lib.hid (fun da dc ra rc W (h1 : HasG W da ⟨did, dfi, dte, dht, dhv, dhc, dl⟩) (h2 : HasG W ra ⟨did, dfi, dte, dht, dhv, dhc, dl⟩) => (show Gives Try.prog 17 #[.agg #[.int .i64 did, .int .i64 dfi, .int .i64 dte, .int .i64 dht, .int .i64 dhv, .int .i64 dhc, .slice da dl.length dc], .agg #[.int .i64 did, .int .i64 dfi, .int .i64 dte, .int .i64 dht, .int .i64 dhv, .int .i64 dhc, .slice ra dl.length rc]] W (.bool true) from by have := refSame6_any did dfi dte dht dhv dhc dl da dc did dfi dte dht dhv dhc dl ra rc W h1 h2; rwa [show sameG (⟨did, dfi, dte, dht, dhv, dhc, dl⟩ : GM) ⟨did, dfi, dte, dht, dhv, dhc, dl⟩ = true from sameG_iff.2 (by simp)] at this))
  generalize atM l pi = q9 at *
  have hC : Below w.heap.size w ((w.alloc (.cells #[.int .i64 id, .int .i64 fi, .int .i64 te, .int .i64 ht, .int .i64 hv, .int .i64 hc, .slice a l.length cap] 26)).alloc (.cells #[.int .i64 id, .int .i64 pk, .slice pa plen pcap, .int .i64 pht, .int .i64 phv, .int .i64 phc, .int .i64 pi, .int .i64 pt, .bool pm, .bool ph] 28)) := bel_alloc (bel_alloc (Below.refl _ _) _) _
  have hgb := two_a w #[.int .i64 id, .int .i64 fi, .int .i64 te, .int .i64 ht, .int .i64 hv, .int .i64 hc, .slice a l.length cap] #[.int .i64 id, .int .i64 pk, .slice pa plen pcap, .int .i64 pht, .int .i64 phv, .int .i64 phc, .int .i64 pi, .int .i64 pt, .bool pm, .bool ph] 26 28
  have hpb := two_b w #[.int .i64 id, .int .i64 fi, .int .i64 te, .int .i64 ht, .int .i64 hv, .int .i64 hc, .slice a l.length cap] #[.int .i64 id, .int .i64 pk, .slice pa plen pcap, .int .i64 pht, .int .i64 phv, .int .i64 phc, .int .i64 pi, .int .i64 pt, .bool pm, .bool ph] 26 28
  obtain ⟨x0, x1, x2, x3, x4, x5, x6, -⟩ := cells7 hgb; obtain ⟨z0, z1, z2, z3, z4, z5, z6, z7, z8, z9⟩ := cells10a hpb
  go_enter Try.func4, Try.ntmps4
  go_wp2_with (first
    | (go_at_call 9; ((with_reducible refine (GK.out _).mono ?_); rintro e w1 ⟨rfl, hB⟩; replace hC := bel2 hC hB; replace hgb := (hB.block _ (heap_lt hgb)).trans hgb; replace hpb := (hB.block _ (heap_lt hpb)).trans hpb; clear hB x0 x1 x2 x3 x4 x5 x6 z0 z1 z2 z3 z4 z5 z6 z7 z8 z9; obtain ⟨x0, x1, x2, x3, x4, x5, x6, -⟩ := cells7 hgb; obtain ⟨z0, z1, z2, z3, z4, z5, z6, z7, z8, z9⟩ := cells10a hpb))
    | (go_at_call 10; ((with_reducible refine (GF1.out _ hC).mono ?_); rintro e w2 ⟨rfl, hB⟩; replace hC := bel2 hC hB; replace hgb := (hB.block _ (heap_lt hgb)).trans hgb; replace hpb := (hB.block _ (heap_lt hpb)).trans hpb; clear hB x0 x1 x2 x3 x4 x5 x6 z0 z1 z2 z3 z4 z5 z6 z7 z8 z9; obtain ⟨x0, x1, x2, x3, x4, x5, x6, -⟩ := cells7 hgb; obtain ⟨z0, z1, z2, z3, z4, z5, z6, z7, z8, z9⟩ := cells10a hpb))
    | (go_at_call 11; ((with_reducible refine (GF3.out _ hC).mono ?_); rintro e w3 ⟨rfl, hB⟩; replace hC := bel2 hC hB; replace hgb := (hB.block _ (heap_lt hgb)).trans hgb; replace hpb := (hB.block _ (heap_lt hpb)).trans hpb; clear hB x0 x1 x2 x3 x4 x5 x6 z0 z1 z2 z3 z4 z5 z6 z7 z8 z9; obtain ⟨x0, x1, x2, x3, x4, x5, x6, -⟩ := cells7 hgb; obtain ⟨z0, z1, z2, z3, z4, z5, z6, z7, z8, z9⟩ := cells10a hpb))
    | (go_at_call 16; ((with_reducible refine (GI.out _ hC).mono ?_); rintro e w4 ⟨rfl, hB⟩; replace hC := bel2 hC hB; replace hgb := (hB.block _ (heap_lt hgb)).trans hgb; replace hpb := (hB.block _ (heap_lt hpb)).trans hpb; clear hB x0 x1 x2 x3 x4 x5 x6 z0 z1 z2 z3 z4 z5 z6 z7 z8 z9; obtain ⟨x0, x1, x2, x3, x4, x5, x6, -⟩ := cells7 hgb; obtain ⟨z0, z1, z2, z3, z4, z5, z6, z7, z8, z9⟩ := cells10a hpb))
    | (go_at_call 19; ((with_reducible refine (GC.out _ hC).mono ?_); rintro e w5 ⟨rfl, hB⟩; replace hC := bel2 hC hB; replace hgb := (hB.block _ (heap_lt hgb)).trans hgb; replace hpb := (hB.block _ (heap_lt hpb)).trans hpb; clear hB x0 x1 x2 x3 x4 x5 x6 z0 z1 z2 z3 z4 z5 z6 z7 z8 z9; obtain ⟨x0, x1, x2, x3, x4, x5, x6, -⟩ := cells7 hgb; obtain ⟨z0, z1, z2, z3, z4, z5, z6, z7, z8, z9⟩ := cells10a hpb))
    | (go_at_call 20; ((with_reducible refine (GA.out _ hC).mono ?_); rintro e w6 ⟨rfl, hB⟩; replace hC := bel2 hC hB; replace hgb := (hB.block _ (heap_lt hgb)).trans hgb; replace hpb := (hB.block _ (heap_lt hpb)).trans hpb; clear hB x0 x1 x2 x3 x4 x5 x6 z0 z1 z2 z3 z4 z5 z6 z7 z8 z9; obtain ⟨x0, x1, x2, x3, x4, x5, x6, -⟩ := cells7 hgb; obtain ⟨z0, z1, z2, z3, z4, z5, z6, z7, z8, z9⟩ := cells10a hpb)))
  have hd1 : decide (pk = 4) = false := decide_eq_false_iff_not.2 hk4
  have hd2 : (pk == 4) = false := by rw [beq_eq_false_iff_ne]; exact hk4
  clear hk4
  go_wp2
  go_quiet (fail)
  have hBn : Below w6.heap.size w6 (w6.drewN nq) := below_drewN (Below.refl _ _) nq
  have hgn := (hBn.block _ (heap_lt hgb)).trans hgb
  have hpn := (hBn.block _ (heap_lt hpb)).trans hpb
  have hCn := bel2 hC hBn
  clear x0 x1 x2 x3 x4 x5 x6 z0 z1 z2 z3 z4 z5 z6 z7 z8 z9 hgb hpb hC hBn
  generalize w6.drewN nq = wn at *
  obtain ⟨x0, x1, x2, x3, x4, x5, x6, -⟩ := cells7 hgn
  obtain ⟨z0, z1, z2, z3, z4, z5, z6, z7, z8, z9⟩ := cells10a hpn
  go_wp2
  have hp9 := hpn
  have hg9 := hgn
  have hC9 := hCn
  clear hgn hpn hCn
  obtain ⟨wz, rfl⟩ : ∃ wz, wz = wn := ⟨_, rfl⟩
  have KB := Lib.hid (fun W (hW : Below wz.heap.size wz W) => And.intro (cells7 ((hW.block _ (heap_lt hg9)).trans hg9)) (cells10a ((hW.block _ (heap_lt hp9)).trans hp9)))
  have GD2 := Lib.hid (fun W (hW : Below wz.heap.size wz W) => GD.out W (bel2 hC9 hW))
  have GR2 := Lib.hid (fun W (hW : Below wz.heap.size wz W) => GR.out W (bel2 hC9 hW))
  go_region_held3 (fun W' => W'.cell? ⟨w.heap.size, 0, none⟩ = some (.int .i64 id) ∧ W'.cell? ⟨w.heap.size, 1, none⟩ = some (.int .i64 fi) ∧ W'.cell? ⟨w.heap.size, 2, none⟩ = some (.int .i64 te) ∧ W'.cell? ⟨w.heap.size, 3, none⟩ = some (.int .i64 ht) ∧ W'.cell? ⟨w.heap.size, 4, none⟩ = some (.int .i64 hv) ∧ W'.cell? ⟨w.heap.size, 5, none⟩ = some (.int .i64 hc) ∧ W'.cell? ⟨w.heap.size, 6, none⟩ = some (.slice a l.length cap) ∧ W'.cell? ⟨w.heap.size + 1, 0, none⟩ = some (.int .i64 id) ∧ W'.cell? ⟨w.heap.size + 1, 1, none⟩ = some (.int .i64 pk) ∧ W'.cell? ⟨w.heap.size + 1, 2, none⟩ = some (.slice pa plen pcap) ∧ W'.cell? ⟨w.heap.size + 1, 3, none⟩ = some (.int .i64 pht) ∧ W'.cell? ⟨w.heap.size + 1, 4, none⟩ = some (.int .i64 phv) ∧ W'.cell? ⟨w.heap.size + 1, 5, none⟩ = some (.int .i64 phc) ∧ W'.cell? ⟨w.heap.size + 1, 6, none⟩ = some (.int .i64 pi) ∧ W'.cell? ⟨w.heap.size + 1, 7, none⟩ = some (.int .i64 pt) ∧ W'.cell? ⟨w.heap.size + 1, 8, none⟩ = some (.bool pm) ∧ W'.cell? ⟨w.heap.size + 1, 9, none⟩ = some (.bool ph)) (go_keep) (first
    | (go_at_call 12; ((with_reducible refine (GD2.out _ ?hb).mono ?_); (case hb => first | exact Below.refl _ _ | exact (Below.refl _ _).drew); rintro e w10 ⟨da, dc, rfl, hDH, -, hB10, -⟩; have hX10 : Below wz.heap.size wz w10 := (by first | exact hB10 | exact bel2 (Below.refl _ _).drew hB10); obtain ⟨⟨y0, y1, y2, y3, y4, y5, y6, -⟩, q0, q1, q2, q3, q4, q5, q6, q7, q8, q9⟩ := KB.out _ hX10))
    | (go_at_call 21; ((with_reducible refine (GR2.out _ ?hb).mono ?_); (case hb => first | exact hX10 | exact hX10.drew); rintro e w11 ⟨ra, rc, rfl, hRH, hB11, -⟩; have hDH11 := (by first | exact hDH.below hB11 | exact (hDH.below (Below.refl _ _).drew).below hB11 : HasG w11 da ⟨did, dfi, dte, dht, dhv, dhc, dl⟩); have hX11 : Below wz.heap.size wz w11 := (by first | exact bel2 hX10 hB11 | exact bel2 hX10.drew hB11); obtain ⟨⟨u0, u1, u2, u3, u4, u5, u6, -⟩, v0, v1, v2, v3, v4, v5, v6, v7, v8, v9⟩ := KB.out _ hX11))
    | (go_at_call 17; ((with_reducible refine (GS.out _ _ _ _ _ ?h1 ?h2).mono ?_); (case h1 => first | exact hDH11 | exact hDH11.below (Below.refl _ _).drew); (case h2 => first | exact hRH | exact hRH.below (Below.refl _ _).drew); rintro e w12 ⟨rfl, hB12⟩; have hX12 : Below wz.heap.size wz w12 := (by first | exact bel2 hX11 hB12 | exact bel2 hX11.drew hB12); obtain ⟨⟨s0, s1, s2, s3, s4, s5, s6, -⟩, t0, t1, t2, t3, t4, t5, t6, t7, t8, t9⟩ := KB.out _ hX12)))
  all_goals
    go_wp2
    go_ret
    exact ⟨by simp, bel2 hC9 hX12⟩

set_option maxRecDepth 100000 in
set_option maxHeartbeats 4000000 in
theorem sd_6 (w : World) (id fi te ht hv hc : Int) (l : List EntryC) (a : Option Addr) (cap : Nat) (hg : GoodG w ⟨id, fi, te, ht, hv, hc, l⟩ a) (hcap : l.length ≤ cap) (pa : Option Addr) (plen pcap : Nat) (pht phv phc pi pt : Int) (pm ph : Bool) (pl : List EntryC) (hgp : goodPart (⟨id, 4, pa, plen, pcap, pht, phv, phc, pi, pt, pm, ph⟩ : PartC)) (hpl : pl.length = plen) (hpr : RowV w pa plen 3 (entryCells pl)) (hpg : ∀ e ∈ pl, goodEntry e) (hpcap : plen ≤ pcap) (hf1 : fewGB l = true) (hf3 : few6B pl = true) (hG : isG ⟨id, fi, te, ht, hv, hc, l⟩ = true) (hc0 : chkG ⟨id, fi, te, ht, hv, hc, l⟩ ⟨id, 4, pa, plen, pcap, pht, phv, phc, pi, pt, pm, ph⟩ pl = 0) (hq : atM l pi = -1) : Calls Try.prog 4 #[.agg #[.int .i64 id, .int .i64 fi, .int .i64 te, .int .i64 ht, .int .i64 hv, .int .i64 hc, .slice a l.length cap], .agg #[.int .i64 id, .int .i64 4, .slice pa plen pcap, .int .i64 pht, .int .i64 phv, .int .i64 phc, .int .i64 pi, .int .i64 pt, .bool pm, .bool ph]] w fun e w' => e = .returned (.bool true) ∧ Below w.heap.size w w' := by
  have GK := Lib.hid spr_known
  have GF1 := Lib.hid (fun W (hB : Below w.heap.size w W) => fewG12_any id fi te ht hv hc l a cap W (hg.2.1.below hB) (fun e he => (hg.2.2 e he).2.2))
  rw [hf1] at GF1
  have GF3 := Lib.hid (fun W (hB : Below w.heap.size w W) => (show Gives Try.prog 11 #[.agg #[.int .i64 id, .int .i64 4, .slice pa plen pcap, .int .i64 pht, .int .i64 phv, .int .i64 phc, .int .i64 pi, .int .i64 pt, .bool pm, .bool ph]] W (.bool (few6B pl)) from few12_any ⟨id, 4, pa, plen, pcap, pht, phv, phc, pi, pt, pm, ph⟩ pl W hpl (hpr.below hB) (fun e he => (hpg e he).2.2)))
  rw [hf3] at GF3
  obtain ⟨hGH, h30⟩ := hg.has hf1
  dsimp only at h30
  have hPE : HasE w ⟨id, 4, pa, plen, pcap, pht, phv, phc, pi, pt, pm, ph⟩ pl := GoodP.has (x := (⟨id, 4, pa, plen, pcap, pht, phv, phc, pi, pt, pm, ph⟩, pl)) ⟨hgp, hpl, hpr, fun e he => hpg e he⟩ hf3
  have GI := Lib.hid (fun W (hB : Below w.heap.size w W) => refIsG_any id fi te ht hv hc l a cap W (hGH.below hB))
  have GC := Lib.hid (fun W (hB : Below w.heap.size w W) => refChk_any id fi te ht hv hc l a cap id 4 pa plen pcap pht phv phc pi pt pm ph pl W (hGH.below hB) hG (hPE.below hB))
  rw [hc0] at GC
  rw [hG] at GI
  have hgrow : RowV w a l.length 3 (entryCells l) := hGH.2
  have GA := Lib.hid (fun W (hB : Below w.heap.size w W) => (show Gives Try.prog 20 #[.agg #[.int .i64 id, .int .i64 fi, .int .i64 te, .int .i64 ht, .int .i64 hv, .int .i64 hc, .slice a l.length cap], .int .i64 pi] W (.int .i64 (-1)) from by have := refAt_any id fi te ht hv hc l a cap pi W (hGH.below hB); rwa [hq] at this))
  have hce := hc0
  have hnf : ¬ fitB ⟨id, fi, te, ht, hv, hc, l⟩ ⟨id, 4, pa, plen, pcap, pht, phv, phc, pi, pt, pm, ph⟩ := fun h => by have h2 : 0 ≤ atM l pi := h.2.1; omega
  have hPE2 : HasE w ⟨id, 4, pa, plen, pcap, pht, phv, phc, pi, pt, pm, ph⟩ pl := hPE
  have hdd := dense_do hG hce (by show l.length ≤ 100000; omega) hnf
  have hBB := (chk_zero hce).1
  have GD := Lib.hid (fun W (hB : Below w.heap.size w W) => (show Calls Try.prog 12 #[.agg #[.int .i64 id, .int .i64 fi, .int .i64 te, .int .i64 ht, .int .i64 hv, .int .i64 hc, .slice a l.length cap], .agg #[.int .i64 id, .int .i64 4, .slice pa plen pcap, .int .i64 pht, .int .i64 phv, .int .i64 phc, .int .i64 pi, .int .i64 pt, .bool pm, .bool ph]] W (SDoP W (doG ⟨id, fi, te, ht, hv, hc, l⟩ ⟨id, 4, pa, plen, pcap, pht, phv, phc, pi, pt, pm, ph⟩ pl)) from by
    have := sdo_valid id fi te ht hv hc l a cap 4 pa plen pcap pht phv phc pi pt pm ph pl W (hGH.below hB) hcap (hPE2.below hB) (by omega) (by omega) (isG_isSp hG) hBB
    rwa [hdd] at this))
  have GR := Lib.hid (fun W (hB : Below w.heap.size w W) => refDo_any id fi te ht hv hc l a cap id 4 pa plen pcap pht phv phc pi pt pm ph pl W (hGH.below hB) hG (hPE2.below hB) hce (by omega))
  have hl9 : l.length < 1000000 := hGH.1
  clear hg hgp hpr hpg hPE hPE2 h30 hGH hcap hpcap hdd hBB hce hc0 hnf
  unfold RDoPost at GR
  unfold SDoP at GD
  generalize doG ⟨id, fi, te, ht, hv, hc, l⟩ ⟨id, 4, pa, plen, pcap, pht, phv, phc, pi, pt, pm, ph⟩ pl = D at *
  obtain ⟨did, dfi, dte, dht, dhv, dhc, dl⟩ := D
  dsimp only at GR GD
  have GS := Lib.hid (fun da dc ra rc W (h1 : HasG W da ⟨did, dfi, dte, dht, dhv, dhc, dl⟩) (h2 : HasG W ra ⟨did, dfi, dte, dht, dhv, dhc, dl⟩) => (show Gives Try.prog 17 #[.agg #[.int .i64 did, .int .i64 dfi, .int .i64 dte, .int .i64 dht, .int .i64 dhv, .int .i64 dhc, .slice da dl.length dc], .agg #[.int .i64 did, .int .i64 dfi, .int .i64 dte, .int .i64 dht, .int .i64 dhv, .int .i64 dhc, .slice ra dl.length rc]] W (.bool true) from by have := refSame6_any did dfi dte dht dhv dhc dl da dc did dfi dte dht dhv dhc dl ra rc W h1 h2; rwa [show sameG (⟨did, dfi, dte, dht, dhv, dhc, dl⟩ : GM) ⟨did, dfi, dte, dht, dhv, dhc, dl⟩ = true from sameG_iff.2 (by simp)] at this))
  clear hq
  have hC : Below w.heap.size w ((w.alloc (.cells #[.int .i64 id, .int .i64 fi, .int .i64 te, .int .i64 ht, .int .i64 hv, .int .i64 hc, .slice a l.length cap] 26)).alloc (.cells #[.int .i64 id, .int .i64 4, .slice pa plen pcap, .int .i64 pht, .int .i64 phv, .int .i64 phc, .int .i64 pi, .int .i64 pt, .bool pm, .bool ph] 28)) := bel_alloc (bel_alloc (Below.refl _ _) _) _
  have hgb := two_a w #[.int .i64 id, .int .i64 fi, .int .i64 te, .int .i64 ht, .int .i64 hv, .int .i64 hc, .slice a l.length cap] #[.int .i64 id, .int .i64 4, .slice pa plen pcap, .int .i64 pht, .int .i64 phv, .int .i64 phc, .int .i64 pi, .int .i64 pt, .bool pm, .bool ph] 26 28
  have hpb := two_b w #[.int .i64 id, .int .i64 fi, .int .i64 te, .int .i64 ht, .int .i64 hv, .int .i64 hc, .slice a l.length cap] #[.int .i64 id, .int .i64 4, .slice pa plen pcap, .int .i64 pht, .int .i64 phv, .int .i64 phc, .int .i64 pi, .int .i64 pt, .bool pm, .bool ph] 26 28
  obtain ⟨x0, x1, x2, x3, x4, x5, x6, -⟩ := cells7 hgb; obtain ⟨z0, z1, z2, z3, z4, z5, z6, z7, z8, z9⟩ := cells10a hpb
  go_enter Try.func4, Try.ntmps4
  go_wp2_with (first
    | (go_at_call 9; ((with_reducible refine (GK.out _).mono ?_); rintro e w1 ⟨rfl, hB⟩; replace hC := bel2 hC hB; replace hgb := (hB.block _ (heap_lt hgb)).trans hgb; replace hpb := (hB.block _ (heap_lt hpb)).trans hpb; clear hB x0 x1 x2 x3 x4 x5 x6 z0 z1 z2 z3 z4 z5 z6 z7 z8 z9; obtain ⟨x0, x1, x2, x3, x4, x5, x6, -⟩ := cells7 hgb; obtain ⟨z0, z1, z2, z3, z4, z5, z6, z7, z8, z9⟩ := cells10a hpb))
    | (go_at_call 10; ((with_reducible refine (GF1.out _ hC).mono ?_); rintro e w2 ⟨rfl, hB⟩; replace hC := bel2 hC hB; replace hgb := (hB.block _ (heap_lt hgb)).trans hgb; replace hpb := (hB.block _ (heap_lt hpb)).trans hpb; clear hB x0 x1 x2 x3 x4 x5 x6 z0 z1 z2 z3 z4 z5 z6 z7 z8 z9; obtain ⟨x0, x1, x2, x3, x4, x5, x6, -⟩ := cells7 hgb; obtain ⟨z0, z1, z2, z3, z4, z5, z6, z7, z8, z9⟩ := cells10a hpb))
    | (go_at_call 11; ((with_reducible refine (GF3.out _ hC).mono ?_); rintro e w3 ⟨rfl, hB⟩; replace hC := bel2 hC hB; replace hgb := (hB.block _ (heap_lt hgb)).trans hgb; replace hpb := (hB.block _ (heap_lt hpb)).trans hpb; clear hB x0 x1 x2 x3 x4 x5 x6 z0 z1 z2 z3 z4 z5 z6 z7 z8 z9; obtain ⟨x0, x1, x2, x3, x4, x5, x6, -⟩ := cells7 hgb; obtain ⟨z0, z1, z2, z3, z4, z5, z6, z7, z8, z9⟩ := cells10a hpb))
    | (go_at_call 16; ((with_reducible refine (GI.out _ hC).mono ?_); rintro e w4 ⟨rfl, hB⟩; replace hC := bel2 hC hB; replace hgb := (hB.block _ (heap_lt hgb)).trans hgb; replace hpb := (hB.block _ (heap_lt hpb)).trans hpb; clear hB x0 x1 x2 x3 x4 x5 x6 z0 z1 z2 z3 z4 z5 z6 z7 z8 z9; obtain ⟨x0, x1, x2, x3, x4, x5, x6, -⟩ := cells7 hgb; obtain ⟨z0, z1, z2, z3, z4, z5, z6, z7, z8, z9⟩ := cells10a hpb))
    | (go_at_call 19; ((with_reducible refine (GC.out _ hC).mono ?_); rintro e w5 ⟨rfl, hB⟩; replace hC := bel2 hC hB; replace hgb := (hB.block _ (heap_lt hgb)).trans hgb; replace hpb := (hB.block _ (heap_lt hpb)).trans hpb; clear hB x0 x1 x2 x3 x4 x5 x6 z0 z1 z2 z3 z4 z5 z6 z7 z8 z9; obtain ⟨x0, x1, x2, x3, x4, x5, x6, -⟩ := cells7 hgb; obtain ⟨z0, z1, z2, z3, z4, z5, z6, z7, z8, z9⟩ := cells10a hpb))
    | (go_at_call 20; ((with_reducible refine (GA.out _ hC).mono ?_); rintro e w6 ⟨rfl, hB⟩; replace hC := bel2 hC hB; replace hgb := (hB.block _ (heap_lt hgb)).trans hgb; replace hpb := (hB.block _ (heap_lt hpb)).trans hpb; clear hB x0 x1 x2 x3 x4 x5 x6 z0 z1 z2 z3 z4 z5 z6 z7 z8 z9; obtain ⟨x0, x1, x2, x3, x4, x5, x6, -⟩ := cells7 hgb; obtain ⟨z0, z1, z2, z3, z4, z5, z6, z7, z8, z9⟩ := cells10a hpb)))
  go_wp2
  go_quiet (fail)
  have hBn : Below w6.heap.size w6 (w6.drewN nq) := below_drewN (Below.refl _ _) nq
  have hgn := (hBn.block _ (heap_lt hgb)).trans hgb
  have hpn := (hBn.block _ (heap_lt hpb)).trans hpb
  have hCn := bel2 hC hBn
  clear x0 x1 x2 x3 x4 x5 x6 z0 z1 z2 z3 z4 z5 z6 z7 z8 z9 hgb hpb hC hBn
  generalize w6.drewN nq = wn at *
  obtain ⟨x0, x1, x2, x3, x4, x5, x6, -⟩ := cells7 hgn
  obtain ⟨z0, z1, z2, z3, z4, z5, z6, z7, z8, z9⟩ := cells10a hpn
  go_wp2
  have hp9 := hpn
  have hg9 := hgn
  have hC9 := hCn
  clear hgn hpn hCn
  obtain ⟨wz, rfl⟩ : ∃ wz, wz = wn := ⟨_, rfl⟩
  have KB := Lib.hid (fun W (hW : Below wz.heap.size wz W) => And.intro (cells7 ((hW.block _ (heap_lt hg9)).trans hg9)) (cells10a ((hW.block _ (heap_lt hp9)).trans hp9)))
  have GD2 := Lib.hid (fun W (hW : Below wz.heap.size wz W) => GD.out W (bel2 hC9 hW))
  have GR2 := Lib.hid (fun W (hW : Below wz.heap.size wz W) => GR.out W (bel2 hC9 hW))
  go_region_held3 (fun W' => W'.cell? ⟨w.heap.size, 0, none⟩ = some (.int .i64 id) ∧ W'.cell? ⟨w.heap.size, 1, none⟩ = some (.int .i64 fi) ∧ W'.cell? ⟨w.heap.size, 2, none⟩ = some (.int .i64 te) ∧ W'.cell? ⟨w.heap.size, 3, none⟩ = some (.int .i64 ht) ∧ W'.cell? ⟨w.heap.size, 4, none⟩ = some (.int .i64 hv) ∧ W'.cell? ⟨w.heap.size, 5, none⟩ = some (.int .i64 hc) ∧ W'.cell? ⟨w.heap.size, 6, none⟩ = some (.slice a l.length cap) ∧ W'.cell? ⟨w.heap.size + 1, 0, none⟩ = some (.int .i64 id) ∧ W'.cell? ⟨w.heap.size + 1, 1, none⟩ = some (.int .i64 4) ∧ W'.cell? ⟨w.heap.size + 1, 2, none⟩ = some (.slice pa plen pcap) ∧ W'.cell? ⟨w.heap.size + 1, 3, none⟩ = some (.int .i64 pht) ∧ W'.cell? ⟨w.heap.size + 1, 4, none⟩ = some (.int .i64 phv) ∧ W'.cell? ⟨w.heap.size + 1, 5, none⟩ = some (.int .i64 phc) ∧ W'.cell? ⟨w.heap.size + 1, 6, none⟩ = some (.int .i64 pi) ∧ W'.cell? ⟨w.heap.size + 1, 7, none⟩ = some (.int .i64 pt) ∧ W'.cell? ⟨w.heap.size + 1, 8, none⟩ = some (.bool pm) ∧ W'.cell? ⟨w.heap.size + 1, 9, none⟩ = some (.bool ph)) (go_keep) (first
    | (go_at_call 12; ((with_reducible refine (GD2.out _ ?hb).mono ?_); (case hb => first | exact Below.refl _ _ | exact (Below.refl _ _).drew); rintro e w10 ⟨da, dc, rfl, hDH, -, hB10, -⟩; have hX10 : Below wz.heap.size wz w10 := (by first | exact hB10 | exact bel2 (Below.refl _ _).drew hB10); obtain ⟨⟨y0, y1, y2, y3, y4, y5, y6, -⟩, q0, q1, q2, q3, q4, q5, q6, q7, q8, q9⟩ := KB.out _ hX10))
    | (go_at_call 21; ((with_reducible refine (GR2.out _ ?hb).mono ?_); (case hb => first | exact hX10 | exact hX10.drew); rintro e w11 ⟨ra, rc, rfl, hRH, hB11, -⟩; have hDH11 := (by first | exact hDH.below hB11 | exact (hDH.below (Below.refl _ _).drew).below hB11 : HasG w11 da ⟨did, dfi, dte, dht, dhv, dhc, dl⟩); have hX11 : Below wz.heap.size wz w11 := (by first | exact bel2 hX10 hB11 | exact bel2 hX10.drew hB11); obtain ⟨⟨u0, u1, u2, u3, u4, u5, u6, -⟩, v0, v1, v2, v3, v4, v5, v6, v7, v8, v9⟩ := KB.out _ hX11))
    | (go_at_call 17; ((with_reducible refine (GS.out _ _ _ _ _ ?h1 ?h2).mono ?_); (case h1 => first | exact hDH11 | exact hDH11.below (Below.refl _ _).drew); (case h2 => first | exact hRH | exact hRH.below (Below.refl _ _).drew); rintro e w12 ⟨rfl, hB12⟩; have hX12 : Below wz.heap.size wz w12 := (by first | exact bel2 hX11 hB12 | exact bel2 hX11.drew hB12); obtain ⟨⟨s0, s1, s2, s3, s4, s5, s6, -⟩, t0, t1, t2, t3, t4, t5, t6, t7, t8, t9⟩ := KB.out _ hX12)))
  all_goals
    go_wp2
    go_ret
    exact ⟨by simp, bel2 hC9 hX12⟩

set_option maxRecDepth 100000 in
set_option maxHeartbeats 4000000 in
theorem sd_7 (w : World) (id fi te ht hv hc : Int) (l : List EntryC) (a : Option Addr) (cap : Nat) (hg : GoodG w ⟨id, fi, te, ht, hv, hc, l⟩ a) (hcap : l.length ≤ cap) (pa : Option Addr) (plen pcap : Nat) (pht phv phc pi pt : Int) (pm ph : Bool) (pl : List EntryC) (hgp : goodPart (⟨id, 4, pa, plen, pcap, pht, phv, phc, pi, pt, pm, ph⟩ : PartC)) (hpl : pl.length = plen) (hpr : RowV w pa plen 3 (entryCells pl)) (hpg : ∀ e ∈ pl, goodEntry e) (hpcap : plen ≤ pcap) (hf1 : fewGB l = true) (hf3 : few6B pl = true) (hG : isG ⟨id, fi, te, ht, hv, hc, l⟩ = true) (hc0 : chkG ⟨id, fi, te, ht, hv, hc, l⟩ ⟨id, 4, pa, plen, pcap, pht, phv, phc, pi, pt, pm, ph⟩ pl = 0) (q : Nat) (hql : q < l.length) (hq : atM l pi = q) (hen : entT l pi = l[q].t) (hterm : l[q].t ≠ pt) : Calls Try.prog 4 #[.agg #[.int .i64 id, .int .i64 fi, .int .i64 te, .int .i64 ht, .int .i64 hv, .int .i64 hc, .slice a l.length cap], .agg #[.int .i64 id, .int .i64 4, .slice pa plen pcap, .int .i64 pht, .int .i64 phv, .int .i64 phc, .int .i64 pi, .int .i64 pt, .bool pm, .bool ph]] w fun e w' => e = .returned (.bool true) ∧ Below w.heap.size w w' := by
  have GK := Lib.hid spr_known
  have GF1 := Lib.hid (fun W (hB : Below w.heap.size w W) => fewG12_any id fi te ht hv hc l a cap W (hg.2.1.below hB) (fun e he => (hg.2.2 e he).2.2))
  rw [hf1] at GF1
  have GF3 := Lib.hid (fun W (hB : Below w.heap.size w W) => (show Gives Try.prog 11 #[.agg #[.int .i64 id, .int .i64 4, .slice pa plen pcap, .int .i64 pht, .int .i64 phv, .int .i64 phc, .int .i64 pi, .int .i64 pt, .bool pm, .bool ph]] W (.bool (few6B pl)) from few12_any ⟨id, 4, pa, plen, pcap, pht, phv, phc, pi, pt, pm, ph⟩ pl W hpl (hpr.below hB) (fun e he => (hpg e he).2.2)))
  rw [hf3] at GF3
  obtain ⟨hGH, h30⟩ := hg.has hf1
  dsimp only at h30
  have hPE : HasE w ⟨id, 4, pa, plen, pcap, pht, phv, phc, pi, pt, pm, ph⟩ pl := GoodP.has (x := (⟨id, 4, pa, plen, pcap, pht, phv, phc, pi, pt, pm, ph⟩, pl)) ⟨hgp, hpl, hpr, fun e he => hpg e he⟩ hf3
  have GI := Lib.hid (fun W (hB : Below w.heap.size w W) => refIsG_any id fi te ht hv hc l a cap W (hGH.below hB))
  have GC := Lib.hid (fun W (hB : Below w.heap.size w W) => refChk_any id fi te ht hv hc l a cap id 4 pa plen pcap pht phv phc pi pt pm ph pl W (hGH.below hB) hG (hPE.below hB))
  rw [hc0] at GC
  rw [hG] at GI
  have hgrow : RowV w a l.length 3 (entryCells l) := hGH.2
  have GA := Lib.hid (fun W (hB : Below w.heap.size w W) => (show Gives Try.prog 20 #[.agg #[.int .i64 id, .int .i64 fi, .int .i64 te, .int .i64 ht, .int .i64 hv, .int .i64 hc, .slice a l.length cap], .int .i64 pi] W (.int .i64 (q : Int)) from by have := refAt_any id fi te ht hv hc l a cap pi W (hGH.below hB); rwa [hq] at this))
  have hce := hc0
  have hnf : ¬ fitB ⟨id, fi, te, ht, hv, hc, l⟩ ⟨id, 4, pa, plen, pcap, pht, phv, phc, pi, pt, pm, ph⟩ := fun h => hterm (hen.symm.trans h.2.2)
  have hPE2 : HasE w ⟨id, 4, pa, plen, pcap, pht, phv, phc, pi, pt, pm, ph⟩ pl := hPE
  have hdd := dense_do hG hce (by show l.length ≤ 100000; omega) hnf
  have hBB := (chk_zero hce).1
  have GD := Lib.hid (fun W (hB : Below w.heap.size w W) => (show Calls Try.prog 12 #[.agg #[.int .i64 id, .int .i64 fi, .int .i64 te, .int .i64 ht, .int .i64 hv, .int .i64 hc, .slice a l.length cap], .agg #[.int .i64 id, .int .i64 4, .slice pa plen pcap, .int .i64 pht, .int .i64 phv, .int .i64 phc, .int .i64 pi, .int .i64 pt, .bool pm, .bool ph]] W (SDoP W (doG ⟨id, fi, te, ht, hv, hc, l⟩ ⟨id, 4, pa, plen, pcap, pht, phv, phc, pi, pt, pm, ph⟩ pl)) from by
    have := sdo_valid id fi te ht hv hc l a cap 4 pa plen pcap pht phv phc pi pt pm ph pl W (hGH.below hB) hcap (hPE2.below hB) (by omega) (by omega) (isG_isSp hG) hBB
    rwa [hdd] at this))
  have GR := Lib.hid (fun W (hB : Below w.heap.size w W) => refDo_any id fi te ht hv hc l a cap id 4 pa plen pcap pht phv phc pi pt pm ph pl W (hGH.below hB) hG (hPE2.below hB) hce (by omega))
  have hl9 : l.length < 1000000 := hGH.1
  clear hg hgp hpr hpg hPE hPE2 h30 hGH hcap hpcap hdd hBB hce hc0 hnf
  unfold RDoPost at GR
  unfold SDoP at GD
  generalize doG ⟨id, fi, te, ht, hv, hc, l⟩ ⟨id, 4, pa, plen, pcap, pht, phv, phc, pi, pt, pm, ph⟩ pl = D at *
  obtain ⟨did, dfi, dte, dht, dhv, dhc, dl⟩ := D
  dsimp only at GR GD
  have GS := Lib.hid (fun da dc ra rc W (h1 : HasG W da ⟨did, dfi, dte, dht, dhv, dhc, dl⟩) (h2 : HasG W ra ⟨did, dfi, dte, dht, dhv, dhc, dl⟩) => (show Gives Try.prog 17 #[.agg #[.int .i64 did, .int .i64 dfi, .int .i64 dte, .int .i64 dht, .int .i64 dhv, .int .i64 dhc, .slice da dl.length dc], .agg #[.int .i64 did, .int .i64 dfi, .int .i64 dte, .int .i64 dht, .int .i64 dhv, .int .i64 dhc, .slice ra dl.length rc]] W (.bool true) from by have := refSame6_any did dfi dte dht dhv dhc dl da dc did dfi dte dht dhv dhc dl ra rc W h1 h2; rwa [show sameG (⟨did, dfi, dte, dht, dhv, dhc, dl⟩ : GM) ⟨did, dfi, dte, dht, dhv, dhc, dl⟩ = true from sameG_iff.2 (by simp)] at this))
  clear hq
  have hC : Below w.heap.size w ((w.alloc (.cells #[.int .i64 id, .int .i64 fi, .int .i64 te, .int .i64 ht, .int .i64 hv, .int .i64 hc, .slice a l.length cap] 26)).alloc (.cells #[.int .i64 id, .int .i64 4, .slice pa plen pcap, .int .i64 pht, .int .i64 phv, .int .i64 phc, .int .i64 pi, .int .i64 pt, .bool pm, .bool ph] 28)) := bel_alloc (bel_alloc (Below.refl _ _) _) _
  have hgb := two_a w #[.int .i64 id, .int .i64 fi, .int .i64 te, .int .i64 ht, .int .i64 hv, .int .i64 hc, .slice a l.length cap] #[.int .i64 id, .int .i64 4, .slice pa plen pcap, .int .i64 pht, .int .i64 phv, .int .i64 phc, .int .i64 pi, .int .i64 pt, .bool pm, .bool ph] 26 28
  have hpb := two_b w #[.int .i64 id, .int .i64 fi, .int .i64 te, .int .i64 ht, .int .i64 hv, .int .i64 hc, .slice a l.length cap] #[.int .i64 id, .int .i64 4, .slice pa plen pcap, .int .i64 pht, .int .i64 phv, .int .i64 phc, .int .i64 pi, .int .i64 pt, .bool pm, .bool ph] 26 28
  obtain ⟨x0, x1, x2, x3, x4, x5, x6, -⟩ := cells7 hgb; obtain ⟨z0, z1, z2, z3, z4, z5, z6, z7, z8, z9⟩ := cells10a hpb
  go_enter Try.func4, Try.ntmps4
  go_wp2_with (first
    | (go_at_call 9; ((with_reducible refine (GK.out _).mono ?_); rintro e w1 ⟨rfl, hB⟩; replace hC := bel2 hC hB; replace hgb := (hB.block _ (heap_lt hgb)).trans hgb; replace hpb := (hB.block _ (heap_lt hpb)).trans hpb; clear hB x0 x1 x2 x3 x4 x5 x6 z0 z1 z2 z3 z4 z5 z6 z7 z8 z9; obtain ⟨x0, x1, x2, x3, x4, x5, x6, -⟩ := cells7 hgb; obtain ⟨z0, z1, z2, z3, z4, z5, z6, z7, z8, z9⟩ := cells10a hpb))
    | (go_at_call 10; ((with_reducible refine (GF1.out _ hC).mono ?_); rintro e w2 ⟨rfl, hB⟩; replace hC := bel2 hC hB; replace hgb := (hB.block _ (heap_lt hgb)).trans hgb; replace hpb := (hB.block _ (heap_lt hpb)).trans hpb; clear hB x0 x1 x2 x3 x4 x5 x6 z0 z1 z2 z3 z4 z5 z6 z7 z8 z9; obtain ⟨x0, x1, x2, x3, x4, x5, x6, -⟩ := cells7 hgb; obtain ⟨z0, z1, z2, z3, z4, z5, z6, z7, z8, z9⟩ := cells10a hpb))
    | (go_at_call 11; ((with_reducible refine (GF3.out _ hC).mono ?_); rintro e w3 ⟨rfl, hB⟩; replace hC := bel2 hC hB; replace hgb := (hB.block _ (heap_lt hgb)).trans hgb; replace hpb := (hB.block _ (heap_lt hpb)).trans hpb; clear hB x0 x1 x2 x3 x4 x5 x6 z0 z1 z2 z3 z4 z5 z6 z7 z8 z9; obtain ⟨x0, x1, x2, x3, x4, x5, x6, -⟩ := cells7 hgb; obtain ⟨z0, z1, z2, z3, z4, z5, z6, z7, z8, z9⟩ := cells10a hpb))
    | (go_at_call 16; ((with_reducible refine (GI.out _ hC).mono ?_); rintro e w4 ⟨rfl, hB⟩; replace hC := bel2 hC hB; replace hgb := (hB.block _ (heap_lt hgb)).trans hgb; replace hpb := (hB.block _ (heap_lt hpb)).trans hpb; clear hB x0 x1 x2 x3 x4 x5 x6 z0 z1 z2 z3 z4 z5 z6 z7 z8 z9; obtain ⟨x0, x1, x2, x3, x4, x5, x6, -⟩ := cells7 hgb; obtain ⟨z0, z1, z2, z3, z4, z5, z6, z7, z8, z9⟩ := cells10a hpb))
    | (go_at_call 19; ((with_reducible refine (GC.out _ hC).mono ?_); rintro e w5 ⟨rfl, hB⟩; replace hC := bel2 hC hB; replace hgb := (hB.block _ (heap_lt hgb)).trans hgb; replace hpb := (hB.block _ (heap_lt hpb)).trans hpb; clear hB x0 x1 x2 x3 x4 x5 x6 z0 z1 z2 z3 z4 z5 z6 z7 z8 z9; obtain ⟨x0, x1, x2, x3, x4, x5, x6, -⟩ := cells7 hgb; obtain ⟨z0, z1, z2, z3, z4, z5, z6, z7, z8, z9⟩ := cells10a hpb))
    | (go_at_call 20; ((with_reducible refine (GA.out _ hC).mono ?_); rintro e w6 ⟨rfl, hB⟩; replace hC := bel2 hC hB; replace hgb := (hB.block _ (heap_lt hgb)).trans hgb; replace hpb := (hB.block _ (heap_lt hpb)).trans hpb; clear hB x0 x1 x2 x3 x4 x5 x6 z0 z1 z2 z3 z4 z5 z6 z7 z8 z9; obtain ⟨x0, x1, x2, x3, x4, x5, x6, -⟩ := cells7 hgb; obtain ⟨z0, z1, z2, z3, z4, z5, z6, z7, z8, z9⟩ := cells10a hpb)))
  obtain ⟨gb, go, rfl, hgb2, hgc⟩ := hgrow.2.2 (by omega)
  obtain ⟨e0, e1, e2⟩ := entry_at hgb2 hC hgc hql
  have hql' : (q : Int) < (l.length : Int) := by omega
  have hq0 : decide (0 ≤ (q : Int)) = true := decide_eq_true (by omega)
  have hq1 : (0 : Int) ≤ (q : Int) := by omega
  have hd1 : decide (l[q].t = pt) = false := decide_eq_false_iff_not.2 hterm
  have hd2 : (l[q].t == pt) = false := by rw [beq_eq_false_iff_ne]; exact hterm
  generalize l[q] = x at *
  clear hgc hterm hen hgrow hgb2
  go_wp2
  go_quiet (fail)
  have hBn : Below w6.heap.size w6 (w6.drewN nq) := below_drewN (Below.refl _ _) nq
  have hgn := (hBn.block _ (heap_lt hgb)).trans hgb
  have hpn := (hBn.block _ (heap_lt hpb)).trans hpb
  have hCn := bel2 hC hBn
  clear x0 x1 x2 x3 x4 x5 x6 z0 z1 z2 z3 z4 z5 z6 z7 z8 z9 hgb hpb hC hBn
  generalize w6.drewN nq = wn at *
  obtain ⟨x0, x1, x2, x3, x4, x5, x6, -⟩ := cells7 hgn
  obtain ⟨z0, z1, z2, z3, z4, z5, z6, z7, z8, z9⟩ := cells10a hpn
  go_wp2
  have hp9 := hpn
  have hg9 := hgn
  have hC9 := hCn
  clear hgn hpn hCn
  obtain ⟨wz, rfl⟩ : ∃ wz, wz = wn := ⟨_, rfl⟩
  have KB := Lib.hid (fun W (hW : Below wz.heap.size wz W) => And.intro (cells7 ((hW.block _ (heap_lt hg9)).trans hg9)) (cells10a ((hW.block _ (heap_lt hp9)).trans hp9)))
  have GD2 := Lib.hid (fun W (hW : Below wz.heap.size wz W) => GD.out W (bel2 hC9 hW))
  have GR2 := Lib.hid (fun W (hW : Below wz.heap.size wz W) => GR.out W (bel2 hC9 hW))
  go_region_held3 (fun W' => W'.cell? ⟨w.heap.size, 0, none⟩ = some (.int .i64 id) ∧ W'.cell? ⟨w.heap.size, 1, none⟩ = some (.int .i64 fi) ∧ W'.cell? ⟨w.heap.size, 2, none⟩ = some (.int .i64 te) ∧ W'.cell? ⟨w.heap.size, 3, none⟩ = some (.int .i64 ht) ∧ W'.cell? ⟨w.heap.size, 4, none⟩ = some (.int .i64 hv) ∧ W'.cell? ⟨w.heap.size, 5, none⟩ = some (.int .i64 hc) ∧ W'.cell? ⟨w.heap.size, 6, none⟩ = some (.slice (some ⟨gb, go, none⟩) l.length cap) ∧ W'.cell? ⟨w.heap.size + 1, 0, none⟩ = some (.int .i64 id) ∧ W'.cell? ⟨w.heap.size + 1, 1, none⟩ = some (.int .i64 4) ∧ W'.cell? ⟨w.heap.size + 1, 2, none⟩ = some (.slice pa plen pcap) ∧ W'.cell? ⟨w.heap.size + 1, 3, none⟩ = some (.int .i64 pht) ∧ W'.cell? ⟨w.heap.size + 1, 4, none⟩ = some (.int .i64 phv) ∧ W'.cell? ⟨w.heap.size + 1, 5, none⟩ = some (.int .i64 phc) ∧ W'.cell? ⟨w.heap.size + 1, 6, none⟩ = some (.int .i64 pi) ∧ W'.cell? ⟨w.heap.size + 1, 7, none⟩ = some (.int .i64 pt) ∧ W'.cell? ⟨w.heap.size + 1, 8, none⟩ = some (.bool pm) ∧ W'.cell? ⟨w.heap.size + 1, 9, none⟩ = some (.bool ph)) (go_keep) (first
    | (go_at_call 12; ((with_reducible refine (GD2.out _ ?hb).mono ?_); (case hb => first | exact Below.refl _ _ | exact (Below.refl _ _).drew); rintro e w10 ⟨da, dc, rfl, hDH, -, hB10, -⟩; have hX10 : Below wz.heap.size wz w10 := (by first | exact hB10 | exact bel2 (Below.refl _ _).drew hB10); obtain ⟨⟨y0, y1, y2, y3, y4, y5, y6, -⟩, q0, q1, q2, q3, q4, q5, q6, q7, q8, q9⟩ := KB.out _ hX10))
    | (go_at_call 21; ((with_reducible refine (GR2.out _ ?hb).mono ?_); (case hb => first | exact hX10 | exact hX10.drew); rintro e w11 ⟨ra, rc, rfl, hRH, hB11, -⟩; have hDH11 := (by first | exact hDH.below hB11 | exact (hDH.below (Below.refl _ _).drew).below hB11 : HasG w11 da ⟨did, dfi, dte, dht, dhv, dhc, dl⟩); have hX11 : Below wz.heap.size wz w11 := (by first | exact bel2 hX10 hB11 | exact bel2 hX10.drew hB11); obtain ⟨⟨u0, u1, u2, u3, u4, u5, u6, -⟩, v0, v1, v2, v3, v4, v5, v6, v7, v8, v9⟩ := KB.out _ hX11))
    | (go_at_call 17; ((with_reducible refine (GS.out _ _ _ _ _ ?h1 ?h2).mono ?_); (case h1 => first | exact hDH11 | exact hDH11.below (Below.refl _ _).drew); (case h2 => first | exact hRH | exact hRH.below (Below.refl _ _).drew); rintro e w12 ⟨rfl, hB12⟩; have hX12 : Below wz.heap.size wz w12 := (by first | exact bel2 hX11 hB12 | exact bel2 hX11.drew hB12); obtain ⟨⟨s0, s1, s2, s3, s4, s5, s6, -⟩, t0, t1, t2, t3, t4, t5, t6, t7, t8, t9⟩ := KB.out _ hX12)))
  all_goals
    go_wp2
    go_ret
    exact ⟨by simp, bel2 hC9 hX12⟩

set_option maxRecDepth 100000 in
set_option maxHeartbeats 4000000 in
theorem sd_8 (w : World) (id fi te ht hv hc : Int) (l : List EntryC) (a : Option Addr) (cap : Nat) (hg : GoodG w ⟨id, fi, te, ht, hv, hc, l⟩ a) (hcap : l.length ≤ cap) (pa : Option Addr) (plen pcap : Nat) (pht phv phc pi pt : Int) (pm ph : Bool) (pl : List EntryC) (hgp : goodPart (⟨id, 4, pa, plen, pcap, pht, phv, phc, pi, pt, pm, ph⟩ : PartC)) (hpl : pl.length = plen) (hpr : RowV w pa plen 3 (entryCells pl)) (hpg : ∀ e ∈ pl, goodEntry e) (hpcap : plen ≤ pcap) (hf1 : fewGB l = true) (hf3 : few6B pl = true) (hG : isG ⟨id, fi, te, ht, hv, hc, l⟩ = true) (hc0 : chkG ⟨id, fi, te, ht, hv, hc, l⟩ ⟨id, 4, pa, plen, pcap, pht, phv, phc, pi, pt, pm, ph⟩ pl = 0) (q : Nat) (hql : q < l.length) (hq : atM l pi = q) (hen : entT l pi = l[q].t) (hterm : l[q].t = pt) : Calls Try.prog 4 #[.agg #[.int .i64 id, .int .i64 fi, .int .i64 te, .int .i64 ht, .int .i64 hv, .int .i64 hc, .slice a l.length cap], .agg #[.int .i64 id, .int .i64 4, .slice pa plen pcap, .int .i64 pht, .int .i64 phv, .int .i64 phc, .int .i64 pi, .int .i64 pt, .bool pm, .bool ph]] w fun e w' => e = .returned (.bool true) ∧ Below w.heap.size w w' := by
  have GK := Lib.hid spr_known
  have GF1 := Lib.hid (fun W (hB : Below w.heap.size w W) => fewG12_any id fi te ht hv hc l a cap W (hg.2.1.below hB) (fun e he => (hg.2.2 e he).2.2))
  rw [hf1] at GF1
  have GF3 := Lib.hid (fun W (hB : Below w.heap.size w W) => (show Gives Try.prog 11 #[.agg #[.int .i64 id, .int .i64 4, .slice pa plen pcap, .int .i64 pht, .int .i64 phv, .int .i64 phc, .int .i64 pi, .int .i64 pt, .bool pm, .bool ph]] W (.bool (few6B pl)) from few12_any ⟨id, 4, pa, plen, pcap, pht, phv, phc, pi, pt, pm, ph⟩ pl W hpl (hpr.below hB) (fun e he => (hpg e he).2.2)))
  rw [hf3] at GF3
  obtain ⟨hGH, h30⟩ := hg.has hf1
  dsimp only at h30
  have hPE : HasE w ⟨id, 4, pa, plen, pcap, pht, phv, phc, pi, pt, pm, ph⟩ pl := GoodP.has (x := (⟨id, 4, pa, plen, pcap, pht, phv, phc, pi, pt, pm, ph⟩, pl)) ⟨hgp, hpl, hpr, fun e he => hpg e he⟩ hf3
  have GI := Lib.hid (fun W (hB : Below w.heap.size w W) => refIsG_any id fi te ht hv hc l a cap W (hGH.below hB))
  have GC := Lib.hid (fun W (hB : Below w.heap.size w W) => refChk_any id fi te ht hv hc l a cap id 4 pa plen pcap pht phv phc pi pt pm ph pl W (hGH.below hB) hG (hPE.below hB))
  rw [hc0] at GC
  rw [hG] at GI
  have hgrow : RowV w a l.length 3 (entryCells l) := hGH.2
  have GA := Lib.hid (fun W (hB : Below w.heap.size w W) => (show Gives Try.prog 20 #[.agg #[.int .i64 id, .int .i64 fi, .int .i64 te, .int .i64 ht, .int .i64 hv, .int .i64 hc, .slice a l.length cap], .int .i64 pi] W (.int .i64 (q : Int)) from by have := refAt_any id fi te ht hv hc l a cap pi W (hGH.below hB); rwa [hq] at this))
  have hce : chkG ⟨id, fi, te, ht, hv, hc, l⟩ ⟨id, 3, pa, plen, pcap, pht, phv, phc, pi, pt, pm, ph⟩ pl = 0 := fit_chk (p := ⟨id, 4, pa, plen, pcap, pht, phv, phc, pi, pt, pm, ph⟩) hG hc0 ⟨rfl, by show (0 : Int) ≤ atM l pi; rw [hq]; omega, by show entT l pi = pt; rw [hen]; exact hterm⟩
  have hnf : ¬ fitB ⟨id, fi, te, ht, hv, hc, l⟩ ⟨id, 3, pa, plen, pcap, pht, phv, phc, pi, pt, pm, ph⟩ := fun h => absurd h.1 (by show ¬ ((3 : Int) = 4); omega)
  have hPE2 : HasE w ⟨id, 3, pa, plen, pcap, pht, phv, phc, pi, pt, pm, ph⟩ pl := hPE
  have hdd := dense_do hG hce (by show l.length ≤ 100000; omega) hnf
  have hBB := (chk_zero hce).1
  have GD := Lib.hid (fun W (hB : Below w.heap.size w W) => (show Calls Try.prog 12 #[.agg #[.int .i64 id, .int .i64 fi, .int .i64 te, .int .i64 ht, .int .i64 hv, .int .i64 hc, .slice a l.length cap], .agg #[.int .i64 id, .int .i64 3, .slice pa plen pcap, .int .i64 pht, .int .i64 phv, .int .i64 phc, .int .i64 pi, .int .i64 pt, .bool pm, .bool ph]] W (SDoP W (doG ⟨id, fi, te, ht, hv, hc, l⟩ ⟨id, 3, pa, plen, pcap, pht, phv, phc, pi, pt, pm, ph⟩ pl)) from by
    have := sdo_valid id fi te ht hv hc l a cap 3 pa plen pcap pht phv phc pi pt pm ph pl W (hGH.below hB) hcap (hPE2.below hB) (by omega) (by omega) (isG_isSp hG) hBB
    rwa [hdd] at this))
  have GR := Lib.hid (fun W (hB : Below w.heap.size w W) => refDo_any id fi te ht hv hc l a cap id 3 pa plen pcap pht phv phc pi pt pm ph pl W (hGH.below hB) hG (hPE2.below hB) hce (by omega))
  have hl9 : l.length < 1000000 := hGH.1
  clear hg hgp hpr hpg hPE hPE2 h30 hGH hcap hpcap hdd hBB hce hc0 hnf
  unfold RDoPost at GR
  unfold SDoP at GD
  generalize doG ⟨id, fi, te, ht, hv, hc, l⟩ ⟨id, 3, pa, plen, pcap, pht, phv, phc, pi, pt, pm, ph⟩ pl = D at *
  obtain ⟨did, dfi, dte, dht, dhv, dhc, dl⟩ := D
  dsimp only at GR GD
  have GS := Lib.hid (fun da dc ra rc W (h1 : HasG W da ⟨did, dfi, dte, dht, dhv, dhc, dl⟩) (h2 : HasG W ra ⟨did, dfi, dte, dht, dhv, dhc, dl⟩) => (show Gives Try.prog 17 #[.agg #[.int .i64 did, .int .i64 dfi, .int .i64 dte, .int .i64 dht, .int .i64 dhv, .int .i64 dhc, .slice da dl.length dc], .agg #[.int .i64 did, .int .i64 dfi, .int .i64 dte, .int .i64 dht, .int .i64 dhv, .int .i64 dhc, .slice ra dl.length rc]] W (.bool true) from by have := refSame6_any did dfi dte dht dhv dhc dl da dc did dfi dte dht dhv dhc dl ra rc W h1 h2; rwa [show sameG (⟨did, dfi, dte, dht, dhv, dhc, dl⟩ : GM) ⟨did, dfi, dte, dht, dhv, dhc, dl⟩ = true from sameG_iff.2 (by simp)] at this))
  clear hq
  have hC : Below w.heap.size w ((w.alloc (.cells #[.int .i64 id, .int .i64 fi, .int .i64 te, .int .i64 ht, .int .i64 hv, .int .i64 hc, .slice a l.length cap] 26)).alloc (.cells #[.int .i64 id, .int .i64 4, .slice pa plen pcap, .int .i64 pht, .int .i64 phv, .int .i64 phc, .int .i64 pi, .int .i64 pt, .bool pm, .bool ph] 28)) := bel_alloc (bel_alloc (Below.refl _ _) _) _
  have hgb := two_a w #[.int .i64 id, .int .i64 fi, .int .i64 te, .int .i64 ht, .int .i64 hv, .int .i64 hc, .slice a l.length cap] #[.int .i64 id, .int .i64 4, .slice pa plen pcap, .int .i64 pht, .int .i64 phv, .int .i64 phc, .int .i64 pi, .int .i64 pt, .bool pm, .bool ph] 26 28
  have hpb := two_b w #[.int .i64 id, .int .i64 fi, .int .i64 te, .int .i64 ht, .int .i64 hv, .int .i64 hc, .slice a l.length cap] #[.int .i64 id, .int .i64 4, .slice pa plen pcap, .int .i64 pht, .int .i64 phv, .int .i64 phc, .int .i64 pi, .int .i64 pt, .bool pm, .bool ph] 26 28
  obtain ⟨x0, x1, x2, x3, x4, x5, x6, -⟩ := cells7 hgb; obtain ⟨z0, z1, z2, z3, z4, z5, z6, z7, z8, z9⟩ := cells10a hpb
  go_enter Try.func4, Try.ntmps4
  go_wp2_with (first
    | (go_at_call 9; ((with_reducible refine (GK.out _).mono ?_); rintro e w1 ⟨rfl, hB⟩; replace hC := bel2 hC hB; replace hgb := (hB.block _ (heap_lt hgb)).trans hgb; replace hpb := (hB.block _ (heap_lt hpb)).trans hpb; clear hB x0 x1 x2 x3 x4 x5 x6 z0 z1 z2 z3 z4 z5 z6 z7 z8 z9; obtain ⟨x0, x1, x2, x3, x4, x5, x6, -⟩ := cells7 hgb; obtain ⟨z0, z1, z2, z3, z4, z5, z6, z7, z8, z9⟩ := cells10a hpb))
    | (go_at_call 10; ((with_reducible refine (GF1.out _ hC).mono ?_); rintro e w2 ⟨rfl, hB⟩; replace hC := bel2 hC hB; replace hgb := (hB.block _ (heap_lt hgb)).trans hgb; replace hpb := (hB.block _ (heap_lt hpb)).trans hpb; clear hB x0 x1 x2 x3 x4 x5 x6 z0 z1 z2 z3 z4 z5 z6 z7 z8 z9; obtain ⟨x0, x1, x2, x3, x4, x5, x6, -⟩ := cells7 hgb; obtain ⟨z0, z1, z2, z3, z4, z5, z6, z7, z8, z9⟩ := cells10a hpb))
    | (go_at_call 11; ((with_reducible refine (GF3.out _ hC).mono ?_); rintro e w3 ⟨rfl, hB⟩; replace hC := bel2 hC hB; replace hgb := (hB.block _ (heap_lt hgb)).trans hgb; replace hpb := (hB.block _ (heap_lt hpb)).trans hpb; clear hB x0 x1 x2 x3 x4 x5 x6 z0 z1 z2 z3 z4 z5 z6 z7 z8 z9; obtain ⟨x0, x1, x2, x3, x4, x5, x6, -⟩ := cells7 hgb; obtain ⟨z0, z1, z2, z3, z4, z5, z6, z7, z8, z9⟩ := cells10a hpb))
    | (go_at_call 16; ((with_reducible refine (GI.out _ hC).mono ?_); rintro e w4 ⟨rfl, hB⟩; replace hC := bel2 hC hB; replace hgb := (hB.block _ (heap_lt hgb)).trans hgb; replace hpb := (hB.block _ (heap_lt hpb)).trans hpb; clear hB x0 x1 x2 x3 x4 x5 x6 z0 z1 z2 z3 z4 z5 z6 z7 z8 z9; obtain ⟨x0, x1, x2, x3, x4, x5, x6, -⟩ := cells7 hgb; obtain ⟨z0, z1, z2, z3, z4, z5, z6, z7, z8, z9⟩ := cells10a hpb))
    | (go_at_call 19; ((with_reducible refine (GC.out _ hC).mono ?_); rintro e w5 ⟨rfl, hB⟩; replace hC := bel2 hC hB; replace hgb := (hB.block _ (heap_lt hgb)).trans hgb; replace hpb := (hB.block _ (heap_lt hpb)).trans hpb; clear hB x0 x1 x2 x3 x4 x5 x6 z0 z1 z2 z3 z4 z5 z6 z7 z8 z9; obtain ⟨x0, x1, x2, x3, x4, x5, x6, -⟩ := cells7 hgb; obtain ⟨z0, z1, z2, z3, z4, z5, z6, z7, z8, z9⟩ := cells10a hpb))
    | (go_at_call 20; ((with_reducible refine (GA.out _ hC).mono ?_); rintro e w6 ⟨rfl, hB⟩; replace hC := bel2 hC hB; replace hgb := (hB.block _ (heap_lt hgb)).trans hgb; replace hpb := (hB.block _ (heap_lt hpb)).trans hpb; clear hB x0 x1 x2 x3 x4 x5 x6 z0 z1 z2 z3 z4 z5 z6 z7 z8 z9; obtain ⟨x0, x1, x2, x3, x4, x5, x6, -⟩ := cells7 hgb; obtain ⟨z0, z1, z2, z3, z4, z5, z6, z7, z8, z9⟩ := cells10a hpb)))
  obtain ⟨gb, go, rfl, hgb2, hgc⟩ := hgrow.2.2 (by omega)
  obtain ⟨e0, e1, e2⟩ := entry_at hgb2 hC hgc hql
  have hql' : (q : Int) < (l.length : Int) := by omega
  have hq0 : decide (0 ≤ (q : Int)) = true := decide_eq_true (by omega)
  have hq1 : (0 : Int) ≤ (q : Int) := by omega
  have hd1 : decide (l[q].t = pt) = true := decide_eq_true hterm
  have hd2 : (l[q].t == pt) = true := by rw [beq_iff_eq]; exact hterm
  generalize l[q] = x at *
  clear hgc hterm hen hgrow hgb2
  go_wp2
  go_quiet (fail)
  have hBn : Below w6.heap.size w6 (w6.drewN nq) := below_drewN (Below.refl _ _) nq
  have hgn := (hBn.block _ (heap_lt hgb)).trans hgb
  have hpn := (hBn.block _ (heap_lt hpb)).trans hpb
  have hCn := bel2 hC hBn
  clear x0 x1 x2 x3 x4 x5 x6 z0 z1 z2 z3 z4 z5 z6 z7 z8 z9 hgb hpb hC hBn
  generalize w6.drewN nq = wn at *
  obtain ⟨x0, x1, x2, x3, x4, x5, x6, -⟩ := cells7 hgn
  obtain ⟨z0, z1, z2, z3, z4, z5, z6, z7, z8, z9⟩ := cells10a hpn
  have fz := frozen_of_row _ _ 1 _ _ hpn
  go_wp2
  have hp9 := Go.Joins.block_setCell hpn (.int .i64 3) (i := 1)
  simp only [List.setIfInBounds_toArray, List.set_cons_succ, List.set_cons_zero] at hp9
  have hF9 := FrameT.setCell wn (w.heap.size + 1) 1 (.int .i64 3)
  have hg9 := hF9.get hgn (show ¬ (w.heap.size = w.heap.size + 1) by omega)
  have hC9 := hCn.trans (hF9.toBelow hCn.size (fun k h => by omega))
  clear x0 x1 x2 x3 x4 x5 x6 z0 z1 z2 z3 z4 z5 z6 z7 z8 z9 hF9 fz hgn hpn hCn
  generalize (wn.setCell ⟨w.heap.size + 1, 1, none⟩ (.int .i64 3)) = wz at *
  obtain ⟨x0, x1, x2, x3, x4, x5, x6, -⟩ := cells7 hg9
  obtain ⟨z0, z1, z2, z3, z4, z5, z6, z7, z8, z9⟩ := cells10a hp9
  have KB := Lib.hid (fun W (hW : Below wz.heap.size wz W) => And.intro (cells7 ((hW.block _ (heap_lt hg9)).trans hg9)) (cells10a ((hW.block _ (heap_lt hp9)).trans hp9)))
  have GD2 := Lib.hid (fun W (hW : Below wz.heap.size wz W) => GD.out W (bel2 hC9 hW))
  have GR2 := Lib.hid (fun W (hW : Below wz.heap.size wz W) => GR.out W (bel2 hC9 hW))
  go_region_held3 (fun W' => W'.cell? ⟨w.heap.size, 0, none⟩ = some (.int .i64 id) ∧ W'.cell? ⟨w.heap.size, 1, none⟩ = some (.int .i64 fi) ∧ W'.cell? ⟨w.heap.size, 2, none⟩ = some (.int .i64 te) ∧ W'.cell? ⟨w.heap.size, 3, none⟩ = some (.int .i64 ht) ∧ W'.cell? ⟨w.heap.size, 4, none⟩ = some (.int .i64 hv) ∧ W'.cell? ⟨w.heap.size, 5, none⟩ = some (.int .i64 hc) ∧ W'.cell? ⟨w.heap.size, 6, none⟩ = some (.slice (some ⟨gb, go, none⟩) l.length cap) ∧ W'.cell? ⟨w.heap.size + 1, 0, none⟩ = some (.int .i64 id) ∧ W'.cell? ⟨w.heap.size + 1, 1, none⟩ = some (.int .i64 3) ∧ W'.cell? ⟨w.heap.size + 1, 2, none⟩ = some (.slice pa plen pcap) ∧ W'.cell? ⟨w.heap.size + 1, 3, none⟩ = some (.int .i64 pht) ∧ W'.cell? ⟨w.heap.size + 1, 4, none⟩ = some (.int .i64 phv) ∧ W'.cell? ⟨w.heap.size + 1, 5, none⟩ = some (.int .i64 phc) ∧ W'.cell? ⟨w.heap.size + 1, 6, none⟩ = some (.int .i64 pi) ∧ W'.cell? ⟨w.heap.size + 1, 7, none⟩ = some (.int .i64 pt) ∧ W'.cell? ⟨w.heap.size + 1, 8, none⟩ = some (.bool pm) ∧ W'.cell? ⟨w.heap.size + 1, 9, none⟩ = some (.bool ph)) (go_keep) (first
    | (go_at_call 12; ((with_reducible refine (GD2.out _ ?hb).mono ?_); (case hb => first | exact Below.refl _ _ | exact (Below.refl _ _).drew); rintro e w10 ⟨da, dc, rfl, hDH, -, hB10, -⟩; have hX10 : Below wz.heap.size wz w10 := (by first | exact hB10 | exact bel2 (Below.refl _ _).drew hB10); obtain ⟨⟨y0, y1, y2, y3, y4, y5, y6, -⟩, q0, q1, q2, q3, q4, q5, q6, q7, q8, q9⟩ := KB.out _ hX10))
    | (go_at_call 21; ((with_reducible refine (GR2.out _ ?hb).mono ?_); (case hb => first | exact hX10 | exact hX10.drew); rintro e w11 ⟨ra, rc, rfl, hRH, hB11, -⟩; have hDH11 := (by first | exact hDH.below hB11 | exact (hDH.below (Below.refl _ _).drew).below hB11 : HasG w11 da ⟨did, dfi, dte, dht, dhv, dhc, dl⟩); have hX11 : Below wz.heap.size wz w11 := (by first | exact bel2 hX10 hB11 | exact bel2 hX10.drew hB11); obtain ⟨⟨u0, u1, u2, u3, u4, u5, u6, -⟩, v0, v1, v2, v3, v4, v5, v6, v7, v8, v9⟩ := KB.out _ hX11))
    | (go_at_call 17; ((with_reducible refine (GS.out _ _ _ _ _ ?h1 ?h2).mono ?_); (case h1 => first | exact hDH11 | exact hDH11.below (Below.refl _ _).drew); (case h2 => first | exact hRH | exact hRH.below (Below.refl _ _).drew); rintro e w12 ⟨rfl, hB12⟩; have hX12 : Below wz.heap.size wz w12 := (by first | exact bel2 hX11 hB12 | exact bel2 hX11.drew hB12); obtain ⟨⟨s0, s1, s2, s3, s4, s5, s6, -⟩, t0, t1, t2, t3, t4, t5, t6, t7, t8, t9⟩ := KB.out _ hX12)))
  all_goals
    go_wp2
    go_ret
    exact ⟨by simp, bel2 hC9 hX12⟩

theorem walk (w : World) (g : GM) (a : Option Addr) (cap : Nat) (hg : GoodG w g a) (hcap : g.l.length ≤ cap) (p : PartC) (pl : List EntryC) (hgp : goodPart p) (hpl : pl.length = p.len) (hpr : RowV w p.a p.len 3 (entryCells pl)) (hpg : ∀ e ∈ pl, goodEntry e) (hpcap : p.len ≤ p.cap) : Calls Try.prog 4 #[g.val a cap, p.val] w fun e w' => e = .returned (.bool true) ∧ Below w.heap.size w w' := by
  obtain ⟨id, fi, te, ht, hv, hc, l⟩ := g
  obtain ⟨pg, pk, pa, plen, pcap, pht, phv, phc, pi, pt, pm, ph⟩ := p
  cases hf1 : fewGB l
  · exact sd_1 w id fi te ht hv hc l a cap hg hcap pg pk pa plen pcap pht phv phc pi pt pm ph pl hgp hpl hpr hpg hpcap hf1
  cases hf3 : few6B pl
  · exact sd_2 w id fi te ht hv hc l a cap hg hcap pg pk pa plen pcap pht phv phc pi pt pm ph pl hgp hpl hpr hpg hpcap hf1 hf3
  cases hG : isG ⟨id, fi, te, ht, hv, hc, l⟩
  · exact sd_3 w id fi te ht hv hc l a cap hg hcap pg pk pa plen pcap pht phv phc pi pt pm ph pl hgp hpl hpr hpg hpcap hf1 hf3 hG
  by_cases hc0 : chkG ⟨id, fi, te, ht, hv, hc, l⟩ ⟨pg, pk, pa, plen, pcap, pht, phv, phc, pi, pt, pm, ph⟩ pl = 0
  · obtain rfl : pg = id := (chk_zero hc0).2.1
    by_cases hk : pk = 4
    · subst hk
      rcases at_bd (isG_iff.1 hG).2.2 pi with h | ⟨q, hq, h1, h2⟩
      · exact sd_6 w pg fi te ht hv hc l a cap hg hcap pa plen pcap pht phv phc pi pt pm ph pl hgp hpl hpr hpg hpcap hf1 hf3 hG hc0 h
      · by_cases ht9 : l[q].t = pt
        · exact sd_8 w pg fi te ht hv hc l a cap hg hcap pa plen pcap pht phv phc pi pt pm ph pl hgp hpl hpr hpg hpcap hf1 hf3 hG hc0 q hq h1 h2 ht9
        · exact sd_7 w pg fi te ht hv hc l a cap hg hcap pa plen pcap pht phv phc pi pt pm ph pl hgp hpl hpr hpg hpcap hf1 hf3 hG hc0 q hq h1 h2 ht9
    · exact sd_5 w pg fi te ht hv hc l a cap hg hcap pk pa plen pcap pht phv phc pi pt pm ph pl hgp hpl hpr hpg hpcap hf1 hf3 hG hc0 hk
  · exact sd_4 w id fi te ht hv hc l a cap hg hcap pg pk pa plen pcap pht phv phc pi pt pm ph pl hgp hpl hpr hpg hpcap hf1 hf3 hG hc0

set_option maxRecDepth 100000 in
theorem lifted (os : Os) (started : os.Started) (H : Type) (enc : TypeId × Value → H) :
    ReturnsInHanded {} Try.checked os 4 .any (Rows.sparseDenseSpec.pre6 enc Try.prog Try.f4 Rows.sparseDenseRow.domain false) (Rows.sparseDenseSpec.post enc Try.prog Try.f4 false true false false) := by
  refine returnsInHanded_of_change (C := Try.checked) Try.own started (by kernel_rfl) Try.func4
    (ChangeSpec.witness6 (enc := enc) (C := Try.checked) false ⟨#[], #[.agg #[.int .i64 0, .int .i64 0, .int .i64 0, .int .i64 0, .int .i64 0, .int .i64 0, .slice none 0 0], .agg #[.int .i64 0, .int .i64 0, .slice none 0 0, .int .i64 0, .int .i64 0, .int .i64 0, .int .i64 0, .int .i64 0, .bool false, .bool false]], []⟩ 8 (by kernel_rfl) (by kernel_rfl) (by kernel_rfl) (by kernel_rfl)) ?_
  intro W base args ds gs before hval hW _ _
  refine law_contract (T := 4) (n := 2) Try.laid Try.underlying4 rfl rfl ⟨rfl, fun H ds h => by match ds, h with | [_, _], _ => rfl⟩ (of_all (by kernel_rfl)) hW ?_
  intro ps hA
  rw [Try.params4] at hA hval
  obtain ⟨v0, vs0, d0, ds0, p0, q0, hargs, rfl, rfl, h0, r0⟩ := trodAll_cons hA
  obtain ⟨v1, vs1, d1, ds1, p1, q1, rfl, rfl, rfl, h1, r1⟩ := trodAll_cons r0
  obtain ⟨rfl, rfl, rfl⟩ := trodAll_nil r1
  obtain rfl : args = #[v0, v1] := by cases args; simp_all
  obtain ⟨p0, a0, c0, rfl, g0⟩ := open_group (hval 0 26 v0 rfl rfl) h0
  obtain ⟨p1, rfl, g1, l1, k1, w1, e1⟩ := open_part (hval 1 28 v1 rfl rfl) h1
  exact walk W p0 a0 c0 g0 (group_le h0) p1 l1 g1 k1 w1 e1 (part_le h1)

theorem holds : Rows.SparseDenseSaid :=
  OpenClaim.holds_of_wide 4 Try.f4 rfl rfl rfl rfl rfl rfl rfl ⟨rfl, rfl, rfl, rfl, rfl⟩ rfl rfl rfl rfl rfl (by kernel_rfl) Try.func4 (by kernel_rfl)
    (of_decide_eq_true (by kernel_rfl)) (by unfold Func.isWrapper; first | (rw [if_pos (by decide +kernel)]; kernel_rfl) | (rw [if_neg (by decide +kernel)]; exact ⟨rfl, rfl⟩))
    (fun os started H enc _ => lifted os started H enc)

end Go.Proofs.Ytfbibpnkfmgkaaa.sparseDense
