/- Law SparseTells: for every input the call answers true; its arguments read as they did. No condition. -/
import Derived.Test.YtfbibpnkfmgkaaaLaw
import Derived.Test.YtfbibpnkfmgkaaaKnown12
import Derived.Test.YtfbibpnkfmgkaaaFew12
import Derived.Test.YtfbibpnkfmgkaaaRef6i
import Derived.Test.YtfbibpnkfmgkaaaSprBad
import Derived.Test.YtfbibpnkfmgkaaaOpenPart
namespace Go.Proofs.Ytfbibpnkfmgkaaa.sparseTells
open Go.ChangeShapes Go.WideShapes Go.ChangeAt Go.RowKit Go.Shelf
open Go.ChangeMaps (open_string shut_string)
set_option linter.unusedVariables false
attribute [local go_sem] Oper.semAt_some wide_fn wide_round_fn

attribute [local irreducible] wpQuiet
theorem wpList_append_none12 {P : Program} {w : World} {ops : Array Oper} {rest : List Oper} {o : Oper} {a : Act} {Q : Exit → Act → World → Prop} (hgd : o.guard = none) (s x : Operand) (t : TypeId)
    (ho : o.op = .call { callee := .builtin .append, args := #[s, x], argTypes := #[t, t] }) (e : TypeId) (i : TypeInfo) (ht : P.underlying t = some (.slice e)) (hi : P.info? e = some i)
    (hs : a.eval s = .slice none 0 0) (m c : Nat) (hm0 : m = 0) (hx : a.eval x = .slice none m c) (h : wpList P ops Q rest (a.put o.dst (.slice none 0 0)) w) : wpList P ops Q (o :: rest) a w := by
  subst hm0
  refine wpList_plain hgd fun K hK => ?_
  have hrun : (Builtin.append_ #[t, t] o.type #[.slice none 0 0, .slice none 0 c]).run P w = .ok (.slice none 0 0) w := by
    simp [Builtin.append_, run_underlying ht, sizeOf, typeInfo, hi, Builtin.lenOf, Builtin.firstCells]
  unfold Oper.wp
  simp [execOp, ho, resolve, invoke, builtin, hs, hx, hrun, Result.andThen]
  exact hK _ _ h
set_option maxRecDepth 100000 in
set_option maxHeartbeats 4000000 in
theorem st_1 (w : World) (id fi te ht hv hc : Int) (l : List EntryC) (a : Option Addr) (cap : Nat) (hg : GoodG w ⟨id, fi, te, ht, hv, hc, l⟩ a) (hcap : l.length ≤ cap) (pg : Int) (pk : Int) (pa : Option Addr) (plen pcap : Nat) (pht phv phc pi pt : Int) (pm ph : Bool) (pl : List EntryC) (hgp : goodPart (⟨pg, pk, pa, plen, pcap, pht, phv, phc, pi, pt, pm, ph⟩ : PartC)) (hpl : pl.length = plen) (hpr : RowV w pa plen 3 (entryCells pl)) (hpg : ∀ e ∈ pl, goodEntry e) (hpcap : plen ≤ pcap) (hf1 : fewGB l = false) : Calls Try.prog 3 #[.agg #[.int .i64 id, .int .i64 fi, .int .i64 te, .int .i64 ht, .int .i64 hv, .int .i64 hc, .slice a l.length cap], .agg #[.int .i64 pg, .int .i64 pk, .slice pa plen pcap, .int .i64 pht, .int .i64 phv, .int .i64 phc, .int .i64 pi, .int .i64 pt, .bool pm, .bool ph]] w fun e w' => e = .returned (.bool true) ∧ Below w.heap.size w w' := by
  have GK := Lib.hid spr_known
  have GF1 := Lib.hid (fun W (hB : Below w.heap.size w W) => fewG12_any id fi te ht hv hc l a cap W (hg.2.1.below hB) (fun e he => (hg.2.2 e he).2.2))
  rw [hf1] at GF1
  clear hg hgp hpr hpg hpl
  have hC : Below w.heap.size w ((w.alloc (.cells #[.int .i64 id, .int .i64 fi, .int .i64 te, .int .i64 ht, .int .i64 hv, .int .i64 hc, .slice a l.length cap] 26)).alloc (.cells #[.int .i64 pg, .int .i64 pk, .slice pa plen pcap, .int .i64 pht, .int .i64 phv, .int .i64 phc, .int .i64 pi, .int .i64 pt, .bool pm, .bool ph] 28)) := bel_alloc (bel_alloc (Below.refl _ _) _) _
  have hgb := two_a w #[.int .i64 id, .int .i64 fi, .int .i64 te, .int .i64 ht, .int .i64 hv, .int .i64 hc, .slice a l.length cap] #[.int .i64 pg, .int .i64 pk, .slice pa plen pcap, .int .i64 pht, .int .i64 phv, .int .i64 phc, .int .i64 pi, .int .i64 pt, .bool pm, .bool ph] 26 28
  have hpb := two_b w #[.int .i64 id, .int .i64 fi, .int .i64 te, .int .i64 ht, .int .i64 hv, .int .i64 hc, .slice a l.length cap] #[.int .i64 pg, .int .i64 pk, .slice pa plen pcap, .int .i64 pht, .int .i64 phv, .int .i64 phc, .int .i64 pi, .int .i64 pt, .bool pm, .bool ph] 26 28
  obtain ⟨x0, x1, x2, x3, x4, x5, x6, -⟩ := cells7 hgb; obtain ⟨z0, z1, z2, z3, z4, z5, z6, z7, z8, z9⟩ := cells10a hpb
  go_enter Try.func3, Try.ntmps3
  go_wp2_with (first
    | (go_at_call 9; ((with_reducible refine (GK.out _).mono ?_); rintro e w1 ⟨rfl, hB⟩; replace hC := bel2 hC hB; replace hgb := (hB.block _ (heap_lt hgb)).trans hgb; replace hpb := (hB.block _ (heap_lt hpb)).trans hpb; clear hB x0 x1 x2 x3 x4 x5 x6 z0 z1 z2 z3 z4 z5 z6 z7 z8 z9; obtain ⟨x0, x1, x2, x3, x4, x5, x6, -⟩ := cells7 hgb; obtain ⟨z0, z1, z2, z3, z4, z5, z6, z7, z8, z9⟩ := cells10a hpb))
    | (go_at_call 10; ((with_reducible refine (GF1.out _ hC).mono ?_); rintro e w2 ⟨rfl, hB⟩; replace hC := bel2 hC hB; replace hgb := (hB.block _ (heap_lt hgb)).trans hgb; replace hpb := (hB.block _ (heap_lt hpb)).trans hpb; clear hB x0 x1 x2 x3 x4 x5 x6 z0 z1 z2 z3 z4 z5 z6 z7 z8 z9; obtain ⟨x0, x1, x2, x3, x4, x5, x6, -⟩ := cells7 hgb; obtain ⟨z0, z1, z2, z3, z4, z5, z6, z7, z8, z9⟩ := cells10a hpb)))
  go_ret
  exact ⟨by simp, hC⟩

set_option maxRecDepth 100000 in
set_option maxHeartbeats 4000000 in
theorem st_2 (w : World) (id fi te ht hv hc : Int) (l : List EntryC) (a : Option Addr) (cap : Nat) (hg : GoodG w ⟨id, fi, te, ht, hv, hc, l⟩ a) (hcap : l.length ≤ cap) (pg : Int) (pk : Int) (pa : Option Addr) (plen pcap : Nat) (pht phv phc pi pt : Int) (pm ph : Bool) (pl : List EntryC) (hgp : goodPart (⟨pg, pk, pa, plen, pcap, pht, phv, phc, pi, pt, pm, ph⟩ : PartC)) (hpl : pl.length = plen) (hpr : RowV w pa plen 3 (entryCells pl)) (hpg : ∀ e ∈ pl, goodEntry e) (hpcap : plen ≤ pcap) (hf1 : fewGB l = true) (hf3 : few6B pl = false) : Calls Try.prog 3 #[.agg #[.int .i64 id, .int .i64 fi, .int .i64 te, .int .i64 ht, .int .i64 hv, .int .i64 hc, .slice a l.length cap], .agg #[.int .i64 pg, .int .i64 pk, .slice pa plen pcap, .int .i64 pht, .int .i64 phv, .int .i64 phc, .int .i64 pi, .int .i64 pt, .bool pm, .bool ph]] w fun e w' => e = .returned (.bool true) ∧ Below w.heap.size w w' := by
  have GK := Lib.hid spr_known
  have GF1 := Lib.hid (fun W (hB : Below w.heap.size w W) => fewG12_any id fi te ht hv hc l a cap W (hg.2.1.below hB) (fun e he => (hg.2.2 e he).2.2))
  rw [hf1] at GF1
  have GF3 := Lib.hid (fun W (hB : Below w.heap.size w W) => (show Gives Try.prog 11 #[.agg #[.int .i64 pg, .int .i64 pk, .slice pa plen pcap, .int .i64 pht, .int .i64 phv, .int .i64 phc, .int .i64 pi, .int .i64 pt, .bool pm, .bool ph]] W (.bool (few6B pl)) from few12_any ⟨pg, pk, pa, plen, pcap, pht, phv, phc, pi, pt, pm, ph⟩ pl W hpl (hpr.below hB) (fun e he => (hpg e he).2.2)))
  rw [hf3] at GF3
  clear hg hgp hpr hpg hpl
  have hC : Below w.heap.size w ((w.alloc (.cells #[.int .i64 id, .int .i64 fi, .int .i64 te, .int .i64 ht, .int .i64 hv, .int .i64 hc, .slice a l.length cap] 26)).alloc (.cells #[.int .i64 pg, .int .i64 pk, .slice pa plen pcap, .int .i64 pht, .int .i64 phv, .int .i64 phc, .int .i64 pi, .int .i64 pt, .bool pm, .bool ph] 28)) := bel_alloc (bel_alloc (Below.refl _ _) _) _
  have hgb := two_a w #[.int .i64 id, .int .i64 fi, .int .i64 te, .int .i64 ht, .int .i64 hv, .int .i64 hc, .slice a l.length cap] #[.int .i64 pg, .int .i64 pk, .slice pa plen pcap, .int .i64 pht, .int .i64 phv, .int .i64 phc, .int .i64 pi, .int .i64 pt, .bool pm, .bool ph] 26 28
  have hpb := two_b w #[.int .i64 id, .int .i64 fi, .int .i64 te, .int .i64 ht, .int .i64 hv, .int .i64 hc, .slice a l.length cap] #[.int .i64 pg, .int .i64 pk, .slice pa plen pcap, .int .i64 pht, .int .i64 phv, .int .i64 phc, .int .i64 pi, .int .i64 pt, .bool pm, .bool ph] 26 28
  obtain ⟨x0, x1, x2, x3, x4, x5, x6, -⟩ := cells7 hgb; obtain ⟨z0, z1, z2, z3, z4, z5, z6, z7, z8, z9⟩ := cells10a hpb
  go_enter Try.func3, Try.ntmps3
  go_wp2_with (first
    | (go_at_call 9; ((with_reducible refine (GK.out _).mono ?_); rintro e w1 ⟨rfl, hB⟩; replace hC := bel2 hC hB; replace hgb := (hB.block _ (heap_lt hgb)).trans hgb; replace hpb := (hB.block _ (heap_lt hpb)).trans hpb; clear hB x0 x1 x2 x3 x4 x5 x6 z0 z1 z2 z3 z4 z5 z6 z7 z8 z9; obtain ⟨x0, x1, x2, x3, x4, x5, x6, -⟩ := cells7 hgb; obtain ⟨z0, z1, z2, z3, z4, z5, z6, z7, z8, z9⟩ := cells10a hpb))
    | (go_at_call 10; ((with_reducible refine (GF1.out _ hC).mono ?_); rintro e w2 ⟨rfl, hB⟩; replace hC := bel2 hC hB; replace hgb := (hB.block _ (heap_lt hgb)).trans hgb; replace hpb := (hB.block _ (heap_lt hpb)).trans hpb; clear hB x0 x1 x2 x3 x4 x5 x6 z0 z1 z2 z3 z4 z5 z6 z7 z8 z9; obtain ⟨x0, x1, x2, x3, x4, x5, x6, -⟩ := cells7 hgb; obtain ⟨z0, z1, z2, z3, z4, z5, z6, z7, z8, z9⟩ := cells10a hpb))
    | (go_at_call 11; ((with_reducible refine (GF3.out _ hC).mono ?_); rintro e w3 ⟨rfl, hB⟩; replace hC := bel2 hC hB; replace hgb := (hB.block _ (heap_lt hgb)).trans hgb; replace hpb := (hB.block _ (heap_lt hpb)).trans hpb; clear hB x0 x1 x2 x3 x4 x5 x6 z0 z1 z2 z3 z4 z5 z6 z7 z8 z9; obtain ⟨x0, x1, x2, x3, x4, x5, x6, -⟩ := cells7 hgb; obtain ⟨z0, z1, z2, z3, z4, z5, z6, z7, z8, z9⟩ := cells10a hpb)))
  go_ret
  exact ⟨by simp, hC⟩

set_option maxRecDepth 100000 in
set_option maxHeartbeats 4000000 in
theorem st_3 (w : World) (id fi te ht hv hc : Int) (l : List EntryC) (ad : Addr) (cap : Nat) (hg : GoodG w ⟨id, fi, te, ht, hv, hc, l⟩ (some ad)) (hcap : l.length ≤ cap) (pg : Int) (pk : Int) (pa : Option Addr) (plen pcap : Nat) (pht phv phc pi pt : Int) (pm ph : Bool) (pl : List EntryC) (hgp : goodPart (⟨pg, pk, pa, plen, pcap, pht, phv, phc, pi, pt, pm, ph⟩ : PartC)) (hpl : pl.length = plen) (hpr : RowV w pa plen 3 (entryCells pl)) (hpg : ∀ e ∈ pl, goodEntry e) (hpcap : plen ≤ pcap) (hf1 : fewGB l = true) (hf3 : few6B pl = true) : Calls Try.prog 3 #[.agg #[.int .i64 id, .int .i64 fi, .int .i64 te, .int .i64 ht, .int .i64 hv, .int .i64 hc, .slice (some ad) l.length cap], .agg #[.int .i64 pg, .int .i64 pk, .slice pa plen pcap, .int .i64 pht, .int .i64 phv, .int .i64 phc, .int .i64 pi, .int .i64 pt, .bool pm, .bool ph]] w fun e w' => e = .returned (.bool true) ∧ Below w.heap.size w w' := by
  have GK := Lib.hid spr_known
  have GF1 := Lib.hid (fun W (hB : Below w.heap.size w W) => fewG12_any id fi te ht hv hc l (some ad) cap W (hg.2.1.below hB) (fun e he => (hg.2.2 e he).2.2))
  rw [hf1] at GF1
  have GF3 := Lib.hid (fun W (hB : Below w.heap.size w W) => (show Gives Try.prog 11 #[.agg #[.int .i64 pg, .int .i64 pk, .slice pa plen pcap, .int .i64 pht, .int .i64 phv, .int .i64 phc, .int .i64 pi, .int .i64 pt, .bool pm, .bool ph]] W (.bool (few6B pl)) from few12_any ⟨pg, pk, pa, plen, pcap, pht, phv, phc, pi, pt, pm, ph⟩ pl W hpl (hpr.below hB) (fun e he => (hpg e he).2.2)))
  rw [hf3] at GF3
  obtain ⟨hGH, h30⟩ := hg.has hf1
  dsimp only at h30
  have hPE : HasE w ⟨pg, pk, pa, plen, pcap, pht, phv, phc, pi, pt, pm, ph⟩ pl := GoodP.has (x := (⟨pg, pk, pa, plen, pcap, pht, phv, phc, pi, pt, pm, ph⟩, pl)) ⟨hgp, hpl, hpr, fun e he => hpg e he⟩ hf3
  have hp8 : pl.length ≤ 100 := by simp only [few6B, Bool.and_eq_true, decide_eq_true_eq] at hf3; omega
  have G1 := Lib.hid (fun W (hB : Below w.heap.size w W) => sprIs_any id fi te ht hv hc l (some ad) cap W (hGH.below hB))
  have G2 := Lib.hid (fun W (hB : Below w.heap.size w W) => refIsSp_any id fi te ht hv hc l (some ad) cap W (hGH.below hB))
  have G3 := Lib.hid (fun W (hB : Below w.heap.size w W) => sprDense_any id fi te ht hv hc l (some ad) cap W (hGH.below hB))
  have G4 := Lib.hid (fun W (hB : Below w.heap.size w W) => refIsG_any id fi te ht hv hc l (some ad) cap W (hGH.below hB))
  have GD := Lib.hid (fun W (hB : Below w.heap.size w W) => sdo_any id fi te ht hv hc l (some ad) cap pg pk pa plen pcap pht phv phc pi pt pm ph pl W (hGH.below hB) hcap (hPE.below hB) (by omega) (by omega))
  have GL := Lib.hid (fun W (hB : Below w.heap.size w W) => refLoose_any id fi te ht hv hc l (some ad) cap pg pk pa plen pcap pht phv phc pi pt pm ph pl W (hGH.below hB) (hPE.below hB) hp8 (by omega))
  have GW := Lib.hid (fun qa qc W (hB : Below w.heap.size w W) (h2 : HasG W qa ⟨id, fi, te, ht, hv, hc, l⟩) => (show Gives Try.prog 17 #[.agg #[.int .i64 id, .int .i64 fi, .int .i64 te, .int .i64 ht, .int .i64 hv, .int .i64 hc, .slice (some ad) l.length cap], .agg #[.int .i64 id, .int .i64 fi, .int .i64 te, .int .i64 ht, .int .i64 hv, .int .i64 hc, .slice qa l.length qc]] W (.bool true) from by have := refSame6_any id fi te ht hv hc l (some ad) cap id fi te ht hv hc l qa qc W (hGH.below hB) h2; rwa [show sameG ⟨id, fi, te, ht, hv, hc, l⟩ ⟨id, fi, te, ht, hv, hc, l⟩ = true from sameG_iff.2 (by simp)] at this))
  have HGR := Lib.hid (fun W (hB : Below w.heap.size w W) => hGH.2.below hB)
  have hl9 : l.length < 1000000 := hGH.1
  generalize isSp ⟨id, fi, te, ht, hv, hc, l⟩ = bS at *
  generalize isG ⟨id, fi, te, ht, hv, hc, l⟩ = bG at *
  generalize doSp ⟨id, fi, te, ht, hv, hc, l⟩ ⟨pg, pk, pa, plen, pcap, pht, phv, phc, pi, pt, pm, ph⟩ pl = D at *
  obtain ⟨did, dfi, dte, dht, dhv, dhc, dl⟩ := D
  unfold SDoP at GD
  unfold RDoPost at GL
  dsimp only at GD GL HGR
  have GS := Lib.hid (fun da dc ra rc W (h1 : HasG W da ⟨did, dfi, dte, dht, dhv, dhc, dl⟩) (h2 : HasG W ra ⟨did, dfi, dte, dht, dhv, dhc, dl⟩) => (show Gives Try.prog 17 #[.agg #[.int .i64 did, .int .i64 dfi, .int .i64 dte, .int .i64 dht, .int .i64 dhv, .int .i64 dhc, .slice da dl.length dc], .agg #[.int .i64 did, .int .i64 dfi, .int .i64 dte, .int .i64 dht, .int .i64 dhv, .int .i64 dhc, .slice ra dl.length rc]] W (.bool true) from by have := refSame6_any did dfi dte dht dhv dhc dl da dc did dfi dte dht dhv dhc dl ra rc W h1 h2; rwa [show sameG (⟨did, dfi, dte, dht, dhv, dhc, dl⟩ : GM) ⟨did, dfi, dte, dht, dhv, dhc, dl⟩ = true from sameG_iff.2 (by simp)] at this))
  obtain ⟨i9, hi9, hz0, hz1, hz2⟩ := info_parts infoEntry
  clear hg hgp hpl hpr hpg hpcap hPE hGH hp8
  have hC : Below w.heap.size w ((w.alloc (.cells #[.int .i64 id, .int .i64 fi, .int .i64 te, .int .i64 ht, .int .i64 hv, .int .i64 hc, .slice (some ad) l.length cap] 26)).alloc (.cells #[.int .i64 pg, .int .i64 pk, .slice pa plen pcap, .int .i64 pht, .int .i64 phv, .int .i64 phc, .int .i64 pi, .int .i64 pt, .bool pm, .bool ph] 28)) := bel_alloc (bel_alloc (Below.refl _ _) _) _
  have hgb := two_a w #[.int .i64 id, .int .i64 fi, .int .i64 te, .int .i64 ht, .int .i64 hv, .int .i64 hc, .slice (some ad) l.length cap] #[.int .i64 pg, .int .i64 pk, .slice pa plen pcap, .int .i64 pht, .int .i64 phv, .int .i64 phc, .int .i64 pi, .int .i64 pt, .bool pm, .bool ph] 26 28
  have hpb := two_b w #[.int .i64 id, .int .i64 fi, .int .i64 te, .int .i64 ht, .int .i64 hv, .int .i64 hc, .slice (some ad) l.length cap] #[.int .i64 pg, .int .i64 pk, .slice pa plen pcap, .int .i64 pht, .int .i64 phv, .int .i64 phc, .int .i64 pi, .int .i64 pt, .bool pm, .bool ph] 26 28
  obtain ⟨x0, x1, x2, x3, x4, x5, x6, -⟩ := cells7 hgb; obtain ⟨z0, z1, z2, z3, z4, z5, z6, z7, z8, z9⟩ := cells10a hpb
  go_enter Try.func3, Try.ntmps3
  go_upto_region 6 with (first
    | (go_at_call 9; ((with_reducible refine (GK.out _).mono ?_); rintro e w1 ⟨rfl, hB⟩; replace hC := bel2 hC hB; replace hgb := (hB.block _ (heap_lt hgb)).trans hgb; replace hpb := (hB.block _ (heap_lt hpb)).trans hpb; clear hB x0 x1 x2 x3 x4 x5 x6 z0 z1 z2 z3 z4 z5 z6 z7 z8 z9; obtain ⟨x0, x1, x2, x3, x4, x5, x6, -⟩ := cells7 hgb; obtain ⟨z0, z1, z2, z3, z4, z5, z6, z7, z8, z9⟩ := cells10a hpb))
    | (go_at_call 10; ((with_reducible refine (GF1.out _ hC).mono ?_); rintro e w2 ⟨rfl, hB⟩; replace hC := bel2 hC hB; replace hgb := (hB.block _ (heap_lt hgb)).trans hgb; replace hpb := (hB.block _ (heap_lt hpb)).trans hpb; clear hB x0 x1 x2 x3 x4 x5 x6 z0 z1 z2 z3 z4 z5 z6 z7 z8 z9; obtain ⟨x0, x1, x2, x3, x4, x5, x6, -⟩ := cells7 hgb; obtain ⟨z0, z1, z2, z3, z4, z5, z6, z7, z8, z9⟩ := cells10a hpb))
    | (go_at_call 11; ((with_reducible refine (GF3.out _ hC).mono ?_); rintro e w3 ⟨rfl, hB⟩; replace hC := bel2 hC hB; replace hgb := (hB.block _ (heap_lt hgb)).trans hgb; replace hpb := (hB.block _ (heap_lt hpb)).trans hpb; clear hB x0 x1 x2 x3 x4 x5 x6 z0 z1 z2 z3 z4 z5 z6 z7 z8 z9; obtain ⟨x0, x1, x2, x3, x4, x5, x6, -⟩ := cells7 hgb; obtain ⟨z0, z1, z2, z3, z4, z5, z6, z7, z8, z9⟩ := cells10a hpb)))
  have hBx := bel_alloc (Below.refl w3.heap.size w3) (.cells #[.int .i64 id, .int .i64 fi, .int .i64 te, .int .i64 ht, .int .i64 hv, .int .i64 hc, .slice (some ad) l.length cap] 26)
  have hQ := World.alloc_heap_new w3 (.cells #[.int .i64 id, .int .i64 fi, .int .i64 te, .int .i64 ht, .int .i64 hv, .int .i64 hc, .slice (some ad) l.length cap] 26)
  obtain ⟨Q, hQe⟩ : ∃ Q, Q = w3.heap.size := ⟨_, rfl⟩
  have hPl := heap_lt hpb
  have hGl := heap_lt hgb
  have hQw : w.heap.size + 2 ≤ Q := by omega
  have hg4 := (hBx.block _ hGl).trans hgb
  have hp4 := (hBx.block _ hPl).trans hpb
  have hC4 := bel2 hC hBx
  rw [← hQe] at hQ
  rw [← hQe]
  clear x0 x1 x2 x3 x4 x5 x6 z0 z1 z2 z3 z4 z5 z6 z7 z8 z9 hBx hQe hgb hpb hC hPl hGl
  generalize (w3.alloc (.cells #[.int .i64 id, .int .i64 fi, .int .i64 te, .int .i64 ht, .int .i64 hv, .int .i64 hc, .slice (some ad) l.length cap] 26)) = w4 at *
  obtain ⟨x0, x1, x2, x3, x4, x5, x6, -⟩ := cells7 hg4
  obtain ⟨y0, y1, y2, y3, y4, y5, y6, fy⟩ := cells7 hQ
  have hQl := heap_lt hQ
  have HNW := Lib.hid (show ∀ j u, (entryCells l)[j]? = some u → w4.cell? (ad.add j) = some u from fun j u hu => by
    obtain ⟨hj, rfl⟩ := List.getElem?_eq_some_iff.1 hu
    have hl3 := entry_three l
    obtain ⟨b2, off2, e2, hb2, hx2⟩ := (HGR.out _ hC4).2.2 (by omega)
    cases e2
    rw [add_off]
    exact hx2 j hj)
  have H3 := Lib.hid (entry_three l)
  have H1 := Lib.hid (entry_one l)
  go_upto_region 7 with (at_builtin; refine wpList_append_own _ rfl _ _ 24 rfl w4.heap.size 38 i9 (.agg #[.int .i64 0, .int .i64 0, .string ⟨#[]⟩]) 3 32 Try.underlying24 hi9 hz0 hz1 hz2 rfl (by decide) (.slice none 0 0) 0 [] rfl (World.ownsRow_nil _ _ _ _) ad l.length cap (entryCells l) rfl H3.out HNW.out H1.out (by unfold maxLen; omega) (by omega) (Nat.le_refl _) ?_; intro v' w5 hown5 hgrow5 _; obtain ⟨qa, qc, rfl, -, hrq⟩ := rowV_own hown5; simp only [Nat.zero_add, List.nil_append] at hrq; have hG5 : Below w4.heap.size w4 w5 := (Below.refl _ _).grown hgrow5 (Nat.le_refl _) (fun k e => by cases e); have hQ5 := (hG5.block _ hQl).trans hQ; clear y0 y1 y2 y3 y4 y5 y6 fy; obtain ⟨y0, y1, y2, y3, y4, y5, y6, fy⟩ := cells7 hQ5)
  have hne5 : ∀ k, inBlkE qa l.length k → ¬ k = Q := fun k hk e => by have := own_new (by simpa only [Nat.zero_add] using hown5) k hk; omega
  have hF6 := FrameT.setCell w5 Q 6 (.slice qa (0 + l.length) qc)
  try simp only [Nat.zero_add] at hF6
  try simp only [Nat.zero_add]
  have hg6 := hF6.get ((hG5.block _ (heap_lt hg4)).trans hg4) (show ¬ (w.heap.size = Q) by omega)
  have hp6 := hF6.get ((hG5.block _ (heap_lt hp4)).trans hp4) (show ¬ (w.heap.size + 1 = Q) by omega)
  have hQ6 := Go.Joins.block_setCell hQ5 (.slice qa l.length qc) (i := 6)
  simp only [List.setIfInBounds_toArray, List.set_cons_succ, List.set_cons_zero] at hQ6
  have hr6 : HasG (w5.setCell ⟨Q, 6, none⟩ (.slice qa l.length qc)) qa ⟨id, fi, te, ht, hv, hc, l⟩ := ⟨hl9, rowV_frame hrq hF6 hne5⟩
  have hC6 := (bel2 hC4 hG5).trans (hF6.toBelow (bel2 hC4 hG5).size (fun k h => by omega))
  clear x0 x1 x2 x3 x4 x5 x6 y0 y1 y2 y3 y4 y5 y6 fy hF6 hg4 hp4 hQ hQ5 hrq hne5 hG5 hC4 hQl
  generalize (w5.setCell ⟨Q, 6, none⟩ (.slice qa l.length qc)) = w6 at *
  obtain ⟨x0, x1, x2, x3, x4, x5, x6, -⟩ := cells7 hg6
  obtain ⟨z0, z1, z2, z3, z4, z5, z6, z7, z8, z9⟩ := cells10a hp6
  go_upto_region 8 with (go_at_call 12; ((with_reducible refine (GD.out _ hC6).mono ?_); rintro e w7 ⟨da, dc, rfl, hDH, -, hB7, -⟩))
  have hBx := bel2 hB7 (bel_alloc (Below.refl w7.heap.size w7) (.cells #[.int .i64 did, .int .i64 dfi, .int .i64 dte, .int .i64 dht, .int .i64 dhv, .int .i64 dhc, .slice da dl.length dc] 26))
  have hR := World.alloc_heap_new w7 (.cells #[.int .i64 did, .int .i64 dfi, .int .i64 dte, .int .i64 dht, .int .i64 dhv, .int .i64 dhc, .slice da dl.length dc] 26)
  obtain ⟨R, hRe⟩ : ∃ R, R = w7.heap.size := ⟨_, rfl⟩
  have hg9 := (hBx.block _ (heap_lt hg6)).trans hg6
  have hp9 := (hBx.block _ (heap_lt hp6)).trans hp6
  have hQ9 := (hBx.block _ (heap_lt hQ6)).trans hQ6
  have hr9 := hr6.below hBx
  have hC9 := bel2 hC6 hBx
  have hDH9 := hDH.below (bel_alloc (Below.refl w7.heap.size w7) (.cells #[.int .i64 did, .int .i64 dfi, .int .i64 dte, .int .i64 dht, .int .i64 dhv, .int .i64 dhc, .slice da dl.length dc] 26))
  rw [← hRe] at hR
  rw [← hRe]
  clear x0 x1 x2 x3 x4 x5 x6 z0 z1 z2 z3 z4 z5 z6 z7 z8 z9 hBx hRe hg6 hp6 hQ6 hr6 hC6 hDH hB7
  generalize (w7.alloc (.cells #[.int .i64 did, .int .i64 dfi, .int .i64 dte, .int .i64 dht, .int .i64 dhv, .int .i64 dhc, .slice da dl.length dc] 26)) = wz at *
  obtain ⟨x0, x1, x2, x3, x4, x5, x6, -⟩ := cells7 hg9
  obtain ⟨z0, z1, z2, z3, z4, z5, z6, z7, z8, z9⟩ := cells10a hp9
  obtain ⟨q0, q1, q2, q3, q4, q5, q6, -⟩ := cells7 hQ9
  obtain ⟨r0, r1, r2, r3, r4, r5, r6, -⟩ := cells7 hR
  have KB := Lib.hid (fun W (hW : Below wz.heap.size wz W) => And.intro (cells7 ((hW.block _ (heap_lt hg9)).trans hg9)) (And.intro (cells10a ((hW.block _ (heap_lt hp9)).trans hp9)) (And.intro (cells7 ((hW.block _ (heap_lt hQ9)).trans hQ9)) (cells7 ((hW.block _ (heap_lt hR)).trans hR)))))
  go_region_held3 (fun W' => W'.cell? ⟨w.heap.size, 0, none⟩ = some (.int .i64 id) ∧ W'.cell? ⟨w.heap.size, 1, none⟩ = some (.int .i64 fi) ∧ W'.cell? ⟨w.heap.size, 2, none⟩ = some (.int .i64 te) ∧ W'.cell? ⟨w.heap.size, 3, none⟩ = some (.int .i64 ht) ∧ W'.cell? ⟨w.heap.size, 4, none⟩ = some (.int .i64 hv) ∧ W'.cell? ⟨w.heap.size, 5, none⟩ = some (.int .i64 hc) ∧ W'.cell? ⟨w.heap.size, 6, none⟩ = some (.slice (some ad) l.length cap) ∧ W'.cell? ⟨w.heap.size + 1, 0, none⟩ = some (.int .i64 pg) ∧ W'.cell? ⟨w.heap.size + 1, 1, none⟩ = some (.int .i64 pk) ∧ W'.cell? ⟨w.heap.size + 1, 2, none⟩ = some (.slice pa plen pcap) ∧ W'.cell? ⟨w.heap.size + 1, 3, none⟩ = some (.int .i64 pht) ∧ W'.cell? ⟨w.heap.size + 1, 4, none⟩ = some (.int .i64 phv) ∧ W'.cell? ⟨w.heap.size + 1, 5, none⟩ = some (.int .i64 phc) ∧ W'.cell? ⟨w.heap.size + 1, 6, none⟩ = some (.int .i64 pi) ∧ W'.cell? ⟨w.heap.size + 1, 7, none⟩ = some (.int .i64 pt) ∧ W'.cell? ⟨w.heap.size + 1, 8, none⟩ = some (.bool pm) ∧ W'.cell? ⟨w.heap.size + 1, 9, none⟩ = some (.bool ph) ∧ W'.cell? ⟨Q, 0, none⟩ = some (.int .i64 id) ∧ W'.cell? ⟨Q, 1, none⟩ = some (.int .i64 fi) ∧ W'.cell? ⟨Q, 2, none⟩ = some (.int .i64 te) ∧ W'.cell? ⟨Q, 3, none⟩ = some (.int .i64 ht) ∧ W'.cell? ⟨Q, 4, none⟩ = some (.int .i64 hv) ∧ W'.cell? ⟨Q, 5, none⟩ = some (.int .i64 hc) ∧ W'.cell? ⟨Q, 6, none⟩ = some (.slice qa l.length qc) ∧ W'.cell? ⟨R, 0, none⟩ = some (.int .i64 did) ∧ W'.cell? ⟨R, 1, none⟩ = some (.int .i64 dfi) ∧ W'.cell? ⟨R, 2, none⟩ = some (.int .i64 dte) ∧ W'.cell? ⟨R, 3, none⟩ = some (.int .i64 dht) ∧ W'.cell? ⟨R, 4, none⟩ = some (.int .i64 dhv) ∧ W'.cell? ⟨R, 5, none⟩ = some (.int .i64 dhc) ∧ W'.cell? ⟨R, 6, none⟩ = some (.slice da dl.length dc)) (go_keep) (first
    | (go_at_call 17; ((with_reducible refine (GW.out qa qc _ (bel2 hC9 ?hb) ?h2).mono ?_); (case hb => first | exact hX15 | exact hX15.drew); (case h2 => first | exact hr9.below hX15 | exact (hr9.below hX15).below (Below.refl _ _).drew); rintro e w16 ⟨rfl, hB16⟩; have hX16 : Below wz.heap.size wz w16 := (by first | exact bel2 hX15 hB16 | exact bel2 hX15.drew hB16); clear x0 x1 x2 x3 x4 x5 x6 z0 z1 z2 z3 z4 z5 z6 z7 z8 z9 q0 q1 q2 q3 q4 q5 q6 r0 r1 r2 r3 r4 r5 r6; obtain ⟨⟨x0, x1, x2, x3, x4, x5, x6, -⟩, ⟨z0, z1, z2, z3, z4, z5, z6, z7, z8, z9⟩, ⟨q0, q1, q2, q3, q4, q5, q6, -⟩, r0, r1, r2, r3, r4, r5, r6, -⟩ := KB.out _ hX16))
    | (go_at_call 17; ((with_reducible refine (GS.out _ _ _ _ _ ?h1 ?h2).mono ?_); (case h1 => first | exact hDH9.below hX14 | exact (hDH9.below hX14).below (Below.refl _ _).drew); (case h2 => first | exact hRH | exact hRH.below (Below.refl _ _).drew); rintro e w15 ⟨rfl, hB15⟩; have hX15 : Below wz.heap.size wz w15 := (by first | exact bel2 hX14 hB15 | exact bel2 hX14.drew hB15); clear x0 x1 x2 x3 x4 x5 x6 z0 z1 z2 z3 z4 z5 z6 z7 z8 z9 q0 q1 q2 q3 q4 q5 q6 r0 r1 r2 r3 r4 r5 r6; obtain ⟨⟨x0, x1, x2, x3, x4, x5, x6, -⟩, ⟨z0, z1, z2, z3, z4, z5, z6, z7, z8, z9⟩, ⟨q0, q1, q2, q3, q4, q5, q6, -⟩, r0, r1, r2, r3, r4, r5, r6, -⟩ := KB.out _ hX15))
    | (go_at_call 18; ((with_reducible refine (GL.out _ (bel2 hC9 ?hb)).mono ?_); (case hb => first | exact hX13 | exact hX13.drew); rintro e w14 ⟨ra, rc, rfl, hRH, hB14, -⟩; have hX14 : Below wz.heap.size wz w14 := (by first | exact bel2 hX13 hB14 | exact bel2 hX13.drew hB14); clear x0 x1 x2 x3 x4 x5 x6 z0 z1 z2 z3 z4 z5 z6 z7 z8 z9 q0 q1 q2 q3 q4 q5 q6 r0 r1 r2 r3 r4 r5 r6; obtain ⟨⟨x0, x1, x2, x3, x4, x5, x6, -⟩, ⟨z0, z1, z2, z3, z4, z5, z6, z7, z8, z9⟩, ⟨q0, q1, q2, q3, q4, q5, q6, -⟩, r0, r1, r2, r3, r4, r5, r6, -⟩ := KB.out _ hX14))
    | (go_at_call 16; ((with_reducible refine (G4.out _ (bel2 hC9 ?hb)).mono ?_); (case hb => first | exact hX12 | exact hX12.drew); rintro e w13 ⟨rfl, hB13⟩; have hX13 : Below wz.heap.size wz w13 := (by first | exact bel2 hX12 hB13 | exact bel2 hX12.drew hB13); clear x0 x1 x2 x3 x4 x5 x6 z0 z1 z2 z3 z4 z5 z6 z7 z8 z9 q0 q1 q2 q3 q4 q5 q6 r0 r1 r2 r3 r4 r5 r6; obtain ⟨⟨x0, x1, x2, x3, x4, x5, x6, -⟩, ⟨z0, z1, z2, z3, z4, z5, z6, z7, z8, z9⟩, ⟨q0, q1, q2, q3, q4, q5, q6, -⟩, r0, r1, r2, r3, r4, r5, r6, -⟩ := KB.out _ hX13))
    | (go_at_call 15; ((with_reducible refine (G3.out _ (bel2 hC9 ?hb)).mono ?_); (case hb => first | exact hX11 | exact hX11.drew); rintro e w12 ⟨rfl, hB12⟩; have hX12 : Below wz.heap.size wz w12 := (by first | exact bel2 hX11 hB12 | exact bel2 hX11.drew hB12); clear x0 x1 x2 x3 x4 x5 x6 z0 z1 z2 z3 z4 z5 z6 z7 z8 z9 q0 q1 q2 q3 q4 q5 q6 r0 r1 r2 r3 r4 r5 r6; obtain ⟨⟨x0, x1, x2, x3, x4, x5, x6, -⟩, ⟨z0, z1, z2, z3, z4, z5, z6, z7, z8, z9⟩, ⟨q0, q1, q2, q3, q4, q5, q6, -⟩, r0, r1, r2, r3, r4, r5, r6, -⟩ := KB.out _ hX12))
    | (go_at_call 14; ((with_reducible refine (G2.out _ (bel2 hC9 ?hb)).mono ?_); (case hb => first | exact hX10 | exact hX10.drew); rintro e w11 ⟨rfl, hB11⟩; have hX11 : Below wz.heap.size wz w11 := (by first | exact bel2 hX10 hB11 | exact bel2 hX10.drew hB11); clear x0 x1 x2 x3 x4 x5 x6 z0 z1 z2 z3 z4 z5 z6 z7 z8 z9 q0 q1 q2 q3 q4 q5 q6 r0 r1 r2 r3 r4 r5 r6; obtain ⟨⟨x0, x1, x2, x3, x4, x5, x6, -⟩, ⟨z0, z1, z2, z3, z4, z5, z6, z7, z8, z9⟩, ⟨q0, q1, q2, q3, q4, q5, q6, -⟩, r0, r1, r2, r3, r4, r5, r6, -⟩ := KB.out _ hX11))
    | (go_at_call 13; ((with_reducible refine (G1.out _ (bel2 hC9 ?hb)).mono ?_); (case hb => first | exact Below.refl _ _ | exact (Below.refl _ _).drew); rintro e w10 ⟨rfl, hB10⟩; have hX10 : Below wz.heap.size wz w10 := (by first | exact hB10 | exact bel2 (Below.refl _ _).drew hB10); clear x0 x1 x2 x3 x4 x5 x6 z0 z1 z2 z3 z4 z5 z6 z7 z8 z9 q0 q1 q2 q3 q4 q5 q6 r0 r1 r2 r3 r4 r5 r6; obtain ⟨⟨x0, x1, x2, x3, x4, x5, x6, -⟩, ⟨z0, z1, z2, z3, z4, z5, z6, z7, z8, z9⟩, ⟨q0, q1, q2, q3, q4, q5, q6, -⟩, r0, r1, r2, r3, r4, r5, r6, -⟩ := KB.out _ hX10)))
  all_goals
    go_wp2
    go_ret
    exact ⟨by simp, bel2 hC9 hX16⟩

set_option maxRecDepth 100000 in
set_option maxHeartbeats 4000000 in
theorem st_4 (w : World) (id fi te ht hv hc : Int) (l : List EntryC)  (cap : Nat) (hg : GoodG w ⟨id, fi, te, ht, hv, hc, l⟩ none) (hcap : l.length ≤ cap) (pg : Int) (pk : Int) (pa : Option Addr) (plen pcap : Nat) (pht phv phc pi pt : Int) (pm ph : Bool) (pl : List EntryC) (hgp : goodPart (⟨pg, pk, pa, plen, pcap, pht, phv, phc, pi, pt, pm, ph⟩ : PartC)) (hpl : pl.length = plen) (hpr : RowV w pa plen 3 (entryCells pl)) (hpg : ∀ e ∈ pl, goodEntry e) (hpcap : plen ≤ pcap) (hf1 : fewGB l = true) (hf3 : few6B pl = true) : Calls Try.prog 3 #[.agg #[.int .i64 id, .int .i64 fi, .int .i64 te, .int .i64 ht, .int .i64 hv, .int .i64 hc, .slice none l.length cap], .agg #[.int .i64 pg, .int .i64 pk, .slice pa plen pcap, .int .i64 pht, .int .i64 phv, .int .i64 phc, .int .i64 pi, .int .i64 pt, .bool pm, .bool ph]] w fun e w' => e = .returned (.bool true) ∧ Below w.heap.size w w' := by
  have GK := Lib.hid spr_known
  have GF1 := Lib.hid (fun W (hB : Below w.heap.size w W) => fewG12_any id fi te ht hv hc l none cap W (hg.2.1.below hB) (fun e he => (hg.2.2 e he).2.2))
  rw [hf1] at GF1
  have GF3 := Lib.hid (fun W (hB : Below w.heap.size w W) => (show Gives Try.prog 11 #[.agg #[.int .i64 pg, .int .i64 pk, .slice pa plen pcap, .int .i64 pht, .int .i64 phv, .int .i64 phc, .int .i64 pi, .int .i64 pt, .bool pm, .bool ph]] W (.bool (few6B pl)) from few12_any ⟨pg, pk, pa, plen, pcap, pht, phv, phc, pi, pt, pm, ph⟩ pl W hpl (hpr.below hB) (fun e he => (hpg e he).2.2)))
  rw [hf3] at GF3
  obtain ⟨hGH, h30⟩ := hg.has hf1
  dsimp only at h30
  have hPE : HasE w ⟨pg, pk, pa, plen, pcap, pht, phv, phc, pi, pt, pm, ph⟩ pl := GoodP.has (x := (⟨pg, pk, pa, plen, pcap, pht, phv, phc, pi, pt, pm, ph⟩, pl)) ⟨hgp, hpl, hpr, fun e he => hpg e he⟩ hf3
  have hp8 : pl.length ≤ 100 := by simp only [few6B, Bool.and_eq_true, decide_eq_true_eq] at hf3; omega
  have G1 := Lib.hid (fun W (hB : Below w.heap.size w W) => sprIs_any id fi te ht hv hc l none cap W (hGH.below hB))
  have G2 := Lib.hid (fun W (hB : Below w.heap.size w W) => refIsSp_any id fi te ht hv hc l none cap W (hGH.below hB))
  have G3 := Lib.hid (fun W (hB : Below w.heap.size w W) => sprDense_any id fi te ht hv hc l none cap W (hGH.below hB))
  have G4 := Lib.hid (fun W (hB : Below w.heap.size w W) => refIsG_any id fi te ht hv hc l none cap W (hGH.below hB))
  have GD := Lib.hid (fun W (hB : Below w.heap.size w W) => sdo_any id fi te ht hv hc l none cap pg pk pa plen pcap pht phv phc pi pt pm ph pl W (hGH.below hB) hcap (hPE.below hB) (by omega) (by omega))
  have GL := Lib.hid (fun W (hB : Below w.heap.size w W) => refLoose_any id fi te ht hv hc l none cap pg pk pa plen pcap pht phv phc pi pt pm ph pl W (hGH.below hB) (hPE.below hB) hp8 (by omega))
  have GW := Lib.hid (fun qa qc W (hB : Below w.heap.size w W) (h2 : HasG W qa ⟨id, fi, te, ht, hv, hc, l⟩) => (show Gives Try.prog 17 #[.agg #[.int .i64 id, .int .i64 fi, .int .i64 te, .int .i64 ht, .int .i64 hv, .int .i64 hc, .slice none l.length cap], .agg #[.int .i64 id, .int .i64 fi, .int .i64 te, .int .i64 ht, .int .i64 hv, .int .i64 hc, .slice qa l.length qc]] W (.bool true) from by have := refSame6_any id fi te ht hv hc l none cap id fi te ht hv hc l qa qc W (hGH.below hB) h2; rwa [show sameG ⟨id, fi, te, ht, hv, hc, l⟩ ⟨id, fi, te, ht, hv, hc, l⟩ = true from sameG_iff.2 (by simp)] at this))
  have HGR := Lib.hid (fun W (hB : Below w.heap.size w W) => hGH.2.below hB)
  have hl9 : l.length < 1000000 := hGH.1
  generalize isSp ⟨id, fi, te, ht, hv, hc, l⟩ = bS at *
  generalize isG ⟨id, fi, te, ht, hv, hc, l⟩ = bG at *
  generalize doSp ⟨id, fi, te, ht, hv, hc, l⟩ ⟨pg, pk, pa, plen, pcap, pht, phv, phc, pi, pt, pm, ph⟩ pl = D at *
  obtain ⟨did, dfi, dte, dht, dhv, dhc, dl⟩ := D
  unfold SDoP at GD
  unfold RDoPost at GL
  dsimp only at GD GL HGR
  have GS := Lib.hid (fun da dc ra rc W (h1 : HasG W da ⟨did, dfi, dte, dht, dhv, dhc, dl⟩) (h2 : HasG W ra ⟨did, dfi, dte, dht, dhv, dhc, dl⟩) => (show Gives Try.prog 17 #[.agg #[.int .i64 did, .int .i64 dfi, .int .i64 dte, .int .i64 dht, .int .i64 dhv, .int .i64 dhc, .slice da dl.length dc], .agg #[.int .i64 did, .int .i64 dfi, .int .i64 dte, .int .i64 dht, .int .i64 dhv, .int .i64 dhc, .slice ra dl.length rc]] W (.bool true) from by have := refSame6_any did dfi dte dht dhv dhc dl da dc did dfi dte dht dhv dhc dl ra rc W h1 h2; rwa [show sameG (⟨did, dfi, dte, dht, dhv, dhc, dl⟩ : GM) ⟨did, dfi, dte, dht, dhv, dhc, dl⟩ = true from sameG_iff.2 (by simp)] at this))
  obtain ⟨i9, hi9, hz0, hz1, hz2⟩ := info_parts infoEntry
  clear hg hgp hpl hpr hpg hpcap hPE hGH hp8
  have hC : Below w.heap.size w ((w.alloc (.cells #[.int .i64 id, .int .i64 fi, .int .i64 te, .int .i64 ht, .int .i64 hv, .int .i64 hc, .slice none l.length cap] 26)).alloc (.cells #[.int .i64 pg, .int .i64 pk, .slice pa plen pcap, .int .i64 pht, .int .i64 phv, .int .i64 phc, .int .i64 pi, .int .i64 pt, .bool pm, .bool ph] 28)) := bel_alloc (bel_alloc (Below.refl _ _) _) _
  have hgb := two_a w #[.int .i64 id, .int .i64 fi, .int .i64 te, .int .i64 ht, .int .i64 hv, .int .i64 hc, .slice none l.length cap] #[.int .i64 pg, .int .i64 pk, .slice pa plen pcap, .int .i64 pht, .int .i64 phv, .int .i64 phc, .int .i64 pi, .int .i64 pt, .bool pm, .bool ph] 26 28
  have hpb := two_b w #[.int .i64 id, .int .i64 fi, .int .i64 te, .int .i64 ht, .int .i64 hv, .int .i64 hc, .slice none l.length cap] #[.int .i64 pg, .int .i64 pk, .slice pa plen pcap, .int .i64 pht, .int .i64 phv, .int .i64 phc, .int .i64 pi, .int .i64 pt, .bool pm, .bool ph] 26 28
  obtain ⟨x0, x1, x2, x3, x4, x5, x6, -⟩ := cells7 hgb; obtain ⟨z0, z1, z2, z3, z4, z5, z6, z7, z8, z9⟩ := cells10a hpb
  go_enter Try.func3, Try.ntmps3
  go_upto_region 6 with (first
    | (go_at_call 9; ((with_reducible refine (GK.out _).mono ?_); rintro e w1 ⟨rfl, hB⟩; replace hC := bel2 hC hB; replace hgb := (hB.block _ (heap_lt hgb)).trans hgb; replace hpb := (hB.block _ (heap_lt hpb)).trans hpb; clear hB x0 x1 x2 x3 x4 x5 x6 z0 z1 z2 z3 z4 z5 z6 z7 z8 z9; obtain ⟨x0, x1, x2, x3, x4, x5, x6, -⟩ := cells7 hgb; obtain ⟨z0, z1, z2, z3, z4, z5, z6, z7, z8, z9⟩ := cells10a hpb))
    | (go_at_call 10; ((with_reducible refine (GF1.out _ hC).mono ?_); rintro e w2 ⟨rfl, hB⟩; replace hC := bel2 hC hB; replace hgb := (hB.block _ (heap_lt hgb)).trans hgb; replace hpb := (hB.block _ (heap_lt hpb)).trans hpb; clear hB x0 x1 x2 x3 x4 x5 x6 z0 z1 z2 z3 z4 z5 z6 z7 z8 z9; obtain ⟨x0, x1, x2, x3, x4, x5, x6, -⟩ := cells7 hgb; obtain ⟨z0, z1, z2, z3, z4, z5, z6, z7, z8, z9⟩ := cells10a hpb))
    | (go_at_call 11; ((with_reducible refine (GF3.out _ hC).mono ?_); rintro e w3 ⟨rfl, hB⟩; replace hC := bel2 hC hB; replace hgb := (hB.block _ (heap_lt hgb)).trans hgb; replace hpb := (hB.block _ (heap_lt hpb)).trans hpb; clear hB x0 x1 x2 x3 x4 x5 x6 z0 z1 z2 z3 z4 z5 z6 z7 z8 z9; obtain ⟨x0, x1, x2, x3, x4, x5, x6, -⟩ := cells7 hgb; obtain ⟨z0, z1, z2, z3, z4, z5, z6, z7, z8, z9⟩ := cells10a hpb)))
  have hBx := bel_alloc (Below.refl w3.heap.size w3) (.cells #[.int .i64 id, .int .i64 fi, .int .i64 te, .int .i64 ht, .int .i64 hv, .int .i64 hc, .slice none l.length cap] 26)
  have hQ := World.alloc_heap_new w3 (.cells #[.int .i64 id, .int .i64 fi, .int .i64 te, .int .i64 ht, .int .i64 hv, .int .i64 hc, .slice none l.length cap] 26)
  obtain ⟨Q, hQe⟩ : ∃ Q, Q = w3.heap.size := ⟨_, rfl⟩
  have hPl := heap_lt hpb
  have hGl := heap_lt hgb
  have hQw : w.heap.size + 2 ≤ Q := by omega
  have hg4 := (hBx.block _ hGl).trans hgb
  have hp4 := (hBx.block _ hPl).trans hpb
  have hC4 := bel2 hC hBx
  rw [← hQe] at hQ
  rw [← hQe]
  clear x0 x1 x2 x3 x4 x5 x6 z0 z1 z2 z3 z4 z5 z6 z7 z8 z9 hBx hQe hgb hpb hC hPl hGl
  generalize (w3.alloc (.cells #[.int .i64 id, .int .i64 fi, .int .i64 te, .int .i64 ht, .int .i64 hv, .int .i64 hc, .slice none l.length cap] 26)) = w4 at *
  obtain ⟨x0, x1, x2, x3, x4, x5, x6, -⟩ := cells7 hg4
  obtain ⟨y0, y1, y2, y3, y4, y5, y6, fy⟩ := cells7 hQ
  have hQl := heap_lt hQ
  have H0 := Lib.hid (show l.length = 0 from by
    rcases Nat.eq_zero_or_pos l.length with h | h
    · exact h
    · obtain ⟨_, _, e, _⟩ := (HGR.out _ hC4).2.2 h; cases e)
  go_upto_region 7 with (at_builtin; refine wpList_append_none12 rfl _ _ 24 rfl 38 i9 Try.underlying24 hi9 rfl l.length cap H0.out rfl ?_)
  obtain ⟨w5, rfl⟩ : ∃ w5, w5 = w4 := ⟨_, rfl⟩
  obtain ⟨qa, hqa⟩ : ∃ qa : Option Addr, qa = none := ⟨_, rfl⟩
  obtain ⟨qc, hqc⟩ : ∃ qc : Nat, qc = 0 := ⟨_, rfl⟩
  have hv9 : (Value.slice none 0 0) = .slice qa l.length qc := by rw [hqa, hqc, H0.out]
  rw [hv9]
  have hrq : RowV w5 qa l.length 3 (entryCells l) := by rw [hqa]; exact HGR.out _ hC4
  have hne5 : ∀ k, inBlkE qa l.length k → ¬ k = Q := fun k hk e => by obtain ⟨_, _, e9, _⟩ := hk; rw [hqa] at e9; cases e9
  have hG5 : Below w5.heap.size w5 w5 := Below.refl _ _
  have hQ5 := hQ
  clear hqa hqc hv9
  have hF6 := FrameT.setCell w5 Q 6 (.slice qa l.length qc)
  try simp only [Nat.zero_add] at hF6
  try simp only [Nat.zero_add]
  have hg6 := hF6.get ((hG5.block _ (heap_lt hg4)).trans hg4) (show ¬ (w.heap.size = Q) by omega)
  have hp6 := hF6.get ((hG5.block _ (heap_lt hp4)).trans hp4) (show ¬ (w.heap.size + 1 = Q) by omega)
  have hQ6 := Go.Joins.block_setCell hQ5 (.slice qa l.length qc) (i := 6)
  simp only [List.setIfInBounds_toArray, List.set_cons_succ, List.set_cons_zero] at hQ6
  have hr6 : HasG (w5.setCell ⟨Q, 6, none⟩ (.slice qa l.length qc)) qa ⟨id, fi, te, ht, hv, hc, l⟩ := ⟨hl9, rowV_frame hrq hF6 hne5⟩
  have hC6 := (bel2 hC4 hG5).trans (hF6.toBelow (bel2 hC4 hG5).size (fun k h => by omega))
  clear x0 x1 x2 x3 x4 x5 x6 y0 y1 y2 y3 y4 y5 y6 fy hF6 hg4 hp4 hQ hQ5 hrq hne5 hG5 hC4 hQl
  generalize (w5.setCell ⟨Q, 6, none⟩ (.slice qa l.length qc)) = w6 at *
  obtain ⟨x0, x1, x2, x3, x4, x5, x6, -⟩ := cells7 hg6
  obtain ⟨z0, z1, z2, z3, z4, z5, z6, z7, z8, z9⟩ := cells10a hp6
  go_upto_region 8 with (go_at_call 12; ((with_reducible refine (GD.out _ hC6).mono ?_); rintro e w7 ⟨da, dc, rfl, hDH, -, hB7, -⟩))
  have hBx := bel2 hB7 (bel_alloc (Below.refl w7.heap.size w7) (.cells #[.int .i64 did, .int .i64 dfi, .int .i64 dte, .int .i64 dht, .int .i64 dhv, .int .i64 dhc, .slice da dl.length dc] 26))
  have hR := World.alloc_heap_new w7 (.cells #[.int .i64 did, .int .i64 dfi, .int .i64 dte, .int .i64 dht, .int .i64 dhv, .int .i64 dhc, .slice da dl.length dc] 26)
  obtain ⟨R, hRe⟩ : ∃ R, R = w7.heap.size := ⟨_, rfl⟩
  have hg9 := (hBx.block _ (heap_lt hg6)).trans hg6
  have hp9 := (hBx.block _ (heap_lt hp6)).trans hp6
  have hQ9 := (hBx.block _ (heap_lt hQ6)).trans hQ6
  have hr9 := hr6.below hBx
  have hC9 := bel2 hC6 hBx
  have hDH9 := hDH.below (bel_alloc (Below.refl w7.heap.size w7) (.cells #[.int .i64 did, .int .i64 dfi, .int .i64 dte, .int .i64 dht, .int .i64 dhv, .int .i64 dhc, .slice da dl.length dc] 26))
  rw [← hRe] at hR
  rw [← hRe]
  clear x0 x1 x2 x3 x4 x5 x6 z0 z1 z2 z3 z4 z5 z6 z7 z8 z9 hBx hRe hg6 hp6 hQ6 hr6 hC6 hDH hB7
  generalize (w7.alloc (.cells #[.int .i64 did, .int .i64 dfi, .int .i64 dte, .int .i64 dht, .int .i64 dhv, .int .i64 dhc, .slice da dl.length dc] 26)) = wz at *
  obtain ⟨x0, x1, x2, x3, x4, x5, x6, -⟩ := cells7 hg9
  obtain ⟨z0, z1, z2, z3, z4, z5, z6, z7, z8, z9⟩ := cells10a hp9
  obtain ⟨q0, q1, q2, q3, q4, q5, q6, -⟩ := cells7 hQ9
  obtain ⟨r0, r1, r2, r3, r4, r5, r6, -⟩ := cells7 hR
  have KB := Lib.hid (fun W (hW : Below wz.heap.size wz W) => And.intro (cells7 ((hW.block _ (heap_lt hg9)).trans hg9)) (And.intro (cells10a ((hW.block _ (heap_lt hp9)).trans hp9)) (And.intro (cells7 ((hW.block _ (heap_lt hQ9)).trans hQ9)) (cells7 ((hW.block _ (heap_lt hR)).trans hR)))))
  go_region_held3 (fun W' => W'.cell? ⟨w.heap.size, 0, none⟩ = some (.int .i64 id) ∧ W'.cell? ⟨w.heap.size, 1, none⟩ = some (.int .i64 fi) ∧ W'.cell? ⟨w.heap.size, 2, none⟩ = some (.int .i64 te) ∧ W'.cell? ⟨w.heap.size, 3, none⟩ = some (.int .i64 ht) ∧ W'.cell? ⟨w.heap.size, 4, none⟩ = some (.int .i64 hv) ∧ W'.cell? ⟨w.heap.size, 5, none⟩ = some (.int .i64 hc) ∧ W'.cell? ⟨w.heap.size, 6, none⟩ = some (.slice none l.length cap) ∧ W'.cell? ⟨w.heap.size + 1, 0, none⟩ = some (.int .i64 pg) ∧ W'.cell? ⟨w.heap.size + 1, 1, none⟩ = some (.int .i64 pk) ∧ W'.cell? ⟨w.heap.size + 1, 2, none⟩ = some (.slice pa plen pcap) ∧ W'.cell? ⟨w.heap.size + 1, 3, none⟩ = some (.int .i64 pht) ∧ W'.cell? ⟨w.heap.size + 1, 4, none⟩ = some (.int .i64 phv) ∧ W'.cell? ⟨w.heap.size + 1, 5, none⟩ = some (.int .i64 phc) ∧ W'.cell? ⟨w.heap.size + 1, 6, none⟩ = some (.int .i64 pi) ∧ W'.cell? ⟨w.heap.size + 1, 7, none⟩ = some (.int .i64 pt) ∧ W'.cell? ⟨w.heap.size + 1, 8, none⟩ = some (.bool pm) ∧ W'.cell? ⟨w.heap.size + 1, 9, none⟩ = some (.bool ph) ∧ W'.cell? ⟨Q, 0, none⟩ = some (.int .i64 id) ∧ W'.cell? ⟨Q, 1, none⟩ = some (.int .i64 fi) ∧ W'.cell? ⟨Q, 2, none⟩ = some (.int .i64 te) ∧ W'.cell? ⟨Q, 3, none⟩ = some (.int .i64 ht) ∧ W'.cell? ⟨Q, 4, none⟩ = some (.int .i64 hv) ∧ W'.cell? ⟨Q, 5, none⟩ = some (.int .i64 hc) ∧ W'.cell? ⟨Q, 6, none⟩ = some (.slice qa l.length qc) ∧ W'.cell? ⟨R, 0, none⟩ = some (.int .i64 did) ∧ W'.cell? ⟨R, 1, none⟩ = some (.int .i64 dfi) ∧ W'.cell? ⟨R, 2, none⟩ = some (.int .i64 dte) ∧ W'.cell? ⟨R, 3, none⟩ = some (.int .i64 dht) ∧ W'.cell? ⟨R, 4, none⟩ = some (.int .i64 dhv) ∧ W'.cell? ⟨R, 5, none⟩ = some (.int .i64 dhc) ∧ W'.cell? ⟨R, 6, none⟩ = some (.slice da dl.length dc)) (go_keep) (first
    | (go_at_call 17; ((with_reducible refine (GW.out qa qc _ (bel2 hC9 ?hb) ?h2).mono ?_); (case hb => first | exact hX15 | exact hX15.drew); (case h2 => first | exact hr9.below hX15 | exact (hr9.below hX15).below (Below.refl _ _).drew); rintro e w16 ⟨rfl, hB16⟩; have hX16 : Below wz.heap.size wz w16 := (by first | exact bel2 hX15 hB16 | exact bel2 hX15.drew hB16); clear x0 x1 x2 x3 x4 x5 x6 z0 z1 z2 z3 z4 z5 z6 z7 z8 z9 q0 q1 q2 q3 q4 q5 q6 r0 r1 r2 r3 r4 r5 r6; obtain ⟨⟨x0, x1, x2, x3, x4, x5, x6, -⟩, ⟨z0, z1, z2, z3, z4, z5, z6, z7, z8, z9⟩, ⟨q0, q1, q2, q3, q4, q5, q6, -⟩, r0, r1, r2, r3, r4, r5, r6, -⟩ := KB.out _ hX16))
    | (go_at_call 17; ((with_reducible refine (GS.out _ _ _ _ _ ?h1 ?h2).mono ?_); (case h1 => first | exact hDH9.below hX14 | exact (hDH9.below hX14).below (Below.refl _ _).drew); (case h2 => first | exact hRH | exact hRH.below (Below.refl _ _).drew); rintro e w15 ⟨rfl, hB15⟩; have hX15 : Below wz.heap.size wz w15 := (by first | exact bel2 hX14 hB15 | exact bel2 hX14.drew hB15); clear x0 x1 x2 x3 x4 x5 x6 z0 z1 z2 z3 z4 z5 z6 z7 z8 z9 q0 q1 q2 q3 q4 q5 q6 r0 r1 r2 r3 r4 r5 r6; obtain ⟨⟨x0, x1, x2, x3, x4, x5, x6, -⟩, ⟨z0, z1, z2, z3, z4, z5, z6, z7, z8, z9⟩, ⟨q0, q1, q2, q3, q4, q5, q6, -⟩, r0, r1, r2, r3, r4, r5, r6, -⟩ := KB.out _ hX15))
    | (go_at_call 18; ((with_reducible refine (GL.out _ (bel2 hC9 ?hb)).mono ?_); (case hb => first | exact hX13 | exact hX13.drew); rintro e w14 ⟨ra, rc, rfl, hRH, hB14, -⟩; have hX14 : Below wz.heap.size wz w14 := (by first | exact bel2 hX13 hB14 | exact bel2 hX13.drew hB14); clear x0 x1 x2 x3 x4 x5 x6 z0 z1 z2 z3 z4 z5 z6 z7 z8 z9 q0 q1 q2 q3 q4 q5 q6 r0 r1 r2 r3 r4 r5 r6; obtain ⟨⟨x0, x1, x2, x3, x4, x5, x6, -⟩, ⟨z0, z1, z2, z3, z4, z5, z6, z7, z8, z9⟩, ⟨q0, q1, q2, q3, q4, q5, q6, -⟩, r0, r1, r2, r3, r4, r5, r6, -⟩ := KB.out _ hX14))
    | (go_at_call 16; ((with_reducible refine (G4.out _ (bel2 hC9 ?hb)).mono ?_); (case hb => first | exact hX12 | exact hX12.drew); rintro e w13 ⟨rfl, hB13⟩; have hX13 : Below wz.heap.size wz w13 := (by first | exact bel2 hX12 hB13 | exact bel2 hX12.drew hB13); clear x0 x1 x2 x3 x4 x5 x6 z0 z1 z2 z3 z4 z5 z6 z7 z8 z9 q0 q1 q2 q3 q4 q5 q6 r0 r1 r2 r3 r4 r5 r6; obtain ⟨⟨x0, x1, x2, x3, x4, x5, x6, -⟩, ⟨z0, z1, z2, z3, z4, z5, z6, z7, z8, z9⟩, ⟨q0, q1, q2, q3, q4, q5, q6, -⟩, r0, r1, r2, r3, r4, r5, r6, -⟩ := KB.out _ hX13))
    | (go_at_call 15; ((with_reducible refine (G3.out _ (bel2 hC9 ?hb)).mono ?_); (case hb => first | exact hX11 | exact hX11.drew); rintro e w12 ⟨rfl, hB12⟩; have hX12 : Below wz.heap.size wz w12 := (by first | exact bel2 hX11 hB12 | exact bel2 hX11.drew hB12); clear x0 x1 x2 x3 x4 x5 x6 z0 z1 z2 z3 z4 z5 z6 z7 z8 z9 q0 q1 q2 q3 q4 q5 q6 r0 r1 r2 r3 r4 r5 r6; obtain ⟨⟨x0, x1, x2, x3, x4, x5, x6, -⟩, ⟨z0, z1, z2, z3, z4, z5, z6, z7, z8, z9⟩, ⟨q0, q1, q2, q3, q4, q5, q6, -⟩, r0, r1, r2, r3, r4, r5, r6, -⟩ := KB.out _ hX12))
    | (go_at_call 14; ((with_reducible refine (G2.out _ (bel2 hC9 ?hb)).mono ?_); (case hb => first | exact hX10 | exact hX10.drew); rintro e w11 ⟨rfl, hB11⟩; have hX11 : Below wz.heap.size wz w11 := (by first | exact bel2 hX10 hB11 | exact bel2 hX10.drew hB11); clear x0 x1 x2 x3 x4 x5 x6 z0 z1 z2 z3 z4 z5 z6 z7 z8 z9 q0 q1 q2 q3 q4 q5 q6 r0 r1 r2 r3 r4 r5 r6; obtain ⟨⟨x0, x1, x2, x3, x4, x5, x6, -⟩, ⟨z0, z1, z2, z3, z4, z5, z6, z7, z8, z9⟩, ⟨q0, q1, q2, q3, q4, q5, q6, -⟩, r0, r1, r2, r3, r4, r5, r6, -⟩ := KB.out _ hX11))
    | (go_at_call 13; ((with_reducible refine (G1.out _ (bel2 hC9 ?hb)).mono ?_); (case hb => first | exact Below.refl _ _ | exact (Below.refl _ _).drew); rintro e w10 ⟨rfl, hB10⟩; have hX10 : Below wz.heap.size wz w10 := (by first | exact hB10 | exact bel2 (Below.refl _ _).drew hB10); clear x0 x1 x2 x3 x4 x5 x6 z0 z1 z2 z3 z4 z5 z6 z7 z8 z9 q0 q1 q2 q3 q4 q5 q6 r0 r1 r2 r3 r4 r5 r6; obtain ⟨⟨x0, x1, x2, x3, x4, x5, x6, -⟩, ⟨z0, z1, z2, z3, z4, z5, z6, z7, z8, z9⟩, ⟨q0, q1, q2, q3, q4, q5, q6, -⟩, r0, r1, r2, r3, r4, r5, r6, -⟩ := KB.out _ hX10)))
  all_goals
    go_wp2
    go_ret
    exact ⟨by simp, bel2 hC9 hX16⟩

theorem walk (w : World) (g : GM) (a : Option Addr) (cap : Nat) (hg : GoodG w g a) (hcap : g.l.length ≤ cap) (p : PartC) (pl : List EntryC) (hgp : goodPart p) (hpl : pl.length = p.len) (hpr : RowV w p.a p.len 3 (entryCells pl)) (hpg : ∀ e ∈ pl, goodEntry e) (hpcap : p.len ≤ p.cap) : Calls Try.prog 3 #[g.val a cap, p.val] w fun e w' => e = .returned (.bool true) ∧ Below w.heap.size w w' := by
  obtain ⟨id, fi, te, ht, hv, hc, l⟩ := g
  obtain ⟨pg, pk, pa, plen, pcap, pht, phv, phc, pi, pt, pm, ph⟩ := p
  cases hf1 : fewGB l
  · exact st_1 w id fi te ht hv hc l a cap hg hcap pg pk pa plen pcap pht phv phc pi pt pm ph pl hgp hpl hpr hpg hpcap hf1
  cases hf3 : few6B pl
  · exact st_2 w id fi te ht hv hc l a cap hg hcap pg pk pa plen pcap pht phv phc pi pt pm ph pl hgp hpl hpr hpg hpcap hf1 hf3
  cases a with
  | some ad => exact st_3 w id fi te ht hv hc l ad cap hg hcap pg pk pa plen pcap pht phv phc pi pt pm ph pl hgp hpl hpr hpg hpcap hf1 hf3
  | none => exact st_4 w id fi te ht hv hc l cap hg hcap pg pk pa plen pcap pht phv phc pi pt pm ph pl hgp hpl hpr hpg hpcap hf1 hf3

set_option maxRecDepth 100000 in
theorem lifted (os : Os) (started : os.Started) (H : Type) (enc : TypeId × Value → H) :
    ReturnsInHanded {} Try.checked os 3 .any (Rows.sparseTellsSpec.pre6 enc Try.prog Try.f3 Rows.sparseTellsRow.domain false) (Rows.sparseTellsSpec.post enc Try.prog Try.f3 false true false false) := by
  refine returnsInHanded_of_change (C := Try.checked) Try.own started (by kernel_rfl) Try.func3
    (ChangeSpec.witness6 (enc := enc) (C := Try.checked) false ⟨#[], #[.agg #[.int .i64 0, .int .i64 0, .int .i64 0, .int .i64 0, .int .i64 0, .int .i64 0, .slice none 0 0], .agg #[.int .i64 0, .int .i64 0, .slice none 0 0, .int .i64 0, .int .i64 0, .int .i64 0, .int .i64 0, .int .i64 0, .bool false, .bool false]], []⟩ 8 (by kernel_rfl) (by kernel_rfl) (by kernel_rfl) (by kernel_rfl)) ?_
  intro W base args ds gs before hval hW _ _
  refine law_contract (T := 4) (n := 2) Try.laid Try.underlying4 rfl rfl ⟨rfl, fun H ds h => by match ds, h with | [_, _], _ => rfl⟩ (of_all (by kernel_rfl)) hW ?_
  intro ps hA
  rw [Try.params3] at hA hval
  obtain ⟨v0, vs0, d0, ds0, p0, q0, hargs, rfl, rfl, h0, r0⟩ := trodAll_cons hA
  obtain ⟨v1, vs1, d1, ds1, p1, q1, rfl, rfl, rfl, h1, r1⟩ := trodAll_cons r0
  obtain ⟨rfl, rfl, rfl⟩ := trodAll_nil r1
  obtain rfl : args = #[v0, v1] := by cases args; simp_all
  obtain ⟨p0, a0, c0, rfl, g0⟩ := open_group (hval 0 26 v0 rfl rfl) h0
  obtain ⟨p1, rfl, g1, l1, k1, w1, e1⟩ := open_part (hval 1 28 v1 rfl rfl) h1
  exact walk W p0 a0 c0 g0 (group_le h0) p1 l1 g1 k1 w1 e1 (part_le h1)

theorem holds : Rows.SparseTellsSaid :=
  OpenClaim.holds_of_wide 3 Try.f3 rfl rfl rfl rfl rfl rfl rfl ⟨rfl, rfl, rfl, rfl, rfl⟩ rfl rfl rfl rfl rfl (by kernel_rfl) Try.func3 (by kernel_rfl)
    (of_decide_eq_true (by kernel_rfl)) (by unfold Func.isWrapper; first | (rw [if_pos (by decide +kernel)]; kernel_rfl) | (rw [if_neg (by decide +kernel)]; exact ⟨rfl, rfl⟩))
    (fun os started H enc _ => lifted os started H enc)

end Go.Proofs.Ytfbibpnkfmgkaaa.sparseTells
