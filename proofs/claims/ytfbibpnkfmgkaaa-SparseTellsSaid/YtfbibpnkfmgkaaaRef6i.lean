/- The contract of the document's Loose: the kinds left, and at whatever part. -/
import Derived.Test.YtfbibpnkfmgkaaaRef6h
namespace Go.Proofs.Ytfbibpnkfmgkaaa
open Go.RowKit Go.Shelf
set_option linter.unusedVariables false
attribute [local go_sem] Oper.semAt_some wide_fn wide_round_fn

attribute [local irreducible] wpQuiet
set_option maxRecDepth 100000 in
set_option maxHeartbeats 4000000 in
theorem refLoose_4y (id fi te ht hv hc : Int) (l : List EntryC) (a : Option Addr) (cap : Nat) (pa : Option Addr) (plen pcap : Nat) (pht phv phc pi pt : Int) (pm ph : Bool) (pl : List EntryC) (w : World) (hg : HasG w a ⟨id, fi, te, ht, hv, hc, l⟩) (hp : HasE w ⟨id, 4, pa, plen, pcap, pht, phv, phc, pi, pt, pm, ph⟩ pl) (h30 : l.length ≤ 100000) (hI : isSp ⟨id, fi, te, ht, hv, hc, l⟩ = true) (hBB : isB ⟨id, 4, pa, plen, pcap, pht, phv, phc, pi, pt, pm, ph⟩ pl = true) (hpi : 1 ≤ pi ∧ pi ≤ 1099511627776) (hno : fi ≤ pi) : Calls Try.prog 18 #[.agg #[.int .i64 id, .int .i64 fi, .int .i64 te, .int .i64 ht, .int .i64 hv, .int .i64 hc, .slice a l.length cap], .agg #[.int .i64 id, .int .i64 4, .slice pa plen pcap, .int .i64 pht, .int .i64 phv, .int .i64 phc, .int .i64 pi, .int .i64 pt, .bool pm, .bool ph]] w (RDoPost w a l.length ⟨id, pi + 1, pt, ht, hv, hc, []⟩) := by
  have GI := Lib.hid (fun W (hB : Below w.heap.size w W) => (show Gives Try.prog 14 #[.agg #[.int .i64 id, .int .i64 fi, .int .i64 te, .int .i64 ht, .int .i64 hv, .int .i64 hc, .slice a l.length cap]] W (.bool true) from by have := refIsSp_any id fi te ht hv hc l a cap W (hg.below hB); rwa [hI] at this))
  have GP := Lib.hid (fun W (hB : Below w.heap.size w W) => (show Gives Try.prog 22 #[.agg #[.int .i64 id, .int .i64 4, .slice pa plen pcap, .int .i64 pht, .int .i64 phv, .int .i64 phc, .int .i64 pi, .int .i64 pt, .bool pm, .bool ph]] W (.bool true) from by have := refIs_any ⟨id, 4, pa, plen, pcap, pht, phv, phc, pi, pt, pm, ph⟩ pl W (hp.below hB); rwa [hBB] at this))
  have HS := Lib.hid (DoW.start w #[.int .i64 id, .int .i64 fi, .int .i64 te, .int .i64 ht, .int .i64 hv, .int .i64 hc, .slice a l.length cap] #[.int .i64 id, .int .i64 4, .slice pa plen pcap, .int .i64 pht, .int .i64 phv, .int .i64 phc, .int .i64 pi, .int .i64 pt, .bool pm, .bool ph])
  have hm := hg.1
  have hgr := hg.2
  dsimp only at hm hgr
  have HG := Lib.hid (fun W (hB : Below w.heap.size w W) => hg.below hB)
  clear hg hp hgr hI hBB 
  go_enter Try.func18, Try.ntmps18
  go_upto_region 3 with (first | (go_at_call 14; ((with_reducible refine (GI.out _ HS.out.bel).mono ?_); rintro e w1 ⟨rfl, hB1⟩; have hD1 := HS.out.after hB1; obtain ⟨g0, g1, g2, g3, g4, g5, g6, -⟩ := cells7 hD1.gb; obtain ⟨p1, p2, p3, p4, p5, p6, p7⟩ := cells10 hD1.pb; have p0 := cell_of_row _ _ 0 _ _ _ hD1.pb; have p8 := cell_of_row _ _ 8 _ _ _ hD1.pb; have p9 := cell_of_row _ _ 9 _ _ _ hD1.pb)) | (go_at_call 22; ((with_reducible refine (GP.out _ hD1.bel).mono ?_); rintro e w2 ⟨rfl, hB2⟩; have hD2 := hD1.after hB2; clear g0 g1 g2 g3 g4 g5 g6 p0 p1 p2 p3 p4 p5 p6 p7 p8 p9; obtain ⟨g0, g1, g2, g3, g4, g5, g6, -⟩ := cells7 hD2.gb; obtain ⟨p1, p2, p3, p4, p5, p6, p7⟩ := cells10 hD2.pb; have p0 := cell_of_row _ _ 0 _ _ _ hD2.pb; have p8 := cell_of_row _ _ 8 _ _ _ hD2.pb; have p9 := cell_of_row _ _ 9 _ _ _ hD2.pb)))
  obtain ⟨wq, rfl⟩ : ∃ wq, wq = w2 := ⟨_, rfl⟩
  go_upto_region 4 with (fail)
  have hBx := bel_alloc (Below.refl wq.heap.size wq) (.cells #[.int .i64 id, .int .i64 fi, .int .i64 te, .int .i64 ht, .int .i64 hv, .int .i64 hc, .slice a l.length cap] 26)
  have hL : LoW w wq.heap.size #[.int .i64 id, .int .i64 fi, .int .i64 te, .int .i64 ht, .int .i64 hv, .int .i64 hc, .slice a l.length cap] #[.int .i64 id, .int .i64 4, .slice pa plen pcap, .int .i64 pht, .int .i64 phv, .int .i64 phc, .int .i64 pi, .int .i64 pt, .bool pm, .bool ph] #[.int .i64 id, .int .i64 fi, .int .i64 te, .int .i64 ht, .int .i64 hv, .int .i64 hc, .slice a l.length cap] (wq.alloc (.cells #[.int .i64 id, .int .i64 fi, .int .i64 te, .int .i64 ht, .int .i64 hv, .int .i64 hc, .slice a l.length cap] 26)) := ⟨hD2.after hBx, World.alloc_heap_new wq _, hD2.lt⟩
  obtain ⟨Y, hYe⟩ : ∃ Y, Y = wq.heap.size := ⟨_, rfl⟩
  rw [← hYe] at hL
  rw [← hYe]
  clear hYe hBx g0 g1 g2 g3 g4 g5 g6 p0 p1 p2 p3 p4 p5 p6 p7 p8 p9
  generalize (wq.alloc (.cells #[.int .i64 id, .int .i64 fi, .int .i64 te, .int .i64 ht, .int .i64 hv, .int .i64 hc, .slice a l.length cap] 26)) = wr at *
  have hYa := hL.ya
  obtain ⟨g0, g1, g2, g3, g4, g5, g6, -⟩ := cells7 hL.d.gb
  obtain ⟨p1, p2, p3, p4, p5, p6, p7⟩ := cells10 hL.d.pb
  have p0 := cell_of_row _ _ 0 _ _ _ hL.d.pb
  have p8 := cell_of_row _ _ 8 _ _ _ hL.d.pb
  have p9 := cell_of_row _ _ 9 _ _ _ hL.d.pb
  obtain ⟨x0, x1, x2, x3, x4, x5, x6, fx⟩ := cells7 hL.xb
  go_upto_region 13 with (fail)
  have hA := hL.set 6 (.slice none 0 0)
  have hB := hA.set 1 (.int .i64 (pi + 1))
  have hC := hB.set 2 (.int .i64 pt)
  have hs9 : IntKind.i64.wrap (pi + 1) = pi + 1 := IntWalk.i64_in _ (by omega)
  obtain ⟨a1, a2, a3, a4, a5, a6, a7⟩ := cells10 hA.d.pb
  obtain ⟨y0, y1, y2, y3, y4, y5, y6, fy⟩ := cells7 hA.xb
  obtain ⟨q1, q2, q3, q4, q5, q6, q7⟩ := cells10 hB.d.pb
  obtain ⟨z0, z1, z2, z3, z4, z5, z6, fz⟩ := cells7 hB.xb
  obtain ⟨u1, u2, u3, u4, u5, u6, u7⟩ := cells10 hC.d.pb
  go_wp2
  go_region_held3 (fun W' => W'.cell? ⟨w.heap.size + 1, 6, none⟩ = some (.int .i64 pi) ∧ W'.cell? ⟨w.heap.size + 1, 7, none⟩ = some (.int .i64 pt)) (go_keep) (fail)
  have hL2 := hC
  simp only [List.setIfInBounds_toArray, List.set_cons_succ, List.set_cons_zero] at hL2
  clear g0 g1 g2 g3 g4 g5 g6 p0 p1 p2 p3 p4 p5 p6 p7 p8 p9 x0 x1 x2 x3 x4 x5 x6 fx hA hB hC a1 a2 a3 a4 a5 a6 a7 y0 y1 y2 y3 y4 y5 y6 fy q1 q2 q3 q4 q5 q6 q7 z0 z1 z2 z3 z4 z5 z6 fz u1 u2 u3 u4 u5 u6 u7 hL
  generalize (((wr.setCell ⟨Y, 6, none⟩ (.slice none 0 0)).setCell ⟨Y, 1, none⟩ (.int .i64 (pi + 1))).setCell ⟨Y, 2, none⟩ (.int .i64 pt)) = ws at *
  replace hL2 := LoW.mk (w := w) (Y := Y) (W := ws.drew) hL2.d.drew hL2.xb hL2.ya
  generalize ws.drew = wt at *
  obtain ⟨r0, r1, r2, r3, r4, r5, r6, fr⟩ := cells7 hL2.d.rb
  obtain ⟨x0, x1, x2, x3, x4, x5, x6, fx⟩ := cells7 hL2.xb
  go_wp2
  obtain ⟨hb7, hbel, hF7⟩ := DoW.endR (.int .i64 id) (.int .i64 (pi + 1)) (.int .i64 pt) (.int .i64 ht) (.int .i64 hv) (.int .i64 hc) (.slice none 0 0) hL2.d
  obtain ⟨e0, e1, e2, e3, e4, e5, e6, -⟩ := cells7 hb7
  refine bodyPost_ret (v := .agg #[.int .i64 id, .int .i64 (pi + 1), .int .i64 pt, .int .i64 ht, .int .i64 hv, .int .i64 hc, .slice none 0 0]) (by simp [results, Try.results18, go_sem, e0, e1, e2, e3, e4, e5, e6]) rfl ?_
  exact ⟨none, 0, rfl, hasG_nil _ _ _ _ _ _ _ _, hbel, fun k hk => by obtain ⟨_, _, e9, _⟩ := hk; cases e9⟩

theorem step_append_none {P : Program} {w : World} {ops : Array Oper} {o : Oper} {a : Act} {K : Act → World → Prop} {Q : Exit → Act → World → Prop} {E : Prop} (hgd : o.guard = none) (s x : Operand) (t : TypeId)
    (ho : o.op = .call { callee := .builtin .append, args := #[s, x], argTypes := #[t, t] })
    (base : Nat) (e : TypeId) (i : TypeInfo) (size : Nat) (ht : P.underlying t = some (.slice e)) (hi : P.info? e = some i)
    (v : Value) (n : Nat) (xs : List Value) (hs : a.eval s = v) (hown : w.ownsRow base e size v n xs) (hx : a.eval x = .slice none 0 0)
    (h : K (a.put o.dst v) w) : if Region.wanted o (yielded ops a.tmps) = true then Oper.wp P o a w K Q else E := by
  have hw : Region.wanted o (yielded ops a.tmps) = true := by simp [Region.wanted, hgd]
  rw [if_pos hw]
  have hrun := run_append_owned_none (P := P) (w := w) base t o.type e i size ht hi v n xs hown
  unfold Oper.wp
  simp [execOp, ho, resolve, invoke, builtin, hs, hx, hrun, Result.andThen]
  exact h

set_option maxRecDepth 100000 in
set_option maxHeartbeats 4000000 in
theorem refLoose_1e (id fi te ht hv hc : Int) (l : List EntryC) (a : Option Addr) (cap : Nat) (pb po : Nat) (plen pcap : Nat) (pht phv phc pi pt : Int) (pm ph : Bool) (pl : List EntryC) (w : World) (hg : HasG w a ⟨id, fi, te, ht, hv, hc, l⟩) (hp : HasE w ⟨id, 1, (some ⟨pb, po, none⟩), plen, pcap, pht, phv, phc, pi, pt, pm, ph⟩ pl) (h30 : l.length ≤ 100000) (hI : isSp ⟨id, fi, te, ht, hv, hc, l⟩ = true) (hBB : isB ⟨id, 1, (some ⟨pb, po, none⟩), plen, pcap, pht, phv, phc, pi, pt, pm, ph⟩ pl = true) (hp9 : pl.length ≤ 100) (hpos : 0 < plen) (hemp : froL pl fi = []) : Calls Try.prog 18 #[.agg #[.int .i64 id, .int .i64 fi, .int .i64 te, .int .i64 ht, .int .i64 hv, .int .i64 hc, .slice a l.length cap], .agg #[.int .i64 id, .int .i64 1, .slice (some ⟨pb, po, none⟩) plen pcap, .int .i64 pht, .int .i64 phv, .int .i64 phc, .int .i64 pi, .int .i64 pt, .bool pm, .bool ph]] w (RDoPost w a l.length ⟨id, fi, te, ht, hv, hc, belL l (headI pl) ++ []⟩) := by
  have GI := Lib.hid (fun W (hB : Below w.heap.size w W) => (show Gives Try.prog 14 #[.agg #[.int .i64 id, .int .i64 fi, .int .i64 te, .int .i64 ht, .int .i64 hv, .int .i64 hc, .slice a l.length cap]] W (.bool true) from by have := refIsSp_any id fi te ht hv hc l a cap W (hg.below hB); rwa [hI] at this))
  have GP := Lib.hid (fun W (hB : Below w.heap.size w W) => (show Gives Try.prog 22 #[.agg #[.int .i64 id, .int .i64 1, .slice (some ⟨pb, po, none⟩) plen pcap, .int .i64 pht, .int .i64 phv, .int .i64 phc, .int .i64 pi, .int .i64 pt, .bool pm, .bool ph]] W (.bool true) from by have := refIs_any ⟨id, 1, (some ⟨pb, po, none⟩), plen, pcap, pht, phv, phc, pi, pt, pm, ph⟩ pl W (hp.below hB); rwa [hBB] at this))
  have HS := Lib.hid (DoW.start w #[.int .i64 id, .int .i64 fi, .int .i64 te, .int .i64 ht, .int .i64 hv, .int .i64 hc, .slice a l.length cap] #[.int .i64 id, .int .i64 1, .slice (some ⟨pb, po, none⟩) plen pcap, .int .i64 pht, .int .i64 phv, .int .i64 phc, .int .i64 pi, .int .i64 pt, .bool pm, .bool ph])
  have hm := hg.1
  have hgr := hg.2
  dsimp only at hm hgr
  have HG := Lib.hid (fun W (hB : Below w.heap.size w W) => hg.below hB)
  obtain ⟨i9, hi9, hz0, hz1, hz2⟩ := info_parts infoEntry
  have hplen := hp.1
  have hp1 := hp.2.1
  have hprow := hp.2.2
  dsimp only at hplen hp1 hprow
  subst hplen
  obtain ⟨_, _, ea, hpb, hpx⟩ := hprow.2.2 hpos
  cases ea
  have hd0 : w.cell? ⟨pb, po, none⟩ = some (.int .i64 (headI pl)) := by
    have := (entry_at hpb (Below.refl w.heap.size w) hpx (k := 0) (by omega)).1
    cases pl with
    | nil => simp at hpos
    | cons e r => simpa [headI] using this
  have HD0 := Lib.hid (fun W (hB : Below w.heap.size w W) => (hB.cell (p := ⟨pb, po, none⟩) hpb).trans hd0)
  have HGR := Lib.hid (fun W (hB : Below w.heap.size w W) => hgr.below hB)
  have HPR := Lib.hid (fun W (hB : Below w.heap.size w W) => hprow.below hB)
  have GB := Lib.hid (fun W (hR : RowV W a l.length 3 (entryCells l)) => refBelow_any l a cap (headI pl) W hm hR)
  have hbl := belL_le l (headI pl)
  have hfn := froL_le pl fi
  have hp0 : (0 : Int) < (pl.length : Int) := by omega
  have GF := Lib.hid (fun W (hR : RowV W (some ⟨pb, po, none⟩) pl.length 3 (entryCells pl)) => refFrom_none pl (some ⟨pb, po, none⟩) pcap fi W hp1 hR hemp)
  generalize belL l (headI pl) = BL at *
  generalize headI pl = hI9 at *
  clear hg hp hgr hI hBB hpx hprow hd0 hemp
  go_enter Try.func18, Try.ntmps18
  go_upto_region 3 with (first | (go_at_call 14; ((with_reducible refine (GI.out _ HS.out.bel).mono ?_); rintro e w1 ⟨rfl, hB1⟩; have hD1 := HS.out.after hB1; obtain ⟨g0, g1, g2, g3, g4, g5, g6, -⟩ := cells7 hD1.gb; obtain ⟨p1, p2, p3, p4, p5, p6, p7⟩ := cells10 hD1.pb; have p0 := cell_of_row _ _ 0 _ _ _ hD1.pb; have p8 := cell_of_row _ _ 8 _ _ _ hD1.pb; have p9 := cell_of_row _ _ 9 _ _ _ hD1.pb)) | (go_at_call 22; ((with_reducible refine (GP.out _ hD1.bel).mono ?_); rintro e w2 ⟨rfl, hB2⟩; have hD2 := hD1.after hB2; clear g0 g1 g2 g3 g4 g5 g6 p0 p1 p2 p3 p4 p5 p6 p7 p8 p9; obtain ⟨g0, g1, g2, g3, g4, g5, g6, -⟩ := cells7 hD2.gb; obtain ⟨p1, p2, p3, p4, p5, p6, p7⟩ := cells10 hD2.pb; have p0 := cell_of_row _ _ 0 _ _ _ hD2.pb; have p8 := cell_of_row _ _ 8 _ _ _ hD2.pb; have p9 := cell_of_row _ _ 9 _ _ _ hD2.pb)))
  obtain ⟨wq, rfl⟩ : ∃ wq, wq = w2 := ⟨_, rfl⟩
  go_upto_region 4 with (fail)
  have hBx := bel_alloc (Below.refl wq.heap.size wq) (.cells #[.int .i64 id, .int .i64 fi, .int .i64 te, .int .i64 ht, .int .i64 hv, .int .i64 hc, .slice a l.length cap] 26)
  have hL : LoW w wq.heap.size #[.int .i64 id, .int .i64 fi, .int .i64 te, .int .i64 ht, .int .i64 hv, .int .i64 hc, .slice a l.length cap] #[.int .i64 id, .int .i64 1, .slice (some ⟨pb, po, none⟩) pl.length pcap, .int .i64 pht, .int .i64 phv, .int .i64 phc, .int .i64 pi, .int .i64 pt, .bool pm, .bool ph] #[.int .i64 id, .int .i64 fi, .int .i64 te, .int .i64 ht, .int .i64 hv, .int .i64 hc, .slice a l.length cap] (wq.alloc (.cells #[.int .i64 id, .int .i64 fi, .int .i64 te, .int .i64 ht, .int .i64 hv, .int .i64 hc, .slice a l.length cap] 26)) := ⟨hD2.after hBx, World.alloc_heap_new wq _, hD2.lt⟩
  obtain ⟨Y, hYe⟩ : ∃ Y, Y = wq.heap.size := ⟨_, rfl⟩
  rw [← hYe] at hL
  rw [← hYe]
  clear hYe hBx g0 g1 g2 g3 g4 g5 g6 p0 p1 p2 p3 p4 p5 p6 p7 p8 p9
  generalize (wq.alloc (.cells #[.int .i64 id, .int .i64 fi, .int .i64 te, .int .i64 ht, .int .i64 hv, .int .i64 hc, .slice a l.length cap] 26)) = wr at *
  have hYa := hL.ya
  obtain ⟨g0, g1, g2, g3, g4, g5, g6, -⟩ := cells7 hL.d.gb
  obtain ⟨p1, p2, p3, p4, p5, p6, p7⟩ := cells10 hL.d.pb
  have p0 := cell_of_row _ _ 0 _ _ _ hL.d.pb
  have p8 := cell_of_row _ _ 8 _ _ _ hL.d.pb
  have p9 := cell_of_row _ _ 9 _ _ _ hL.d.pb
  obtain ⟨x0, x1, x2, x3, x4, x5, x6, fx⟩ := cells7 hL.xb
  have hlw := hL.lt
  have d0 := HD0.out _ hL.d.bel
  have hRA := HGR.out _ hL.d.bel
  have hRP := HPR.out _ hL.d.bel
  go_upto_region 6 with (fail)
  go_region_held3 (fun W' => W'.cell? ⟨w.heap.size, 6, none⟩ = some (.slice a l.length cap) ∧ W'.cell? ⟨w.heap.size, 1, none⟩ = some (.int .i64 fi) ∧ W'.cell? ⟨w.heap.size + 1, 2, none⟩ = some (.slice (some ⟨pb, po, none⟩) pl.length pcap) ∧ W'.cell? ⟨pb, po, none⟩ = some (.int .i64 hI9)) (go_keep) (first
    | (go_at_call 33; ((with_reducible refine (GB.out _ ?hr).mono ?_); (case hr => first | exact hRA | exact hRA.below (Below.refl _ _).drew); rintro e w1 ⟨va, vc, rfl, hown1, hB1⟩; replace hown1 : w1.ownsRow wr.heap.size 38 3 (.slice va BL.length vc) BL.length (entryCells BL) := hown1; have hX1 : Below wr.heap.size wr w1 := (by first | exact hB1 | exact bel2 (Below.refl _ _).drew hB1); have hL1 := hL.after hX1; clear g0 g1 g2 g3 g4 g5 g6 p0 p1 p2 p3 p4 p5 p6 p7 p8 p9 x0 x1 x2 x3 x4 x5 x6 fx d0; obtain ⟨g0, g1, g2, g3, g4, g5, g6, -⟩ := cells7 hL1.d.gb; obtain ⟨p1, p2, p3, p4, p5, p6, p7⟩ := cells10 hL1.d.pb; have p0 := cell_of_row _ _ 0 _ _ _ hL1.d.pb; have p8 := cell_of_row _ _ 8 _ _ _ hL1.d.pb; have p9 := cell_of_row _ _ 9 _ _ _ hL1.d.pb; obtain ⟨x0, x1, x2, x3, x4, x5, x6, fx⟩ := cells7 hL1.xb; have d0 := HD0.out _ (bel2 hL.d.bel hX1)))
    | (go_at_call 34; ((with_reducible refine (GF.out _ ?hr).mono ?_); (case hr => first | exact hRP.below hX1 | exact (hRP.below hX1).below (Below.refl _ _).drew); rintro e w2 ⟨rfl, hB2⟩; have hX2 : Below wr.heap.size wr w2 := (by first | exact bel2 hX1 hB2 | exact bel2 hX1.drew hB2); have hown2 := ownsRow_below (n := 0) hown1 hB2; have hL2 := hL.after hX2; clear g0 g1 g2 g3 g4 g5 g6 p0 p1 p2 p3 p4 p5 p6 p7 p8 p9 x0 x1 x2 x3 x4 x5 x6 fx d0; obtain ⟨g0, g1, g2, g3, g4, g5, g6, -⟩ := cells7 hL2.d.gb; obtain ⟨p1, p2, p3, p4, p5, p6, p7⟩ := cells10 hL2.d.pb; have p0 := cell_of_row _ _ 0 _ _ _ hL2.d.pb; have p8 := cell_of_row _ _ 8 _ _ _ hL2.d.pb; have p9 := cell_of_row _ _ 9 _ _ _ hL2.d.pb; obtain ⟨x0, x1, x2, x3, x4, x5, x6, fx⟩ := cells7 hL2.xb; have d0 := HD0.out _ (bel2 hL.d.bel hX2)))
    | ((refine step_append_none (by rfl) _ _ _ (by rfl) wr.heap.size 38 i9 3 Try.underlying24 hi9 (.slice va BL.length vc) BL.length (entryCells BL) (by rfl) (by first | exact hown2 | exact hown2.drew) (by rfl) ?_; have hL3 := hL2; have hown3 := hown2; have hX3 := hX2; have hL4 := hL3.set 6 (.slice va BL.length vc); obtain ⟨q1, q2, q3, q4, q5, q6, q7⟩ := cells10 hL4.d.pb; have q9 := cell_of_row _ _ 1 _ _ _ hL4.d.gb; have q8 := cell_of_row _ _ 6 _ _ _ hL4.d.gb; have d1 := HD0.out _ hL4.d.bel)))
  all_goals
    have hown5 := own_frame hown3 (FrameT.setCell w2 Y 6 (.slice va BL.length vc)) (fun k hk h => by omega)
    simp only [List.setIfInBounds_toArray, List.set_cons_succ, List.set_cons_zero] at hL4
    clear g0 g1 g2 g3 g4 g5 g6 p0 p1 p2 p3 p4 p5 p6 p7 p8 p9 x0 x1 x2 x3 x4 x5 x6 fx d0 d1 q1 q2 q3 q4 q5 q6 q7 q8 q9 hL hL1 hL2 hL3
    generalize (w2.setCell ⟨Y, 6, none⟩ (.slice va BL.length vc)) = ws at *
    obtain ⟨r0, r1, r2, r3, r4, r5, r6, fr⟩ := cells7 hL4.d.rb
    obtain ⟨x0, x1, x2, x3, x4, x5, x6, fx⟩ := cells7 hL4.xb
    go_wp2
    obtain ⟨hb7, hbel, hF7⟩ := DoW.endR (.int .i64 id) (.int .i64 fi) (.int .i64 te) (.int .i64 ht) (.int .i64 hv) (.int .i64 hc) (.slice va BL.length vc) hL4.d
    obtain ⟨e0, e1, e2, e3, e4, e5, e6, -⟩ := cells7 hb7
    refine bodyPost_ret (v := .agg #[.int .i64 id, .int .i64 fi, .int .i64 te, .int .i64 ht, .int .i64 hv, .int .i64 hc, .slice va BL.length vc]) (by simp [results, Try.results18, go_sem, e0, e1, e2, e3, e4, e5, e6]) rfl ?_
    obtain ⟨va', vc', hx9, -, hrow9⟩ := rowV_own (own_frame hown5 hF7 (fun k hk h => by omega))
    cases hx9
    rw [List.append_nil]
    exact ⟨va, vc, rfl, ⟨by show BL.length < 1000000; omega, hrow9⟩, hbel, fun k hk => .inr (by have := own_new hown5 k hk; omega)⟩

set_option maxRecDepth 100000 in
set_option maxHeartbeats 4000000 in
theorem refLoose_1n (id fi te ht hv hc : Int) (l : List EntryC) (a : Option Addr) (cap : Nat) (pb po : Nat) (plen pcap : Nat) (pht phv phc pi pt : Int) (pm ph : Bool) (pl : List EntryC) (w : World) (hg : HasG w a ⟨id, fi, te, ht, hv, hc, l⟩) (hp : HasE w ⟨id, 1, (some ⟨pb, po, none⟩), plen, pcap, pht, phv, phc, pi, pt, pm, ph⟩ pl) (h30 : l.length ≤ 100000) (hI : isSp ⟨id, fi, te, ht, hv, hc, l⟩ = true) (hBB : isB ⟨id, 1, (some ⟨pb, po, none⟩), plen, pcap, pht, phv, phc, pi, pt, pm, ph⟩ pl = true) (hp9 : pl.length ≤ 100) (hpos : 0 < plen) (hemp : froL pl fi ≠ []) : Calls Try.prog 18 #[.agg #[.int .i64 id, .int .i64 fi, .int .i64 te, .int .i64 ht, .int .i64 hv, .int .i64 hc, .slice a l.length cap], .agg #[.int .i64 id, .int .i64 1, .slice (some ⟨pb, po, none⟩) plen pcap, .int .i64 pht, .int .i64 phv, .int .i64 phc, .int .i64 pi, .int .i64 pt, .bool pm, .bool ph]] w (RDoPost w a l.length ⟨id, fi, te, ht, hv, hc, belL l (headI pl) ++ froL pl fi⟩) := by
  have GI := Lib.hid (fun W (hB : Below w.heap.size w W) => (show Gives Try.prog 14 #[.agg #[.int .i64 id, .int .i64 fi, .int .i64 te, .int .i64 ht, .int .i64 hv, .int .i64 hc, .slice a l.length cap]] W (.bool true) from by have := refIsSp_any id fi te ht hv hc l a cap W (hg.below hB); rwa [hI] at this))
  have GP := Lib.hid (fun W (hB : Below w.heap.size w W) => (show Gives Try.prog 22 #[.agg #[.int .i64 id, .int .i64 1, .slice (some ⟨pb, po, none⟩) plen pcap, .int .i64 pht, .int .i64 phv, .int .i64 phc, .int .i64 pi, .int .i64 pt, .bool pm, .bool ph]] W (.bool true) from by have := refIs_any ⟨id, 1, (some ⟨pb, po, none⟩), plen, pcap, pht, phv, phc, pi, pt, pm, ph⟩ pl W (hp.below hB); rwa [hBB] at this))
  have HS := Lib.hid (DoW.start w #[.int .i64 id, .int .i64 fi, .int .i64 te, .int .i64 ht, .int .i64 hv, .int .i64 hc, .slice a l.length cap] #[.int .i64 id, .int .i64 1, .slice (some ⟨pb, po, none⟩) plen pcap, .int .i64 pht, .int .i64 phv, .int .i64 phc, .int .i64 pi, .int .i64 pt, .bool pm, .bool ph])
  have hm := hg.1
  have hgr := hg.2
  dsimp only at hm hgr
  have HG := Lib.hid (fun W (hB : Below w.heap.size w W) => hg.below hB)
  obtain ⟨i9, hi9, hz0, hz1, hz2⟩ := info_parts infoEntry
  have hplen := hp.1
  have hp1 := hp.2.1
  have hprow := hp.2.2
  dsimp only at hplen hp1 hprow
  subst hplen
  obtain ⟨_, _, ea, hpb, hpx⟩ := hprow.2.2 hpos
  cases ea
  have hd0 : w.cell? ⟨pb, po, none⟩ = some (.int .i64 (headI pl)) := by
    have := (entry_at hpb (Below.refl w.heap.size w) hpx (k := 0) (by omega)).1
    cases pl with
    | nil => simp at hpos
    | cons e r => simpa [headI] using this
  have HD0 := Lib.hid (fun W (hB : Below w.heap.size w W) => (hB.cell (p := ⟨pb, po, none⟩) hpb).trans hd0)
  have HGR := Lib.hid (fun W (hB : Below w.heap.size w W) => hgr.below hB)
  have HPR := Lib.hid (fun W (hB : Below w.heap.size w W) => hprow.below hB)
  have GB := Lib.hid (fun W (hR : RowV W a l.length 3 (entryCells l)) => refBelow_any l a cap (headI pl) W hm hR)
  have hbl := belL_le l (headI pl)
  have hfn := froL_le pl fi
  have hp0 : (0 : Int) < (pl.length : Int) := by omega
  have GF := Lib.hid (fun W (hR : RowV W (some ⟨pb, po, none⟩) pl.length 3 (entryCells pl)) => refFrom_any pl (some ⟨pb, po, none⟩) pcap fi W hp1 hR)
  have hFl : 0 < (froL pl fi).length := List.length_pos_iff.2 hemp
  have HF3 := Lib.hid (entry_three (froL pl fi))
  have HF1 := Lib.hid (entry_one (froL pl fi))
  have HAC := Lib.hid (entryCells_app (belL l (headI pl)) (froL pl fi))
  generalize froL pl fi = FN at *
  generalize belL l (headI pl) = BL at *
  generalize headI pl = hI9 at *
  clear hg hp hgr hI hBB hpx hprow hd0 hemp
  go_enter Try.func18, Try.ntmps18
  go_upto_region 3 with (first | (go_at_call 14; ((with_reducible refine (GI.out _ HS.out.bel).mono ?_); rintro e w1 ⟨rfl, hB1⟩; have hD1 := HS.out.after hB1; obtain ⟨g0, g1, g2, g3, g4, g5, g6, -⟩ := cells7 hD1.gb; obtain ⟨p1, p2, p3, p4, p5, p6, p7⟩ := cells10 hD1.pb; have p0 := cell_of_row _ _ 0 _ _ _ hD1.pb; have p8 := cell_of_row _ _ 8 _ _ _ hD1.pb; have p9 := cell_of_row _ _ 9 _ _ _ hD1.pb)) | (go_at_call 22; ((with_reducible refine (GP.out _ hD1.bel).mono ?_); rintro e w2 ⟨rfl, hB2⟩; have hD2 := hD1.after hB2; clear g0 g1 g2 g3 g4 g5 g6 p0 p1 p2 p3 p4 p5 p6 p7 p8 p9; obtain ⟨g0, g1, g2, g3, g4, g5, g6, -⟩ := cells7 hD2.gb; obtain ⟨p1, p2, p3, p4, p5, p6, p7⟩ := cells10 hD2.pb; have p0 := cell_of_row _ _ 0 _ _ _ hD2.pb; have p8 := cell_of_row _ _ 8 _ _ _ hD2.pb; have p9 := cell_of_row _ _ 9 _ _ _ hD2.pb)))
  obtain ⟨wq, rfl⟩ : ∃ wq, wq = w2 := ⟨_, rfl⟩
  go_upto_region 4 with (fail)
  have hBx := bel_alloc (Below.refl wq.heap.size wq) (.cells #[.int .i64 id, .int .i64 fi, .int .i64 te, .int .i64 ht, .int .i64 hv, .int .i64 hc, .slice a l.length cap] 26)
  have hL : LoW w wq.heap.size #[.int .i64 id, .int .i64 fi, .int .i64 te, .int .i64 ht, .int .i64 hv, .int .i64 hc, .slice a l.length cap] #[.int .i64 id, .int .i64 1, .slice (some ⟨pb, po, none⟩) pl.length pcap, .int .i64 pht, .int .i64 phv, .int .i64 phc, .int .i64 pi, .int .i64 pt, .bool pm, .bool ph] #[.int .i64 id, .int .i64 fi, .int .i64 te, .int .i64 ht, .int .i64 hv, .int .i64 hc, .slice a l.length cap] (wq.alloc (.cells #[.int .i64 id, .int .i64 fi, .int .i64 te, .int .i64 ht, .int .i64 hv, .int .i64 hc, .slice a l.length cap] 26)) := ⟨hD2.after hBx, World.alloc_heap_new wq _, hD2.lt⟩
  obtain ⟨Y, hYe⟩ : ∃ Y, Y = wq.heap.size := ⟨_, rfl⟩
  rw [← hYe] at hL
  rw [← hYe]
  clear hYe hBx g0 g1 g2 g3 g4 g5 g6 p0 p1 p2 p3 p4 p5 p6 p7 p8 p9
  generalize (wq.alloc (.cells #[.int .i64 id, .int .i64 fi, .int .i64 te, .int .i64 ht, .int .i64 hv, .int .i64 hc, .slice a l.length cap] 26)) = wr at *
  have hYa := hL.ya
  obtain ⟨g0, g1, g2, g3, g4, g5, g6, -⟩ := cells7 hL.d.gb
  obtain ⟨p1, p2, p3, p4, p5, p6, p7⟩ := cells10 hL.d.pb
  have p0 := cell_of_row _ _ 0 _ _ _ hL.d.pb
  have p8 := cell_of_row _ _ 8 _ _ _ hL.d.pb
  have p9 := cell_of_row _ _ 9 _ _ _ hL.d.pb
  obtain ⟨x0, x1, x2, x3, x4, x5, x6, fx⟩ := cells7 hL.xb
  have hlw := hL.lt
  have d0 := HD0.out _ hL.d.bel
  have hRA := HGR.out _ hL.d.bel
  have hRP := HPR.out _ hL.d.bel
  go_upto_region 6 with (fail)
  go_region_held3 (fun W' => W'.cell? ⟨w.heap.size, 6, none⟩ = some (.slice a l.length cap) ∧ W'.cell? ⟨w.heap.size, 1, none⟩ = some (.int .i64 fi) ∧ W'.cell? ⟨w.heap.size + 1, 2, none⟩ = some (.slice (some ⟨pb, po, none⟩) pl.length pcap) ∧ W'.cell? ⟨pb, po, none⟩ = some (.int .i64 hI9)) (go_keep) (first
    | (go_at_call 33; ((with_reducible refine (GB.out _ ?hr).mono ?_); (case hr => first | exact hRA | exact hRA.below (Below.refl _ _).drew); rintro e w1 ⟨va, vc, rfl, hown1, hB1⟩; replace hown1 : w1.ownsRow wr.heap.size 38 3 (.slice va BL.length vc) BL.length (entryCells BL) := hown1; have hX1 : Below wr.heap.size wr w1 := (by first | exact hB1 | exact bel2 (Below.refl _ _).drew hB1); have hL1 := hL.after hX1; clear g0 g1 g2 g3 g4 g5 g6 p0 p1 p2 p3 p4 p5 p6 p7 p8 p9 x0 x1 x2 x3 x4 x5 x6 fx d0; obtain ⟨g0, g1, g2, g3, g4, g5, g6, -⟩ := cells7 hL1.d.gb; obtain ⟨p1, p2, p3, p4, p5, p6, p7⟩ := cells10 hL1.d.pb; have p0 := cell_of_row _ _ 0 _ _ _ hL1.d.pb; have p8 := cell_of_row _ _ 8 _ _ _ hL1.d.pb; have p9 := cell_of_row _ _ 9 _ _ _ hL1.d.pb; obtain ⟨x0, x1, x2, x3, x4, x5, x6, fx⟩ := cells7 hL1.xb; have d0 := HD0.out _ (bel2 hL.d.bel hX1)))
    | (go_at_call 34; ((with_reducible refine (GF.out _ ?hr).mono ?_); (case hr => first | exact hRP.below hX1 | exact (hRP.below hX1).below (Below.refl _ _).drew); rintro e w2 ⟨fa, fc, rfl, hownF, hB2⟩; obtain ⟨fa', fc', hfa, hfc, hfr⟩ := rowV_own hownF; cases hfa; obtain ⟨fb, fo, rfl, hfb, hfx⟩ := hfr.2.2 hFl; have HNW := Lib.hid (show ∀ j u, (entryCells FN)[j]? = some u → w2.cell? ((⟨fb, fo, none⟩ : Addr).add j) = some u from fun j u hu => by (obtain ⟨hj, rfl⟩ := List.getElem?_eq_some_iff.1 hu; rw [add_off]; exact hfx j hj)); clear hfx hfr hownF; have hX2 : Below wr.heap.size wr w2 := (by first | exact bel2 hX1 hB2 | exact bel2 hX1.drew hB2); have hown2 := ownsRow_below (n := 0) hown1 hB2; have hL2 := hL.after hX2; clear g0 g1 g2 g3 g4 g5 g6 p0 p1 p2 p3 p4 p5 p6 p7 p8 p9 x0 x1 x2 x3 x4 x5 x6 fx d0; obtain ⟨g0, g1, g2, g3, g4, g5, g6, -⟩ := cells7 hL2.d.gb; obtain ⟨p1, p2, p3, p4, p5, p6, p7⟩ := cells10 hL2.d.pb; have p0 := cell_of_row _ _ 0 _ _ _ hL2.d.pb; have p8 := cell_of_row _ _ 8 _ _ _ hL2.d.pb; have p9 := cell_of_row _ _ 9 _ _ _ hL2.d.pb; obtain ⟨x0, x1, x2, x3, x4, x5, x6, fx⟩ := cells7 hL2.xb; have d0 := HD0.out _ (bel2 hL.d.bel hX2)))
    | ((refine step_append_lies _ (by rfl) _ _ _ (by rfl) wr.heap.size 38 i9 (.agg #[.int .i64 0, .int .i64 0, .string ⟨#[]⟩]) 3 32 Try.underlying24 hi9 hz0 hz1 hz2 rfl (by omega) (.slice va BL.length vc) BL.length (entryCells BL) (by rfl) (by first | exact hown2 | exact hown2.drew) ⟨fb, fo, none⟩ FN.length fc (entryCells FN) (by rfl) HF3.out HNW.out HF1.out hFl (by unfold maxLen; omega) (by omega) (hX2.size) _ rfl ?_; intro gq cq w3 hown3 hgrow3 hat3 hlt3; have hL3 := LoW.grown hL2 hgrow3 (fun k hk => by have := ownBlock_ge hown2 hk; omega); have hX3 := Below.grown hX2 hgrow3 hX2.size (fun k hk => ownBlock_ge hown2 hk); clear g0 g1 g2 g3 g4 g5 g6 p0 p1 p2 p3 p4 p5 p6 p7 p8 p9 x0 x1 x2 x3 x4 x5 x6 fx d0; obtain ⟨g0, g1, g2, g3, g4, g5, g6, -⟩ := cells7 hL3.d.gb; obtain ⟨p1, p2, p3, p4, p5, p6, p7⟩ := cells10 hL3.d.pb; have p0 := cell_of_row _ _ 0 _ _ _ hL3.d.pb; have p8 := cell_of_row _ _ 8 _ _ _ hL3.d.pb; have p9 := cell_of_row _ _ 9 _ _ _ hL3.d.pb; obtain ⟨x0, x1, x2, x3, x4, x5, x6, fx⟩ := cells7 hL3.xb; have d0 := HD0.out _ (bel2 hL.d.bel hX3); have hL4 := hL3.set 6 (.slice (some ⟨gq, 0, none⟩) (BL.length + FN.length) cq); obtain ⟨q1, q2, q3, q4, q5, q6, q7⟩ := cells10 hL4.d.pb; have q9 := cell_of_row _ _ 1 _ _ _ hL4.d.gb; have q8 := cell_of_row _ _ 6 _ _ _ hL4.d.gb; have d1 := HD0.out _ hL4.d.bel)))
  all_goals
    have hown5 := own_frame hown3 (FrameT.setCell w3 Y 6 (.slice (some ⟨gq, 0, none⟩) (BL.length + FN.length) cq)) (fun k hk h => by omega)
    simp only [List.setIfInBounds_toArray, List.set_cons_succ, List.set_cons_zero] at hL4
    clear g0 g1 g2 g3 g4 g5 g6 p0 p1 p2 p3 p4 p5 p6 p7 p8 p9 x0 x1 x2 x3 x4 x5 x6 fx d0 d1 q1 q2 q3 q4 q5 q6 q7 q8 q9 hL hL1 hL2 hL3
    generalize (w3.setCell ⟨Y, 6, none⟩ (.slice (some ⟨gq, 0, none⟩) (BL.length + FN.length) cq)) = ws at *
    obtain ⟨r0, r1, r2, r3, r4, r5, r6, fr⟩ := cells7 hL4.d.rb
    obtain ⟨x0, x1, x2, x3, x4, x5, x6, fx⟩ := cells7 hL4.xb
    go_wp2
    obtain ⟨hb7, hbel, hF7⟩ := DoW.endR (.int .i64 id) (.int .i64 fi) (.int .i64 te) (.int .i64 ht) (.int .i64 hv) (.int .i64 hc) (.slice (some ⟨gq, 0, none⟩) (BL.length + FN.length) cq) hL4.d
    obtain ⟨e0, e1, e2, e3, e4, e5, e6, -⟩ := cells7 hb7
    refine bodyPost_ret (v := .agg #[.int .i64 id, .int .i64 fi, .int .i64 te, .int .i64 ht, .int .i64 hv, .int .i64 hc, .slice (some ⟨gq, 0, none⟩) (BL.length + FN.length) cq]) (by simp [results, Try.results18, go_sem, e0, e1, e2, e3, e4, e5, e6]) rfl ?_
    obtain ⟨va', vc', hx9, -, hrow9⟩ := rowV_own (own_frame hown5 hF7 (fun k hk h => by omega))
    cases hx9
    refine ⟨some ⟨gq, 0, none⟩, cq, by simp, ⟨by show (BL ++ FN).length < 1000000; rw [List.length_append]; omega, ?_⟩, hbel, fun k hk => .inr (by replace hk : inBlkE (some ⟨gq, 0, none⟩) (BL ++ FN).length k := hk; rw [List.length_append] at hk; have := own_new hown5 k hk; omega)⟩
    show RowV _ _ (BL ++ FN).length 3 (entryCells (BL ++ FN))
    rw [List.length_append, HAC.out]
    exact hrow9

theorem lo_1 {g : GM} {p : PartC} {pl : List EntryC} (hI : isSp g = true) (hB : isB p pl = true) (hg : p.g = g.id) (hk : p.k = 1) : doSp g p pl = ⟨g.id, g.fi, g.te, g.ht, g.hv, g.hc, belL g.l (headI pl) ++ froL pl g.fi⟩ := by
  have hrl : Ris g.l := sprB_ris (isSp_iff.1 hI).2.2
  have hd : denseB pl (headI pl) = true := by
    rcases (isB_iff p pl).1 hB with ⟨_, h | h | h | h | h | h⟩
    · exact are_dense h.2.2.1
    all_goals omega
  have hrp : Ris pl := sprB_ris (dense_spr hd)
  rw [doSp_1 hI hB hg hk, belL_ris hrl, froL_ris hrp]
  unfold addG
  dsimp only
  rw [mrg_above]
  intro x hx y hy
  have h1 := ((bel_mem hrl).1 hx).2
  obtain ⟨k, hk, rfl⟩ := List.getElem_of_mem (List.mem_of_mem_drop hy)
  have h2 := (denseB_at hd hk).1
  omega
theorem lo_6 {g : GM} {p : PartC} {pl : List EntryC} (hI : isSp g = true) (hB : isB p pl = true) (hg : p.g = g.id) (hk : p.k = 6) : doSp g p pl = fillM g p pl := by
  have hrl : Ris g.l := sprB_ris (isSp_iff.1 hI).2.2
  have hpp : Pw pl := by
    rcases (isB_iff p pl).1 hB with ⟨_, h | h | h | h | h | h⟩
    all_goals first
      | omega
      | (have hf := h.2.1
         unfold isFwdB at hf
         simp only [Bool.and_eq_true] at hf
         exact (sprB_iff.1 (are_spr ⟨by decide, by decide⟩ hf.2.2.2)).2.2)
  have hD : ∀ D : GM, Pw D.l → addG D pl = fillD D pl := fun D hP => by
    unfold addG fillD
    rw [fill_mrg hP hpp]
  have hc : Pw (cmpM g p.i p.t).l := by
    unfold cmpM
    split
    · exact ris_pw.1 hrl
    · exact (ris_pw.1 hrl).sublist List.filter_sublist
  rw [doSp_6 hI hB hg hk, cmpG_M hrl]
  unfold fillM
  refine hD _ ?_
  split
  · unfold hrdG
    split
    · exact hc
    · exact ris_pw.1 hrl
  · split
    · exact hc
    · exact ris_pw.1 hrl
theorem refLoose_any (id fi te ht hv hc : Int) (l : List EntryC) (a : Option Addr) (cap : Nat) (pg pk : Int) (pa : Option Addr) (plen pcap : Nat) (pht phv phc pi pt : Int) (pm ph : Bool) (pl : List EntryC) (w : World) (hg : HasG w a ⟨id, fi, te, ht, hv, hc, l⟩) (hp : HasE w ⟨pg, pk, pa, plen, pcap, pht, phv, phc, pi, pt, pm, ph⟩ pl) (hp9 : pl.length ≤ 100) (h30 : l.length ≤ 100000) : Calls Try.prog 18 #[.agg #[.int .i64 id, .int .i64 fi, .int .i64 te, .int .i64 ht, .int .i64 hv, .int .i64 hc, .slice a l.length cap], .agg #[.int .i64 pg, .int .i64 pk, .slice pa plen pcap, .int .i64 pht, .int .i64 phv, .int .i64 phc, .int .i64 pi, .int .i64 pt, .bool pm, .bool ph]] w (RDoPost w a l.length (doSp ⟨id, fi, te, ht, hv, hc, l⟩ ⟨pg, pk, pa, plen, pcap, pht, phv, phc, pi, pt, pm, ph⟩ pl)) := by
  by_cases hok : isSp ⟨id, fi, te, ht, hv, hc, l⟩ = true ∧ isB ⟨pg, pk, pa, plen, pcap, pht, phv, phc, pi, pt, pm, ph⟩ pl = true ∧ pg = id
  · obtain ⟨hI, hBB, rfl⟩ := hok
    have hrl : Ris l := sprB_ris (isSp_iff.1 hI).2.2
    rcases (isB_iff _ _).1 hBB with ⟨_, h | h | h | h | h | h⟩
    · obtain rfl : pk = 1 := h.1
      have hpos : 0 < plen := Nat.pos_of_ne_zero h.2.1
      rw [lo_1 hI hBB rfl rfl]
      obtain ⟨pb, po, rfl, -, -⟩ := hp.2.2.2.2 hpos
      by_cases he : froL pl fi = []
      · have := refLoose_1e pg fi te ht hv hc l a cap pb po plen pcap pht phv phc pi pt pm ph pl w hg hp h30 hI hBB hp9 hpos he
        dsimp only
        rw [he]
        exact this
      · exact refLoose_1n pg fi te ht hv hc l a cap pb po plen pcap pht phv phc pi pt pm ph pl w hg hp h30 hI hBB hp9 hpos he
    · obtain rfl : pk = 2 := h.1
      rw [doSp_2 hI hBB rfl rfl]
      exact refLoose_2 pg fi te ht hv hc l a cap pa plen pcap pht phv phc pi pt pm ph pl w hg hp h30 hI hBB
    · obtain rfl : pk = 3 := h.1
      rw [doSp_3 hI hBB rfl rfl, cmpG_M hrl]
      exact refLoose_3 pg fi te ht hv hc l a cap pa plen pcap pht phv phc pi pt pm ph pl w hg hp h30 hI hBB (wB_iff.1 h.2.1)
    · obtain rfl : pk = 4 := h.1
      rw [doSp_4 hI hBB rfl rfl]
      by_cases hno : pi < fi
      · rw [show snpG ⟨pg, fi, te, ht, hv, hc, l⟩ ⟨pg, 4, pa, plen, pcap, pht, phv, phc, pi, pt, pm, ph⟩ = ⟨pg, fi, te, ht, hv, hc, l⟩ from if_pos hno]
        exact refLoose_4n pg fi te ht hv hc l a cap pa plen pcap pht phv phc pi pt pm ph pl w hg hp h30 hI hBB (wB_iff.1 h.2.1) hno
      · rw [show snpG ⟨pg, fi, te, ht, hv, hc, l⟩ ⟨pg, 4, pa, plen, pcap, pht, phv, phc, pi, pt, pm, ph⟩ = ⟨pg, pi + 1, pt, ht, hv, hc, []⟩ from if_neg hno]
        exact refLoose_4y pg fi te ht hv hc l a cap pa plen pcap pht phv phc pi pt pm ph pl w hg hp h30 hI hBB (wB_iff.1 h.2.1) (by omega)
    · obtain rfl : pk = 5 := h.1
      rw [doSp_5 hI hBB rfl rfl]
      exact refLoose_5 pg fi te ht hv hc l a cap pa plen pcap pht phv phc pi pt pm ph pl w hg hp h30 hI hBB
    · obtain rfl : pk = 6 := h.1
      rw [lo_6 hI hBB rfl rfl]
      refine refLoose_6 pg fi te ht hv hc l a cap pa plen pcap pht phv phc pi pt pm ph pl w hg hp h30 hI hBB hp9 fun hm => ?_
      have hf := h.2.1
      unfold isFwdB at hf
      simp only [Bool.and_eq_true] at hf
      have h9 := hf.2.1
      rw [hm] at h9
      simp at h9
      exact wB_iff.1 h9.1
  · have e : doSp ⟨id, fi, te, ht, hv, hc, l⟩ ⟨pg, pk, pa, plen, pcap, pht, phv, phc, pi, pt, pm, ph⟩ pl = ⟨id, fi, te, ht, hv, hc, l⟩ := if_neg hok
    rw [e]
    cases hI : isSp ⟨id, fi, te, ht, hv, hc, l⟩
    · exact refLoose_A id fi te ht hv hc l a cap pg pk pa plen pcap pht phv phc pi pt pm ph pl w hg hp h30 hI
    · cases hBB : isB ⟨pg, pk, pa, plen, pcap, pht, phv, phc, pi, pt, pm, ph⟩ pl
      · exact refLoose_B id fi te ht hv hc l a cap pg pk pa plen pcap pht phv phc pi pt pm ph pl w hg hp h30 hI hBB
      · exact refLoose_C id fi te ht hv hc l a cap pg pk pa plen pcap pht phv phc pi pt pm ph pl w hg hp h30 hI hBB (fun h => hok ⟨hI, hBB, h⟩)

end Go.Proofs.Ytfbibpnkfmgkaaa
