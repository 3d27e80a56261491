/- The contract of the document's Do of a part on a group. -/
import Derived.Test.YtfbibpnkfmgkaaaRef6d
import Derived.Test.YtfbibpnkfmgkaaaGrpDo
import Derived.Deep.RegionHeld3
import Derived.Deep.AppendLies
import Derived.StillTactics
import Derived.Deep.Cut
namespace Go.Proofs.Ytfbibpnkfmgkaaa
open Go.RowKit Go.Shelf
set_option linter.unusedVariables false
attribute [local go_sem] Oper.semAt_some wide_fn wide_round_fn

attribute [local irreducible] wpQuiet
structure RDoW (w : World) (G P X : Array Value) (W : World) : Prop where
  d : DoW w G P W
  xb : W.heap[w.heap.size + 1 + 1 + 1]? = some (.cells X 26 (0, 0))
theorem RDoW.lt {w W : World} {G P X : Array Value} (h : RDoW w G P X W) : w.heap.size + 4 ≤ W.heap.size := by have := heap_lt h.xb; omega
theorem RDoW.after {w W W' : World} {G P X : Array Value} (h : RDoW w G P X W) (hB : Below W.heap.size W W') : RDoW w G P X W' := ⟨h.d.after hB, (hB.block _ (heap_lt h.xb)).trans h.xb⟩
theorem RDoW.start (w : World) (G P X : Array Value) : RDoW w G P X ((((w.alloc (.cells G 26)).alloc (.cells P 28)).alloc (.cells GZ 26)).alloc (.cells X 26)) := by
  have h := DoW.start w G P
  have hB := bel_alloc (Below.refl _ (((w.alloc (.cells G 26)).alloc (.cells P 28)).alloc (.cells GZ 26))) (.cells X 26)
  have h4 := World.alloc_heap_new (((w.alloc (.cells G 26)).alloc (.cells P 28)).alloc (.cells GZ 26)) (.cells X 26)
  rw [World.size_alloc, World.size_alloc, World.size_alloc] at h4
  exact ⟨h.after hB, h4⟩
theorem RDoW.set {w W : World} {G P X : Array Value} (h : RDoW w G P X W) (i : Nat) (v : Value) : RDoW w G P (X.setIfInBounds i v) (W.setCell ⟨w.heap.size + 1 + 1 + 1, i, none⟩ v) :=
  ⟨h.d.far (Nat.le_refl _) i v, heap_setCell_same _ _ i _ _ _ h.xb⟩
theorem RDoW.grown {w W W' : World} {G P X : Array Value} {row : Option Nat} (h : RDoW w G P X W) (hg : W.grownBy W' row) (hr : ∀ k, row = some k → w.heap.size + 4 ≤ k) : RDoW w G P X W' :=
  ⟨h.d.grown hg (fun k e => by have := hr k e; omega), (hg.block _ (heap_lt h.xb) (fun e => by have := hr _ e.symm; omega)).trans h.xb⟩
theorem RDoW.drew {w W : World} {G P X : Array Value} (h : RDoW w G P X W) : RDoW w G P X W.drew := ⟨h.d.drew, h.xb⟩
theorem RDoW.fin {w W : World} {G P : Array Value} {v0 v1 v2 v3 v4 v5 v6 : Value} (h : RDoW w G P #[v0, v1, v2, v3, v4, v5, v6] W) :
    (st7 W (w.heap.size + 1 + 1) v0 v1 v2 v3 v4 v5 v6).heap[w.heap.size + 1 + 1]? = some (.cells #[v0, v1, v2, v3, v4, v5, v6] 26 (0, 0)) ∧ Below w.heap.size w (st7 W (w.heap.size + 1 + 1) v0 v1 v2 v3 v4 v5 v6) ∧ FrameT (fun k => k = w.heap.size + 1 + 1) W (st7 W (w.heap.size + 1 + 1) v0 v1 v2 v3 v4 v5 v6) :=
  ⟨st7_block h.d.rb v0 v1 v2 v3 v4 v5 v6, h.d.bel.trans ((st7_frame W (w.heap.size + 1 + 1) v0 v1 v2 v3 v4 v5 v6).toBelow h.d.bel.size (fun k h => by omega)), st7_frame W (w.heap.size + 1 + 1) v0 v1 v2 v3 v4 v5 v6⟩
theorem entryCells_app (l m : List EntryC) : entryCells (l ++ m) = entryCells l ++ entryCells m := by simp [entryCells]
def RDoPost (w : World) (a0 : Option Addr) (n0 : Nat) (g : GM) (e : Ending) (w' : World) : Prop := ∃ a cap, e = .returned (.agg #[.int .i64 g.id, .int .i64 g.fi, .int .i64 g.te, .int .i64 g.ht, .int .i64 g.hv, .int .i64 g.hc, .slice a g.l.length cap]) ∧ HasG w' a g ∧ Below w.heap.size w w' ∧ ∀ k, inBlkE a g.l.length k → inBlkE a0 n0 k ∨ w.heap.size ≤ k

set_option maxRecDepth 100000 in
set_option maxHeartbeats 4000000 in
theorem refDo_2 (id fi te ht hv hc : Int) (l : List EntryC) (a : Option Addr) (cap : Nat) (pg : Int) (pa : Option Addr) (plen pcap : Nat) (pht phv phc pi pt : Int) (pm ph : Bool) (pl : List EntryC) (w : World) (hg : HasG w a ⟨id, fi, te, ht, hv, hc, l⟩) (hG : isG ⟨id, fi, te, ht, hv, hc, l⟩ = true) (hp : HasE w ⟨pg, 2, pa, plen, pcap, pht, phv, phc, pi, pt, pm, ph⟩ pl) (hce : chkG ⟨id, fi, te, ht, hv, hc, l⟩ ⟨pg, 2, pa, plen, pcap, pht, phv, phc, pi, pt, pm, ph⟩ pl = 0) (h30 : l.length ≤ 100000) : Calls Try.prog 21 #[.agg #[.int .i64 id, .int .i64 fi, .int .i64 te, .int .i64 ht, .int .i64 hv, .int .i64 hc, .slice a l.length cap], .agg #[.int .i64 pg, .int .i64 2, .slice pa plen pcap, .int .i64 pht, .int .i64 phv, .int .i64 phc, .int .i64 pi, .int .i64 pt, .bool pm, .bool ph]] w (RDoPost w a l.length ⟨id, fi, te, pht, phv, phc, btw l minI maxI ++ pl⟩) := by
  obtain ⟨hb, -, -⟩ := chk_zero hce
  have hpl0 := doG_nil hb (.inl rfl)
  obtain ⟨⟨_, hf2, _⟩, _, hd⟩ := isG_iff.1 hG
  have hL : btw l minI maxI ++ pl = l := by rw [hpl0, List.append_nil]; exact btw_all hd hf2 h30
  rw [hL]
  have hS := RDoW.start w #[.int .i64 id, .int .i64 fi, .int .i64 te, .int .i64 ht, .int .i64 hv, .int .i64 hc, .slice a l.length cap] #[.int .i64 pg, .int .i64 2, .slice pa plen pcap, .int .i64 pht, .int .i64 phv, .int .i64 phc, .int .i64 pi, .int .i64 pt, .bool pm, .bool ph] #[.int .i64 id, .int .i64 fi, .int .i64 te, .int .i64 ht, .int .i64 hv, .int .i64 hc, .slice a l.length cap]
  have HS := Lib.hid hS
  have hm := hg.1
  have hgr := hg.2
  have HGR := Lib.hid (fun W (hB : Below w.heap.size w W) => hgr.below hB)
  clear hg hG hp hce hb hpl0 hd hL hS hf2 hgr
  go_enter Try.func21, Try.ntmps21
  go_upto_region 2 with (fail)
  have hD := HS.out
  generalize ((((w.alloc (.cells #[.int .i64 id, .int .i64 fi, .int .i64 te, .int .i64 ht, .int .i64 hv, .int .i64 hc, .slice a l.length cap] 26)).alloc (.cells #[.int .i64 pg, .int .i64 2, .slice pa plen pcap, .int .i64 pht, .int .i64 phv, .int .i64 phc, .int .i64 pi, .int .i64 pt, .bool pm, .bool ph] 28)).alloc (.cells GZ 26)).alloc (.cells #[.int .i64 id, .int .i64 fi, .int .i64 te, .int .i64 ht, .int .i64 hv, .int .i64 hc, .slice a l.length cap] 26)) = wq at *
  obtain ⟨g0, g1, g2, g3, g4, g5, g6, -⟩ := cells7 hD.d.gb
  obtain ⟨p1, p2, p3, p4, p5, p6, p7⟩ := cells10 hD.d.pb
  obtain ⟨x0, x1, x2, x3, x4, x5, x6, fx⟩ := cells7 hD.xb
  obtain ⟨r0, r1, r2, r3, r4, r5, r6, fr⟩ := cells7 hD.d.rb
  have hD2 := ((hD.set 3 (.int .i64 pht)).set 4 (.int .i64 phv)).set 5 (.int .i64 phc)
  simp only [List.setIfInBounds_toArray, List.set_cons_succ, List.set_cons_zero] at hD2
  go_wp2
  obtain ⟨hb7, hbel, hF7⟩ := hD2.fin
  obtain ⟨e0, e1, e2, e3, e4, e5, e6, -⟩ := cells7 hb7
  refine bodyPost_ret (v := .agg #[.int .i64 id, .int .i64 fi, .int .i64 te, .int .i64 pht, .int .i64 phv, .int .i64 phc, .slice a l.length cap]) (by simp [results, Try.results21, go_sem, e0, e1, e2, e3, e4, e5, e6]) rfl ?_
  exact ⟨a, cap, rfl, ⟨hm, HGR.out _ hbel⟩, hbel, fun k hk => .inl hk⟩

set_option maxRecDepth 100000 in
set_option maxHeartbeats 4000000 in
theorem refDo_1 (id fi te ht hv hc : Int) (l : List EntryC) (a : Option Addr) (cap : Nat) (pg : Int) (pb po : Nat) (plen pcap : Nat) (pht phv phc pi pt : Int) (pm ph : Bool) (pl : List EntryC) (w : World) (hg : HasG w a ⟨id, fi, te, ht, hv, hc, l⟩) (hG : isG ⟨id, fi, te, ht, hv, hc, l⟩ = true) (hp : HasE w ⟨pg, 1, (some ⟨pb, po, none⟩), plen, pcap, pht, phv, phc, pi, pt, pm, ph⟩ pl) (hce : chkG ⟨id, fi, te, ht, hv, hc, l⟩ ⟨pg, 1, (some ⟨pb, po, none⟩), plen, pcap, pht, phv, phc, pi, pt, pm, ph⟩ pl = 0) (h30 : l.length ≤ 100000) : Calls Try.prog 21 #[.agg #[.int .i64 id, .int .i64 fi, .int .i64 te, .int .i64 ht, .int .i64 hv, .int .i64 hc, .slice a l.length cap], .agg #[.int .i64 pg, .int .i64 1, .slice (some ⟨pb, po, none⟩) plen pcap, .int .i64 pht, .int .i64 phv, .int .i64 phc, .int .i64 pi, .int .i64 pt, .bool pm, .bool ph]] w (RDoPost w a l.length ⟨id, fi, te, ht, hv, hc, btw l minI (headI pl - 1) ++ pl⟩) := by
  obtain ⟨i9, hi, hz0, hz1, hz2⟩ := info_parts infoEntry
  obtain ⟨hb, -, -⟩ := chk_zero hce
  obtain ⟨⟨_, hf2, _⟩, _, hd⟩ := isG_iff.1 hG
  have hm := hg.1
  have hgr := hg.2
  have hplen := hp.1
  have hprow := hp.2.2
  dsimp only at hplen hprow hm hgr hf2 hd
  have hne : plen ≠ 0 := by
    rcases (isB_iff _ _).1 hb with ⟨_, h | h | h | h | h | h⟩
    all_goals (have h9 := h.1; dsimp only at h9)
    all_goals first | omega | skip
    exact h.2.1
  have h6 : plen ≤ 6 := (isB_bounds hplen hb).2.2.2.1
  have hpl3 : (entryCells pl).length = plen * 3 := hprow.1
  obtain ⟨b, off, hba, hpbw, hx⟩ := hprow.2.2 (by omega)
  obtain ⟨rfl, rfl⟩ : pb = b ∧ po = off := by cases hba; exact ⟨rfl, rfl⟩
  clear hba
  have hd0 : w.cell? ⟨pb, po, none⟩ = some (.int .i64 (headI pl)) := by
    have := (entry_at hpbw (Below.refl w.heap.size w) hx (k := 0) (by omega)).1
    cases pl with
    | nil => simp at hplen; omega
    | cons e r => simpa [headI] using this
  have HD0 := Lib.hid (fun W (hB : Below w.heap.size w W) => (hB.cell (p := ⟨pb, po, none⟩) hpbw).trans hd0)
  have HPL := Lib.hid (fun W (hB : Below w.heap.size w W) => (show ∀ j u, (entryCells pl)[j]? = some u → W.cell? ((⟨pb, po, none⟩ : Addr).add j) = some u from fun j u hu => by
    obtain ⟨hj, rfl⟩ := List.getElem?_eq_some_iff.1 hu
    rw [add_off]
    exact (hB.cell (p := ⟨pb, po + j, none⟩) hpbw).trans (hx j hj)))
  have hone : ∀ u ∈ entryCells pl, u.oneCell' = true := by
    intro u hu
    simp only [entryCells, List.mem_flatten, List.mem_map] at hu
    obtain ⟨_, ⟨e, _, rfl⟩, hu⟩ := hu
    simp only [EntryC.cells, List.mem_cons, List.not_mem_nil, or_false] at hu
    rcases hu with rfl | rfl | rfl <;> rfl
  have HONE := Lib.hid hone
  rw [← belL_dense hd hf2]
  have HPC := Lib.hid (entryCells_app (belL l (headI pl)) pl)
  have hXl := belL_le l (headI pl)
  have GB := Lib.hid (fun W (hR : RowV W a l.length 3 (entryCells l)) => refBelow_any l a cap (headI pl) W hm hR)
  have HGR := Lib.hid (fun W (hB : Below w.heap.size w W) => hgr.below hB)
  have HPN := Lib.hid (show pl.length = plen from hplen)
  have hS := RDoW.start w #[.int .i64 id, .int .i64 fi, .int .i64 te, .int .i64 ht, .int .i64 hv, .int .i64 hc, .slice a l.length cap] #[.int .i64 pg, .int .i64 1, .slice (some ⟨pb, po, none⟩) plen pcap, .int .i64 pht, .int .i64 phv, .int .i64 phc, .int .i64 pi, .int .i64 pt, .bool pm, .bool ph] #[.int .i64 id, .int .i64 fi, .int .i64 te, .int .i64 ht, .int .i64 hv, .int .i64 hc, .slice a l.length cap]
  have HS := Lib.hid hS
  have hp0 : (0 : Int) < (plen : Int) := by omega
  have hp1 : 0 < plen := by omega
  have HP3 := Lib.hid hpl3
  generalize belL l (headI pl) = XL at *
  generalize headI pl = hI at *
  clear hg hG hp hce hb hd hS hf2 hx hd0 hplen hprow hone hne hgr hpl3
  go_enter Try.func21, Try.ntmps21
  go_upto_region 4 with (fail)
  have hD := HS.out
  generalize ((((w.alloc (.cells #[.int .i64 id, .int .i64 fi, .int .i64 te, .int .i64 ht, .int .i64 hv, .int .i64 hc, .slice a l.length cap] 26)).alloc (.cells #[.int .i64 pg, .int .i64 1, .slice (some ⟨pb, po, none⟩) plen pcap, .int .i64 pht, .int .i64 phv, .int .i64 phc, .int .i64 pi, .int .i64 pt, .bool pm, .bool ph] 28)).alloc (.cells GZ 26)).alloc (.cells #[.int .i64 id, .int .i64 fi, .int .i64 te, .int .i64 ht, .int .i64 hv, .int .i64 hc, .slice a l.length cap] 26)) = wr at *
  have hb0 := hD.d.bel
  have hlt := hD.lt
  have hgr := HGR.out _ hb0
  have hnB : w.heap.size + 4 ≤ wr.heap.size := hlt
  obtain ⟨g0, g1, g2, g3, g4, g5, g6, -⟩ := cells7 hD.d.gb
  obtain ⟨p1, p2, p3, p4, p5, p6, p7⟩ := cells10 hD.d.pb
  obtain ⟨x0, x1, x2, x3, x4, x5, x6, fx⟩ := cells7 hD.xb
  have d0 := HD0.out _ hb0
  go_region_held3 (fun W' => W'.cell? ⟨w.heap.size, 6, none⟩ = some (.slice a l.length cap) ∧ W'.cell? ⟨w.heap.size + 1, 2, none⟩ = some (.slice (some ⟨pb, po, none⟩) plen pcap) ∧ W'.cell? ⟨pb, po, none⟩ = some (.int .i64 hI)) (go_keep) (first
    | (go_at_call 33; ((with_reducible refine (GB.out _ ?hr).mono ?_); (case hr => first | exact hgr | exact hgr.below (Below.refl _ _).drew); rintro e w1 ⟨va, vc, rfl, hown1, hB1⟩; replace hown1 : w1.ownsRow wr.heap.size 38 3 (.slice va XL.length vc) XL.length (entryCells XL) := hown1; have hX1 : Below wr.heap.size wr w1 := (by first | exact hB1 | exact bel2 (Below.refl _ _).drew hB1); have hD1 := hD.after hX1; clear g0 g1 g2 g3 g4 g5 g6 p1 p2 p3 p4 p5 p6 p7 x0 x1 x2 x3 x4 x5 x6 fx d0; obtain ⟨g0, g1, g2, g3, g4, g5, g6, -⟩ := cells7 hD1.d.gb; obtain ⟨p1, p2, p3, p4, p5, p6, p7⟩ := cells10 hD1.d.pb; obtain ⟨x0, x1, x2, x3, x4, x5, x6, fx⟩ := cells7 hD1.xb; have d0 := HD0.out _ (bel2 hb0 hX1)))
    | ((refine step_append_lies _ (by rfl) _ _ _ (by rfl) wr.heap.size 38 i9 (.agg #[.int .i64 0, .int .i64 0, .string ⟨#[]⟩]) 3 32 Try.underlying24 hi hz0 hz1 hz2 rfl (by omega) (.slice va XL.length vc) XL.length (entryCells XL) (by rfl) (by first | exact hown1 | exact hown1.drew) ⟨pb, po, none⟩ plen pcap (entryCells pl) (by rfl) HP3.out (by first | exact HPL.out _ (bel2 hb0 hX1) | exact HPL.out _ (bel2 hb0 hX1.drew)) HONE.out hp1 (by unfold maxLen; omega) (by omega) (by first | exact hX1.size | (have := hX1.size; simp; omega)) _ rfl ?_; intro gg cap2 w2 hown2 hgrow2 hat2 hlt2; have hD2 := Lib.hid (RDoW.grown (by first | exact hD1 | exact hD1.drew) hgrow2 (fun k hk => by have := ownBlock_ge hown1 hk; omega)); have hd2 : w2.cell? ⟨pb, po, none⟩ = some (.int .i64 hI) := (hgrow2.cell_far ⟨pb, po, none⟩ (by have h1 := hX1.size; have h2 := hb0.size; simp; omega) (fun e => by have h1 := ownBlock_ge hown1 e.symm; have h2 := hb0.size; have h3 : wr.heap.size ≤ pb := h1; omega)).trans (by simpa using d0); clear g0 g1 g2 g3 g4 g5 g6 p1 p2 p3 p4 p5 p6 p7 x0 x1 x2 x3 x4 x5 x6 fx d0; obtain ⟨g0, g1, g2, g3, g4, g5, g6, -⟩ := cells7 hD2.out.d.gb; obtain ⟨p1, p2, p3, p4, p5, p6, p7⟩ := cells10 hD2.out.d.pb; obtain ⟨x0, x1, x2, x3, x4, x5, x6, fx⟩ := cells7 hD2.out.xb; have hD3 := hD2.out.set 6 (.slice (some ⟨gg, 0, none⟩) (XL.length + plen) cap2); obtain ⟨y0, y1, y2, y3, y4, y5, y6, -⟩ := cells7 hD3.d.gb; obtain ⟨q1, q2, q3, q4, q5, q6, q7⟩ := cells10 hD3.d.pb; have hd3 : (w2.setCell ⟨w.heap.size + 1 + 1 + 1, 6, none⟩ (.slice (some ⟨gg, 0, none⟩) (XL.length + plen) cap2)).cell? ⟨pb, po, none⟩ = some (.int .i64 hI) := (World.cell?_of_block (heap_setCell_other _ _ _ _ (by have h2 := hb0.size; have h3 := hlt; show pb ≠ w.heap.size + 1 + 1 + 1; omega))).trans hd2)))
  all_goals
    simp only [List.setIfInBounds_toArray, List.set_cons_succ, List.set_cons_zero] at hD3
    clear g0 g1 g2 g3 g4 g5 g6 p1 p2 p3 p4 p5 p6 p7 x0 x1 x2 x3 x4 x5 x6 fx y0 y1 y2 y3 y4 y5 y6 hd2 hd3 q1 q2 q3 q4 q5 q6 q7
    obtain ⟨x0, x1, x2, x3, x4, x5, x6, fx⟩ := cells7 hD3.xb
    obtain ⟨r0, r1, r2, r3, r4, r5, r6, fr⟩ := cells7 hD3.d.rb
    go_wp2
    have hown3 := own_frame hown2 (FrameT.setCell w2 (w.heap.size + 1 + 1 + 1) 6 (.slice (some ⟨gg, 0, none⟩) (XL.length + plen) cap2)) (fun k hk h => by omega)
    obtain ⟨hb7, hbel, hF7⟩ := hD3.fin
    obtain ⟨e0, e1, e2, e3, e4, e5, e6, -⟩ := cells7 hb7
    refine bodyPost_ret (v := .agg #[.int .i64 id, .int .i64 fi, .int .i64 te, .int .i64 ht, .int .i64 hv, .int .i64 hc, .slice (some ⟨gg, 0, none⟩) (XL.length + plen) cap2]) (by simp [results, Try.results21, go_sem, e0, e1, e2, e3, e4, e5, e6]) rfl ?_
    obtain ⟨va', vc', hx9, -, hrow9⟩ := rowV_own (own_frame hown3 hF7 (fun k hk h => by omega))
    cases hx9
    refine ⟨some ⟨gg, 0, none⟩, cap2, by simp [HPN.out], ⟨by show (XL ++ pl).length < 1000000; rw [List.length_append, HPN.out]; omega, ?_⟩, hbel, fun k hk => .inr (by replace hk : inBlkE (some ⟨gg, 0, none⟩) (XL ++ pl).length k := hk; rw [show (XL ++ pl).length = XL.length + plen by rw [List.length_append, HPN.out]] at hk; have := own_new hown3 k hk; omega)⟩
    show RowV _ _ (XL ++ pl).length 3 (entryCells (XL ++ pl))
    rw [List.length_append, HPN.out, HPC.out]
    exact hrow9

set_option maxRecDepth 100000 in
set_option maxHeartbeats 4000000 in
theorem refDo_3 (id fi te ht hv hc : Int) (l : List EntryC) (a : Option Addr) (cap : Nat) (pg : Int) (pa : Option Addr) (plen pcap : Nat) (pht phv phc pi pt : Int) (pm ph : Bool) (pl : List EntryC) (w : World) (hg : HasG w a ⟨id, fi, te, ht, hv, hc, l⟩) (hG : isG ⟨id, fi, te, ht, hv, hc, l⟩ = true) (hp : HasE w ⟨pg, 3, pa, plen, pcap, pht, phv, phc, pi, pt, pm, ph⟩ pl) (hce : chkG ⟨id, fi, te, ht, hv, hc, l⟩ ⟨pg, 3, pa, plen, pcap, pht, phv, phc, pi, pt, pm, ph⟩ pl = 0) (h30 : l.length ≤ 100000) : Calls Try.prog 21 #[.agg #[.int .i64 id, .int .i64 fi, .int .i64 te, .int .i64 ht, .int .i64 hv, .int .i64 hc, .slice a l.length cap], .agg #[.int .i64 pg, .int .i64 3, .slice pa plen pcap, .int .i64 pht, .int .i64 phv, .int .i64 phc, .int .i64 pi, .int .i64 pt, .bool pm, .bool ph]] w (RDoPost w a l.length ⟨id, pi + 1, entT l pi, ht, hv, hc, btw l (pi + 1) maxI ++ pl⟩) := by
  obtain ⟨hb, -, hk9⟩ := chk_zero hce
  have hpl0 := doG_nil hb (.inr (.inl rfl))
  have hr : fi ≤ pi ∧ pi ≤ fi - 1 + (l.length : Int) := by
    rcases hk9 with h | h | h | h
    · have := h.1; dsimp only at this; omega
    · dsimp only at h; omega
    · exact ⟨h.2.1, h.2.2.1⟩
    · have := h.1; dsimp only at this; omega
  obtain ⟨⟨_, hf2, _⟩, _, hd⟩ := isG_iff.1 hG
  have hm := hg.1
  have hgr := hg.2
  dsimp only at hm hgr hf2 hd
  have HGR := Lib.hid (fun W (hB : Below w.heap.size w W) => hgr.below hB)
  have hcs := hgr.2.2
  obtain ⟨k, hpk, hk⟩ : ∃ k : Nat, pi = fi + (k : Int) ∧ k < l.length := ⟨(pi - fi).toNat, by omega, by omega⟩
  have hbd := denseB_bd hd (by omega)
  have hE : entT l pi = l[k].t := by
    rw [entT_dense hd, dif_pos ⟨by omega, by omega⟩]
    congr 2; omega
  have hat : atM l pi = (k : Int) := by rw [atM_dense hd, if_pos (by omega)]; omega
  obtain ⟨b, off, rfl, hbw, hx⟩ := hcs (by omega)
  have HX := Lib.hid (fun W (hB : Below w.heap.size w W) => entry_at hbw hB hx hk)
  have hk0 : (0 : Int) ≤ (k : Int) := by omega
  have hkl : (k : Int) < (l.length : Int) := by omega
  rw [hE, ← froL_dense hd hf2 h30, hpl0, List.append_nil]
  have GA := Lib.hid (fun W (hB : Below w.heap.size w W) => (show Gives Try.prog 20 #[.agg #[.int .i64 id, .int .i64 fi, .int .i64 te, .int .i64 ht, .int .i64 hv, .int .i64 hc, .slice (some ⟨b, off, none⟩) l.length cap], .int .i64 pi] W (.int .i64 (k : Int)) from by have := refAt_any id fi te ht hv hc l (some ⟨b, off, none⟩) cap pi W (hg.below hB); rwa [hat] at this))
  have GF := Lib.hid (fun W (hR : RowV W (some ⟨b, off, none⟩) l.length 3 (entryCells l)) => refFrom_any l (some ⟨b, off, none⟩) cap (pi + 1) W hm hR)
  have hLl := froL_le l (pi + 1)
  have hS := RDoW.start w #[.int .i64 id, .int .i64 fi, .int .i64 te, .int .i64 ht, .int .i64 hv, .int .i64 hc, .slice (some ⟨b, off, none⟩) l.length cap] #[.int .i64 pg, .int .i64 3, .slice pa plen pcap, .int .i64 pht, .int .i64 phv, .int .i64 phc, .int .i64 pi, .int .i64 pt, .bool pm, .bool ph] #[.int .i64 id, .int .i64 fi, .int .i64 te, .int .i64 ht, .int .i64 hv, .int .i64 hc, .slice (some ⟨b, off, none⟩) l.length cap]
  have HS := Lib.hid hS
  generalize froL l (pi + 1) = XL at *
  generalize l[k] = x at *
  obtain ⟨xi, xt, xd⟩ := x
  dsimp only at *
  have hpi9 : 1 ≤ pi ∧ pi ≤ 1099511627776 := by omega
  obtain ⟨hpi1, hpi2⟩ := hpi9
  clear hg hG hp hce hb hd hS hf2 hx hcs hE hat hpl0 hk9 hr hpk hgr hbd
  go_enter Try.func21, Try.ntmps21
  go_upto_region 8 with (fail)
  have hD := HS.out
  generalize ((((w.alloc (.cells #[.int .i64 id, .int .i64 fi, .int .i64 te, .int .i64 ht, .int .i64 hv, .int .i64 hc, .slice (some ⟨b, off, none⟩) l.length cap] 26)).alloc (.cells #[.int .i64 pg, .int .i64 3, .slice pa plen pcap, .int .i64 pht, .int .i64 phv, .int .i64 phc, .int .i64 pi, .int .i64 pt, .bool pm, .bool ph] 28)).alloc (.cells GZ 26)).alloc (.cells #[.int .i64 id, .int .i64 fi, .int .i64 te, .int .i64 ht, .int .i64 hv, .int .i64 hc, .slice (some ⟨b, off, none⟩) l.length cap] 26)) = wr at *
  have hb0 := hD.d.bel
  have hlt := hD.lt
  obtain ⟨g0, g1, g2, g3, g4, g5, g6, -⟩ := cells7 hD.d.gb
  obtain ⟨p1, p2, p3, p4, p5, p6, p7⟩ := cells10 hD.d.pb
  obtain ⟨x0, x1, x2, x3, x4, x5, x6, fx⟩ := cells7 hD.xb
  obtain ⟨d0, d1, d2⟩ := HX.out _ hb0
  go_region_held3 (fun W' => W'.cell? ⟨w.heap.size, 0, none⟩ = some (.int .i64 id) ∧ W'.cell? ⟨w.heap.size, 1, none⟩ = some (.int .i64 fi) ∧ W'.cell? ⟨w.heap.size, 2, none⟩ = some (.int .i64 te) ∧ W'.cell? ⟨w.heap.size, 3, none⟩ = some (.int .i64 ht) ∧ W'.cell? ⟨w.heap.size, 4, none⟩ = some (.int .i64 hv) ∧ W'.cell? ⟨w.heap.size, 5, none⟩ = some (.int .i64 hc) ∧ W'.cell? ⟨w.heap.size, 6, none⟩ = some (.slice (some ⟨b, off, none⟩) l.length cap) ∧ W'.cell? ⟨w.heap.size + 1, 6, none⟩ = some (.int .i64 pi) ∧ W'.cell? ⟨b, off + k * 3 + 1, none⟩ = some (.int .i64 xt)) (go_keep) (first
    | (go_at_call 20; ((with_reducible refine (GA.out _ (by first | exact hb0 | exact hb0.drew)).mono ?_); rintro e w1 ⟨rfl, hB1⟩; have hX1 : Below wr.heap.size wr w1 := (by first | exact hB1 | exact bel2 (Below.refl _ _).drew hB1); have hD1 := hD.after hX1; clear g0 g1 g2 g3 g4 g5 g6 p1 p2 p3 p4 p5 p6 p7 x0 x1 x2 x3 x4 x5 x6 fx d0 d1 d2; obtain ⟨g0, g1, g2, g3, g4, g5, g6, -⟩ := cells7 hD1.d.gb; obtain ⟨p1, p2, p3, p4, p5, p6, p7⟩ := cells10 hD1.d.pb; obtain ⟨x0, x1, x2, x3, x4, x5, x6, fx⟩ := cells7 hD1.xb; obtain ⟨d0, d1, d2⟩ := HX.out _ (bel2 hb0 hX1); have hD3 := hD1.set 2 (.int .i64 xt); obtain ⟨y0, y1, y2, y3, y4, y5, y6, -⟩ := cells7 hD3.d.gb; obtain ⟨q1, q2, q3, q4, q5, q6, q7⟩ := cells10 hD3.d.pb; have hd3 : (w1.setCell ⟨w.heap.size + 1 + 1 + 1, 2, none⟩ (.int .i64 xt)).cell? ⟨b, off + k * 3 + 1, none⟩ = some (.int .i64 xt) := (World.cell?_of_block (heap_setCell_other _ _ _ _ (by show b ≠ w.heap.size + 1 + 1 + 1; omega))).trans d1)))
  simp only [List.setIfInBounds_toArray, List.set_cons_succ, List.set_cons_zero] at hD3
  clear g0 g1 g2 g3 g4 g5 g6 p1 p2 p3 p4 p5 p6 p7 x0 x1 x2 x3 x4 x5 x6 fx y0 y1 y2 y3 y4 y5 y6 hd3 d0 d1 d2 q1 q2 q3 q4 q5 q6 q7
  generalize (w1.setCell ⟨w.heap.size + 1 + 1 + 1, 2, none⟩ (.int .i64 xt)) = w3 at *
  obtain ⟨g0, g1, g2, g3, g4, g5, g6, -⟩ := cells7 hD3.d.gb
  obtain ⟨p1, p2, p3, p4, p5, p6, p7⟩ := cells10 hD3.d.pb
  obtain ⟨x0, x1, x2, x3, x4, x5, x6, fx⟩ := cells7 hD3.xb
  obtain ⟨r0, r1, r2, r3, r4, r5, r6, fr⟩ := cells7 hD3.d.rb
  go_wp2_with (go_at_call 34; ((with_reducible refine (GF.out _ ((HGR.out _ hD3.d.bel))).mono ?_); rintro e w4 ⟨va, vc, rfl, hown4, hB4⟩; have hD4 := hD3.after hB4; clear g0 g1 g2 g3 g4 g5 g6 p1 p2 p3 p4 p5 p6 p7 x0 x1 x2 x3 x4 x5 x6 fx r0 r1 r2 r3 r4 r5 r6 fr; obtain ⟨g0, g1, g2, g3, g4, g5, g6, -⟩ := cells7 hD4.d.gb; obtain ⟨p1, p2, p3, p4, p5, p6, p7⟩ := cells10 hD4.d.pb; obtain ⟨x0, x1, x2, x3, x4, x5, x6, fx⟩ := cells7 hD4.xb; obtain ⟨r0, r1, r2, r3, r4, r5, r6, fr⟩ := cells7 hD4.d.rb))
  have hD5 := (hD4.set 6 (.slice va XL.length vc)).set 1 (.int .i64 (pi + 1))
  simp only [List.setIfInBounds_toArray, List.set_cons_succ, List.set_cons_zero] at hD5
  have hl4 := hD3.lt
  have hown5 := own_frame (own_frame hown4 (FrameT.setCell w4 (w.heap.size + 1 + 1 + 1) 6 (.slice va XL.length vc)) (fun k hk h => by omega)) (FrameT.setCell _ (w.heap.size + 1 + 1 + 1) 1 (.int .i64 (pi + 1))) (fun k hk h => by omega)
  obtain ⟨hb7, hbel, hF7⟩ := hD5.fin
  obtain ⟨e0, e1, e2, e3, e4, e5, e6, -⟩ := cells7 hb7
  refine bodyPost_ret (v := .agg #[.int .i64 id, .int .i64 (pi + 1), .int .i64 xt, .int .i64 ht, .int .i64 hv, .int .i64 hc, .slice va XL.length vc]) (by simp [results, Try.results21, go_sem, e0, e1, e2, e3, e4, e5, e6]) rfl ?_
  obtain ⟨va', vc', hx9, -, hrow9⟩ := rowV_own (own_frame hown5 hF7 (fun k hk h => by omega))
  cases hx9
  exact ⟨va, vc, rfl, ⟨by show XL.length < 1000000; omega, hrow9⟩, hbel, fun k hk => .inr (by have := own_new hown5 k hk; omega)⟩

set_option maxRecDepth 100000 in
set_option maxHeartbeats 4000000 in
theorem refDo_4a (id fi te ht hv hc : Int) (l : List EntryC) (a : Option Addr) (cap : Nat) (pg : Int) (pa : Option Addr) (plen pcap : Nat) (pht phv phc pi pt : Int) (pm ph : Bool) (w : World) (hg : HasG w a ⟨id, fi, te, ht, hv, hc, l⟩) (hG : isG ⟨id, fi, te, ht, hv, hc, l⟩ = true) (hpi1 : 1 ≤ pi) (hpi2 : pi ≤ 1099511627776) (h30 : l.length ≤ 100000) (k : Nat) (hk : k < l.length) (hpk : pi = fi + (k : Int)) (hne : l[k].t = pt) : Calls Try.prog 21 #[.agg #[.int .i64 id, .int .i64 fi, .int .i64 te, .int .i64 ht, .int .i64 hv, .int .i64 hc, .slice a l.length cap], .agg #[.int .i64 pg, .int .i64 4, .slice pa plen pcap, .int .i64 pht, .int .i64 phv, .int .i64 phc, .int .i64 pi, .int .i64 pt, .bool pm, .bool ph]] w (RDoPost w a l.length ⟨id, pi + 1, pt, ht, hv, hc, froL l (pi + 1)⟩) := by
  obtain ⟨⟨_, hf2, _⟩, _, hd⟩ := isG_iff.1 hG
  have hm := hg.1
  have hgr := hg.2
  dsimp only at hm hgr hf2 hd
  have HGR := Lib.hid (fun W (hB : Below w.heap.size w W) => hgr.below hB)
  have hcs := hgr.2.2
  have hat : atM l pi = (k : Int) := by rw [atM_dense hd, if_pos (by omega)]; omega
  obtain ⟨b, off, rfl, hbw, hx⟩ := hcs (by omega)
  have HX := Lib.hid (fun W (hB : Below w.heap.size w W) => entry_at hbw hB hx hk)
  have hk0 : (0 : Int) ≤ (k : Int) := by omega
  have hkl : (k : Int) < (l.length : Int) := by omega
  have GA := Lib.hid (fun W (hB : Below w.heap.size w W) => (show Gives Try.prog 20 #[.agg #[.int .i64 id, .int .i64 fi, .int .i64 te, .int .i64 ht, .int .i64 hv, .int .i64 hc, .slice (some ⟨b, off, none⟩) l.length cap], .int .i64 pi] W (.int .i64 (k : Int)) from by have := refAt_any id fi te ht hv hc l (some ⟨b, off, none⟩) cap pi W (hg.below hB); rwa [hat] at this))
  have GF := Lib.hid (fun W (hR : RowV W (some ⟨b, off, none⟩) l.length 3 (entryCells l)) => refFrom_any l (some ⟨b, off, none⟩) cap (pi + 1) W hm hR)
  have hLl := froL_le l (pi + 1)
  generalize froL l (pi + 1) = XL at *
  generalize l[k] = x at *
  obtain ⟨xi, xt, xd⟩ := x
  dsimp only at *
  have ht0 : (xt == pt) = true := by rw [beq_iff_eq]; exact hne
  have hS := RDoW.start w #[.int .i64 id, .int .i64 fi, .int .i64 te, .int .i64 ht, .int .i64 hv, .int .i64 hc, .slice (some ⟨b, off, none⟩) l.length cap] #[.int .i64 pg, .int .i64 4, .slice pa plen pcap, .int .i64 pht, .int .i64 phv, .int .i64 phc, .int .i64 pi, .int .i64 pt, .bool pm, .bool ph] #[.int .i64 id, .int .i64 fi, .int .i64 te, .int .i64 ht, .int .i64 hv, .int .i64 hc, .slice (some ⟨b, off, none⟩) l.length cap]
  have HS := Lib.hid hS
  clear hg hG hd hS hf2 hcs hat hgr hx hpk hne
  go_enter Try.func21, Try.ntmps21
  go_upto_region 12 with (fail)
  have hD := HS.out
  generalize ((((w.alloc (.cells #[.int .i64 id, .int .i64 fi, .int .i64 te, .int .i64 ht, .int .i64 hv, .int .i64 hc, .slice (some ⟨b, off, none⟩) l.length cap] 26)).alloc (.cells #[.int .i64 pg, .int .i64 4, .slice pa plen pcap, .int .i64 pht, .int .i64 phv, .int .i64 phc, .int .i64 pi, .int .i64 pt, .bool pm, .bool ph] 28)).alloc (.cells GZ 26)).alloc (.cells #[.int .i64 id, .int .i64 fi, .int .i64 te, .int .i64 ht, .int .i64 hv, .int .i64 hc, .slice (some ⟨b, off, none⟩) l.length cap] 26)) = wr at *
  have hb0 := hD.d.bel
  have hlt := hD.lt
  obtain ⟨g0, g1, g2, g3, g4, g5, g6, -⟩ := cells7 hD.d.gb
  obtain ⟨p1, p2, p3, p4, p5, p6, p7⟩ := cells10 hD.d.pb
  obtain ⟨x0, x1, x2, x3, x4, x5, x6, fx⟩ := cells7 hD.xb
  go_wp2_with (go_at_call 20; ((with_reducible refine (GA.out _ hb0).mono ?_); rintro e w1 ⟨rfl, hB1⟩; have hD1 := hD.after hB1; clear g0 g1 g2 g3 g4 g5 g6 p1 p2 p3 p4 p5 p6 p7 x0 x1 x2 x3 x4 x5 x6 fx; obtain ⟨g0, g1, g2, g3, g4, g5, g6, -⟩ := cells7 hD1.d.gb; obtain ⟨p1, p2, p3, p4, p5, p6, p7⟩ := cells10 hD1.d.pb; obtain ⟨x0, x1, x2, x3, x4, x5, x6, fx⟩ := cells7 hD1.xb))
  have hD2 := hD1.set 6 (.slice none 0 0)
  simp only [List.setIfInBounds_toArray, List.set_cons_succ, List.set_cons_zero] at hD2
  clear g0 g1 g2 g3 g4 g5 g6 p1 p2 p3 p4 p5 p6 p7 x0 x1 x2 x3 x4 x5 x6 fx
  generalize (w1.setCell ⟨w.heap.size + 1 + 1 + 1, 6, none⟩ (.slice none 0 0)) = w2 at *
  have HS2 := Lib.hid (fun W (hW : Above w2 W) => And.intro (cells7 (RDoW.after hD2 hW).d.gb) (And.intro (cells10 (RDoW.after hD2 hW).d.pb) (HX.out W (RDoW.after hD2 hW).d.bel)))
  refine wp_region_below (by kernel_rfl) (by kernel_rfl) ?_
  repeat (first
    | (refine BigFrame.wpQuiet_skip (by rfl) ?_; (try simp only [Act.put, List.setIfInBounds_toArray, List.set_cons_zero, List.set_cons_succ]))
    | (refine BigFrame.wpQuiet_want (by rfl) (fun K hK => ?_); apply Exists.intro; refine ⟨fun W hW => ?_, hK _ ?_⟩; (focus (obtain ⟨⟨g0, g1, g2, g3, g4, g5, g6, -⟩, ⟨p1, p2, p3, p4, p5, p6, p7⟩, d0, d1, d2⟩ := HS2.out _ hW; go_simp; (first | done | with_reducible rfl | (fail) | (rw [if_neg (by omega)]; go_simp; (first | done | with_reducible rfl))))); clear hK K; (try simp only [Act.put, List.setIfInBounds_toArray, List.set_cons_zero, List.set_cons_succ])))
  refine wpQuiet_nil ?_
  intro w3 hB3
  have hD3 := hD2.after hB3
  obtain ⟨g0, g1, g2, g3, g4, g5, g6, -⟩ := cells7 hD3.d.gb
  obtain ⟨p1, p2, p3, p4, p5, p6, p7⟩ := cells10 hD3.d.pb
  obtain ⟨x0, x1, x2, x3, x4, x5, x6, fx⟩ := cells7 hD3.xb
  obtain ⟨r0, r1, r2, r3, r4, r5, r6, fr⟩ := cells7 hD3.d.rb
  go_wp2_with (go_at_call 34; ((with_reducible refine (GF.out _ ((HGR.out _ hD3.d.bel))).mono ?_); rintro e w4 ⟨va, vc, rfl, hown4, hB4⟩; have hD4 := hD3.after hB4; clear g0 g1 g2 g3 g4 g5 g6 p1 p2 p3 p4 p5 p6 p7 x0 x1 x2 x3 x4 x5 x6 fx r0 r1 r2 r3 r4 r5 r6 fr; obtain ⟨g0, g1, g2, g3, g4, g5, g6, -⟩ := cells7 hD4.d.gb; obtain ⟨p1, p2, p3, p4, p5, p6, p7⟩ := cells10 hD4.d.pb; obtain ⟨x0, x1, x2, x3, x4, x5, x6, fx⟩ := cells7 hD4.xb; obtain ⟨r0, r1, r2, r3, r4, r5, r6, fr⟩ := cells7 hD4.d.rb))
  have hl4 := hD3.lt
  have hD5 := hD4.set 6 (.slice va XL.length vc)
  simp only [List.setIfInBounds_toArray, List.set_cons_succ, List.set_cons_zero] at hD5
  have hown5 := own_frame hown4 (FrameT.setCell w4 (w.heap.size + 1 + 1 + 1) 6 (.slice va XL.length vc)) (fun k hk h => by omega)
  clear g0 g1 g2 g3 g4 g5 g6 p1 p2 p3 p4 p5 p6 p7 x0 x1 x2 x3 x4 x5 x6 fx r0 r1 r2 r3 r4 r5 r6 fr
  generalize (w4.setCell ⟨w.heap.size + 1 + 1 + 1, 6, none⟩ (.slice va XL.length vc)) = w5 at *
  have hA := hD5.set 1 (.int .i64 (pi + 1))
  have hA2 := hA.set 2 (.int .i64 pt)
  have hC := hD5.set 2 (.int .i64 pt)
  have hC2 := hC.set 1 (.int .i64 (pi + 1))
  have hs9 : IntKind.i64.wrap (pi + 1) = pi + 1 := IntWalk.i64_in _ (by omega)
  obtain ⟨p1, p2, p3, p4, p5, p6, p7⟩ := cells10 hD5.d.pb
  obtain ⟨x0, x1, x2, x3, x4, x5, x6, fx⟩ := cells7 hD5.xb
  obtain ⟨a1, a2, a3, a4, a5, a6, a7⟩ := cells10 hA.d.pb
  obtain ⟨y0, y1, y2, y3, y4, y5, y6, fy⟩ := cells7 hA.xb
  obtain ⟨q1, q2, q3, q4, q5, q6, q7⟩ := cells10 hC.d.pb
  obtain ⟨z0, z1, z2, z3, z4, z5, z6, fz⟩ := cells7 hC.xb
  obtain ⟨u1, u2, u3, u4, u5, u6, u7⟩ := cells10 hA2.d.pb
  obtain ⟨t1, t2, t3, t4, t5, t6, t7⟩ := cells10 hC2.d.pb
  go_region_held3 (fun W' => W'.cell? ⟨w.heap.size + 1, 6, none⟩ = some (.int .i64 pi) ∧ W'.cell? ⟨w.heap.size + 1, 7, none⟩ = some (.int .i64 pt)) (go_keep) (fail)
  have hD6 := hA2.drew
  simp only [List.setIfInBounds_toArray, List.set_cons_succ, List.set_cons_zero] at hD6
  have hown6 := own_frame hown5 ((FrameT.setCell w5 (w.heap.size + 1 + 1 + 1) 1 (.int .i64 (pi + 1))).trans (FrameT.setCell _ (w.heap.size + 1 + 1 + 1) 2 (.int .i64 pt))).drew (fun k hk h => by omega)
  clear p1 p2 p3 p4 p5 p6 p7 x0 x1 x2 x3 x4 x5 x6 fx a1 a2 a3 a4 a5 a6 a7 y0 y1 y2 y3 y4 y5 y6 fy q1 q2 q3 q4 q5 q6 q7 z0 z1 z2 z3 z4 z5 z6 fz u1 u2 u3 u4 u5 u6 u7 t1 t2 t3 t4 t5 t6 t7 hA hA2 hC hC2
  generalize ((w5.setCell ⟨w.heap.size + 1 + 1 + 1, 1, none⟩ (.int .i64 (pi + 1))).setCell ⟨w.heap.size + 1 + 1 + 1, 2, none⟩ (.int .i64 pt)).drew = w6 at *
  obtain ⟨x0, x1, x2, x3, x4, x5, x6, fx⟩ := cells7 hD6.xb
  obtain ⟨r0, r1, r2, r3, r4, r5, r6, fr⟩ := cells7 hD6.d.rb
  go_wp2
  obtain ⟨hb7, hbel, hF7⟩ := hD6.fin
  obtain ⟨e0, e1, e2, e3, e4, e5, e6, -⟩ := cells7 hb7
  refine bodyPost_ret (v := .agg #[.int .i64 id, .int .i64 (pi + 1), .int .i64 pt, .int .i64 ht, .int .i64 hv, .int .i64 hc, .slice va XL.length vc]) (by simp [results, Try.results21, go_sem, e0, e1, e2, e3, e4, e5, e6]) rfl ?_
  obtain ⟨va', vc', hx9, -, hrow9⟩ := rowV_own (own_frame hown6 hF7 (fun k hk h => by omega))
  cases hx9
  exact ⟨va, vc, rfl, ⟨by show XL.length < 1000000; omega, hrow9⟩, hbel, fun k hk => .inr (by have := own_new hown6 k hk; omega)⟩

set_option maxRecDepth 100000 in
set_option maxHeartbeats 4000000 in
theorem refDo_4b (id fi te ht hv hc : Int) (l : List EntryC) (a : Option Addr) (cap : Nat) (pg : Int) (pa : Option Addr) (plen pcap : Nat) (pht phv phc pi pt : Int) (pm ph : Bool) (w : World) (hg : HasG w a ⟨id, fi, te, ht, hv, hc, l⟩) (hG : isG ⟨id, fi, te, ht, hv, hc, l⟩ = true) (hpi1 : 1 ≤ pi) (hpi2 : pi ≤ 1099511627776) (h30 : l.length ≤ 100000) (k : Nat) (hk : k < l.length) (hpk : pi = fi + (k : Int)) (hne : l[k].t ≠ pt) : Calls Try.prog 21 #[.agg #[.int .i64 id, .int .i64 fi, .int .i64 te, .int .i64 ht, .int .i64 hv, .int .i64 hc, .slice a l.length cap], .agg #[.int .i64 pg, .int .i64 4, .slice pa plen pcap, .int .i64 pht, .int .i64 phv, .int .i64 phc, .int .i64 pi, .int .i64 pt, .bool pm, .bool ph]] w (RDoPost w a l.length ⟨id, pi + 1, pt, ht, hv, hc, []⟩) := by
  obtain ⟨⟨_, hf2, _⟩, _, hd⟩ := isG_iff.1 hG
  have hm := hg.1
  have hgr := hg.2
  dsimp only at hm hgr hf2 hd
  have HGR := Lib.hid (fun W (hB : Below w.heap.size w W) => hgr.below hB)
  have hcs := hgr.2.2
  have hat : atM l pi = (k : Int) := by rw [atM_dense hd, if_pos (by omega)]; omega
  obtain ⟨b, off, rfl, hbw, hx⟩ := hcs (by omega)
  have HX := Lib.hid (fun W (hB : Below w.heap.size w W) => entry_at hbw hB hx hk)
  have hk0 : (0 : Int) ≤ (k : Int) := by omega
  have hkl : (k : Int) < (l.length : Int) := by omega
  have GA := Lib.hid (fun W (hB : Below w.heap.size w W) => (show Gives Try.prog 20 #[.agg #[.int .i64 id, .int .i64 fi, .int .i64 te, .int .i64 ht, .int .i64 hv, .int .i64 hc, .slice (some ⟨b, off, none⟩) l.length cap], .int .i64 pi] W (.int .i64 (k : Int)) from by have := refAt_any id fi te ht hv hc l (some ⟨b, off, none⟩) cap pi W (hg.below hB); rwa [hat] at this))
  generalize l[k] = x at *
  obtain ⟨xi, xt, xd⟩ := x
  dsimp only at *
  have ht0 : (xt == pt) = false := by rw [beq_eq_false_iff_ne]; exact hne
  have hS := RDoW.start w #[.int .i64 id, .int .i64 fi, .int .i64 te, .int .i64 ht, .int .i64 hv, .int .i64 hc, .slice (some ⟨b, off, none⟩) l.length cap] #[.int .i64 pg, .int .i64 4, .slice pa plen pcap, .int .i64 pht, .int .i64 phv, .int .i64 phc, .int .i64 pi, .int .i64 pt, .bool pm, .bool ph] #[.int .i64 id, .int .i64 fi, .int .i64 te, .int .i64 ht, .int .i64 hv, .int .i64 hc, .slice (some ⟨b, off, none⟩) l.length cap]
  have HS := Lib.hid hS
  clear hg hG hd hS hf2 hcs hat hgr hx hpk hne
  go_enter Try.func21, Try.ntmps21
  go_upto_region 12 with (fail)
  have hD := HS.out
  generalize ((((w.alloc (.cells #[.int .i64 id, .int .i64 fi, .int .i64 te, .int .i64 ht, .int .i64 hv, .int .i64 hc, .slice (some ⟨b, off, none⟩) l.length cap] 26)).alloc (.cells #[.int .i64 pg, .int .i64 4, .slice pa plen pcap, .int .i64 pht, .int .i64 phv, .int .i64 phc, .int .i64 pi, .int .i64 pt, .bool pm, .bool ph] 28)).alloc (.cells GZ 26)).alloc (.cells #[.int .i64 id, .int .i64 fi, .int .i64 te, .int .i64 ht, .int .i64 hv, .int .i64 hc, .slice (some ⟨b, off, none⟩) l.length cap] 26)) = wr at *
  have hb0 := hD.d.bel
  have hlt := hD.lt
  obtain ⟨g0, g1, g2, g3, g4, g5, g6, -⟩ := cells7 hD.d.gb
  obtain ⟨p1, p2, p3, p4, p5, p6, p7⟩ := cells10 hD.d.pb
  obtain ⟨x0, x1, x2, x3, x4, x5, x6, fx⟩ := cells7 hD.xb
  go_wp2_with (go_at_call 20; ((with_reducible refine (GA.out _ hb0).mono ?_); rintro e w1 ⟨rfl, hB1⟩; have hD1 := hD.after hB1; clear g0 g1 g2 g3 g4 g5 g6 p1 p2 p3 p4 p5 p6 p7 x0 x1 x2 x3 x4 x5 x6 fx; obtain ⟨g0, g1, g2, g3, g4, g5, g6, -⟩ := cells7 hD1.d.gb; obtain ⟨p1, p2, p3, p4, p5, p6, p7⟩ := cells10 hD1.d.pb; obtain ⟨x0, x1, x2, x3, x4, x5, x6, fx⟩ := cells7 hD1.xb))
  have hD2 := hD1.set 6 (.slice none 0 0)
  simp only [List.setIfInBounds_toArray, List.set_cons_succ, List.set_cons_zero] at hD2
  clear g0 g1 g2 g3 g4 g5 g6 p1 p2 p3 p4 p5 p6 p7 x0 x1 x2 x3 x4 x5 x6 fx
  generalize (w1.setCell ⟨w.heap.size + 1 + 1 + 1, 6, none⟩ (.slice none 0 0)) = w2 at *
  have HS2 := Lib.hid (fun W (hW : Above w2 W) => And.intro (cells7 (RDoW.after hD2 hW).d.gb) (And.intro (cells10 (RDoW.after hD2 hW).d.pb) (HX.out W (RDoW.after hD2 hW).d.bel)))
  refine wp_region_below (by kernel_rfl) (by kernel_rfl) ?_
  repeat (first
    | (refine BigFrame.wpQuiet_skip (by rfl) ?_; (try simp only [Act.put, List.setIfInBounds_toArray, List.set_cons_zero, List.set_cons_succ]))
    | (refine BigFrame.wpQuiet_want (by rfl) (fun K hK => ?_); apply Exists.intro; refine ⟨fun W hW => ?_, hK _ ?_⟩; (focus (obtain ⟨⟨g0, g1, g2, g3, g4, g5, g6, -⟩, ⟨p1, p2, p3, p4, p5, p6, p7⟩, d0, d1, d2⟩ := HS2.out _ hW; go_simp; (first | done | with_reducible rfl | (fail) | (rw [if_neg (by omega)]; go_simp; (first | done | with_reducible rfl))))); clear hK K; (try simp only [Act.put, List.setIfInBounds_toArray, List.set_cons_zero, List.set_cons_succ])))
  refine wpQuiet_nil ?_
  intro w3 hB3
  have hD3 := hD2.after hB3
  obtain ⟨g0, g1, g2, g3, g4, g5, g6, -⟩ := cells7 hD3.d.gb
  obtain ⟨p1, p2, p3, p4, p5, p6, p7⟩ := cells10 hD3.d.pb
  obtain ⟨x0, x1, x2, x3, x4, x5, x6, fx⟩ := cells7 hD3.xb
  obtain ⟨r0, r1, r2, r3, r4, r5, r6, fr⟩ := cells7 hD3.d.rb
  go_wp2
  have hD5 := hD3
  clear g0 g1 g2 g3 g4 g5 g6 p1 p2 p3 p4 p5 p6 p7 x0 x1 x2 x3 x4 x5 x6 fx r0 r1 r2 r3 r4 r5 r6 fr
  obtain ⟨w5, hw5⟩ : ∃ w5, w5 = w3 := ⟨_, rfl⟩
  rw [← hw5] at hD5 ⊢
  clear hw5
  have hA := hD5.set 1 (.int .i64 (pi + 1))
  have hA2 := hA.set 2 (.int .i64 pt)
  have hC := hD5.set 2 (.int .i64 pt)
  have hC2 := hC.set 1 (.int .i64 (pi + 1))
  have hs9 : IntKind.i64.wrap (pi + 1) = pi + 1 := IntWalk.i64_in _ (by omega)
  obtain ⟨p1, p2, p3, p4, p5, p6, p7⟩ := cells10 hD5.d.pb
  obtain ⟨x0, x1, x2, x3, x4, x5, x6, fx⟩ := cells7 hD5.xb
  obtain ⟨a1, a2, a3, a4, a5, a6, a7⟩ := cells10 hA.d.pb
  obtain ⟨y0, y1, y2, y3, y4, y5, y6, fy⟩ := cells7 hA.xb
  obtain ⟨q1, q2, q3, q4, q5, q6, q7⟩ := cells10 hC.d.pb
  obtain ⟨z0, z1, z2, z3, z4, z5, z6, fz⟩ := cells7 hC.xb
  obtain ⟨u1, u2, u3, u4, u5, u6, u7⟩ := cells10 hA2.d.pb
  obtain ⟨t1, t2, t3, t4, t5, t6, t7⟩ := cells10 hC2.d.pb
  go_region_held3 (fun W' => W'.cell? ⟨w.heap.size + 1, 6, none⟩ = some (.int .i64 pi) ∧ W'.cell? ⟨w.heap.size + 1, 7, none⟩ = some (.int .i64 pt)) (go_keep) (fail)
  have hD6 := hA2.drew
  simp only [List.setIfInBounds_toArray, List.set_cons_succ, List.set_cons_zero] at hD6
  clear p1 p2 p3 p4 p5 p6 p7 x0 x1 x2 x3 x4 x5 x6 fx a1 a2 a3 a4 a5 a6 a7 y0 y1 y2 y3 y4 y5 y6 fy q1 q2 q3 q4 q5 q6 q7 z0 z1 z2 z3 z4 z5 z6 fz u1 u2 u3 u4 u5 u6 u7 t1 t2 t3 t4 t5 t6 t7 hA hA2 hC hC2
  generalize ((w5.setCell ⟨w.heap.size + 1 + 1 + 1, 1, none⟩ (.int .i64 (pi + 1))).setCell ⟨w.heap.size + 1 + 1 + 1, 2, none⟩ (.int .i64 pt)).drew = w6 at *
  obtain ⟨x0, x1, x2, x3, x4, x5, x6, fx⟩ := cells7 hD6.xb
  obtain ⟨r0, r1, r2, r3, r4, r5, r6, fr⟩ := cells7 hD6.d.rb
  go_wp2
  obtain ⟨hb7, hbel, hF7⟩ := hD6.fin
  obtain ⟨e0, e1, e2, e3, e4, e5, e6, -⟩ := cells7 hb7
  refine bodyPost_ret (v := .agg #[.int .i64 id, .int .i64 (pi + 1), .int .i64 pt, .int .i64 ht, .int .i64 hv, .int .i64 hc, .slice none 0 0]) (by simp [results, Try.results21, go_sem, e0, e1, e2, e3, e4, e5, e6]) rfl ?_
  exact ⟨none, 0, rfl, ⟨(by decide : 0 < 1000000), RowV.nil _ _ _⟩, hbel, fun k hk => by obtain ⟨_, _, e9, _⟩ := hk; cases e9⟩

set_option maxRecDepth 100000 in
set_option maxHeartbeats 4000000 in
theorem refDo_4c (id fi te ht hv hc : Int) (l : List EntryC) (a : Option Addr) (cap : Nat) (pg : Int) (pa : Option Addr) (plen pcap : Nat) (pht phv phc pi pt : Int) (pm ph : Bool) (w : World) (hg : HasG w a ⟨id, fi, te, ht, hv, hc, l⟩) (hG : isG ⟨id, fi, te, ht, hv, hc, l⟩ = true) (hpi1 : 1 ≤ pi) (hpi2 : pi ≤ 1099511627776) (h30 : l.length ≤ 100000) (hno : ¬ (fi ≤ pi ∧ pi < fi + (l.length : Int))) : Calls Try.prog 21 #[.agg #[.int .i64 id, .int .i64 fi, .int .i64 te, .int .i64 ht, .int .i64 hv, .int .i64 hc, .slice a l.length cap], .agg #[.int .i64 pg, .int .i64 4, .slice pa plen pcap, .int .i64 pht, .int .i64 phv, .int .i64 phc, .int .i64 pi, .int .i64 pt, .bool pm, .bool ph]] w (RDoPost w a l.length ⟨id, pi + 1, pt, ht, hv, hc, []⟩) := by
  obtain ⟨⟨_, hf2, _⟩, _, hd⟩ := isG_iff.1 hG
  have hm := hg.1
  have hgr := hg.2
  dsimp only at hm hgr hf2 hd
  have HGR := Lib.hid (fun W (hB : Below w.heap.size w W) => hgr.below hB)
  have hcs := hgr.2.2
  have hat : atM l pi = -1 := by rw [atM_dense hd, if_neg hno]
  have GA := Lib.hid (fun W (hB : Below w.heap.size w W) => (show Gives Try.prog 20 #[.agg #[.int .i64 id, .int .i64 fi, .int .i64 te, .int .i64 ht, .int .i64 hv, .int .i64 hc, .slice a l.length cap], .int .i64 pi] W (.int .i64 (-1)) from by have := refAt_any id fi te ht hv hc l a cap pi W (hg.below hB); rwa [hat] at this))
  have hS := RDoW.start w #[.int .i64 id, .int .i64 fi, .int .i64 te, .int .i64 ht, .int .i64 hv, .int .i64 hc, .slice a l.length cap] #[.int .i64 pg, .int .i64 4, .slice pa plen pcap, .int .i64 pht, .int .i64 phv, .int .i64 phc, .int .i64 pi, .int .i64 pt, .bool pm, .bool ph] #[.int .i64 id, .int .i64 fi, .int .i64 te, .int .i64 ht, .int .i64 hv, .int .i64 hc, .slice a l.length cap]
  have HS := Lib.hid hS
  clear hg hG hd hS hf2 hcs hat hgr hno
  go_enter Try.func21, Try.ntmps21
  go_upto_region 12 with (fail)
  have hD := HS.out
  generalize ((((w.alloc (.cells #[.int .i64 id, .int .i64 fi, .int .i64 te, .int .i64 ht, .int .i64 hv, .int .i64 hc, .slice a l.length cap] 26)).alloc (.cells #[.int .i64 pg, .int .i64 4, .slice pa plen pcap, .int .i64 pht, .int .i64 phv, .int .i64 phc, .int .i64 pi, .int .i64 pt, .bool pm, .bool ph] 28)).alloc (.cells GZ 26)).alloc (.cells #[.int .i64 id, .int .i64 fi, .int .i64 te, .int .i64 ht, .int .i64 hv, .int .i64 hc, .slice a l.length cap] 26)) = wr at *
  have hb0 := hD.d.bel
  have hlt := hD.lt
  obtain ⟨g0, g1, g2, g3, g4, g5, g6, -⟩ := cells7 hD.d.gb
  obtain ⟨p1, p2, p3, p4, p5, p6, p7⟩ := cells10 hD.d.pb
  obtain ⟨x0, x1, x2, x3, x4, x5, x6, fx⟩ := cells7 hD.xb
  go_wp2_with (go_at_call 20; ((with_reducible refine (GA.out _ hb0).mono ?_); rintro e w1 ⟨rfl, hB1⟩; have hD1 := hD.after hB1; clear g0 g1 g2 g3 g4 g5 g6 p1 p2 p3 p4 p5 p6 p7 x0 x1 x2 x3 x4 x5 x6 fx; obtain ⟨g0, g1, g2, g3, g4, g5, g6, -⟩ := cells7 hD1.d.gb; obtain ⟨p1, p2, p3, p4, p5, p6, p7⟩ := cells10 hD1.d.pb; obtain ⟨x0, x1, x2, x3, x4, x5, x6, fx⟩ := cells7 hD1.xb))
  have hD2 := hD1.set 6 (.slice none 0 0)
  simp only [List.setIfInBounds_toArray, List.set_cons_succ, List.set_cons_zero] at hD2
  clear g0 g1 g2 g3 g4 g5 g6 p1 p2 p3 p4 p5 p6 p7 x0 x1 x2 x3 x4 x5 x6 fx
  generalize (w1.setCell ⟨w.heap.size + 1 + 1 + 1, 6, none⟩ (.slice none 0 0)) = w2 at *
  have HS2 := Lib.hid (fun W (hW : Above w2 W) => And.intro (cells7 (RDoW.after hD2 hW).d.gb) (And.intro (cells10 (RDoW.after hD2 hW).d.pb) (trivial)))
  refine wp_region_below (by kernel_rfl) (by kernel_rfl) ?_
  repeat (first
    | (refine BigFrame.wpQuiet_skip (by rfl) ?_; (try simp only [Act.put, List.setIfInBounds_toArray, List.set_cons_zero, List.set_cons_succ]))
    | (refine BigFrame.wpQuiet_want (by rfl) (fun K hK => ?_); apply Exists.intro; refine ⟨fun W hW => ?_, hK _ ?_⟩; (focus (obtain ⟨⟨g0, g1, g2, g3, g4, g5, g6, -⟩, ⟨p1, p2, p3, p4, p5, p6, p7⟩, -⟩ := HS2.out _ hW; go_simp; (first | done | with_reducible rfl | (fail) | (rw [if_neg (by omega)]; go_simp; (first | done | with_reducible rfl))))); clear hK K; (try simp only [Act.put, List.setIfInBounds_toArray, List.set_cons_zero, List.set_cons_succ])))
  refine wpQuiet_nil ?_
  intro w3 hB3
  have hD3 := hD2.after hB3
  obtain ⟨g0, g1, g2, g3, g4, g5, g6, -⟩ := cells7 hD3.d.gb
  obtain ⟨p1, p2, p3, p4, p5, p6, p7⟩ := cells10 hD3.d.pb
  obtain ⟨x0, x1, x2, x3, x4, x5, x6, fx⟩ := cells7 hD3.xb
  obtain ⟨r0, r1, r2, r3, r4, r5, r6, fr⟩ := cells7 hD3.d.rb
  go_wp2
  have hD5 := hD3
  clear g0 g1 g2 g3 g4 g5 g6 p1 p2 p3 p4 p5 p6 p7 x0 x1 x2 x3 x4 x5 x6 fx r0 r1 r2 r3 r4 r5 r6 fr
  obtain ⟨w5, hw5⟩ : ∃ w5, w5 = w3 := ⟨_, rfl⟩
  rw [← hw5] at hD5 ⊢
  clear hw5
  have hA := hD5.set 1 (.int .i64 (pi + 1))
  have hA2 := hA.set 2 (.int .i64 pt)
  have hC := hD5.set 2 (.int .i64 pt)
  have hC2 := hC.set 1 (.int .i64 (pi + 1))
  have hs9 : IntKind.i64.wrap (pi + 1) = pi + 1 := IntWalk.i64_in _ (by omega)
  obtain ⟨p1, p2, p3, p4, p5, p6, p7⟩ := cells10 hD5.d.pb
  obtain ⟨x0, x1, x2, x3, x4, x5, x6, fx⟩ := cells7 hD5.xb
  obtain ⟨a1, a2, a3, a4, a5, a6, a7⟩ := cells10 hA.d.pb
  obtain ⟨y0, y1, y2, y3, y4, y5, y6, fy⟩ := cells7 hA.xb
  obtain ⟨q1, q2, q3, q4, q5, q6, q7⟩ := cells10 hC.d.pb
  obtain ⟨z0, z1, z2, z3, z4, z5, z6, fz⟩ := cells7 hC.xb
  obtain ⟨u1, u2, u3, u4, u5, u6, u7⟩ := cells10 hA2.d.pb
  obtain ⟨t1, t2, t3, t4, t5, t6, t7⟩ := cells10 hC2.d.pb
  go_region_held3 (fun W' => W'.cell? ⟨w.heap.size + 1, 6, none⟩ = some (.int .i64 pi) ∧ W'.cell? ⟨w.heap.size + 1, 7, none⟩ = some (.int .i64 pt)) (go_keep) (fail)
  have hD6 := hA2.drew
  simp only [List.setIfInBounds_toArray, List.set_cons_succ, List.set_cons_zero] at hD6
  clear p1 p2 p3 p4 p5 p6 p7 x0 x1 x2 x3 x4 x5 x6 fx a1 a2 a3 a4 a5 a6 a7 y0 y1 y2 y3 y4 y5 y6 fy q1 q2 q3 q4 q5 q6 q7 z0 z1 z2 z3 z4 z5 z6 fz u1 u2 u3 u4 u5 u6 u7 t1 t2 t3 t4 t5 t6 t7 hA hA2 hC hC2
  generalize ((w5.setCell ⟨w.heap.size + 1 + 1 + 1, 1, none⟩ (.int .i64 (pi + 1))).setCell ⟨w.heap.size + 1 + 1 + 1, 2, none⟩ (.int .i64 pt)).drew = w6 at *
  obtain ⟨x0, x1, x2, x3, x4, x5, x6, fx⟩ := cells7 hD6.xb
  obtain ⟨r0, r1, r2, r3, r4, r5, r6, fr⟩ := cells7 hD6.d.rb
  go_wp2
  obtain ⟨hb7, hbel, hF7⟩ := hD6.fin
  obtain ⟨e0, e1, e2, e3, e4, e5, e6, -⟩ := cells7 hb7
  refine bodyPost_ret (v := .agg #[.int .i64 id, .int .i64 (pi + 1), .int .i64 pt, .int .i64 ht, .int .i64 hv, .int .i64 hc, .slice none 0 0]) (by simp [results, Try.results21, go_sem, e0, e1, e2, e3, e4, e5, e6]) rfl ?_
  exact ⟨none, 0, rfl, ⟨(by decide : 0 < 1000000), RowV.nil _ _ _⟩, hbel, fun k hk => by obtain ⟨_, _, e9, _⟩ := hk; cases e9⟩

theorem refDo_any (id fi te ht hv hc : Int) (l : List EntryC) (a : Option Addr) (cap : Nat) (pg pk : Int) (pa : Option Addr) (plen pcap : Nat) (pht phv phc pi pt : Int) (pm ph : Bool) (pl : List EntryC) (w : World) (hg : HasG w a ⟨id, fi, te, ht, hv, hc, l⟩) (hG : isG ⟨id, fi, te, ht, hv, hc, l⟩ = true) (hp : HasE w ⟨pg, pk, pa, plen, pcap, pht, phv, phc, pi, pt, pm, ph⟩ pl) (hce : chkG ⟨id, fi, te, ht, hv, hc, l⟩ ⟨pg, pk, pa, plen, pcap, pht, phv, phc, pi, pt, pm, ph⟩ pl = 0) (h30 : l.length ≤ 100000) : Calls Try.prog 21 #[.agg #[.int .i64 id, .int .i64 fi, .int .i64 te, .int .i64 ht, .int .i64 hv, .int .i64 hc, .slice a l.length cap], .agg #[.int .i64 pg, .int .i64 pk, .slice pa plen pcap, .int .i64 pht, .int .i64 phv, .int .i64 phc, .int .i64 pi, .int .i64 pt, .bool pm, .bool ph]] w (RDoPost w a l.length (doG ⟨id, fi, te, ht, hv, hc, l⟩ ⟨pg, pk, pa, plen, pcap, pht, phv, phc, pi, pt, pm, ph⟩ pl)) := by
  obtain ⟨hb, -, hk9⟩ := chk_zero hce
  have hu : doG ⟨id, fi, te, ht, hv, hc, l⟩ ⟨pg, pk, pa, plen, pcap, pht, phv, phc, pi, pt, pm, ph⟩ pl = if pk = 1 then ⟨id, fi, te, ht, hv, hc, btw l minI (headI pl - 1) ++ pl⟩ else if pk = 2 then ⟨id, fi, te, pht, phv, phc, btw l minI maxI ++ pl⟩ else if pk = 3 then ⟨id, pi + 1, entT l pi, ht, hv, hc, btw l (pi + 1) maxI ++ pl⟩ else ⟨id, pi + 1, pt, ht, hv, hc, btw l (pi + 1) (if entT l pi ≠ pt then minI else maxI) ++ pl⟩ := by
    unfold doG; rw [if_neg (by rw [hce]; simp)]
  rw [hu]
  clear hu
  rcases hk9 with h | h | h | h
  · obtain rfl : pk = 1 := h.1
    rw [if_pos rfl]
    have hplen := hp.1
    have hprow := hp.2.2
    dsimp only at hplen hprow
    have hne : plen ≠ 0 := by
      rcases (isB_iff _ _).1 hb with ⟨_, h | h | h | h | h | h⟩
      all_goals (have h9 := h.1; dsimp only at h9)
      all_goals first | omega | skip
      exact h.2.1
    obtain ⟨b, off, rfl, -, -⟩ := hprow.2.2 (by omega)
    exact refDo_1 id fi te ht hv hc l a cap pg b off plen pcap pht phv phc pi pt pm ph pl w hg hG hp hce h30
  · obtain rfl : pk = 2 := h
    rw [if_neg (by omega), if_pos rfl]
    exact refDo_2 id fi te ht hv hc l a cap pg pa plen pcap pht phv phc pi pt pm ph pl w hg hG hp hce h30
  · obtain rfl : pk = 3 := h.1
    rw [if_neg (by omega), if_neg (by omega), if_pos rfl]
    exact refDo_3 id fi te ht hv hc l a cap pg pa plen pcap pht phv phc pi pt pm ph pl w hg hG hp hce h30
  · obtain rfl : pk = 4 := h.1
    rw [if_neg (by omega), if_neg (by omega), if_neg (by omega)]
    obtain rfl := doG_nil hb (.inr (.inr rfl))
    rw [List.append_nil]
    have hpi : (1 ≤ pi ∧ pi ≤ 1099511627776) ∧ 1 ≤ pt ∧ pt ≤ 1099511627776 := by
      rcases (isB_iff _ _).1 hb with ⟨_, h | h | h | h | h | h⟩
      all_goals (have h9 := h.1; dsimp only at h9)
      all_goals first | omega | skip
      exact ⟨wB_iff.1 h.2.1, wB_iff.1 h.2.2.1⟩
    obtain ⟨⟨_, hf2, _⟩, _, hd⟩ := isG_iff.1 hG
    dsimp only at hf2 hd
    by_cases hin : fi ≤ pi ∧ pi < fi + (l.length : Int)
    · obtain ⟨k, hpk, hk⟩ : ∃ k : Nat, pi = fi + (k : Int) ∧ k < l.length := ⟨(pi - fi).toNat, by omega, by omega⟩
      have hE : entT l pi = l[k].t := by
        rw [entT_dense hd, dif_pos ⟨by omega, by omega⟩]
        congr 2; omega
      by_cases hne : l[k].t = pt
      · rw [hE, if_neg (by simp [hne]), ← froL_dense hd hf2 h30]
        exact refDo_4a id fi te ht hv hc l a cap pg pa plen pcap pht phv phc pi pt pm ph w hg hG hpi.1.1 hpi.1.2 h30 k hk hpk hne
      · rw [hE, if_pos hne, btw_none hd hf2]
        exact refDo_4b id fi te ht hv hc l a cap pg pa plen pcap pht phv phc pi pt pm ph w hg hG hpi.1.1 hpi.1.2 h30 k hk hpk hne
    · rw [entT_dense hd, dif_neg (fun h => hin ⟨h.1, by omega⟩), if_pos (by omega), btw_none hd hf2]
      exact refDo_4c id fi te ht hv hc l a cap pg pa plen pcap pht phv phc pi pt pm ph w hg hG hpi.1.1 hpi.1.2 h30 hin

end Go.Proofs.Ytfbibpnkfmgkaaa
