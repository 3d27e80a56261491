/- The contract of the document's compact. -/
import Derived.Test.YtfbibpnkfmgkaaaRef6e
import Derived.Test.YtfbibpnkfmgkaaaSprFill
import Derived.StillTactics
import Derived.Deep.Cut
namespace Go.Proofs.Ytfbibpnkfmgkaaa
open Go.RowKit Go.Shelf
set_option linter.unusedVariables false
attribute [local go_sem] Oper.semAt_some wide_fn wide_round_fn

/-- The boxes of compact: the group, the result, what it makes. -/
structure CmW (w : World) (G X : Array Value) (W : World) : Prop where
  gb : W.heap[w.heap.size]? = some (.cells G 26 (0, 0))
  rb : W.heap[w.heap.size + 1]? = some (.cells GZ 26 (0, 0))
  xb : W.heap[w.heap.size + 1 + 1]? = some (.cells X 26 (0, 0))
  bel : Below w.heap.size w W
theorem CmW.lt {w W : World} {G X : Array Value} (h : CmW w G X W) : w.heap.size + 3 ≤ W.heap.size := by have := heap_lt h.xb; omega
theorem CmW.after {w W W' : World} {G X : Array Value} (h : CmW w G X W) (hB : Below W.heap.size W W') : CmW w G X W' :=
  ⟨(hB.block _ (heap_lt h.gb)).trans h.gb, (hB.block _ (heap_lt h.rb)).trans h.rb, (hB.block _ (heap_lt h.xb)).trans h.xb, bel2 h.bel hB⟩
theorem CmW.start (w : World) (G X : Array Value) : CmW w G X (((w.alloc (.cells G 26)).alloc (.cells GZ 26)).alloc (.cells X 26)) := by
  have hA := two_a w G GZ 26 26
  have hB := two_b w G GZ 26 26
  have hC := bel_alloc (Below.refl _ ((w.alloc (.cells G 26)).alloc (.cells GZ 26))) (.cells X 26)
  have h4 := World.alloc_heap_new ((w.alloc (.cells G 26)).alloc (.cells GZ 26)) (.cells X 26)
  rw [World.size_alloc, World.size_alloc] at h4
  exact ⟨(hC.block _ (heap_lt hA)).trans hA, (hC.block _ (heap_lt hB)).trans hB, h4, bel_alloc (bel_alloc (bel_alloc (Below.refl _ _) _) _) _⟩
theorem CmW.set {w W : World} {G X : Array Value} (h : CmW w G X W) (i : Nat) (v : Value) : CmW w G (X.setIfInBounds i v) (W.setCell ⟨w.heap.size + 1 + 1, i, none⟩ v) :=
  have hF := FrameT.setCell W (w.heap.size + 1 + 1) i v
  ⟨hF.get h.gb (by show ¬ (w.heap.size = w.heap.size + 1 + 1); omega), hF.get h.rb (by show ¬ (w.heap.size + 1 = w.heap.size + 1 + 1); omega), heap_setCell_same _ _ i _ _ _ h.xb, h.bel.trans (hF.toBelow h.bel.size (fun k hk => by omega))⟩
theorem CmW.fin {w W : World} {G : Array Value} {v0 v1 v2 v3 v4 v5 v6 : Value} (h : CmW w G #[v0, v1, v2, v3, v4, v5, v6] W) :
    (st7 W (w.heap.size + 1) v0 v1 v2 v3 v4 v5 v6).heap[w.heap.size + 1]? = some (.cells #[v0, v1, v2, v3, v4, v5, v6] 26 (0, 0)) ∧ Below w.heap.size w (st7 W (w.heap.size + 1) v0 v1 v2 v3 v4 v5 v6) ∧ FrameT (fun k => k = w.heap.size + 1) W (st7 W (w.heap.size + 1) v0 v1 v2 v3 v4 v5 v6) :=
  ⟨st7_block h.rb v0 v1 v2 v3 v4 v5 v6, h.bel.trans ((st7_frame W (w.heap.size + 1) v0 v1 v2 v3 v4 v5 v6).toBelow h.bel.size (fun k h => by omega)), st7_frame W (w.heap.size + 1) v0 v1 v2 v3 v4 v5 v6⟩
/-- What compact makes. -/
def cmpM (g : GM) (i t : Int) : GM := if i < g.fi then g else ⟨g.id, i + 1, if t = 0 then entT g.l i else t, g.ht, g.hv, g.hc, froL g.l (i + 1)⟩
theorem cmpG_M {g : GM} {p : PartC} (hr : Ris g.l) : cmpG g p = cmpM g p.i p.t := by
  unfold cmpG cmpM; rw [froL_ris hr]

set_option maxRecDepth 100000 in
set_option maxHeartbeats 4000000 in
theorem refCmp_no (id fi te ht hv hc : Int) (l : List EntryC) (a : Option Addr) (cap : Nat) (i t : Int) (w : World) (hg : HasG w a ⟨id, fi, te, ht, hv, hc, l⟩) (hi : 1 ≤ i ∧ i ≤ 1099511627776) (h1 : i < fi) : Calls Try.prog 35 #[.agg #[.int .i64 id, .int .i64 fi, .int .i64 te, .int .i64 ht, .int .i64 hv, .int .i64 hc, .slice a l.length cap], .int .i64 i, .int .i64 t] w (RDoPost w a l.length ⟨id, fi, te, ht, hv, hc, l⟩) := by
  have hm := hg.1
  have hgr := hg.2
  dsimp only at hm
  have HGR := Lib.hid (fun W (hB : Below w.heap.size w W) => hgr.below hB)
  have hA := two_a w #[.int .i64 id, .int .i64 fi, .int .i64 te, .int .i64 ht, .int .i64 hv, .int .i64 hc, .slice a l.length cap] GZ 26 26
  have hB := two_b w #[.int .i64 id, .int .i64 fi, .int .i64 te, .int .i64 ht, .int .i64 hv, .int .i64 hc, .slice a l.length cap] GZ 26 26
  have hbel := gp_bel w #[.int .i64 id, .int .i64 fi, .int .i64 te, .int .i64 ht, .int .i64 hv, .int .i64 hc, .slice a l.length cap] GZ 26 26
  have HA := Lib.hid hA
  have HB := Lib.hid hB
  have HBEL := Lib.hid hbel
  clear hg hgr hA hB hbel
  go_enter Try.func35, Try.ntmps35
  go_upto_region 1 with (fail)
  have hA := HA.out
  have hB := HB.out
  have hbel0 := HBEL.out
  generalize ((w.alloc (.cells #[.int .i64 id, .int .i64 fi, .int .i64 te, .int .i64 ht, .int .i64 hv, .int .i64 hc, .slice a l.length cap] 26)).alloc (.cells GZ 26)) = wq at *
  obtain ⟨g0, g1, g2, g3, g4, g5, g6, -⟩ := cells7 hA
  obtain ⟨r0, r1, r2, r3, r4, r5, r6, fr⟩ := cells7 hB
  have hb7 := st7_block hB (.int .i64 id) (.int .i64 fi) (.int .i64 te) (.int .i64 ht) (.int .i64 hv) (.int .i64 hc) (.slice a l.length cap)
  have hF7 := st7_frame wq (w.heap.size + 1) (.int .i64 id) (.int .i64 fi) (.int .i64 te) (.int .i64 ht) (.int .i64 hv) (.int .i64 hc) (.slice a l.length cap)
  have hbel := hbel0.trans (hF7.toBelow hbel0.size (fun k h => by omega))
  go_wp2
  obtain ⟨e0, e1, e2, e3, e4, e5, e6, -⟩ := cells7 hb7
  refine bodyPost_ret (v := .agg #[.int .i64 id, .int .i64 fi, .int .i64 te, .int .i64 ht, .int .i64 hv, .int .i64 hc, .slice a l.length cap]) (by simp [results, Try.results35, go_sem, e0, e1, e2, e3, e4, e5, e6]) rfl ?_
  exact ⟨a, cap, rfl, ⟨hm, HGR.out _ hbel⟩, hbel, fun k hk => .inl hk⟩

set_option maxRecDepth 100000 in
set_option maxHeartbeats 4000000 in
theorem refCmp_t (id fi te ht hv hc : Int) (l : List EntryC) (a : Option Addr) (cap : Nat) (i t : Int) (w : World) (hg : HasG w a ⟨id, fi, te, ht, hv, hc, l⟩) (hi : 1 ≤ i ∧ i ≤ 1099511627776) (h1 : fi ≤ i) (ht0 : t ≠ 0) : Calls Try.prog 35 #[.agg #[.int .i64 id, .int .i64 fi, .int .i64 te, .int .i64 ht, .int .i64 hv, .int .i64 hc, .slice a l.length cap], .int .i64 i, .int .i64 t] w (RDoPost w a l.length ⟨id, i + 1, t, ht, hv, hc, froL l (i + 1)⟩) := by
  have hm := hg.1
  have hgr := hg.2
  have hcs := hg.2.2.2
  dsimp only at hm hgr hcs
  have HGR := Lib.hid (fun W (hB : Below w.heap.size w W) => hgr.below hB)
  have GA := Lib.hid (fun W (hB : Below w.heap.size w W) => (show Gives Try.prog 20 #[.agg #[.int .i64 id, .int .i64 fi, .int .i64 te, .int .i64 ht, .int .i64 hv, .int .i64 hc, .slice a l.length cap], .int .i64 i] W (.int .i64 (atM l i)) from by have := refAt_any id fi te ht hv hc l a cap i W (hg.below hB); exact this))
  have GF := Lib.hid (fun W (hR : RowV W a l.length 3 (entryCells l)) => refFrom_any l a cap (i + 1) W hm hR)
  have hLl := froL_le l (i + 1)
  generalize froL l (i + 1) = XL at *
  have HS := Lib.hid (CmW.start w #[.int .i64 id, .int .i64 fi, .int .i64 te, .int .i64 ht, .int .i64 hv, .int .i64 hc, .slice a l.length cap] #[.int .i64 id, .int .i64 fi, .int .i64 te, .int .i64 ht, .int .i64 hv, .int .i64 hc, .slice a l.length cap])
  obtain ⟨hi1, hi2⟩ := hi
  have ht1 : (t == 0) = false := by rw [beq_eq_false_iff_ne]; exact ht0
  generalize atM l i = at9 at *
  clear hg hgr hcs ht0
  go_enter Try.func35, Try.ntmps35
  go_upto_region 4 with (fail)
  have hD := HS.out
  generalize (((w.alloc (.cells #[.int .i64 id, .int .i64 fi, .int .i64 te, .int .i64 ht, .int .i64 hv, .int .i64 hc, .slice a l.length cap] 26)).alloc (.cells GZ 26)).alloc (.cells #[.int .i64 id, .int .i64 fi, .int .i64 te, .int .i64 ht, .int .i64 hv, .int .i64 hc, .slice a l.length cap] 26)) = wq at *
  obtain ⟨g0, g1, g2, g3, g4, g5, g6, -⟩ := cells7 hD.gb
  obtain ⟨x0, x1, x2, x3, x4, x5, x6, fx⟩ := cells7 hD.xb
  go_upto_region 5 with (fail)
  have hD2 := hD.set 2 (.int .i64 t)
  simp only [List.setIfInBounds_toArray, List.set_cons_succ, List.set_cons_zero] at hD2
  clear g0 g1 g2 g3 g4 g5 g6 x0 x1 x2 x3 x4 x5 x6 fx
  generalize (wq.setCell ⟨w.heap.size + 1 + 1, 2, none⟩ (.int .i64 t)) = wr at *
  obtain ⟨g0, g1, g2, g3, g4, g5, g6, -⟩ := cells7 hD2.gb
  obtain ⟨x0, x1, x2, x3, x4, x5, x6, fx⟩ := cells7 hD2.xb
  rcases Bool.eq_false_or_eq_true (decide (0 ≤ at9)) with ha0 | ha0
  all_goals
    go_upto_region 8 with (go_at_call 20; go_loud ((with_reducible refine (GA.out _ hD2.bel).mono ?_); rintro e w1 ⟨rfl, hB1⟩; have hD3 := hD2.after hB1; clear g0 g1 g2 g3 g4 g5 g6 x0 x1 x2 x3 x4 x5 x6 fx; obtain ⟨g0, g1, g2, g3, g4, g5, g6, -⟩ := cells7 hD3.gb; obtain ⟨x0, x1, x2, x3, x4, x5, x6, fx⟩ := cells7 hD3.xb))
    have hD4 := hD3
    obtain ⟨w2, rfl⟩ : ∃ w2, w2 = w1 := ⟨_, rfl⟩
    have hl4 := hD4.lt
    go_upto_region 9 with (go_at_call 34; go_loud ((with_reducible refine (GF.out _ (HGR.out _ hD4.bel)).mono ?_); rintro e w4 ⟨va, vc, rfl, hown4, hB4⟩; have hD5 := hD4.after hB4; clear g0 g1 g2 g3 g4 g5 g6 x0 x1 x2 x3 x4 x5 x6 fx; obtain ⟨g0, g1, g2, g3, g4, g5, g6, -⟩ := cells7 hD5.gb; obtain ⟨x0, x1, x2, x3, x4, x5, x6, fx⟩ := cells7 hD5.xb))
    have hD6 := (hD5.set 1 (.int .i64 (i + 1))).set 6 (.slice va XL.length vc)
    simp only [List.setIfInBounds_toArray, List.set_cons_succ, List.set_cons_zero] at hD6
    have hown6 := own_frame (own_frame hown4 (FrameT.setCell w4 (w.heap.size + 1 + 1) 1 (.int .i64 (i + 1))) (fun k hk h => by omega)) (FrameT.setCell _ (w.heap.size + 1 + 1) 6 (.slice va XL.length vc)) (fun k hk h => by omega)
    clear g0 g1 g2 g3 g4 g5 g6 x0 x1 x2 x3 x4 x5 x6 fx
    generalize ((w4.setCell ⟨w.heap.size + 1 + 1, 1, none⟩ (.int .i64 (i + 1))).setCell ⟨w.heap.size + 1 + 1, 6, none⟩ (.slice va XL.length vc)) = w6 at *
    obtain ⟨g0, g1, g2, g3, g4, g5, g6, -⟩ := cells7 hD6.gb
    obtain ⟨x0, x1, x2, x3, x4, x5, x6, fx⟩ := cells7 hD6.xb
    obtain ⟨r0, r1, r2, r3, r4, r5, r6, fr⟩ := cells7 hD6.rb
    go_wp2
    obtain ⟨hb7, hbel, hF7⟩ := hD6.fin
    obtain ⟨e0, e1, e2, e3, e4, e5, e6, -⟩ := cells7 hb7
    refine bodyPost_ret (v := .agg #[.int .i64 id, .int .i64 (i + 1), .int .i64 t, .int .i64 ht, .int .i64 hv, .int .i64 hc, .slice va XL.length vc]) (by simp [results, Try.results35, go_sem, e0, e1, e2, e3, e4, e5, e6]) rfl ?_
    obtain ⟨va', vc', hx9, -, hrow9⟩ := rowV_own (own_frame hown6 hF7 (fun k hk h => by omega))
    cases hx9
    exact ⟨va, vc, rfl, ⟨by show XL.length < 1000000; omega, hrow9⟩, hbel, fun k hk => .inr (by have := own_new hown6 k hk; omega)⟩

set_option maxRecDepth 100000 in
set_option maxHeartbeats 4000000 in
theorem refCmp_at (id fi te ht hv hc : Int) (l : List EntryC) (a : Option Addr) (cap : Nat) (i : Int) (w : World) (hg : HasG w a ⟨id, fi, te, ht, hv, hc, l⟩) (hi : 1 ≤ i ∧ i ≤ 1099511627776) (h1 : fi ≤ i) (q : Nat) (hq : q < l.length) (hat : atM l i = q) : Calls Try.prog 35 #[.agg #[.int .i64 id, .int .i64 fi, .int .i64 te, .int .i64 ht, .int .i64 hv, .int .i64 hc, .slice a l.length cap], .int .i64 i, .int .i64 0] w (RDoPost w a l.length ⟨id, i + 1, l[q].t, ht, hv, hc, froL l (i + 1)⟩) := by
  have hm := hg.1
  have hgr := hg.2
  have hcs := hg.2.2.2
  dsimp only at hm hgr hcs
  have HGR := Lib.hid (fun W (hB : Below w.heap.size w W) => hgr.below hB)
  obtain ⟨b, off, rfl, hbw, hx⟩ := hcs (by omega)
  have HX := Lib.hid (fun W (hB : Below w.heap.size w W) => entry_at hbw hB hx hq)
  have hk0 : (0 : Int) ≤ (q : Int) := by omega
  have hkl : (q : Int) < (l.length : Int) := by omega
  obtain ⟨⟨xi, xt, xd⟩, hx9⟩ : ∃ x, x = l[q] := ⟨_, rfl⟩
  rw [← hx9] at HX
  dsimp only at HX
  have hTE : l[q].t = xt := by rw [← hx9]
  rw [hTE]
  clear hx hx9 hTE
  have GA := Lib.hid (fun W (hB : Below w.heap.size w W) => (show Gives Try.prog 20 #[.agg #[.int .i64 id, .int .i64 fi, .int .i64 te, .int .i64 ht, .int .i64 hv, .int .i64 hc, .slice (some ⟨b, off, none⟩) l.length cap], .int .i64 i] W (.int .i64 (q : Int)) from by have := refAt_any id fi te ht hv hc l (some ⟨b, off, none⟩) cap i W (hg.below hB); rwa [hat] at this))
  have GF := Lib.hid (fun W (hR : RowV W (some ⟨b, off, none⟩) l.length 3 (entryCells l)) => refFrom_any l (some ⟨b, off, none⟩) cap (i + 1) W hm hR)
  have hLl := froL_le l (i + 1)
  generalize froL l (i + 1) = XL at *
  have HS := Lib.hid (CmW.start w #[.int .i64 id, .int .i64 fi, .int .i64 te, .int .i64 ht, .int .i64 hv, .int .i64 hc, .slice (some ⟨b, off, none⟩) l.length cap] #[.int .i64 id, .int .i64 fi, .int .i64 te, .int .i64 ht, .int .i64 hv, .int .i64 hc, .slice (some ⟨b, off, none⟩) l.length cap])
  obtain ⟨hi1, hi2⟩ := hi
  clear hg hgr hcs hat hbw
  go_enter Try.func35, Try.ntmps35
  go_upto_region 4 with (fail)
  have hD := HS.out
  generalize (((w.alloc (.cells #[.int .i64 id, .int .i64 fi, .int .i64 te, .int .i64 ht, .int .i64 hv, .int .i64 hc, .slice (some ⟨b, off, none⟩) l.length cap] 26)).alloc (.cells GZ 26)).alloc (.cells #[.int .i64 id, .int .i64 fi, .int .i64 te, .int .i64 ht, .int .i64 hv, .int .i64 hc, .slice (some ⟨b, off, none⟩) l.length cap] 26)) = wq at *
  obtain ⟨g0, g1, g2, g3, g4, g5, g6, -⟩ := cells7 hD.gb
  obtain ⟨x0, x1, x2, x3, x4, x5, x6, fx⟩ := cells7 hD.xb
  go_upto_region 5 with (fail)
  have hD2 := hD.set 2 (.int .i64 0)
  simp only [List.setIfInBounds_toArray, List.set_cons_succ, List.set_cons_zero] at hD2
  clear g0 g1 g2 g3 g4 g5 g6 x0 x1 x2 x3 x4 x5 x6 fx
  generalize (wq.setCell ⟨w.heap.size + 1 + 1, 2, none⟩ (.int .i64 0)) = wr at *
  obtain ⟨g0, g1, g2, g3, g4, g5, g6, -⟩ := cells7 hD2.gb
  obtain ⟨x0, x1, x2, x3, x4, x5, x6, fx⟩ := cells7 hD2.xb
  go_upto_region 8 with (go_at_call 20; go_loud ((with_reducible refine (GA.out _ hD2.bel).mono ?_); rintro e w1 ⟨rfl, hB1⟩; have hD3 := hD2.after hB1; clear g0 g1 g2 g3 g4 g5 g6 x0 x1 x2 x3 x4 x5 x6 fx; obtain ⟨g0, g1, g2, g3, g4, g5, g6, -⟩ := cells7 hD3.gb; obtain ⟨x0, x1, x2, x3, x4, x5, x6, fx⟩ := cells7 hD3.xb; obtain ⟨d0, d1, d2⟩ := HX.out _ hD3.bel))
  have hD4 := hD3.set 2 (.int .i64 xt)
  simp only [List.setIfInBounds_toArray, List.set_cons_succ, List.set_cons_zero] at hD4
  clear g0 g1 g2 g3 g4 g5 g6 x0 x1 x2 x3 x4 x5 x6 fx d0 d1 d2
  generalize (w1.setCell ⟨w.heap.size + 1 + 1, 2, none⟩ (.int .i64 xt)) = w2 at *
  obtain ⟨g0, g1, g2, g3, g4, g5, g6, -⟩ := cells7 hD4.gb
  obtain ⟨x0, x1, x2, x3, x4, x5, x6, fx⟩ := cells7 hD4.xb
  have hl4 := hD4.lt
  go_upto_region 9 with (go_at_call 34; go_loud ((with_reducible refine (GF.out _ (HGR.out _ hD4.bel)).mono ?_); rintro e w4 ⟨va, vc, rfl, hown4, hB4⟩; have hD5 := hD4.after hB4; clear g0 g1 g2 g3 g4 g5 g6 x0 x1 x2 x3 x4 x5 x6 fx; obtain ⟨g0, g1, g2, g3, g4, g5, g6, -⟩ := cells7 hD5.gb; obtain ⟨x0, x1, x2, x3, x4, x5, x6, fx⟩ := cells7 hD5.xb))
  have hD6 := (hD5.set 1 (.int .i64 (i + 1))).set 6 (.slice va XL.length vc)
  simp only [List.setIfInBounds_toArray, List.set_cons_succ, List.set_cons_zero] at hD6
  have hown6 := own_frame (own_frame hown4 (FrameT.setCell w4 (w.heap.size + 1 + 1) 1 (.int .i64 (i + 1))) (fun k hk h => by omega)) (FrameT.setCell _ (w.heap.size + 1 + 1) 6 (.slice va XL.length vc)) (fun k hk h => by omega)
  clear g0 g1 g2 g3 g4 g5 g6 x0 x1 x2 x3 x4 x5 x6 fx
  generalize ((w4.setCell ⟨w.heap.size + 1 + 1, 1, none⟩ (.int .i64 (i + 1))).setCell ⟨w.heap.size + 1 + 1, 6, none⟩ (.slice va XL.length vc)) = w6 at *
  obtain ⟨g0, g1, g2, g3, g4, g5, g6, -⟩ := cells7 hD6.gb
  obtain ⟨x0, x1, x2, x3, x4, x5, x6, fx⟩ := cells7 hD6.xb
  obtain ⟨r0, r1, r2, r3, r4, r5, r6, fr⟩ := cells7 hD6.rb
  go_wp2
  obtain ⟨hb7, hbel, hF7⟩ := hD6.fin
  obtain ⟨e0, e1, e2, e3, e4, e5, e6, -⟩ := cells7 hb7
  refine bodyPost_ret (v := .agg #[.int .i64 id, .int .i64 (i + 1), .int .i64 xt, .int .i64 ht, .int .i64 hv, .int .i64 hc, .slice va XL.length vc]) (by simp [results, Try.results35, go_sem, e0, e1, e2, e3, e4, e5, e6]) rfl ?_
  obtain ⟨va', vc', hx9, -, hrow9⟩ := rowV_own (own_frame hown6 hF7 (fun k hk h => by omega))
  cases hx9
  exact ⟨va, vc, rfl, ⟨by show XL.length < 1000000; omega, hrow9⟩, hbel, fun k hk => .inr (by have := own_new hown6 k hk; omega)⟩

set_option maxRecDepth 100000 in
set_option maxHeartbeats 4000000 in
theorem refCmp_z (id fi te ht hv hc : Int) (l : List EntryC) (a : Option Addr) (cap : Nat) (i : Int) (w : World) (hg : HasG w a ⟨id, fi, te, ht, hv, hc, l⟩) (hi : 1 ≤ i ∧ i ≤ 1099511627776) (h1 : fi ≤ i) (hat : ¬ 0 ≤ atM l i) : Calls Try.prog 35 #[.agg #[.int .i64 id, .int .i64 fi, .int .i64 te, .int .i64 ht, .int .i64 hv, .int .i64 hc, .slice a l.length cap], .int .i64 i, .int .i64 0] w (RDoPost w a l.length ⟨id, i + 1, 0, ht, hv, hc, froL l (i + 1)⟩) := by
  have hm := hg.1
  have hgr := hg.2
  have hcs := hg.2.2.2
  dsimp only at hm hgr hcs
  have HGR := Lib.hid (fun W (hB : Below w.heap.size w W) => hgr.below hB)
  have GA := Lib.hid (fun W (hB : Below w.heap.size w W) => (show Gives Try.prog 20 #[.agg #[.int .i64 id, .int .i64 fi, .int .i64 te, .int .i64 ht, .int .i64 hv, .int .i64 hc, .slice a l.length cap], .int .i64 i] W (.int .i64 (atM l i)) from by have := refAt_any id fi te ht hv hc l a cap i W (hg.below hB); exact this))
  have GF := Lib.hid (fun W (hR : RowV W a l.length 3 (entryCells l)) => refFrom_any l a cap (i + 1) W hm hR)
  have hLl := froL_le l (i + 1)
  generalize froL l (i + 1) = XL at *
  have HS := Lib.hid (CmW.start w #[.int .i64 id, .int .i64 fi, .int .i64 te, .int .i64 ht, .int .i64 hv, .int .i64 hc, .slice a l.length cap] #[.int .i64 id, .int .i64 fi, .int .i64 te, .int .i64 ht, .int .i64 hv, .int .i64 hc, .slice a l.length cap])
  obtain ⟨hi1, hi2⟩ := hi
  have ha9 : atM l i < 0 := by omega
  generalize atM l i = at9 at *
  clear hg hgr hcs hat
  go_enter Try.func35, Try.ntmps35
  go_upto_region 4 with (fail)
  have hD := HS.out
  generalize (((w.alloc (.cells #[.int .i64 id, .int .i64 fi, .int .i64 te, .int .i64 ht, .int .i64 hv, .int .i64 hc, .slice a l.length cap] 26)).alloc (.cells GZ 26)).alloc (.cells #[.int .i64 id, .int .i64 fi, .int .i64 te, .int .i64 ht, .int .i64 hv, .int .i64 hc, .slice a l.length cap] 26)) = wq at *
  obtain ⟨g0, g1, g2, g3, g4, g5, g6, -⟩ := cells7 hD.gb
  obtain ⟨x0, x1, x2, x3, x4, x5, x6, fx⟩ := cells7 hD.xb
  go_upto_region 5 with (fail)
  have hD2 := hD.set 2 (.int .i64 0)
  simp only [List.setIfInBounds_toArray, List.set_cons_succ, List.set_cons_zero] at hD2
  clear g0 g1 g2 g3 g4 g5 g6 x0 x1 x2 x3 x4 x5 x6 fx
  generalize (wq.setCell ⟨w.heap.size + 1 + 1, 2, none⟩ (.int .i64 0)) = wr at *
  obtain ⟨g0, g1, g2, g3, g4, g5, g6, -⟩ := cells7 hD2.gb
  obtain ⟨x0, x1, x2, x3, x4, x5, x6, fx⟩ := cells7 hD2.xb
  go_upto_region 8 with (go_at_call 20; go_loud ((with_reducible refine (GA.out _ hD2.bel).mono ?_); rintro e w1 ⟨rfl, hB1⟩; have hD3 := hD2.after hB1; clear g0 g1 g2 g3 g4 g5 g6 x0 x1 x2 x3 x4 x5 x6 fx; obtain ⟨g0, g1, g2, g3, g4, g5, g6, -⟩ := cells7 hD3.gb; obtain ⟨x0, x1, x2, x3, x4, x5, x6, fx⟩ := cells7 hD3.xb))
  have hD4 := hD3
  obtain ⟨w2, rfl⟩ : ∃ w2, w2 = w1 := ⟨_, rfl⟩
  have hl4 := hD4.lt
  go_upto_region 9 with (go_at_call 34; go_loud ((with_reducible refine (GF.out _ (HGR.out _ hD4.bel)).mono ?_); rintro e w4 ⟨va, vc, rfl, hown4, hB4⟩; have hD5 := hD4.after hB4; clear g0 g1 g2 g3 g4 g5 g6 x0 x1 x2 x3 x4 x5 x6 fx; obtain ⟨g0, g1, g2, g3, g4, g5, g6, -⟩ := cells7 hD5.gb; obtain ⟨x0, x1, x2, x3, x4, x5, x6, fx⟩ := cells7 hD5.xb))
  have hD6 := (hD5.set 1 (.int .i64 (i + 1))).set 6 (.slice va XL.length vc)
  simp only [List.setIfInBounds_toArray, List.set_cons_succ, List.set_cons_zero] at hD6
  have hown6 := own_frame (own_frame hown4 (FrameT.setCell w4 (w.heap.size + 1 + 1) 1 (.int .i64 (i + 1))) (fun k hk h => by omega)) (FrameT.setCell _ (w.heap.size + 1 + 1) 6 (.slice va XL.length vc)) (fun k hk h => by omega)
  clear g0 g1 g2 g3 g4 g5 g6 x0 x1 x2 x3 x4 x5 x6 fx
  generalize ((w4.setCell ⟨w.heap.size + 1 + 1, 1, none⟩ (.int .i64 (i + 1))).setCell ⟨w.heap.size + 1 + 1, 6, none⟩ (.slice va XL.length vc)) = w6 at *
  obtain ⟨g0, g1, g2, g3, g4, g5, g6, -⟩ := cells7 hD6.gb
  obtain ⟨x0, x1, x2, x3, x4, x5, x6, fx⟩ := cells7 hD6.xb
  obtain ⟨r0, r1, r2, r3, r4, r5, r6, fr⟩ := cells7 hD6.rb
  go_wp2
  obtain ⟨hb7, hbel, hF7⟩ := hD6.fin
  obtain ⟨e0, e1, e2, e3, e4, e5, e6, -⟩ := cells7 hb7
  refine bodyPost_ret (v := .agg #[.int .i64 id, .int .i64 (i + 1), .int .i64 0, .int .i64 ht, .int .i64 hv, .int .i64 hc, .slice va XL.length vc]) (by simp [results, Try.results35, go_sem, e0, e1, e2, e3, e4, e5, e6]) rfl ?_
  obtain ⟨va', vc', hx9, -, hrow9⟩ := rowV_own (own_frame hown6 hF7 (fun k hk h => by omega))
  cases hx9
  exact ⟨va, vc, rfl, ⟨by show XL.length < 1000000; omega, hrow9⟩, hbel, fun k hk => .inr (by have := own_new hown6 k hk; omega)⟩

theorem refCmp_any (id fi te ht hv hc : Int) (l : List EntryC) (a : Option Addr) (cap : Nat) (i t : Int) (w : World) (hg : HasG w a ⟨id, fi, te, ht, hv, hc, l⟩) (hr : Ris l) (hi : 1 ≤ i ∧ i ≤ 1099511627776) : Calls Try.prog 35 #[.agg #[.int .i64 id, .int .i64 fi, .int .i64 te, .int .i64 ht, .int .i64 hv, .int .i64 hc, .slice a l.length cap], .int .i64 i, .int .i64 t] w (RDoPost w a l.length (cmpM ⟨id, fi, te, ht, hv, hc, l⟩ i t)) := by
  unfold cmpM
  dsimp only
  by_cases h1 : i < fi
  · rw [if_pos h1]; exact refCmp_no id fi te ht hv hc l a cap i t w hg hi h1
  · rw [if_neg h1]
    by_cases ht0 : t = 0
    · subst ht0
      rw [if_pos rfl]
      by_cases hat : 0 ≤ atM l i
      · obtain ⟨q, hq, e1, -, e2⟩ := (entT_at hr).1 hat
        rw [e2]
        exact refCmp_at id fi te ht hv hc l a cap i w hg hi (by omega) q hq e1
      · rw [(entT_at hr).2 hat]
        exact refCmp_z id fi te ht hv hc l a cap i w hg hi (by omega) hat
    · rw [if_neg ht0]
      exact refCmp_t id fi te ht hv hc l a cap i t w hg hi (by omega) ht0

end Go.Proofs.Ytfbibpnkfmgkaaa
