/- The contract of the document's Loose. -/
import Derived.Test.YtfbibpnkfmgkaaaRef6g
import Derived.Test.YtfbibpnkfmgkaaaRef6s
import Derived.Deep.RegionHeld3
import Derived.Deep.AppendLies
import Derived.StillTactics
import Derived.Deep.Cut
namespace Go.Proofs.Ytfbibpnkfmgkaaa
open Go.RowKit Go.Shelf
set_option linter.unusedVariables false
attribute [local go_sem] Oper.semAt_some wide_fn wide_round_fn

attribute [local irreducible] wpQuiet
/-- The boxes of Loose: the group, the part, the result, and at Y what it makes. -/
structure LoW (w : World) (Y : Nat) (G P X : Array Value) (W : World) : Prop where
  d : DoW w G P W
  xb : W.heap[Y]? = some (.cells X 26 (0, 0))
  ya : w.heap.size + 3 ≤ Y
theorem LoW.lt {w W : World} {Y : Nat} {G P X : Array Value} (h : LoW w Y G P X W) : Y < W.heap.size := heap_lt h.xb
theorem LoW.after {w W W' : World} {Y : Nat} {G P X : Array Value} (h : LoW w Y G P X W) (hB : Below W.heap.size W W') : LoW w Y G P X W' := ⟨h.d.after hB, (hB.block _ (heap_lt h.xb)).trans h.xb, h.ya⟩
theorem LoW.set {w W : World} {Y : Nat} {G P X : Array Value} (h : LoW w Y G P X W) (i : Nat) (v : Value) : LoW w Y G P (X.setIfInBounds i v) (W.setCell ⟨Y, i, none⟩ v) :=
  ⟨h.d.far h.ya i v, heap_setCell_same _ _ i _ _ _ h.xb, h.ya⟩
theorem LoW.grown {w W W' : World} {Y : Nat} {G P X : Array Value} {row : Option Nat} (h : LoW w Y G P X W) (hg : W.grownBy W' row) (hr : ∀ k, row = some k → Y < k) : LoW w Y G P X W' :=
  ⟨h.d.grown hg (fun k e => by have := hr k e; have := h.ya; omega), (hg.block _ (heap_lt h.xb) (fun e => by have := hr _ e.symm; omega)).trans h.xb, h.ya⟩
theorem DoW.endR {w W : World} {G P : Array Value} (v0 v1 v2 v3 v4 v5 v6 : Value) (h : DoW w G P W) :
    (st7 W (w.heap.size + 1 + 1) v0 v1 v2 v3 v4 v5 v6).heap[w.heap.size + 1 + 1]? = some (.cells #[v0, v1, v2, v3, v4, v5, v6] 26 (0, 0)) ∧ Below w.heap.size w (st7 W (w.heap.size + 1 + 1) v0 v1 v2 v3 v4 v5 v6) ∧ FrameT (fun k => k = w.heap.size + 1 + 1) W (st7 W (w.heap.size + 1 + 1) v0 v1 v2 v3 v4 v5 v6) :=
  ⟨st7_block h.rb v0 v1 v2 v3 v4 v5 v6, h.bel.trans ((st7_frame W (w.heap.size + 1 + 1) v0 v1 v2 v3 v4 v5 v6).toBelow h.bel.size (fun k h => by omega)), st7_frame W (w.heap.size + 1 + 1) v0 v1 v2 v3 v4 v5 v6⟩
theorem RDoW_up {w W W' : World} {a0 a : Option Addr} {n0 n : Nat} (h : ∀ k, inBlkE a n k → inBlkE a0 n0 k ∨ W.heap.size ≤ k) (hW : w.heap.size ≤ W.heap.size) : ∀ k, inBlkE a n k → inBlkE a0 n0 k ∨ w.heap.size ≤ k := fun k hk => (h k hk).imp (fun x => x) (fun x => by omega)

set_option maxRecDepth 100000 in
set_option maxHeartbeats 4000000 in
theorem refLoose_A (id fi te ht hv hc : Int) (l : List EntryC) (a : Option Addr) (cap : Nat) (pg : Int) (pk : Int) (pa : Option Addr) (plen pcap : Nat) (pht phv phc pi pt : Int) (pm ph : Bool) (pl : List EntryC) (w : World) (hg : HasG w a ⟨id, fi, te, ht, hv, hc, l⟩) (hp : HasE w ⟨pg, pk, pa, plen, pcap, pht, phv, phc, pi, pt, pm, ph⟩ pl) (h30 : l.length ≤ 100000) (hI : isSp ⟨id, fi, te, ht, hv, hc, l⟩ = false) : Calls Try.prog 18 #[.agg #[.int .i64 id, .int .i64 fi, .int .i64 te, .int .i64 ht, .int .i64 hv, .int .i64 hc, .slice a l.length cap], .agg #[.int .i64 pg, .int .i64 pk, .slice pa plen pcap, .int .i64 pht, .int .i64 phv, .int .i64 phc, .int .i64 pi, .int .i64 pt, .bool pm, .bool ph]] w (RDoPost w a l.length ⟨id, fi, te, ht, hv, hc, l⟩) := by
  have GI := Lib.hid (fun W (hB : Below w.heap.size w W) => (show Gives Try.prog 14 #[.agg #[.int .i64 id, .int .i64 fi, .int .i64 te, .int .i64 ht, .int .i64 hv, .int .i64 hc, .slice a l.length cap]] W (.bool false) from by have := refIsSp_any id fi te ht hv hc l a cap W (hg.below hB); rwa [hI] at this))
  have HS := Lib.hid (DoW.start w #[.int .i64 id, .int .i64 fi, .int .i64 te, .int .i64 ht, .int .i64 hv, .int .i64 hc, .slice a l.length cap] #[.int .i64 pg, .int .i64 pk, .slice pa plen pcap, .int .i64 pht, .int .i64 phv, .int .i64 phc, .int .i64 pi, .int .i64 pt, .bool pm, .bool ph])
  have hm := hg.1
  have hgr := hg.2
  dsimp only at hm hgr
  have HG := Lib.hid (fun W (hB : Below w.heap.size w W) => hg.below hB)
  clear hg hp hgr hI
  go_enter Try.func18, Try.ntmps18
  go_upto_region 2 with (go_at_call 14; ((with_reducible refine (GI.out _ HS.out.bel).mono ?_); rintro e w1 ⟨rfl, hB1⟩; have hD1 := HS.out.after hB1; obtain ⟨g0, g1, g2, g3, g4, g5, g6, -⟩ := cells7 hD1.gb; obtain ⟨p1, p2, p3, p4, p5, p6, p7⟩ := cells10 hD1.pb; have p0 := cell_of_row _ _ 0 _ _ _ hD1.pb; have p8 := cell_of_row _ _ 8 _ _ _ hD1.pb; have p9 := cell_of_row _ _ 9 _ _ _ hD1.pb))
  obtain ⟨wq, rfl⟩ : ∃ wq, wq = w1 := ⟨_, rfl⟩
  obtain ⟨r0, r1, r2, r3, r4, r5, r6, fr⟩ := cells7 hD1.rb
  obtain ⟨hb7, hbel, hF7⟩ := DoW.endR (.int .i64 id) (.int .i64 fi) (.int .i64 te) (.int .i64 ht) (.int .i64 hv) (.int .i64 hc) (.slice a l.length cap) hD1
  go_wp2
  obtain ⟨e0, e1, e2, e3, e4, e5, e6, -⟩ := cells7 hb7
  refine bodyPost_ret (v := .agg #[.int .i64 id, .int .i64 fi, .int .i64 te, .int .i64 ht, .int .i64 hv, .int .i64 hc, .slice a l.length cap]) (by simp [results, Try.results18, go_sem, e0, e1, e2, e3, e4, e5, e6]) rfl ?_
  exact ⟨a, cap, rfl, ⟨hm, (HG.out _ hbel).2⟩, hbel, fun k hk => .inl hk⟩

set_option maxRecDepth 100000 in
set_option maxHeartbeats 4000000 in
theorem refLoose_B (id fi te ht hv hc : Int) (l : List EntryC) (a : Option Addr) (cap : Nat) (pg : Int) (pk : Int) (pa : Option Addr) (plen pcap : Nat) (pht phv phc pi pt : Int) (pm ph : Bool) (pl : List EntryC) (w : World) (hg : HasG w a ⟨id, fi, te, ht, hv, hc, l⟩) (hp : HasE w ⟨pg, pk, pa, plen, pcap, pht, phv, phc, pi, pt, pm, ph⟩ pl) (h30 : l.length ≤ 100000) (hI : isSp ⟨id, fi, te, ht, hv, hc, l⟩ = true) (hBB : isB ⟨pg, pk, pa, plen, pcap, pht, phv, phc, pi, pt, pm, ph⟩ pl = false) : Calls Try.prog 18 #[.agg #[.int .i64 id, .int .i64 fi, .int .i64 te, .int .i64 ht, .int .i64 hv, .int .i64 hc, .slice a l.length cap], .agg #[.int .i64 pg, .int .i64 pk, .slice pa plen pcap, .int .i64 pht, .int .i64 phv, .int .i64 phc, .int .i64 pi, .int .i64 pt, .bool pm, .bool ph]] w (RDoPost w a l.length ⟨id, fi, te, ht, hv, hc, l⟩) := by
  have GI := Lib.hid (fun W (hB : Below w.heap.size w W) => (show Gives Try.prog 14 #[.agg #[.int .i64 id, .int .i64 fi, .int .i64 te, .int .i64 ht, .int .i64 hv, .int .i64 hc, .slice a l.length cap]] W (.bool true) from by have := refIsSp_any id fi te ht hv hc l a cap W (hg.below hB); rwa [hI] at this))
  have GP := Lib.hid (fun W (hB : Below w.heap.size w W) => (show Gives Try.prog 22 #[.agg #[.int .i64 pg, .int .i64 pk, .slice pa plen pcap, .int .i64 pht, .int .i64 phv, .int .i64 phc, .int .i64 pi, .int .i64 pt, .bool pm, .bool ph]] W (.bool false) from by have := refIs_any ⟨pg, pk, pa, plen, pcap, pht, phv, phc, pi, pt, pm, ph⟩ pl W (hp.below hB); rwa [hBB] at this))
  have HS := Lib.hid (DoW.start w #[.int .i64 id, .int .i64 fi, .int .i64 te, .int .i64 ht, .int .i64 hv, .int .i64 hc, .slice a l.length cap] #[.int .i64 pg, .int .i64 pk, .slice pa plen pcap, .int .i64 pht, .int .i64 phv, .int .i64 phc, .int .i64 pi, .int .i64 pt, .bool pm, .bool ph])
  have hm := hg.1
  have hgr := hg.2
  dsimp only at hm hgr
  have HG := Lib.hid (fun W (hB : Below w.heap.size w W) => hg.below hB)
  clear hg hp hgr hI hBB
  go_enter Try.func18, Try.ntmps18
  go_upto_region 2 with (first | (go_at_call 14; ((with_reducible refine (GI.out _ HS.out.bel).mono ?_); rintro e w1 ⟨rfl, hB1⟩; have hD1 := HS.out.after hB1; obtain ⟨g0, g1, g2, g3, g4, g5, g6, -⟩ := cells7 hD1.gb; obtain ⟨p1, p2, p3, p4, p5, p6, p7⟩ := cells10 hD1.pb; have p0 := cell_of_row _ _ 0 _ _ _ hD1.pb; have p8 := cell_of_row _ _ 8 _ _ _ hD1.pb; have p9 := cell_of_row _ _ 9 _ _ _ hD1.pb)) | (go_at_call 22; ((with_reducible refine (GP.out _ hD1.bel).mono ?_); rintro e w2 ⟨rfl, hB2⟩; have hD2 := hD1.after hB2; clear g0 g1 g2 g3 g4 g5 g6 p0 p1 p2 p3 p4 p5 p6 p7 p8 p9; obtain ⟨g0, g1, g2, g3, g4, g5, g6, -⟩ := cells7 hD2.gb; obtain ⟨p1, p2, p3, p4, p5, p6, p7⟩ := cells10 hD2.pb; have p0 := cell_of_row _ _ 0 _ _ _ hD2.pb; have p8 := cell_of_row _ _ 8 _ _ _ hD2.pb; have p9 := cell_of_row _ _ 9 _ _ _ hD2.pb)))
  obtain ⟨wq, rfl⟩ : ∃ wq, wq = w2 := ⟨_, rfl⟩
  obtain ⟨r0, r1, r2, r3, r4, r5, r6, fr⟩ := cells7 hD2.rb
  obtain ⟨hb7, hbel, hF7⟩ := DoW.endR (.int .i64 id) (.int .i64 fi) (.int .i64 te) (.int .i64 ht) (.int .i64 hv) (.int .i64 hc) (.slice a l.length cap) hD2
  go_wp2
  obtain ⟨e0, e1, e2, e3, e4, e5, e6, -⟩ := cells7 hb7
  refine bodyPost_ret (v := .agg #[.int .i64 id, .int .i64 fi, .int .i64 te, .int .i64 ht, .int .i64 hv, .int .i64 hc, .slice a l.length cap]) (by simp [results, Try.results18, go_sem, e0, e1, e2, e3, e4, e5, e6]) rfl ?_
  exact ⟨a, cap, rfl, ⟨hm, (HG.out _ hbel).2⟩, hbel, fun k hk => .inl hk⟩

set_option maxRecDepth 100000 in
set_option maxHeartbeats 4000000 in
theorem refLoose_C (id fi te ht hv hc : Int) (l : List EntryC) (a : Option Addr) (cap : Nat) (pg : Int) (pk : Int) (pa : Option Addr) (plen pcap : Nat) (pht phv phc pi pt : Int) (pm ph : Bool) (pl : List EntryC) (w : World) (hg : HasG w a ⟨id, fi, te, ht, hv, hc, l⟩) (hp : HasE w ⟨pg, pk, pa, plen, pcap, pht, phv, phc, pi, pt, pm, ph⟩ pl) (h30 : l.length ≤ 100000) (hI : isSp ⟨id, fi, te, ht, hv, hc, l⟩ = true) (hBB : isB ⟨pg, pk, pa, plen, pcap, pht, phv, phc, pi, pt, pm, ph⟩ pl = true) (hne : pg ≠ id) : Calls Try.prog 18 #[.agg #[.int .i64 id, .int .i64 fi, .int .i64 te, .int .i64 ht, .int .i64 hv, .int .i64 hc, .slice a l.length cap], .agg #[.int .i64 pg, .int .i64 pk, .slice pa plen pcap, .int .i64 pht, .int .i64 phv, .int .i64 phc, .int .i64 pi, .int .i64 pt, .bool pm, .bool ph]] w (RDoPost w a l.length ⟨id, fi, te, ht, hv, hc, l⟩) := by
  have GI := Lib.hid (fun W (hB : Below w.heap.size w W) => (show Gives Try.prog 14 #[.agg #[.int .i64 id, .int .i64 fi, .int .i64 te, .int .i64 ht, .int .i64 hv, .int .i64 hc, .slice a l.length cap]] W (.bool true) from by have := refIsSp_any id fi te ht hv hc l a cap W (hg.below hB); rwa [hI] at this))
  have GP := Lib.hid (fun W (hB : Below w.heap.size w W) => (show Gives Try.prog 22 #[.agg #[.int .i64 pg, .int .i64 pk, .slice pa plen pcap, .int .i64 pht, .int .i64 phv, .int .i64 phc, .int .i64 pi, .int .i64 pt, .bool pm, .bool ph]] W (.bool true) from by have := refIs_any ⟨pg, pk, pa, plen, pcap, pht, phv, phc, pi, pt, pm, ph⟩ pl W (hp.below hB); rwa [hBB] at this))
  have HS := Lib.hid (DoW.start w #[.int .i64 id, .int .i64 fi, .int .i64 te, .int .i64 ht, .int .i64 hv, .int .i64 hc, .slice a l.length cap] #[.int .i64 pg, .int .i64 pk, .slice pa plen pcap, .int .i64 pht, .int .i64 phv, .int .i64 phc, .int .i64 pi, .int .i64 pt, .bool pm, .bool ph])
  have hm := hg.1
  have hgr := hg.2
  dsimp only at hm hgr
  have HG := Lib.hid (fun W (hB : Below w.heap.size w W) => hg.below hB)
  have hn1 : (pg != id) = true := by rw [bne_iff_ne]; exact hne
  have hn2 : (pg == id) = false := by rw [beq_eq_false_iff_ne]; exact hne
  clear hg hp hgr hI hBB hne
  go_enter Try.func18, Try.ntmps18
  go_upto_region 2 with (first | (go_at_call 14; ((with_reducible refine (GI.out _ HS.out.bel).mono ?_); rintro e w1 ⟨rfl, hB1⟩; have hD1 := HS.out.after hB1; obtain ⟨g0, g1, g2, g3, g4, g5, g6, -⟩ := cells7 hD1.gb; obtain ⟨p1, p2, p3, p4, p5, p6, p7⟩ := cells10 hD1.pb; have p0 := cell_of_row _ _ 0 _ _ _ hD1.pb; have p8 := cell_of_row _ _ 8 _ _ _ hD1.pb; have p9 := cell_of_row _ _ 9 _ _ _ hD1.pb)) | (go_at_call 22; ((with_reducible refine (GP.out _ hD1.bel).mono ?_); rintro e w2 ⟨rfl, hB2⟩; have hD2 := hD1.after hB2; clear g0 g1 g2 g3 g4 g5 g6 p0 p1 p2 p3 p4 p5 p6 p7 p8 p9; obtain ⟨g0, g1, g2, g3, g4, g5, g6, -⟩ := cells7 hD2.gb; obtain ⟨p1, p2, p3, p4, p5, p6, p7⟩ := cells10 hD2.pb; have p0 := cell_of_row _ _ 0 _ _ _ hD2.pb; have p8 := cell_of_row _ _ 8 _ _ _ hD2.pb; have p9 := cell_of_row _ _ 9 _ _ _ hD2.pb)))
  obtain ⟨wq, rfl⟩ : ∃ wq, wq = w2 := ⟨_, rfl⟩
  obtain ⟨r0, r1, r2, r3, r4, r5, r6, fr⟩ := cells7 hD2.rb
  obtain ⟨hb7, hbel, hF7⟩ := DoW.endR (.int .i64 id) (.int .i64 fi) (.int .i64 te) (.int .i64 ht) (.int .i64 hv) (.int .i64 hc) (.slice a l.length cap) hD2
  go_wp2
  obtain ⟨e0, e1, e2, e3, e4, e5, e6, -⟩ := cells7 hb7
  refine bodyPost_ret (v := .agg #[.int .i64 id, .int .i64 fi, .int .i64 te, .int .i64 ht, .int .i64 hv, .int .i64 hc, .slice a l.length cap]) (by simp [results, Try.results18, go_sem, e0, e1, e2, e3, e4, e5, e6]) rfl ?_
  exact ⟨a, cap, rfl, ⟨hm, (HG.out _ hbel).2⟩, hbel, fun k hk => .inl hk⟩

set_option maxRecDepth 100000 in
set_option maxHeartbeats 4000000 in
theorem refLoose_5 (id fi te ht hv hc : Int) (l : List EntryC) (a : Option Addr) (cap : Nat) (pa : Option Addr) (plen pcap : Nat) (pht phv phc pi pt : Int) (pm ph : Bool) (pl : List EntryC) (w : World) (hg : HasG w a ⟨id, fi, te, ht, hv, hc, l⟩) (hp : HasE w ⟨id, 5, pa, plen, pcap, pht, phv, phc, pi, pt, pm, ph⟩ pl) (h30 : l.length ≤ 100000) (hI : isSp ⟨id, fi, te, ht, hv, hc, l⟩ = true) (hBB : isB ⟨id, 5, pa, plen, pcap, pht, phv, phc, pi, pt, pm, ph⟩ pl = true) : Calls Try.prog 18 #[.agg #[.int .i64 id, .int .i64 fi, .int .i64 te, .int .i64 ht, .int .i64 hv, .int .i64 hc, .slice a l.length cap], .agg #[.int .i64 id, .int .i64 5, .slice pa plen pcap, .int .i64 pht, .int .i64 phv, .int .i64 phc, .int .i64 pi, .int .i64 pt, .bool pm, .bool ph]] w (RDoPost w a l.length ⟨id, fi, te, ht, hv, hc, l⟩) := by
  have GI := Lib.hid (fun W (hB : Below w.heap.size w W) => (show Gives Try.prog 14 #[.agg #[.int .i64 id, .int .i64 fi, .int .i64 te, .int .i64 ht, .int .i64 hv, .int .i64 hc, .slice a l.length cap]] W (.bool true) from by have := refIsSp_any id fi te ht hv hc l a cap W (hg.below hB); rwa [hI] at this))
  have GP := Lib.hid (fun W (hB : Below w.heap.size w W) => (show Gives Try.prog 22 #[.agg #[.int .i64 id, .int .i64 5, .slice pa plen pcap, .int .i64 pht, .int .i64 phv, .int .i64 phc, .int .i64 pi, .int .i64 pt, .bool pm, .bool ph]] W (.bool true) from by have := refIs_any ⟨id, 5, pa, plen, pcap, pht, phv, phc, pi, pt, pm, ph⟩ pl W (hp.below hB); rwa [hBB] at this))
  have HS := Lib.hid (DoW.start w #[.int .i64 id, .int .i64 fi, .int .i64 te, .int .i64 ht, .int .i64 hv, .int .i64 hc, .slice a l.length cap] #[.int .i64 id, .int .i64 5, .slice pa plen pcap, .int .i64 pht, .int .i64 phv, .int .i64 phc, .int .i64 pi, .int .i64 pt, .bool pm, .bool ph])
  have hm := hg.1
  have hgr := hg.2
  dsimp only at hm hgr
  have HG := Lib.hid (fun W (hB : Below w.heap.size w W) => hg.below hB)
  clear hg hp hgr hI hBB
  go_enter Try.func18, Try.ntmps18
  go_upto_region 2 with (first | (go_at_call 14; ((with_reducible refine (GI.out _ HS.out.bel).mono ?_); rintro e w1 ⟨rfl, hB1⟩; have hD1 := HS.out.after hB1; obtain ⟨g0, g1, g2, g3, g4, g5, g6, -⟩ := cells7 hD1.gb; obtain ⟨p1, p2, p3, p4, p5, p6, p7⟩ := cells10 hD1.pb; have p0 := cell_of_row _ _ 0 _ _ _ hD1.pb; have p8 := cell_of_row _ _ 8 _ _ _ hD1.pb; have p9 := cell_of_row _ _ 9 _ _ _ hD1.pb)) | (go_at_call 22; ((with_reducible refine (GP.out _ hD1.bel).mono ?_); rintro e w2 ⟨rfl, hB2⟩; have hD2 := hD1.after hB2; clear g0 g1 g2 g3 g4 g5 g6 p0 p1 p2 p3 p4 p5 p6 p7 p8 p9; obtain ⟨g0, g1, g2, g3, g4, g5, g6, -⟩ := cells7 hD2.gb; obtain ⟨p1, p2, p3, p4, p5, p6, p7⟩ := cells10 hD2.pb; have p0 := cell_of_row _ _ 0 _ _ _ hD2.pb; have p8 := cell_of_row _ _ 8 _ _ _ hD2.pb; have p9 := cell_of_row _ _ 9 _ _ _ hD2.pb)))
  obtain ⟨wq, rfl⟩ : ∃ wq, wq = w2 := ⟨_, rfl⟩
  obtain ⟨r0, r1, r2, r3, r4, r5, r6, fr⟩ := cells7 hD2.rb
  obtain ⟨hb7, hbel, hF7⟩ := DoW.endR (.int .i64 id) (.int .i64 fi) (.int .i64 te) (.int .i64 ht) (.int .i64 hv) (.int .i64 hc) (.slice a l.length cap) hD2
  go_wp2
  obtain ⟨e0, e1, e2, e3, e4, e5, e6, -⟩ := cells7 hb7
  refine bodyPost_ret (v := .agg #[.int .i64 id, .int .i64 fi, .int .i64 te, .int .i64 ht, .int .i64 hv, .int .i64 hc, .slice a l.length cap]) (by simp [results, Try.results18, go_sem, e0, e1, e2, e3, e4, e5, e6]) rfl ?_
  exact ⟨a, cap, rfl, ⟨hm, (HG.out _ hbel).2⟩, hbel, fun k hk => .inl hk⟩

set_option maxRecDepth 100000 in
set_option maxHeartbeats 4000000 in
theorem refLoose_3 (id fi te ht hv hc : Int) (l : List EntryC) (a : Option Addr) (cap : Nat) (pa : Option Addr) (plen pcap : Nat) (pht phv phc pi pt : Int) (pm ph : Bool) (pl : List EntryC) (w : World) (hg : HasG w a ⟨id, fi, te, ht, hv, hc, l⟩) (hp : HasE w ⟨id, 3, pa, plen, pcap, pht, phv, phc, pi, pt, pm, ph⟩ pl) (h30 : l.length ≤ 100000) (hI : isSp ⟨id, fi, te, ht, hv, hc, l⟩ = true) (hBB : isB ⟨id, 3, pa, plen, pcap, pht, phv, phc, pi, pt, pm, ph⟩ pl = true) (hpi : 1 ≤ pi ∧ pi ≤ 1099511627776) : Calls Try.prog 18 #[.agg #[.int .i64 id, .int .i64 fi, .int .i64 te, .int .i64 ht, .int .i64 hv, .int .i64 hc, .slice a l.length cap], .agg #[.int .i64 id, .int .i64 3, .slice pa plen pcap, .int .i64 pht, .int .i64 phv, .int .i64 phc, .int .i64 pi, .int .i64 pt, .bool pm, .bool ph]] w (RDoPost w a l.length (cmpM ⟨id, fi, te, ht, hv, hc, l⟩ pi pt)) := by
  have GI := Lib.hid (fun W (hB : Below w.heap.size w W) => (show Gives Try.prog 14 #[.agg #[.int .i64 id, .int .i64 fi, .int .i64 te, .int .i64 ht, .int .i64 hv, .int .i64 hc, .slice a l.length cap]] W (.bool true) from by have := refIsSp_any id fi te ht hv hc l a cap W (hg.below hB); rwa [hI] at this))
  have GP := Lib.hid (fun W (hB : Below w.heap.size w W) => (show Gives Try.prog 22 #[.agg #[.int .i64 id, .int .i64 3, .slice pa plen pcap, .int .i64 pht, .int .i64 phv, .int .i64 phc, .int .i64 pi, .int .i64 pt, .bool pm, .bool ph]] W (.bool true) from by have := refIs_any ⟨id, 3, pa, plen, pcap, pht, phv, phc, pi, pt, pm, ph⟩ pl W (hp.below hB); rwa [hBB] at this))
  have HS := Lib.hid (DoW.start w #[.int .i64 id, .int .i64 fi, .int .i64 te, .int .i64 ht, .int .i64 hv, .int .i64 hc, .slice a l.length cap] #[.int .i64 id, .int .i64 3, .slice pa plen pcap, .int .i64 pht, .int .i64 phv, .int .i64 phc, .int .i64 pi, .int .i64 pt, .bool pm, .bool ph])
  have hm := hg.1
  have hgr := hg.2
  dsimp only at hm hgr
  have HG := Lib.hid (fun W (hB : Below w.heap.size w W) => hg.below hB)
  have hal := fun k hk => inBlkE_lt (k := k) hgr hk
  have hrl : Ris l := sprB_ris (isSp_iff.1 hI).2.2
  have GC := Lib.hid (fun W (hB : Below w.heap.size w W) => refCmp_any id fi te ht hv hc l a cap pi pt W (hg.below hB) hrl hpi)
  generalize (cmpM ⟨id, fi, te, ht, hv, hc, l⟩ pi pt) = D at *
  obtain ⟨did, dfi, dte, dht, dhv, dhc, dl⟩ := D
  unfold RDoPost at GC
  dsimp only at GC
  clear hg hp hgr hI hBB 
  go_enter Try.func18, Try.ntmps18
  go_upto_region 3 with (first | (go_at_call 14; ((with_reducible refine (GI.out _ HS.out.bel).mono ?_); rintro e w1 ⟨rfl, hB1⟩; have hD1 := HS.out.after hB1; obtain ⟨g0, g1, g2, g3, g4, g5, g6, -⟩ := cells7 hD1.gb; obtain ⟨p1, p2, p3, p4, p5, p6, p7⟩ := cells10 hD1.pb; have p0 := cell_of_row _ _ 0 _ _ _ hD1.pb; have p8 := cell_of_row _ _ 8 _ _ _ hD1.pb; have p9 := cell_of_row _ _ 9 _ _ _ hD1.pb)) | (go_at_call 22; ((with_reducible refine (GP.out _ hD1.bel).mono ?_); rintro e w2 ⟨rfl, hB2⟩; have hD2 := hD1.after hB2; clear g0 g1 g2 g3 g4 g5 g6 p0 p1 p2 p3 p4 p5 p6 p7 p8 p9; obtain ⟨g0, g1, g2, g3, g4, g5, g6, -⟩ := cells7 hD2.gb; obtain ⟨p1, p2, p3, p4, p5, p6, p7⟩ := cells10 hD2.pb; have p0 := cell_of_row _ _ 0 _ _ _ hD2.pb; have p8 := cell_of_row _ _ 8 _ _ _ hD2.pb; have p9 := cell_of_row _ _ 9 _ _ _ hD2.pb)))
  obtain ⟨wq, rfl⟩ : ∃ wq, wq = w2 := ⟨_, rfl⟩
  go_upto_region 4 with (fail)
  have hBx := bel_alloc (Below.refl wq.heap.size wq) (.cells #[.int .i64 id, .int .i64 fi, .int .i64 te, .int .i64 ht, .int .i64 hv, .int .i64 hc, .slice a l.length cap] 26)
  have hL : LoW w wq.heap.size #[.int .i64 id, .int .i64 fi, .int .i64 te, .int .i64 ht, .int .i64 hv, .int .i64 hc, .slice a l.length cap] #[.int .i64 id, .int .i64 3, .slice pa plen pcap, .int .i64 pht, .int .i64 phv, .int .i64 phc, .int .i64 pi, .int .i64 pt, .bool pm, .bool ph] #[.int .i64 id, .int .i64 fi, .int .i64 te, .int .i64 ht, .int .i64 hv, .int .i64 hc, .slice a l.length cap] (wq.alloc (.cells #[.int .i64 id, .int .i64 fi, .int .i64 te, .int .i64 ht, .int .i64 hv, .int .i64 hc, .slice a l.length cap] 26)) := ⟨hD2.after hBx, World.alloc_heap_new wq _, hD2.lt⟩
  obtain ⟨Y, hYe⟩ : ∃ Y, Y = wq.heap.size := ⟨_, rfl⟩
  rw [← hYe] at hL
  rw [← hYe]
  clear hYe hBx g0 g1 g2 g3 g4 g5 g6 p0 p1 p2 p3 p4 p5 p6 p7 p8 p9
  generalize (wq.alloc (.cells #[.int .i64 id, .int .i64 fi, .int .i64 te, .int .i64 ht, .int .i64 hv, .int .i64 hc, .slice a l.length cap] 26)) = wr at *
  have hYa := hL.ya
  obtain ⟨g0, g1, g2, g3, g4, g5, g6, -⟩ := cells7 hL.d.gb
  obtain ⟨p1, p2, p3, p4, p5, p6, p7⟩ := cells10 hL.d.pb
  have p0 := cell_of_row _ _ 0 _ _ _ hL.d.pb
  have p8 := cell_of_row _ _ 8 _ _ _ hL.d.pb
  have p9 := cell_of_row _ _ 9 _ _ _ hL.d.pb
  obtain ⟨x0, x1, x2, x3, x4, x5, x6, fx⟩ := cells7 hL.xb
  go_wp2_with (go_at_call 35; ((with_reducible refine (GC.out _ hL.d.bel).mono ?_); rintro e w4 ⟨da, dc, rfl, hDH, hB4, hdn⟩; have hD4 := hL.d.after hB4; obtain ⟨r0, r1, r2, r3, r4, r5, r6, fr⟩ := cells7 hD4.rb))
  obtain ⟨hb7, hbel, hF7⟩ := DoW.endR (.int .i64 did) (.int .i64 dfi) (.int .i64 dte) (.int .i64 dht) (.int .i64 dhv) (.int .i64 dhc) (.slice da dl.length dc) hD4
  obtain ⟨e0, e1, e2, e3, e4, e5, e6, -⟩ := cells7 hb7
  refine bodyPost_ret (v := .agg #[.int .i64 did, .int .i64 dfi, .int .i64 dte, .int .i64 dht, .int .i64 dhv, .int .i64 dhc, .slice da dl.length dc]) (by simp [results, Try.results18, go_sem, e0, e1, e2, e3, e4, e5, e6]) rfl ?_
  have hlw := hL.d.lt
  exact ⟨da, dc, rfl, ⟨hDH.1, rowV_frame hDH.2 hF7 (fun k hk h => by
    rcases hdn k hk with h1 | h1
    · have := hal k h1; omega
    · omega)⟩, hbel, fun k hk => (hdn k hk).imp (fun x => x) (fun h1 => by omega)⟩

set_option maxRecDepth 100000 in
set_option maxHeartbeats 4000000 in
theorem refLoose_6 (id fi te ht hv hc : Int) (l : List EntryC) (a : Option Addr) (cap : Nat) (pa : Option Addr) (plen pcap : Nat) (pht phv phc pi pt : Int) (pm ph : Bool) (pl : List EntryC) (w : World) (hg : HasG w a ⟨id, fi, te, ht, hv, hc, l⟩) (hp : HasE w ⟨id, 6, pa, plen, pcap, pht, phv, phc, pi, pt, pm, ph⟩ pl) (h30 : l.length ≤ 100000) (hI : isSp ⟨id, fi, te, ht, hv, hc, l⟩ = true) (hBB : isB ⟨id, 6, pa, plen, pcap, pht, phv, phc, pi, pt, pm, ph⟩ pl = true) (hp9 : pl.length ≤ 100) (hpi : pm = true → 1 ≤ pi ∧ pi ≤ 1099511627776) : Calls Try.prog 18 #[.agg #[.int .i64 id, .int .i64 fi, .int .i64 te, .int .i64 ht, .int .i64 hv, .int .i64 hc, .slice a l.length cap], .agg #[.int .i64 id, .int .i64 6, .slice pa plen pcap, .int .i64 pht, .int .i64 phv, .int .i64 phc, .int .i64 pi, .int .i64 pt, .bool pm, .bool ph]] w (RDoPost w a l.length (fillM ⟨id, fi, te, ht, hv, hc, l⟩ ⟨id, 6, pa, plen, pcap, pht, phv, phc, pi, pt, pm, ph⟩ pl)) := by
  have GI := Lib.hid (fun W (hB : Below w.heap.size w W) => (show Gives Try.prog 14 #[.agg #[.int .i64 id, .int .i64 fi, .int .i64 te, .int .i64 ht, .int .i64 hv, .int .i64 hc, .slice a l.length cap]] W (.bool true) from by have := refIsSp_any id fi te ht hv hc l a cap W (hg.below hB); rwa [hI] at this))
  have GP := Lib.hid (fun W (hB : Below w.heap.size w W) => (show Gives Try.prog 22 #[.agg #[.int .i64 id, .int .i64 6, .slice pa plen pcap, .int .i64 pht, .int .i64 phv, .int .i64 phc, .int .i64 pi, .int .i64 pt, .bool pm, .bool ph]] W (.bool true) from by have := refIs_any ⟨id, 6, pa, plen, pcap, pht, phv, phc, pi, pt, pm, ph⟩ pl W (hp.below hB); rwa [hBB] at this))
  have HS := Lib.hid (DoW.start w #[.int .i64 id, .int .i64 fi, .int .i64 te, .int .i64 ht, .int .i64 hv, .int .i64 hc, .slice a l.length cap] #[.int .i64 id, .int .i64 6, .slice pa plen pcap, .int .i64 pht, .int .i64 phv, .int .i64 phc, .int .i64 pi, .int .i64 pt, .bool pm, .bool ph])
  have hm := hg.1
  have hgr := hg.2
  dsimp only at hm hgr
  have HG := Lib.hid (fun W (hB : Below w.heap.size w W) => hg.below hB)
  have hal := fun k hk => inBlkE_lt (k := k) hgr hk
  have hrl : Ris l := sprB_ris (isSp_iff.1 hI).2.2
  have GC := Lib.hid (fun W (hB : Below w.heap.size w W) => refFill_any id fi te ht hv hc l a cap id 6 pa plen pcap pht phv phc pi pt pm ph pl W (hg.below hB) hrl (hp.below hB) hp9 h30 hpi)
  generalize (fillM ⟨id, fi, te, ht, hv, hc, l⟩ ⟨id, 6, pa, plen, pcap, pht, phv, phc, pi, pt, pm, ph⟩ pl) = D at *
  obtain ⟨did, dfi, dte, dht, dhv, dhc, dl⟩ := D
  unfold RDoPost at GC
  dsimp only at GC
  clear hg hp hgr hI hBB 
  go_enter Try.func18, Try.ntmps18
  go_upto_region 3 with (first | (go_at_call 14; ((with_reducible refine (GI.out _ HS.out.bel).mono ?_); rintro e w1 ⟨rfl, hB1⟩; have hD1 := HS.out.after hB1; obtain ⟨g0, g1, g2, g3, g4, g5, g6, -⟩ := cells7 hD1.gb; obtain ⟨p1, p2, p3, p4, p5, p6, p7⟩ := cells10 hD1.pb; have p0 := cell_of_row _ _ 0 _ _ _ hD1.pb; have p8 := cell_of_row _ _ 8 _ _ _ hD1.pb; have p9 := cell_of_row _ _ 9 _ _ _ hD1.pb)) | (go_at_call 22; ((with_reducible refine (GP.out _ hD1.bel).mono ?_); rintro e w2 ⟨rfl, hB2⟩; have hD2 := hD1.after hB2; clear g0 g1 g2 g3 g4 g5 g6 p0 p1 p2 p3 p4 p5 p6 p7 p8 p9; obtain ⟨g0, g1, g2, g3, g4, g5, g6, -⟩ := cells7 hD2.gb; obtain ⟨p1, p2, p3, p4, p5, p6, p7⟩ := cells10 hD2.pb; have p0 := cell_of_row _ _ 0 _ _ _ hD2.pb; have p8 := cell_of_row _ _ 8 _ _ _ hD2.pb; have p9 := cell_of_row _ _ 9 _ _ _ hD2.pb)))
  obtain ⟨wq, rfl⟩ : ∃ wq, wq = w2 := ⟨_, rfl⟩
  go_upto_region 4 with (fail)
  have hBx := bel_alloc (Below.refl wq.heap.size wq) (.cells #[.int .i64 id, .int .i64 fi, .int .i64 te, .int .i64 ht, .int .i64 hv, .int .i64 hc, .slice a l.length cap] 26)
  have hL : LoW w wq.heap.size #[.int .i64 id, .int .i64 fi, .int .i64 te, .int .i64 ht, .int .i64 hv, .int .i64 hc, .slice a l.length cap] #[.int .i64 id, .int .i64 6, .slice pa plen pcap, .int .i64 pht, .int .i64 phv, .int .i64 phc, .int .i64 pi, .int .i64 pt, .bool pm, .bool ph] #[.int .i64 id, .int .i64 fi, .int .i64 te, .int .i64 ht, .int .i64 hv, .int .i64 hc, .slice a l.length cap] (wq.alloc (.cells #[.int .i64 id, .int .i64 fi, .int .i64 te, .int .i64 ht, .int .i64 hv, .int .i64 hc, .slice a l.length cap] 26)) := ⟨hD2.after hBx, World.alloc_heap_new wq _, hD2.lt⟩
  obtain ⟨Y, hYe⟩ : ∃ Y, Y = wq.heap.size := ⟨_, rfl⟩
  rw [← hYe] at hL
  rw [← hYe]
  clear hYe hBx g0 g1 g2 g3 g4 g5 g6 p0 p1 p2 p3 p4 p5 p6 p7 p8 p9
  generalize (wq.alloc (.cells #[.int .i64 id, .int .i64 fi, .int .i64 te, .int .i64 ht, .int .i64 hv, .int .i64 hc, .slice a l.length cap] 26)) = wr at *
  have hYa := hL.ya
  obtain ⟨g0, g1, g2, g3, g4, g5, g6, -⟩ := cells7 hL.d.gb
  obtain ⟨p1, p2, p3, p4, p5, p6, p7⟩ := cells10 hL.d.pb
  have p0 := cell_of_row _ _ 0 _ _ _ hL.d.pb
  have p8 := cell_of_row _ _ 8 _ _ _ hL.d.pb
  have p9 := cell_of_row _ _ 9 _ _ _ hL.d.pb
  obtain ⟨x0, x1, x2, x3, x4, x5, x6, fx⟩ := cells7 hL.xb
  go_wp2_with (go_at_call 36; ((with_reducible refine (GC.out _ hL.d.bel).mono ?_); rintro e w4 ⟨da, dc, rfl, hDH, hB4, hdn⟩; have hD4 := hL.d.after hB4; obtain ⟨r0, r1, r2, r3, r4, r5, r6, fr⟩ := cells7 hD4.rb))
  obtain ⟨hb7, hbel, hF7⟩ := DoW.endR (.int .i64 did) (.int .i64 dfi) (.int .i64 dte) (.int .i64 dht) (.int .i64 dhv) (.int .i64 dhc) (.slice da dl.length dc) hD4
  obtain ⟨e0, e1, e2, e3, e4, e5, e6, -⟩ := cells7 hb7
  refine bodyPost_ret (v := .agg #[.int .i64 did, .int .i64 dfi, .int .i64 dte, .int .i64 dht, .int .i64 dhv, .int .i64 dhc, .slice da dl.length dc]) (by simp [results, Try.results18, go_sem, e0, e1, e2, e3, e4, e5, e6]) rfl ?_
  have hlw := hL.d.lt
  exact ⟨da, dc, rfl, ⟨hDH.1, rowV_frame hDH.2 hF7 (fun k hk h => by
    rcases hdn k hk with h1 | h1
    · have := hal k h1; omega
    · omega)⟩, hbel, fun k hk => (hdn k hk).imp (fun x => x) (fun h1 => by omega)⟩

set_option maxRecDepth 100000 in
set_option maxHeartbeats 4000000 in
theorem refLoose_2 (id fi te ht hv hc : Int) (l : List EntryC) (a : Option Addr) (cap : Nat) (pa : Option Addr) (plen pcap : Nat) (pht phv phc pi pt : Int) (pm ph : Bool) (pl : List EntryC) (w : World) (hg : HasG w a ⟨id, fi, te, ht, hv, hc, l⟩) (hp : HasE w ⟨id, 2, pa, plen, pcap, pht, phv, phc, pi, pt, pm, ph⟩ pl) (h30 : l.length ≤ 100000) (hI : isSp ⟨id, fi, te, ht, hv, hc, l⟩ = true) (hBB : isB ⟨id, 2, pa, plen, pcap, pht, phv, phc, pi, pt, pm, ph⟩ pl = true)  : Calls Try.prog 18 #[.agg #[.int .i64 id, .int .i64 fi, .int .i64 te, .int .i64 ht, .int .i64 hv, .int .i64 hc, .slice a l.length cap], .agg #[.int .i64 id, .int .i64 2, .slice pa plen pcap, .int .i64 pht, .int .i64 phv, .int .i64 phc, .int .i64 pi, .int .i64 pt, .bool pm, .bool ph]] w (RDoPost w a l.length ⟨id, fi, te, pht, phv, phc, l⟩) := by
  have GI := Lib.hid (fun W (hB : Below w.heap.size w W) => (show Gives Try.prog 14 #[.agg #[.int .i64 id, .int .i64 fi, .int .i64 te, .int .i64 ht, .int .i64 hv, .int .i64 hc, .slice a l.length cap]] W (.bool true) from by have := refIsSp_any id fi te ht hv hc l a cap W (hg.below hB); rwa [hI] at this))
  have GP := Lib.hid (fun W (hB : Below w.heap.size w W) => (show Gives Try.prog 22 #[.agg #[.int .i64 id, .int .i64 2, .slice pa plen pcap, .int .i64 pht, .int .i64 phv, .int .i64 phc, .int .i64 pi, .int .i64 pt, .bool pm, .bool ph]] W (.bool true) from by have := refIs_any ⟨id, 2, pa, plen, pcap, pht, phv, phc, pi, pt, pm, ph⟩ pl W (hp.below hB); rwa [hBB] at this))
  have HS := Lib.hid (DoW.start w #[.int .i64 id, .int .i64 fi, .int .i64 te, .int .i64 ht, .int .i64 hv, .int .i64 hc, .slice a l.length cap] #[.int .i64 id, .int .i64 2, .slice pa plen pcap, .int .i64 pht, .int .i64 phv, .int .i64 phc, .int .i64 pi, .int .i64 pt, .bool pm, .bool ph])
  have hm := hg.1
  have hgr := hg.2
  dsimp only at hm hgr
  have HG := Lib.hid (fun W (hB : Below w.heap.size w W) => hg.below hB)
  clear hg hp hgr hI hBB 
  go_enter Try.func18, Try.ntmps18
  go_upto_region 3 with (first | (go_at_call 14; ((with_reducible refine (GI.out _ HS.out.bel).mono ?_); rintro e w1 ⟨rfl, hB1⟩; have hD1 := HS.out.after hB1; obtain ⟨g0, g1, g2, g3, g4, g5, g6, -⟩ := cells7 hD1.gb; obtain ⟨p1, p2, p3, p4, p5, p6, p7⟩ := cells10 hD1.pb; have p0 := cell_of_row _ _ 0 _ _ _ hD1.pb; have p8 := cell_of_row _ _ 8 _ _ _ hD1.pb; have p9 := cell_of_row _ _ 9 _ _ _ hD1.pb)) | (go_at_call 22; ((with_reducible refine (GP.out _ hD1.bel).mono ?_); rintro e w2 ⟨rfl, hB2⟩; have hD2 := hD1.after hB2; clear g0 g1 g2 g3 g4 g5 g6 p0 p1 p2 p3 p4 p5 p6 p7 p8 p9; obtain ⟨g0, g1, g2, g3, g4, g5, g6, -⟩ := cells7 hD2.gb; obtain ⟨p1, p2, p3, p4, p5, p6, p7⟩ := cells10 hD2.pb; have p0 := cell_of_row _ _ 0 _ _ _ hD2.pb; have p8 := cell_of_row _ _ 8 _ _ _ hD2.pb; have p9 := cell_of_row _ _ 9 _ _ _ hD2.pb)))
  obtain ⟨wq, rfl⟩ : ∃ wq, wq = w2 := ⟨_, rfl⟩
  go_upto_region 4 with (fail)
  have hBx := bel_alloc (Below.refl wq.heap.size wq) (.cells #[.int .i64 id, .int .i64 fi, .int .i64 te, .int .i64 ht, .int .i64 hv, .int .i64 hc, .slice a l.length cap] 26)
  have hL : LoW w wq.heap.size #[.int .i64 id, .int .i64 fi, .int .i64 te, .int .i64 ht, .int .i64 hv, .int .i64 hc, .slice a l.length cap] #[.int .i64 id, .int .i64 2, .slice pa plen pcap, .int .i64 pht, .int .i64 phv, .int .i64 phc, .int .i64 pi, .int .i64 pt, .bool pm, .bool ph] #[.int .i64 id, .int .i64 fi, .int .i64 te, .int .i64 ht, .int .i64 hv, .int .i64 hc, .slice a l.length cap] (wq.alloc (.cells #[.int .i64 id, .int .i64 fi, .int .i64 te, .int .i64 ht, .int .i64 hv, .int .i64 hc, .slice a l.length cap] 26)) := ⟨hD2.after hBx, World.alloc_heap_new wq _, hD2.lt⟩
  obtain ⟨Y, hYe⟩ : ∃ Y, Y = wq.heap.size := ⟨_, rfl⟩
  rw [← hYe] at hL
  rw [← hYe]
  clear hYe hBx g0 g1 g2 g3 g4 g5 g6 p0 p1 p2 p3 p4 p5 p6 p7 p8 p9
  generalize (wq.alloc (.cells #[.int .i64 id, .int .i64 fi, .int .i64 te, .int .i64 ht, .int .i64 hv, .int .i64 hc, .slice a l.length cap] 26)) = wr at *
  have hYa := hL.ya
  obtain ⟨g0, g1, g2, g3, g4, g5, g6, -⟩ := cells7 hL.d.gb
  obtain ⟨p1, p2, p3, p4, p5, p6, p7⟩ := cells10 hL.d.pb
  have p0 := cell_of_row _ _ 0 _ _ _ hL.d.pb
  have p8 := cell_of_row _ _ 8 _ _ _ hL.d.pb
  have p9 := cell_of_row _ _ 9 _ _ _ hL.d.pb
  obtain ⟨x0, x1, x2, x3, x4, x5, x6, fx⟩ := cells7 hL.xb
  go_upto_region 16 with (fail)
  have hL2 := ((hL.set 3 (.int .i64 pht)).set 4 (.int .i64 phv)).set 5 (.int .i64 phc)
  simp only [List.setIfInBounds_toArray, List.set_cons_succ, List.set_cons_zero] at hL2
  clear g0 g1 g2 g3 g4 g5 g6 p0 p1 p2 p3 p4 p5 p6 p7 p8 p9 x0 x1 x2 x3 x4 x5 x6 fx
  generalize (((wr.setCell ⟨Y, 3, none⟩ (.int .i64 pht)).setCell ⟨Y, 4, none⟩ (.int .i64 phv)).setCell ⟨Y, 5, none⟩ (.int .i64 phc)) = ws at *
  obtain ⟨r0, r1, r2, r3, r4, r5, r6, fr⟩ := cells7 hL2.d.rb
  obtain ⟨x0, x1, x2, x3, x4, x5, x6, fx⟩ := cells7 hL2.xb
  go_wp2
  obtain ⟨hb7, hbel, hF7⟩ := DoW.endR (.int .i64 id) (.int .i64 fi) (.int .i64 te) (.int .i64 pht) (.int .i64 phv) (.int .i64 phc) (.slice a l.length cap) hL2.d
  obtain ⟨e0, e1, e2, e3, e4, e5, e6, -⟩ := cells7 hb7
  refine bodyPost_ret (v := .agg #[.int .i64 id, .int .i64 fi, .int .i64 te, .int .i64 pht, .int .i64 phv, .int .i64 phc, .slice a l.length cap]) (by simp [results, Try.results18, go_sem, e0, e1, e2, e3, e4, e5, e6]) rfl ?_
  exact ⟨a, cap, rfl, ⟨hm, (HG.out _ hbel).2⟩, hbel, fun k hk => .inl hk⟩

set_option maxRecDepth 100000 in
set_option maxHeartbeats 4000000 in
theorem refLoose_4n (id fi te ht hv hc : Int) (l : List EntryC) (a : Option Addr) (cap : Nat) (pa : Option Addr) (plen pcap : Nat) (pht phv phc pi pt : Int) (pm ph : Bool) (pl : List EntryC) (w : World) (hg : HasG w a ⟨id, fi, te, ht, hv, hc, l⟩) (hp : HasE w ⟨id, 4, pa, plen, pcap, pht, phv, phc, pi, pt, pm, ph⟩ pl) (h30 : l.length ≤ 100000) (hI : isSp ⟨id, fi, te, ht, hv, hc, l⟩ = true) (hBB : isB ⟨id, 4, pa, plen, pcap, pht, phv, phc, pi, pt, pm, ph⟩ pl = true) (hpi : 1 ≤ pi ∧ pi ≤ 1099511627776) (hno : pi < fi) : Calls Try.prog 18 #[.agg #[.int .i64 id, .int .i64 fi, .int .i64 te, .int .i64 ht, .int .i64 hv, .int .i64 hc, .slice a l.length cap], .agg #[.int .i64 id, .int .i64 4, .slice pa plen pcap, .int .i64 pht, .int .i64 phv, .int .i64 phc, .int .i64 pi, .int .i64 pt, .bool pm, .bool ph]] w (RDoPost w a l.length ⟨id, fi, te, ht, hv, hc, l⟩) := by
  have GI := Lib.hid (fun W (hB : Below w.heap.size w W) => (show Gives Try.prog 14 #[.agg #[.int .i64 id, .int .i64 fi, .int .i64 te, .int .i64 ht, .int .i64 hv, .int .i64 hc, .slice a l.length cap]] W (.bool true) from by have := refIsSp_any id fi te ht hv hc l a cap W (hg.below hB); rwa [hI] at this))
  have GP := Lib.hid (fun W (hB : Below w.heap.size w W) => (show Gives Try.prog 22 #[.agg #[.int .i64 id, .int .i64 4, .slice pa plen pcap, .int .i64 pht, .int .i64 phv, .int .i64 phc, .int .i64 pi, .int .i64 pt, .bool pm, .bool ph]] W (.bool true) from by have := refIs_any ⟨id, 4, pa, plen, pcap, pht, phv, phc, pi, pt, pm, ph⟩ pl W (hp.below hB); rwa [hBB] at this))
  have HS := Lib.hid (DoW.start w #[.int .i64 id, .int .i64 fi, .int .i64 te, .int .i64 ht, .int .i64 hv, .int .i64 hc, .slice a l.length cap] #[.int .i64 id, .int .i64 4, .slice pa plen pcap, .int .i64 pht, .int .i64 phv, .int .i64 phc, .int .i64 pi, .int .i64 pt, .bool pm, .bool ph])
  have hm := hg.1
  have hgr := hg.2
  dsimp only at hm hgr
  have HG := Lib.hid (fun W (hB : Below w.heap.size w W) => hg.below hB)
  clear hg hp hgr hI hBB 
  go_enter Try.func18, Try.ntmps18
  go_upto_region 3 with (first | (go_at_call 14; ((with_reducible refine (GI.out _ HS.out.bel).mono ?_); rintro e w1 ⟨rfl, hB1⟩; have hD1 := HS.out.after hB1; obtain ⟨g0, g1, g2, g3, g4, g5, g6, -⟩ := cells7 hD1.gb; obtain ⟨p1, p2, p3, p4, p5, p6, p7⟩ := cells10 hD1.pb; have p0 := cell_of_row _ _ 0 _ _ _ hD1.pb; have p8 := cell_of_row _ _ 8 _ _ _ hD1.pb; have p9 := cell_of_row _ _ 9 _ _ _ hD1.pb)) | (go_at_call 22; ((with_reducible refine (GP.out _ hD1.bel).mono ?_); rintro e w2 ⟨rfl, hB2⟩; have hD2 := hD1.after hB2; clear g0 g1 g2 g3 g4 g5 g6 p0 p1 p2 p3 p4 p5 p6 p7 p8 p9; obtain ⟨g0, g1, g2, g3, g4, g5, g6, -⟩ := cells7 hD2.gb; obtain ⟨p1, p2, p3, p4, p5, p6, p7⟩ := cells10 hD2.pb; have p0 := cell_of_row _ _ 0 _ _ _ hD2.pb; have p8 := cell_of_row _ _ 8 _ _ _ hD2.pb; have p9 := cell_of_row _ _ 9 _ _ _ hD2.pb)))
  obtain ⟨wq, rfl⟩ : ∃ wq, wq = w2 := ⟨_, rfl⟩
  go_upto_region 4 with (fail)
  have hBx := bel_alloc (Below.refl wq.heap.size wq) (.cells #[.int .i64 id, .int .i64 fi, .int .i64 te, .int .i64 ht, .int .i64 hv, .int .i64 hc, .slice a l.length cap] 26)
  have hL : LoW w wq.heap.size #[.int .i64 id, .int .i64 fi, .int .i64 te, .int .i64 ht, .int .i64 hv, .int .i64 hc, .slice a l.length cap] #[.int .i64 id, .int .i64 4, .slice pa plen pcap, .int .i64 pht, .int .i64 phv, .int .i64 phc, .int .i64 pi, .int .i64 pt, .bool pm, .bool ph] #[.int .i64 id, .int .i64 fi, .int .i64 te, .int .i64 ht, .int .i64 hv, .int .i64 hc, .slice a l.length cap] (wq.alloc (.cells #[.int .i64 id, .int .i64 fi, .int .i64 te, .int .i64 ht, .int .i64 hv, .int .i64 hc, .slice a l.length cap] 26)) := ⟨hD2.after hBx, World.alloc_heap_new wq _, hD2.lt⟩
  obtain ⟨Y, hYe⟩ : ∃ Y, Y = wq.heap.size := ⟨_, rfl⟩
  rw [← hYe] at hL
  rw [← hYe]
  clear hYe hBx g0 g1 g2 g3 g4 g5 g6 p0 p1 p2 p3 p4 p5 p6 p7 p8 p9
  generalize (wq.alloc (.cells #[.int .i64 id, .int .i64 fi, .int .i64 te, .int .i64 ht, .int .i64 hv, .int .i64 hc, .slice a l.length cap] 26)) = wr at *
  have hYa := hL.ya
  obtain ⟨g0, g1, g2, g3, g4, g5, g6, -⟩ := cells7 hL.d.gb
  obtain ⟨p1, p2, p3, p4, p5, p6, p7⟩ := cells10 hL.d.pb
  have p0 := cell_of_row _ _ 0 _ _ _ hL.d.pb
  have p8 := cell_of_row _ _ 8 _ _ _ hL.d.pb
  have p9 := cell_of_row _ _ 9 _ _ _ hL.d.pb
  obtain ⟨x0, x1, x2, x3, x4, x5, x6, fx⟩ := cells7 hL.xb
  go_upto_region 16 with (fail)
  have hL2 := hL
  obtain ⟨r0, r1, r2, r3, r4, r5, r6, fr⟩ := cells7 hL2.d.rb
  obtain ⟨x0, x1, x2, x3, x4, x5, x6, fx⟩ := cells7 hL2.xb
  go_wp2
  obtain ⟨hb7, hbel, hF7⟩ := DoW.endR (.int .i64 id) (.int .i64 fi) (.int .i64 te) (.int .i64 ht) (.int .i64 hv) (.int .i64 hc) (.slice a l.length cap) hL2.d
  obtain ⟨e0, e1, e2, e3, e4, e5, e6, -⟩ := cells7 hb7
  refine bodyPost_ret (v := .agg #[.int .i64 id, .int .i64 fi, .int .i64 te, .int .i64 ht, .int .i64 hv, .int .i64 hc, .slice a l.length cap]) (by simp [results, Try.results18, go_sem, e0, e1, e2, e3, e4, e5, e6]) rfl ?_
  exact ⟨a, cap, rfl, ⟨hm, (HG.out _ hbel).2⟩, hbel, fun k hk => .inl hk⟩

end Go.Proofs.Ytfbibpnkfmgkaaa
