/- The contracts of package sparse's compacted, snapped. -/
import Derived.Test.YtdncdlbhgaehmaaSprIs
import Derived.Deep.RegionHeld3
import Derived.Deep.Cut
namespace Go.Proofs.Ytdncdlbhgaehmaa
open Go.RowKit Go.Shelf
set_option linter.unusedVariables false
attribute [local go_sem] Oper.semAt_some wide_fn wide_round_fn

/-- What compacted, snapped tell: a group's numbers, and the entries that stay. -/
def CmpP (w : World) (a : Option Addr) (n cap : Nat) (id fi te ht hv hc : Int) (L : List EntryC) (e : Ending) (w' : World) : Prop := ∃ va vc, e = .returned (.tuple #[.agg #[.int .i64 id, .int .i64 fi, .int .i64 te, .int .i64 ht, .int .i64 hv, .int .i64 hc, .slice a n cap], .slice va L.length vc]) ∧ RowV w' va L.length 3 (entryCells L) ∧ L.length ≤ vc ∧ Below w.heap.size w w' ∧ ∀ k, inBlkE va L.length k → inBlkE a n k
theorem DoW.fin {w W : World} {P : Array Value} {v0 v1 v2 v3 v4 v5 v6 : Value} (h : DoW w #[v0, v1, v2, v3, v4, v5, v6] P W) :
    (st7 W (w.heap.size + 1 + 1) v0 v1 v2 v3 v4 v5 v6).heap[w.heap.size + 1 + 1]? = some (.cells #[v0, v1, v2, v3, v4, v5, v6] 65 (0, 0)) ∧ Below w.heap.size w (st7 W (w.heap.size + 1 + 1) v0 v1 v2 v3 v4 v5 v6) ∧ FrameT (fun k => k = w.heap.size + 1 + 1) W (st7 W (w.heap.size + 1 + 1) v0 v1 v2 v3 v4 v5 v6) ∧ (st7 W (w.heap.size + 1 + 1) v0 v1 v2 v3 v4 v5 v6).heap[w.heap.size]? = some (.cells #[v0, v1, v2, v3, v4, v5, v6] 65 (0, 0)) :=
  ⟨st7_block h.rb v0 v1 v2 v3 v4 v5 v6, h.bel.trans ((st7_frame W (w.heap.size + 1 + 1) v0 v1 v2 v3 v4 v5 v6).toBelow h.bel.size (fun k h => by omega)), st7_frame W (w.heap.size + 1 + 1) v0 v1 v2 v3 v4 v5 v6, (st7_frame W (w.heap.size + 1 + 1) v0 v1 v2 v3 v4 v5 v6).get h.gb (by omega)⟩
theorem hasB_at {l : List EntryC} {i : Int} (h : hasB l i = true) : ∃ hk : fnd l i < l.length, l[fnd l i].i = i := by
  unfold hasB at h
  by_cases hk : fnd l i < l.length
  · rw [List.getElem?_eq_getElem hk] at h
    exact ⟨hk, by simpa using h⟩
  · rw [List.getElem?_eq_none (by omega)] at h; cases h
theorem entT_ris {l : List EntryC} (hr : Ris l) (i : Int) : entT l i = if h : hasB l i = true then (l[fnd l i]'(hasB_at h).1).t else 0 := by
  have hf : btw l i i = (l.drop (fnd l i)).take (if hasB l i = true then 1 else 0) := by
    unfold btw
    have h1 : (l.filter fun e => decide (i ≤ e.i) && decide (e.i ≤ i)) = (l.filter fun e => decide (i ≤ e.i)).filter fun e => decide (e.i ≤ i) := by
      rw [List.filter_filter]; congr 1; funext e; rw [Bool.and_comm]
    rw [h1]
    have h2 : (l.filter fun e => decide (i ≤ e.i)) = l.drop (fnd l i) := froL_ris hr i
    rw [h2]
    refine filter_split (fun j hj hlt => ?_) (fun j hj hge => ?_)
    · split at hlt
      · rename_i hb
        obtain ⟨hk, he⟩ := hasB_at hb
        obtain rfl : j = 0 := by omega
        have h8 : ((l.drop (fnd l i))[0]'hj).i = i := by rw [List.getElem_drop]; simpa using he
        rw [h8]; simp
      · omega
    · simp at hj
      rw [List.getElem_drop]
      by_cases h0 : j = 0
      · subst h0
        have hb : ¬ hasB l i = true := by intro hb; rw [if_pos hb] at hge; omega
        have h9 : (l[fnd l i]'(by omega)).i ≠ i := by
          intro he; apply hb; unfold hasB; rw [List.getElem?_eq_getElem (by omega)]; simpa using he
        have h8 := fnd_ge hr (i := i) (j := fnd l i) (by omega) (Nat.le_refl _)
        exact decide_eq_false (by simp only [Nat.add_zero]; omega)
      · have h8 := fnd_ge hr (i := i) (j := fnd l i) (by omega) (Nat.le_refl _)
        have h7 := hr (fnd l i) (fnd l i + j) (by omega) (by omega)
        exact decide_eq_false (by omega)
  unfold entT
  rw [hf]
  by_cases hb : hasB l i = true
  · rw [if_pos hb, dif_pos hb]
    obtain ⟨hk, -⟩ := hasB_at hb
    rw [List.drop_eq_getElem_cons hk]; rfl
  · rw [if_neg hb, dif_neg hb]; rfl

set_option maxRecDepth 100000 in
set_option maxHeartbeats 4000000 in
theorem cmp_no (id fi te ht hv hc : Int) (l : List EntryC) (a : Option Addr) (cap : Nat) (pg pk : Int) (pa : Option Addr) (plen pcap : Nat) (pht phv phc pi pt : Int) (pm ph : Bool) (w : World) (hm : l.length < 1000000) (hcap : l.length ≤ cap) (hr : RowV w a l.length 3 (entryCells l)) (hs : Ris l) (hi : pi < fi) : Calls Try.prog 92 #[.agg #[.int .i64 id, .int .i64 fi, .int .i64 te, .int .i64 ht, .int .i64 hv, .int .i64 hc, .slice a l.length cap], .agg #[.int .i64 pg, .int .i64 pk, .slice pa plen pcap, .int .i64 pht, .int .i64 phv, .int .i64 phc, .int .i64 pi, .int .i64 pt, .bool pm, .bool ph]] w (CmpP w a l.length cap id fi te ht hv hc l) := by
  have HR := Lib.hid (fun W (hB : Below w.heap.size w W) => hr.below hB)
  have HS := Lib.hid (DoW.start w #[.int .i64 id, .int .i64 fi, .int .i64 te, .int .i64 ht, .int .i64 hv, .int .i64 hc, .slice a l.length cap] #[.int .i64 pg, .int .i64 pk, .slice pa plen pcap, .int .i64 pht, .int .i64 phv, .int .i64 phc, .int .i64 pi, .int .i64 pt, .bool pm, .bool ph])
  clear hr hs
  go_enter Try.func92, Try.ntmps92
  go_upto_region 1 with (fail)
  have hD := HS.out
  generalize (((w.alloc (.cells #[.int .i64 id, .int .i64 fi, .int .i64 te, .int .i64 ht, .int .i64 hv, .int .i64 hc, .slice a l.length cap] 65)).alloc (.cells #[.int .i64 pg, .int .i64 pk, .slice pa plen pcap, .int .i64 pht, .int .i64 phv, .int .i64 phc, .int .i64 pi, .int .i64 pt, .bool pm, .bool ph] 41)).alloc (.cells GZ 65)) = wq at *
  obtain ⟨g0, g1, g2, g3, g4, g5, g6, fg⟩ := cells7 hD.gb
  obtain ⟨p1, p2, p3, p4, p5, p6, p7⟩ := cells10 hD.pb
  obtain ⟨r0, r1, r2, r3, r4, r5, r6, fr⟩ := cells7 hD.rb
  go_wp2
  obtain ⟨hb7, hbel, hF7, hg7⟩ := hD.fin
  obtain ⟨e0, e1, e2, e3, e4, e5, e6, -⟩ := cells7 hb7
  obtain ⟨y0, y1, y2, y3, y4, y5, y6, -⟩ := cells7 hg7
  have HB := Lib.hid hbel
  clear hb7 hg7 hF7 hbel
  go_region_held3 (fun W' => W'.cell? ⟨w.heap.size, 0, none⟩ = some (.int .i64 id) ∧ W'.cell? ⟨w.heap.size, 1, none⟩ = some (.int .i64 fi) ∧ W'.cell? ⟨w.heap.size, 2, none⟩ = some (.int .i64 te) ∧ W'.cell? ⟨w.heap.size, 3, none⟩ = some (.int .i64 ht) ∧ W'.cell? ⟨w.heap.size, 4, none⟩ = some (.int .i64 hv) ∧ W'.cell? ⟨w.heap.size, 5, none⟩ = some (.int .i64 hc) ∧ W'.cell? ⟨w.heap.size, 6, none⟩ = some (.slice a l.length cap)) (go_keep) (fail)
  all_goals
    go_wp2
    refine bodyPost_ret (v := .tuple #[.agg #[.int .i64 id, .int .i64 fi, .int .i64 te, .int .i64 ht, .int .i64 hv, .int .i64 hc, .slice a l.length cap], .slice a l.length cap]) (by simp [results, Try.results92, go_sem, e0, e1, e2, e3, e4, e5, e6]) rfl ?_
    exact ⟨a, cap, rfl, HR.out _ HB.out.drew, hcap, HB.out.drew, fun k hk => hk⟩

set_option maxRecDepth 100000 in
set_option maxHeartbeats 4000000 in
theorem snp_no (id fi te ht hv hc : Int) (l : List EntryC) (a : Option Addr) (cap : Nat) (pg pk : Int) (pa : Option Addr) (plen pcap : Nat) (pht phv phc pi pt : Int) (pm ph : Bool) (w : World) (hm : l.length < 1000000) (hcap : l.length ≤ cap) (hr : RowV w a l.length 3 (entryCells l)) (hs : Ris l) (hi : pi < fi) : Calls Try.prog 93 #[.agg #[.int .i64 id, .int .i64 fi, .int .i64 te, .int .i64 ht, .int .i64 hv, .int .i64 hc, .slice a l.length cap], .agg #[.int .i64 pg, .int .i64 pk, .slice pa plen pcap, .int .i64 pht, .int .i64 phv, .int .i64 phc, .int .i64 pi, .int .i64 pt, .bool pm, .bool ph]] w (CmpP w a l.length cap id fi te ht hv hc l) := by
  have HR := Lib.hid (fun W (hB : Below w.heap.size w W) => hr.below hB)
  have HS := Lib.hid (DoW.start w #[.int .i64 id, .int .i64 fi, .int .i64 te, .int .i64 ht, .int .i64 hv, .int .i64 hc, .slice a l.length cap] #[.int .i64 pg, .int .i64 pk, .slice pa plen pcap, .int .i64 pht, .int .i64 phv, .int .i64 phc, .int .i64 pi, .int .i64 pt, .bool pm, .bool ph])
  clear hr hs
  go_enter Try.func93, Try.ntmps93
  go_upto_region 1 with (fail)
  have hD := HS.out
  generalize (((w.alloc (.cells #[.int .i64 id, .int .i64 fi, .int .i64 te, .int .i64 ht, .int .i64 hv, .int .i64 hc, .slice a l.length cap] 65)).alloc (.cells #[.int .i64 pg, .int .i64 pk, .slice pa plen pcap, .int .i64 pht, .int .i64 phv, .int .i64 phc, .int .i64 pi, .int .i64 pt, .bool pm, .bool ph] 41)).alloc (.cells GZ 65)) = wq at *
  obtain ⟨g0, g1, g2, g3, g4, g5, g6, fg⟩ := cells7 hD.gb
  obtain ⟨p1, p2, p3, p4, p5, p6, p7⟩ := cells10 hD.pb
  obtain ⟨r0, r1, r2, r3, r4, r5, r6, fr⟩ := cells7 hD.rb
  go_wp2
  obtain ⟨hb7, hbel, hF7, hg7⟩ := hD.fin
  obtain ⟨e0, e1, e2, e3, e4, e5, e6, -⟩ := cells7 hb7
  obtain ⟨y0, y1, y2, y3, y4, y5, y6, -⟩ := cells7 hg7
  have HB := Lib.hid hbel
  clear hb7 hg7 hF7 hbel
  go_region_held3 (fun W' => W'.cell? ⟨w.heap.size, 0, none⟩ = some (.int .i64 id) ∧ W'.cell? ⟨w.heap.size, 1, none⟩ = some (.int .i64 fi) ∧ W'.cell? ⟨w.heap.size, 2, none⟩ = some (.int .i64 te) ∧ W'.cell? ⟨w.heap.size, 3, none⟩ = some (.int .i64 ht) ∧ W'.cell? ⟨w.heap.size, 4, none⟩ = some (.int .i64 hv) ∧ W'.cell? ⟨w.heap.size, 5, none⟩ = some (.int .i64 hc) ∧ W'.cell? ⟨w.heap.size, 6, none⟩ = some (.slice a l.length cap)) (go_keep) (fail)
  all_goals
    go_wp2
    refine bodyPost_ret (v := .tuple #[.agg #[.int .i64 id, .int .i64 fi, .int .i64 te, .int .i64 ht, .int .i64 hv, .int .i64 hc, .slice a l.length cap], .slice a l.length cap]) (by simp [results, Try.results93, go_sem, e0, e1, e2, e3, e4, e5, e6]) rfl ?_
    exact ⟨a, cap, rfl, HR.out _ HB.out.drew, hcap, HB.out.drew, fun k hk => hk⟩

set_option maxRecDepth 100000 in
set_option maxHeartbeats 4000000 in
theorem snp_yes (id fi te ht hv hc : Int) (l : List EntryC) (a : Option Addr) (cap : Nat) (pg pk : Int) (pa : Option Addr) (plen pcap : Nat) (pht phv phc pi pt : Int) (pm ph : Bool) (w : World) (hm : l.length < 1000000) (hcap : l.length ≤ cap) (hr : RowV w a l.length 3 (entryCells l)) (hs : Ris l) (hi : fi ≤ pi) (hi1 : 1 ≤ pi) (hi2 : pi ≤ 1099511627776) : Calls Try.prog 93 #[.agg #[.int .i64 id, .int .i64 fi, .int .i64 te, .int .i64 ht, .int .i64 hv, .int .i64 hc, .slice a l.length cap], .agg #[.int .i64 pg, .int .i64 pk, .slice pa plen pcap, .int .i64 pht, .int .i64 phv, .int .i64 phc, .int .i64 pi, .int .i64 pt, .bool pm, .bool ph]] w (CmpP w a l.length cap id (pi + 1) pt ht hv hc []) := by
  have HR := Lib.hid (fun W (hB : Below w.heap.size w W) => hr.below hB)
  have HS := Lib.hid (DoW.start w #[.int .i64 id, .int .i64 fi, .int .i64 te, .int .i64 ht, .int .i64 hv, .int .i64 hc, .slice a l.length cap] #[.int .i64 pg, .int .i64 pk, .slice pa plen pcap, .int .i64 pht, .int .i64 phv, .int .i64 phc, .int .i64 pi, .int .i64 pt, .bool pm, .bool ph])
  clear hr hs
  go_enter Try.func93, Try.ntmps93
  go_upto_region 1 with (fail)
  have hD := HS.out
  generalize (((w.alloc (.cells #[.int .i64 id, .int .i64 fi, .int .i64 te, .int .i64 ht, .int .i64 hv, .int .i64 hc, .slice a l.length cap] 65)).alloc (.cells #[.int .i64 pg, .int .i64 pk, .slice pa plen pcap, .int .i64 pht, .int .i64 phv, .int .i64 phc, .int .i64 pi, .int .i64 pt, .bool pm, .bool ph] 41)).alloc (.cells GZ 65)) = wq at *
  obtain ⟨g0, g1, g2, g3, g4, g5, g6, fg⟩ := cells7 hD.gb
  obtain ⟨p1, p2, p3, p4, p5, p6, p7⟩ := cells10 hD.pb
  obtain ⟨r0, r1, r2, r3, r4, r5, r6, fr⟩ := cells7 hD.rb
  go_wp2
  have hA := hD.set 1 (.int .i64 (pi + 1))
  have hA2 := hA.set 2 (.int .i64 pt)
  have hs9 : IntKind.i64.wrap (pi + 1) = pi + 1 := IntWalk.i64_in _ (by omega)
  simp only [List.setIfInBounds_toArray, List.set_cons_succ, List.set_cons_zero] at hA hA2
  obtain ⟨a1, a2, a3, a4, a5, a6, a7⟩ := cells10 hA.pb
  obtain ⟨y0, y1, y2, y3, y4, y5, y6, fy⟩ := cells7 hA.gb
  obtain ⟨u1, u2, u3, u4, u5, u6, u7⟩ := cells10 hA2.pb
  go_region_held3 (fun W' => W'.cell? ⟨w.heap.size + 1, 6, none⟩ = some (.int .i64 pi) ∧ W'.cell? ⟨w.heap.size + 1, 7, none⟩ = some (.int .i64 pt)) (go_keep) (fail)
  have hD3 := hA2.drew
  clear g0 g1 g2 g3 g4 g5 g6 fg p1 p2 p3 p4 p5 p6 p7 r0 r1 r2 r3 r4 r5 r6 fr a1 a2 a3 a4 a5 a6 a7 y0 y1 y2 y3 y4 y5 y6 fy u1 u2 u3 u4 u5 u6 u7 hA hA2
  generalize ((wq.setCell ⟨w.heap.size, 1, none⟩ (.int .i64 (pi + 1))).setCell ⟨w.heap.size, 2, none⟩ (.int .i64 pt)).drew = w3 at *
  obtain ⟨g0, g1, g2, g3, g4, g5, g6, fg⟩ := cells7 hD3.gb
  obtain ⟨r0, r1, r2, r3, r4, r5, r6, fr⟩ := cells7 hD3.rb
  go_wp2
  obtain ⟨hb7, hbel, hF7, hg7⟩ := hD3.fin
  obtain ⟨e0, e1, e2, e3, e4, e5, e6, -⟩ := cells7 hb7
  refine bodyPost_ret (v := .tuple #[.agg #[.int .i64 id, .int .i64 (pi + 1), .int .i64 pt, .int .i64 ht, .int .i64 hv, .int .i64 hc, .slice a l.length cap], .slice none 0 0]) (by simp [results, Try.results93, go_sem, e0, e1, e2, e3, e4, e5, e6]) rfl ?_
  exact ⟨none, 0, rfl, RowV.nil _ _ _, Nat.le_refl _, hbel, fun k hk => by obtain ⟨_, _, e9, _⟩ := hk; cases e9⟩

set_option maxRecDepth 100000 in
set_option maxHeartbeats 4000000 in
theorem cmp_at (id fi te ht hv hc : Int) (l : List EntryC) (a : Option Addr) (cap : Nat) (pg pk : Int) (pa : Option Addr) (plen pcap : Nat) (pht phv phc pi pt : Int) (pm ph : Bool) (w : World) (hm : l.length < 1000000) (hcap : l.length ≤ cap) (hr : RowV w a l.length 3 (entryCells l)) (hs : Ris l) (hi : fi ≤ pi) (hi1 : 1 ≤ pi) (hi2 : pi ≤ 1099511627776) (ht0 : pt ≠ 0) (hbb : hasB l pi = true) : Calls Try.prog 92 #[.agg #[.int .i64 id, .int .i64 fi, .int .i64 te, .int .i64 ht, .int .i64 hv, .int .i64 hc, .slice a l.length cap], .agg #[.int .i64 pg, .int .i64 pk, .slice pa plen pcap, .int .i64 pht, .int .i64 phv, .int .i64 phc, .int .i64 pi, .int .i64 pt, .bool pm, .bool ph]] w (CmpP w a l.length cap id (pi + 1) pt ht hv hc (l.drop (fnd l (pi + 1)))) := by
  have HR := Lib.hid (fun W (hB : Below w.heap.size w W) => hr.below hB)
  have HS := Lib.hid (DoW.start w #[.int .i64 id, .int .i64 fi, .int .i64 te, .int .i64 ht, .int .i64 hv, .int .i64 hc, .slice a l.length cap] #[.int .i64 pg, .int .i64 pk, .slice pa plen pcap, .int .i64 pht, .int .i64 phv, .int .i64 phc, .int .i64 pi, .int .i64 pt, .bool pm, .bool ph])
  have HLT := Lib.hid (show ∀ k, inBlkE a l.length k → k < w.heap.size from fun k hk => inBlkE_lt hr hk)
  have GF := Lib.hid (fun W (hB : Below w.heap.size w W) => find_any l a cap pi W hm (hr.below hB) hs)
  have GR := Lib.hid (fun W (hR : RowV W a l.length 3 (entryCells l)) => sfrom_any l a cap (pi + 1) W hm hcap hR hs)
  have t0 : (pt == 0) = false := by rw [beq_eq_false_iff_ne]; exact ht0
  rw [hbb] at GF
  generalize fnd l pi = kk at *
  clear ht0 hbb
  generalize l.drop (fnd l (pi + 1)) = XL at *
  clear hr hs
  go_enter Try.func92, Try.ntmps92
  go_upto_region 1 with (fail)
  have hD := HS.out
  generalize (((w.alloc (.cells #[.int .i64 id, .int .i64 fi, .int .i64 te, .int .i64 ht, .int .i64 hv, .int .i64 hc, .slice a l.length cap] 65)).alloc (.cells #[.int .i64 pg, .int .i64 pk, .slice pa plen pcap, .int .i64 pht, .int .i64 phv, .int .i64 phc, .int .i64 pi, .int .i64 pt, .bool pm, .bool ph] 41)).alloc (.cells GZ 65)) = wq at *
  obtain ⟨g0, g1, g2, g3, g4, g5, g6, fg⟩ := cells7 hD.gb
  obtain ⟨p1, p2, p3, p4, p5, p6, p7⟩ := cells10 hD.pb
  obtain ⟨r0, r1, r2, r3, r4, r5, r6, fr⟩ := cells7 hD.rb
  go_upto_region 8 with (go_at_call 113; ((with_reducible refine (GF.out _ hD.bel).mono ?_); rintro e w1 ⟨rfl, hB1⟩; have hD1 := hD.after hB1; clear g0 g1 g2 g3 g4 g5 g6 fg p1 p2 p3 p4 p5 p6 p7 r0 r1 r2 r3 r4 r5 r6 fr; obtain ⟨g0, g1, g2, g3, g4, g5, g6, fg⟩ := cells7 hD1.gb; obtain ⟨p1, p2, p3, p4, p5, p6, p7⟩ := cells10 hD1.pb; obtain ⟨r0, r1, r2, r3, r4, r5, r6, fr⟩ := cells7 hD1.rb))
  have hD2 := (hD1.set 1 (.int .i64 (pi + 1))).set 2 (.int .i64 pt)
  simp only [List.setIfInBounds_toArray, List.set_cons_succ, List.set_cons_zero] at hD2
  clear g0 g1 g2 g3 g4 g5 g6 fg p1 p2 p3 p4 p5 p6 p7 r0 r1 r2 r3 r4 r5 r6 fr
  generalize ((w1.setCell ⟨w.heap.size, 1, none⟩ (.int .i64 (pi + 1))).setCell ⟨w.heap.size, 2, none⟩ (.int .i64 pt)) = w2 at *
  obtain ⟨g0, g1, g2, g3, g4, g5, g6, fg⟩ := cells7 hD2.gb
  obtain ⟨p1, p2, p3, p4, p5, p6, p7⟩ := cells10 hD2.pb
  obtain ⟨r0, r1, r2, r3, r4, r5, r6, fr⟩ := cells7 hD2.rb
  have hb2 := hD2.bel
  obtain ⟨hb7, hbel2, hF7, hg7⟩ := hD2.fin
  obtain ⟨y0, y1, y2, y3, y4, y5, y6, -⟩ := cells7 hg7
  go_region_held3 (fun W' => W'.cell? ⟨w.heap.size, 0, none⟩ = some (.int .i64 id) ∧ W'.cell? ⟨w.heap.size, 1, none⟩ = some (.int .i64 (pi + 1)) ∧ W'.cell? ⟨w.heap.size, 2, none⟩ = some (.int .i64 pt) ∧ W'.cell? ⟨w.heap.size, 3, none⟩ = some (.int .i64 ht) ∧ W'.cell? ⟨w.heap.size, 4, none⟩ = some (.int .i64 hv) ∧ W'.cell? ⟨w.heap.size, 5, none⟩ = some (.int .i64 hc) ∧ W'.cell? ⟨w.heap.size, 6, none⟩ = some (.slice a l.length cap)) (go_keep) (first
    | (go_at_call 95; ((with_reducible refine (GR.out _ ?hr).mono ?_); (case hr => first | exact HR.out _ hb2 | exact HR.out _ hb2.drew | exact HR.out _ hbel2 | exact HR.out _ hbel2.drew); rintro e w3 ⟨va, vc, rfl, hrow3, hvc, hB3, hin⟩; (first
      | (have hX3 : Below w2.heap.size w2 w3 := (by first | exact hB3 | exact bel2 (Below.refl _ _).drew hB3); have hD3 := hD2.after hX3; clear g0 g1 g2 g3 g4 g5 g6 fg p1 p2 p3 p4 p5 p6 p7 r0 r1 r2 r3 r4 r5 r6 fr y0 y1 y2 y3 y4 y5 y6 hb7 hbel2 hF7 hg7; obtain ⟨g0, g1, g2, g3, g4, g5, g6, fg⟩ := cells7 hD3.gb; obtain ⟨p1, p2, p3, p4, p5, p6, p7⟩ := cells10 hD3.pb; obtain ⟨r0, r1, r2, r3, r4, r5, r6, fr⟩ := cells7 hD3.rb; obtain ⟨hb9, hbel9, hF9, hg9⟩ := hD3.fin; obtain ⟨y0, y1, y2, y3, y4, y5, y6, -⟩ := cells7 hg9; obtain ⟨e0, e1, e2, e3, e4, e5, e6, -⟩ := cells7 hb9)
      | (have hX3 : Below (st7 w2 (w.heap.size + 1 + 1) (.int .i64 id) (.int .i64 (pi + 1)) (.int .i64 pt) (.int .i64 ht) (.int .i64 hv) (.int .i64 hc) (.slice a l.length cap)).heap.size (st7 w2 (w.heap.size + 1 + 1) (.int .i64 id) (.int .i64 (pi + 1)) (.int .i64 pt) (.int .i64 ht) (.int .i64 hv) (.int .i64 hc) (.slice a l.length cap)) w3 := (by first | exact hB3 | exact bel2 (Below.refl _ _).drew hB3); have hb9 := (hX3.block _ (heap_lt hb7)).trans hb7; have hg9 := (hX3.block _ (heap_lt hg7)).trans hg7; have hbel9 := hbel2.trans (hX3.mono hbel2.size); clear g0 g1 g2 g3 g4 g5 g6 fg p1 p2 p3 p4 p5 p6 p7 r0 r1 r2 r3 r4 r5 r6 fr y0 y1 y2 y3 y4 y5 y6 hb7 hF7 hg7; obtain ⟨y0, y1, y2, y3, y4, y5, y6, -⟩ := cells7 hg9; obtain ⟨e0, e1, e2, e3, e4, e5, e6, -⟩ := cells7 hb9)))))
  all_goals
    go_wp2
    refine bodyPost_ret (v := .tuple #[.agg #[.int .i64 id, .int .i64 (pi + 1), .int .i64 pt, .int .i64 ht, .int .i64 hv, .int .i64 hc, .slice a l.length cap], .slice va XL.length vc]) (by simp [results, Try.results92, go_sem, e0, e1, e2, e3, e4, e5, e6]) rfl ?_
    first
      | exact ⟨va, vc, rfl, rowV_frame hrow3 hF9 (fun k hk h => by have := HLT.out k (hin k hk); omega), hvc, hbel9, hin⟩
      | exact ⟨va, vc, rfl, hrow3, hvc, hbel9, hin⟩

set_option maxRecDepth 100000 in
set_option maxHeartbeats 4000000 in
theorem cmp_af (id fi te ht hv hc : Int) (l : List EntryC) (a : Option Addr) (cap : Nat) (pg pk : Int) (pa : Option Addr) (plen pcap : Nat) (pht phv phc pi pt : Int) (pm ph : Bool) (w : World) (hm : l.length < 1000000) (hcap : l.length ≤ cap) (hr : RowV w a l.length 3 (entryCells l)) (hs : Ris l) (hi : fi ≤ pi) (hi1 : 1 ≤ pi) (hi2 : pi ≤ 1099511627776) (ht0 : pt ≠ 0) (hbb : hasB l pi = false) : Calls Try.prog 92 #[.agg #[.int .i64 id, .int .i64 fi, .int .i64 te, .int .i64 ht, .int .i64 hv, .int .i64 hc, .slice a l.length cap], .agg #[.int .i64 pg, .int .i64 pk, .slice pa plen pcap, .int .i64 pht, .int .i64 phv, .int .i64 phc, .int .i64 pi, .int .i64 pt, .bool pm, .bool ph]] w (CmpP w a l.length cap id (pi + 1) pt ht hv hc (l.drop (fnd l (pi + 1)))) := by
  have HR := Lib.hid (fun W (hB : Below w.heap.size w W) => hr.below hB)
  have HS := Lib.hid (DoW.start w #[.int .i64 id, .int .i64 fi, .int .i64 te, .int .i64 ht, .int .i64 hv, .int .i64 hc, .slice a l.length cap] #[.int .i64 pg, .int .i64 pk, .slice pa plen pcap, .int .i64 pht, .int .i64 phv, .int .i64 phc, .int .i64 pi, .int .i64 pt, .bool pm, .bool ph])
  have HLT := Lib.hid (show ∀ k, inBlkE a l.length k → k < w.heap.size from fun k hk => inBlkE_lt hr hk)
  have GF := Lib.hid (fun W (hB : Below w.heap.size w W) => find_any l a cap pi W hm (hr.below hB) hs)
  have GR := Lib.hid (fun W (hR : RowV W a l.length 3 (entryCells l)) => sfrom_any l a cap (pi + 1) W hm hcap hR hs)
  have t0 : (pt == 0) = false := by rw [beq_eq_false_iff_ne]; exact ht0
  rw [hbb] at GF
  generalize fnd l pi = kk at *
  clear ht0 hbb
  generalize l.drop (fnd l (pi + 1)) = XL at *
  clear hr hs
  go_enter Try.func92, Try.ntmps92
  go_upto_region 1 with (fail)
  have hD := HS.out
  generalize (((w.alloc (.cells #[.int .i64 id, .int .i64 fi, .int .i64 te, .int .i64 ht, .int .i64 hv, .int .i64 hc, .slice a l.length cap] 65)).alloc (.cells #[.int .i64 pg, .int .i64 pk, .slice pa plen pcap, .int .i64 pht, .int .i64 phv, .int .i64 phc, .int .i64 pi, .int .i64 pt, .bool pm, .bool ph] 41)).alloc (.cells GZ 65)) = wq at *
  obtain ⟨g0, g1, g2, g3, g4, g5, g6, fg⟩ := cells7 hD.gb
  obtain ⟨p1, p2, p3, p4, p5, p6, p7⟩ := cells10 hD.pb
  obtain ⟨r0, r1, r2, r3, r4, r5, r6, fr⟩ := cells7 hD.rb
  go_upto_region 8 with (go_at_call 113; ((with_reducible refine (GF.out _ hD.bel).mono ?_); rintro e w1 ⟨rfl, hB1⟩; have hD1 := hD.after hB1; clear g0 g1 g2 g3 g4 g5 g6 fg p1 p2 p3 p4 p5 p6 p7 r0 r1 r2 r3 r4 r5 r6 fr; obtain ⟨g0, g1, g2, g3, g4, g5, g6, fg⟩ := cells7 hD1.gb; obtain ⟨p1, p2, p3, p4, p5, p6, p7⟩ := cells10 hD1.pb; obtain ⟨r0, r1, r2, r3, r4, r5, r6, fr⟩ := cells7 hD1.rb))
  have hD2 := (hD1.set 1 (.int .i64 (pi + 1))).set 2 (.int .i64 pt)
  simp only [List.setIfInBounds_toArray, List.set_cons_succ, List.set_cons_zero] at hD2
  clear g0 g1 g2 g3 g4 g5 g6 fg p1 p2 p3 p4 p5 p6 p7 r0 r1 r2 r3 r4 r5 r6 fr
  generalize ((w1.setCell ⟨w.heap.size, 1, none⟩ (.int .i64 (pi + 1))).setCell ⟨w.heap.size, 2, none⟩ (.int .i64 pt)) = w2 at *
  obtain ⟨g0, g1, g2, g3, g4, g5, g6, fg⟩ := cells7 hD2.gb
  obtain ⟨p1, p2, p3, p4, p5, p6, p7⟩ := cells10 hD2.pb
  obtain ⟨r0, r1, r2, r3, r4, r5, r6, fr⟩ := cells7 hD2.rb
  have hb2 := hD2.bel
  obtain ⟨hb7, hbel2, hF7, hg7⟩ := hD2.fin
  obtain ⟨y0, y1, y2, y3, y4, y5, y6, -⟩ := cells7 hg7
  go_region_held3 (fun W' => W'.cell? ⟨w.heap.size, 0, none⟩ = some (.int .i64 id) ∧ W'.cell? ⟨w.heap.size, 1, none⟩ = some (.int .i64 (pi + 1)) ∧ W'.cell? ⟨w.heap.size, 2, none⟩ = some (.int .i64 pt) ∧ W'.cell? ⟨w.heap.size, 3, none⟩ = some (.int .i64 ht) ∧ W'.cell? ⟨w.heap.size, 4, none⟩ = some (.int .i64 hv) ∧ W'.cell? ⟨w.heap.size, 5, none⟩ = some (.int .i64 hc) ∧ W'.cell? ⟨w.heap.size, 6, none⟩ = some (.slice a l.length cap)) (go_keep) (first
    | (go_at_call 95; ((with_reducible refine (GR.out _ ?hr).mono ?_); (case hr => first | exact HR.out _ hb2 | exact HR.out _ hb2.drew | exact HR.out _ hbel2 | exact HR.out _ hbel2.drew); rintro e w3 ⟨va, vc, rfl, hrow3, hvc, hB3, hin⟩; (first
      | (have hX3 : Below w2.heap.size w2 w3 := (by first | exact hB3 | exact bel2 (Below.refl _ _).drew hB3); have hD3 := hD2.after hX3; clear g0 g1 g2 g3 g4 g5 g6 fg p1 p2 p3 p4 p5 p6 p7 r0 r1 r2 r3 r4 r5 r6 fr y0 y1 y2 y3 y4 y5 y6 hb7 hbel2 hF7 hg7; obtain ⟨g0, g1, g2, g3, g4, g5, g6, fg⟩ := cells7 hD3.gb; obtain ⟨p1, p2, p3, p4, p5, p6, p7⟩ := cells10 hD3.pb; obtain ⟨r0, r1, r2, r3, r4, r5, r6, fr⟩ := cells7 hD3.rb; obtain ⟨hb9, hbel9, hF9, hg9⟩ := hD3.fin; obtain ⟨y0, y1, y2, y3, y4, y5, y6, -⟩ := cells7 hg9; obtain ⟨e0, e1, e2, e3, e4, e5, e6, -⟩ := cells7 hb9)
      | (have hX3 : Below (st7 w2 (w.heap.size + 1 + 1) (.int .i64 id) (.int .i64 (pi + 1)) (.int .i64 pt) (.int .i64 ht) (.int .i64 hv) (.int .i64 hc) (.slice a l.length cap)).heap.size (st7 w2 (w.heap.size + 1 + 1) (.int .i64 id) (.int .i64 (pi + 1)) (.int .i64 pt) (.int .i64 ht) (.int .i64 hv) (.int .i64 hc) (.slice a l.length cap)) w3 := (by first | exact hB3 | exact bel2 (Below.refl _ _).drew hB3); have hb9 := (hX3.block _ (heap_lt hb7)).trans hb7; have hg9 := (hX3.block _ (heap_lt hg7)).trans hg7; have hbel9 := hbel2.trans (hX3.mono hbel2.size); clear g0 g1 g2 g3 g4 g5 g6 fg p1 p2 p3 p4 p5 p6 p7 r0 r1 r2 r3 r4 r5 r6 fr y0 y1 y2 y3 y4 y5 y6 hb7 hF7 hg7; obtain ⟨y0, y1, y2, y3, y4, y5, y6, -⟩ := cells7 hg9; obtain ⟨e0, e1, e2, e3, e4, e5, e6, -⟩ := cells7 hb9)))))
  all_goals
    go_wp2
    refine bodyPost_ret (v := .tuple #[.agg #[.int .i64 id, .int .i64 (pi + 1), .int .i64 pt, .int .i64 ht, .int .i64 hv, .int .i64 hc, .slice a l.length cap], .slice va XL.length vc]) (by simp [results, Try.results92, go_sem, e0, e1, e2, e3, e4, e5, e6]) rfl ?_
    first
      | exact ⟨va, vc, rfl, rowV_frame hrow3 hF9 (fun k hk h => by have := HLT.out k (hin k hk); omega), hvc, hbel9, hin⟩
      | exact ⟨va, vc, rfl, hrow3, hvc, hbel9, hin⟩

set_option maxRecDepth 100000 in
set_option maxHeartbeats 4000000 in
theorem cmp_b (id fi te ht hv hc : Int) (l : List EntryC) (a : Option Addr) (cap : Nat) (pg pk : Int) (pa : Option Addr) (plen pcap : Nat) (pht phv phc pi pt : Int) (pm ph : Bool) (w : World) (hm : l.length < 1000000) (hcap : l.length ≤ cap) (hr : RowV w a l.length 3 (entryCells l)) (hs : Ris l) (hi : fi ≤ pi) (hi1 : 1 ≤ pi) (hi2 : pi ≤ 1099511627776) (ht0 : pt = 0) (hbb : hasB l pi = false) : Calls Try.prog 92 #[.agg #[.int .i64 id, .int .i64 fi, .int .i64 te, .int .i64 ht, .int .i64 hv, .int .i64 hc, .slice a l.length cap], .agg #[.int .i64 pg, .int .i64 pk, .slice pa plen pcap, .int .i64 pht, .int .i64 phv, .int .i64 phc, .int .i64 pi, .int .i64 0, .bool pm, .bool ph]] w (CmpP w a l.length cap id (pi + 1) 0 ht hv hc (l.drop (fnd l (pi + 1)))) := by
  have HR := Lib.hid (fun W (hB : Below w.heap.size w W) => hr.below hB)
  have HS := Lib.hid (DoW.start w #[.int .i64 id, .int .i64 fi, .int .i64 te, .int .i64 ht, .int .i64 hv, .int .i64 hc, .slice a l.length cap] #[.int .i64 pg, .int .i64 pk, .slice pa plen pcap, .int .i64 pht, .int .i64 phv, .int .i64 phc, .int .i64 pi, .int .i64 0, .bool pm, .bool ph])
  have HLT := Lib.hid (show ∀ k, inBlkE a l.length k → k < w.heap.size from fun k hk => inBlkE_lt hr hk)
  have GF := Lib.hid (fun W (hB : Below w.heap.size w W) => find_any l a cap pi W hm (hr.below hB) hs)
  have GR := Lib.hid (fun W (hR : RowV W a l.length 3 (entryCells l)) => sfrom_any l a cap (pi + 1) W hm hcap hR hs)
  subst ht0
  rw [hbb] at GF
  generalize fnd l pi = kk at *
  clear hbb
  generalize l.drop (fnd l (pi + 1)) = XL at *
  clear hr hs
  go_enter Try.func92, Try.ntmps92
  go_upto_region 1 with (fail)
  have hD := HS.out
  generalize (((w.alloc (.cells #[.int .i64 id, .int .i64 fi, .int .i64 te, .int .i64 ht, .int .i64 hv, .int .i64 hc, .slice a l.length cap] 65)).alloc (.cells #[.int .i64 pg, .int .i64 pk, .slice pa plen pcap, .int .i64 pht, .int .i64 phv, .int .i64 phc, .int .i64 pi, .int .i64 0, .bool pm, .bool ph] 41)).alloc (.cells GZ 65)) = wq at *
  obtain ⟨g0, g1, g2, g3, g4, g5, g6, fg⟩ := cells7 hD.gb
  obtain ⟨p1, p2, p3, p4, p5, p6, p7⟩ := cells10 hD.pb
  obtain ⟨r0, r1, r2, r3, r4, r5, r6, fr⟩ := cells7 hD.rb
  go_upto_region 8 with (go_at_call 113; ((with_reducible refine (GF.out _ hD.bel).mono ?_); rintro e w1 ⟨rfl, hB1⟩; have hD1 := hD.after hB1; clear g0 g1 g2 g3 g4 g5 g6 fg p1 p2 p3 p4 p5 p6 p7 r0 r1 r2 r3 r4 r5 r6 fr; obtain ⟨g0, g1, g2, g3, g4, g5, g6, fg⟩ := cells7 hD1.gb; obtain ⟨p1, p2, p3, p4, p5, p6, p7⟩ := cells10 hD1.pb; obtain ⟨r0, r1, r2, r3, r4, r5, r6, fr⟩ := cells7 hD1.rb))
  have hD2 := (hD1.set 1 (.int .i64 (pi + 1))).set 2 (.int .i64 0)
  simp only [List.setIfInBounds_toArray, List.set_cons_succ, List.set_cons_zero] at hD2
  clear g0 g1 g2 g3 g4 g5 g6 fg p1 p2 p3 p4 p5 p6 p7 r0 r1 r2 r3 r4 r5 r6 fr
  generalize ((w1.setCell ⟨w.heap.size, 1, none⟩ (.int .i64 (pi + 1))).setCell ⟨w.heap.size, 2, none⟩ (.int .i64 0)) = w2 at *
  obtain ⟨g0, g1, g2, g3, g4, g5, g6, fg⟩ := cells7 hD2.gb
  obtain ⟨p1, p2, p3, p4, p5, p6, p7⟩ := cells10 hD2.pb
  obtain ⟨r0, r1, r2, r3, r4, r5, r6, fr⟩ := cells7 hD2.rb
  have hb2 := hD2.bel
  obtain ⟨hb7, hbel2, hF7, hg7⟩ := hD2.fin
  obtain ⟨y0, y1, y2, y3, y4, y5, y6, -⟩ := cells7 hg7
  go_region_held3 (fun W' => W'.cell? ⟨w.heap.size, 0, none⟩ = some (.int .i64 id) ∧ W'.cell? ⟨w.heap.size, 1, none⟩ = some (.int .i64 (pi + 1)) ∧ W'.cell? ⟨w.heap.size, 2, none⟩ = some (.int .i64 0) ∧ W'.cell? ⟨w.heap.size, 3, none⟩ = some (.int .i64 ht) ∧ W'.cell? ⟨w.heap.size, 4, none⟩ = some (.int .i64 hv) ∧ W'.cell? ⟨w.heap.size, 5, none⟩ = some (.int .i64 hc) ∧ W'.cell? ⟨w.heap.size, 6, none⟩ = some (.slice a l.length cap)) (go_keep) (first
    | (go_at_call 95; ((with_reducible refine (GR.out _ ?hr).mono ?_); (case hr => first | exact HR.out _ hb2 | exact HR.out _ hb2.drew | exact HR.out _ hbel2 | exact HR.out _ hbel2.drew); rintro e w3 ⟨va, vc, rfl, hrow3, hvc, hB3, hin⟩; (first
      | (have hX3 : Below w2.heap.size w2 w3 := (by first | exact hB3 | exact bel2 (Below.refl _ _).drew hB3); have hD3 := hD2.after hX3; clear g0 g1 g2 g3 g4 g5 g6 fg p1 p2 p3 p4 p5 p6 p7 r0 r1 r2 r3 r4 r5 r6 fr y0 y1 y2 y3 y4 y5 y6 hb7 hbel2 hF7 hg7; obtain ⟨g0, g1, g2, g3, g4, g5, g6, fg⟩ := cells7 hD3.gb; obtain ⟨p1, p2, p3, p4, p5, p6, p7⟩ := cells10 hD3.pb; obtain ⟨r0, r1, r2, r3, r4, r5, r6, fr⟩ := cells7 hD3.rb; obtain ⟨hb9, hbel9, hF9, hg9⟩ := hD3.fin; obtain ⟨y0, y1, y2, y3, y4, y5, y6, -⟩ := cells7 hg9; obtain ⟨e0, e1, e2, e3, e4, e5, e6, -⟩ := cells7 hb9)
      | (have hX3 : Below (st7 w2 (w.heap.size + 1 + 1) (.int .i64 id) (.int .i64 (pi + 1)) (.int .i64 0) (.int .i64 ht) (.int .i64 hv) (.int .i64 hc) (.slice a l.length cap)).heap.size (st7 w2 (w.heap.size + 1 + 1) (.int .i64 id) (.int .i64 (pi + 1)) (.int .i64 0) (.int .i64 ht) (.int .i64 hv) (.int .i64 hc) (.slice a l.length cap)) w3 := (by first | exact hB3 | exact bel2 (Below.refl _ _).drew hB3); have hb9 := (hX3.block _ (heap_lt hb7)).trans hb7; have hg9 := (hX3.block _ (heap_lt hg7)).trans hg7; have hbel9 := hbel2.trans (hX3.mono hbel2.size); clear g0 g1 g2 g3 g4 g5 g6 fg p1 p2 p3 p4 p5 p6 p7 r0 r1 r2 r3 r4 r5 r6 fr y0 y1 y2 y3 y4 y5 y6 hb7 hF7 hg7; obtain ⟨y0, y1, y2, y3, y4, y5, y6, -⟩ := cells7 hg9; obtain ⟨e0, e1, e2, e3, e4, e5, e6, -⟩ := cells7 hb9)))))
  all_goals
    go_wp2
    refine bodyPost_ret (v := .tuple #[.agg #[.int .i64 id, .int .i64 (pi + 1), .int .i64 0, .int .i64 ht, .int .i64 hv, .int .i64 hc, .slice a l.length cap], .slice va XL.length vc]) (by simp [results, Try.results92, go_sem, e0, e1, e2, e3, e4, e5, e6]) rfl ?_
    first
      | exact ⟨va, vc, rfl, rowV_frame hrow3 hF9 (fun k hk h => by have := HLT.out k (hin k hk); omega), hvc, hbel9, hin⟩
      | exact ⟨va, vc, rfl, hrow3, hvc, hbel9, hin⟩

set_option maxRecDepth 100000 in
set_option maxHeartbeats 4000000 in
theorem cmp_c (id fi te ht hv hc : Int) (l : List EntryC) (b off : Nat) (cap : Nat) (pg pk : Int) (pa : Option Addr) (plen pcap : Nat) (pht phv phc pi pt : Int) (pm ph : Bool) (w : World) (hm : l.length < 1000000) (hcap : l.length ≤ cap) (hr : RowV w (some ⟨b, off, none⟩) l.length 3 (entryCells l)) (hs : Ris l) (hi : fi ≤ pi) (hi1 : 1 ≤ pi) (hi2 : pi ≤ 1099511627776) (ht0 : pt = 0) (kk : Nat) (hk : kk < l.length) (hkk : fnd l pi = kk) (hbb : hasB l pi = true) : Calls Try.prog 92 #[.agg #[.int .i64 id, .int .i64 fi, .int .i64 te, .int .i64 ht, .int .i64 hv, .int .i64 hc, .slice (some ⟨b, off, none⟩) l.length cap], .agg #[.int .i64 pg, .int .i64 pk, .slice pa plen pcap, .int .i64 pht, .int .i64 phv, .int .i64 phc, .int .i64 pi, .int .i64 0, .bool pm, .bool ph]] w (CmpP w (some ⟨b, off, none⟩) l.length cap id (pi + 1) l[kk].t ht hv hc (l.drop (fnd l (pi + 1)))) := by
  have HR := Lib.hid (fun W (hB : Below w.heap.size w W) => hr.below hB)
  have HS := Lib.hid (DoW.start w #[.int .i64 id, .int .i64 fi, .int .i64 te, .int .i64 ht, .int .i64 hv, .int .i64 hc, .slice (some ⟨b, off, none⟩) l.length cap] #[.int .i64 pg, .int .i64 pk, .slice pa plen pcap, .int .i64 pht, .int .i64 phv, .int .i64 phc, .int .i64 pi, .int .i64 0, .bool pm, .bool ph])
  have HLT := Lib.hid (show ∀ k, inBlkE (some ⟨b, off, none⟩) l.length k → k < w.heap.size from fun k hk => inBlkE_lt hr hk)
  have GF := Lib.hid (fun W (hB : Below w.heap.size w W) => find_any l (some ⟨b, off, none⟩) cap pi W hm (hr.below hB) hs)
  have GR := Lib.hid (fun W (hR : RowV W (some ⟨b, off, none⟩) l.length 3 (entryCells l)) => sfrom_any l (some ⟨b, off, none⟩) cap (pi + 1) W hm hcap hR hs)
  subst ht0
  rw [hbb, hkk] at GF
  obtain ⟨b9, off9, e9, hbw, hx⟩ := hr.2.2 (by omega)
  cases e9
  have HX := Lib.hid (fun W (hB : Below w.heap.size w W) => entry_at hbw hB hx hk)
  generalize l[kk] = x at *
  obtain ⟨xi, xt, xd⟩ := x
  dsimp only at *
  have hk0 : (0 : Int) ≤ (kk : Int) := by omega
  have hkl : (kk : Int) < (l.length : Int) := by omega
  clear hx hkk hbb
  generalize l.drop (fnd l (pi + 1)) = XL at *
  clear hr hs
  go_enter Try.func92, Try.ntmps92
  go_upto_region 1 with (fail)
  have hD := HS.out
  generalize (((w.alloc (.cells #[.int .i64 id, .int .i64 fi, .int .i64 te, .int .i64 ht, .int .i64 hv, .int .i64 hc, .slice (some ⟨b, off, none⟩) l.length cap] 65)).alloc (.cells #[.int .i64 pg, .int .i64 pk, .slice pa plen pcap, .int .i64 pht, .int .i64 phv, .int .i64 phc, .int .i64 pi, .int .i64 0, .bool pm, .bool ph] 41)).alloc (.cells GZ 65)) = wq at *
  obtain ⟨g0, g1, g2, g3, g4, g5, g6, fg⟩ := cells7 hD.gb
  obtain ⟨p1, p2, p3, p4, p5, p6, p7⟩ := cells10 hD.pb
  obtain ⟨r0, r1, r2, r3, r4, r5, r6, fr⟩ := cells7 hD.rb
  go_upto_region 8 with (go_at_call 113; ((with_reducible refine (GF.out _ hD.bel).mono ?_); rintro e w1 ⟨rfl, hB1⟩; have hD1 := hD.after hB1; clear g0 g1 g2 g3 g4 g5 g6 fg p1 p2 p3 p4 p5 p6 p7 r0 r1 r2 r3 r4 r5 r6 fr; obtain ⟨g0, g1, g2, g3, g4, g5, g6, fg⟩ := cells7 hD1.gb; obtain ⟨p1, p2, p3, p4, p5, p6, p7⟩ := cells10 hD1.pb; obtain ⟨r0, r1, r2, r3, r4, r5, r6, fr⟩ := cells7 hD1.rb; obtain ⟨d0, d1, d2⟩ := HX.out _ hD1.bel))
  have hD2 := (hD1.set 1 (.int .i64 (pi + 1))).set 2 (.int .i64 xt)
  simp only [List.setIfInBounds_toArray, List.set_cons_succ, List.set_cons_zero] at hD2
  clear g0 g1 g2 g3 g4 g5 g6 fg p1 p2 p3 p4 p5 p6 p7 r0 r1 r2 r3 r4 r5 r6 fr d0 d1 d2
  generalize ((w1.setCell ⟨w.heap.size, 1, none⟩ (.int .i64 (pi + 1))).setCell ⟨w.heap.size, 2, none⟩ (.int .i64 xt)) = w2 at *
  obtain ⟨g0, g1, g2, g3, g4, g5, g6, fg⟩ := cells7 hD2.gb
  obtain ⟨p1, p2, p3, p4, p5, p6, p7⟩ := cells10 hD2.pb
  obtain ⟨r0, r1, r2, r3, r4, r5, r6, fr⟩ := cells7 hD2.rb
  have hb2 := hD2.bel
  obtain ⟨hb7, hbel2, hF7, hg7⟩ := hD2.fin
  obtain ⟨y0, y1, y2, y3, y4, y5, y6, -⟩ := cells7 hg7
  go_region_held3 (fun W' => W'.cell? ⟨w.heap.size, 0, none⟩ = some (.int .i64 id) ∧ W'.cell? ⟨w.heap.size, 1, none⟩ = some (.int .i64 (pi + 1)) ∧ W'.cell? ⟨w.heap.size, 2, none⟩ = some (.int .i64 xt) ∧ W'.cell? ⟨w.heap.size, 3, none⟩ = some (.int .i64 ht) ∧ W'.cell? ⟨w.heap.size, 4, none⟩ = some (.int .i64 hv) ∧ W'.cell? ⟨w.heap.size, 5, none⟩ = some (.int .i64 hc) ∧ W'.cell? ⟨w.heap.size, 6, none⟩ = some (.slice (some ⟨b, off, none⟩) l.length cap)) (go_keep) (first
    | (go_at_call 95; ((with_reducible refine (GR.out _ ?hr).mono ?_); (case hr => first | exact HR.out _ hb2 | exact HR.out _ hb2.drew | exact HR.out _ hbel2 | exact HR.out _ hbel2.drew); rintro e w3 ⟨va, vc, rfl, hrow3, hvc, hB3, hin⟩; (first
      | (have hX3 : Below w2.heap.size w2 w3 := (by first | exact hB3 | exact bel2 (Below.refl _ _).drew hB3); have hD3 := hD2.after hX3; clear g0 g1 g2 g3 g4 g5 g6 fg p1 p2 p3 p4 p5 p6 p7 r0 r1 r2 r3 r4 r5 r6 fr y0 y1 y2 y3 y4 y5 y6 hb7 hbel2 hF7 hg7; obtain ⟨g0, g1, g2, g3, g4, g5, g6, fg⟩ := cells7 hD3.gb; obtain ⟨p1, p2, p3, p4, p5, p6, p7⟩ := cells10 hD3.pb; obtain ⟨r0, r1, r2, r3, r4, r5, r6, fr⟩ := cells7 hD3.rb; obtain ⟨hb9, hbel9, hF9, hg9⟩ := hD3.fin; obtain ⟨y0, y1, y2, y3, y4, y5, y6, -⟩ := cells7 hg9; obtain ⟨e0, e1, e2, e3, e4, e5, e6, -⟩ := cells7 hb9)
      | (have hX3 : Below (st7 w2 (w.heap.size + 1 + 1) (.int .i64 id) (.int .i64 (pi + 1)) (.int .i64 xt) (.int .i64 ht) (.int .i64 hv) (.int .i64 hc) (.slice (some ⟨b, off, none⟩) l.length cap)).heap.size (st7 w2 (w.heap.size + 1 + 1) (.int .i64 id) (.int .i64 (pi + 1)) (.int .i64 xt) (.int .i64 ht) (.int .i64 hv) (.int .i64 hc) (.slice (some ⟨b, off, none⟩) l.length cap)) w3 := (by first | exact hB3 | exact bel2 (Below.refl _ _).drew hB3); have hb9 := (hX3.block _ (heap_lt hb7)).trans hb7; have hg9 := (hX3.block _ (heap_lt hg7)).trans hg7; have hbel9 := hbel2.trans (hX3.mono hbel2.size); clear g0 g1 g2 g3 g4 g5 g6 fg p1 p2 p3 p4 p5 p6 p7 r0 r1 r2 r3 r4 r5 r6 fr y0 y1 y2 y3 y4 y5 y6 hb7 hF7 hg7; obtain ⟨y0, y1, y2, y3, y4, y5, y6, -⟩ := cells7 hg9; obtain ⟨e0, e1, e2, e3, e4, e5, e6, -⟩ := cells7 hb9)))))
  all_goals
    go_wp2
    refine bodyPost_ret (v := .tuple #[.agg #[.int .i64 id, .int .i64 (pi + 1), .int .i64 xt, .int .i64 ht, .int .i64 hv, .int .i64 hc, .slice (some ⟨b, off, none⟩) l.length cap], .slice va XL.length vc]) (by simp [results, Try.results92, go_sem, e0, e1, e2, e3, e4, e5, e6]) rfl ?_
    first
      | exact ⟨va, vc, rfl, rowV_frame hrow3 hF9 (fun k hk h => by have := HLT.out k (hin k hk); omega), hvc, hbel9, hin⟩
      | exact ⟨va, vc, rfl, hrow3, hvc, hbel9, hin⟩

theorem cmp_yes (id fi te ht hv hc : Int) (l : List EntryC) (a : Option Addr) (cap : Nat) (pg pk : Int) (pa : Option Addr) (plen pcap : Nat) (pht phv phc pi pt : Int) (pm ph : Bool) (w : World) (hm : l.length < 1000000) (hcap : l.length ≤ cap) (hr : RowV w a l.length 3 (entryCells l)) (hs : Ris l) (hi : fi ≤ pi) (hi1 : 1 ≤ pi) (hi2 : pi ≤ 1099511627776) : Calls Try.prog 92 #[.agg #[.int .i64 id, .int .i64 fi, .int .i64 te, .int .i64 ht, .int .i64 hv, .int .i64 hc, .slice a l.length cap], .agg #[.int .i64 pg, .int .i64 pk, .slice pa plen pcap, .int .i64 pht, .int .i64 phv, .int .i64 phc, .int .i64 pi, .int .i64 pt, .bool pm, .bool ph]] w (CmpP w a l.length cap id (pi + 1) (if pt = 0 then entT l pi else pt) ht hv hc (l.drop (fnd l (pi + 1)))) := by
  by_cases ht0 : pt = 0
  · subst ht0
    rw [if_pos rfl, entT_ris hs]
    by_cases hbb : hasB l pi = true
    · rw [dif_pos hbb]
      have hk9 := (hasB_at hbb).1
      obtain ⟨b, off, rfl, -, -⟩ := hr.2.2 (by omega)
      exact cmp_c id fi te ht hv hc l b off cap pg pk pa plen pcap pht phv phc pi 0 pm ph w hm hcap hr hs hi hi1 hi2 rfl _ hk9 rfl hbb
    · rw [dif_neg hbb]
      exact cmp_b id fi te ht hv hc l a cap pg pk pa plen pcap pht phv phc pi 0 pm ph w hm hcap hr hs hi hi1 hi2 rfl (Bool.eq_false_iff.2 hbb)
  · rw [if_neg ht0]
    cases hbb : hasB l pi
    · exact cmp_af id fi te ht hv hc l a cap pg pk pa plen pcap pht phv phc pi pt pm ph w hm hcap hr hs hi hi1 hi2 ht0 hbb
    · exact cmp_at id fi te ht hv hc l a cap pg pk pa plen pcap pht phv phc pi pt pm ph w hm hcap hr hs hi hi1 hi2 ht0 hbb

end Go.Proofs.Ytdncdlbhgaehmaa
