/- The contract of package group's Do. -/
import Derived.Test.YtfmcebmkclaafaaGrpDo
import Derived.BigRegionIn
namespace Go.Proofs.Ytfmcebmkclaafaa
open Go.RowKit Go.Shelf
set_option linter.unusedVariables false
attribute [local go_sem] Oper.semAt_some wide_fn wide_round_fn

set_option maxRecDepth 100000 in
set_option maxHeartbeats 4000000 in
theorem do_err (id fi te ht hv hc : Int) (l : List EntryC) (a : Option Addr) (cap : Nat) (pg pk : Int) (pa : Option Addr) (plen pcap : Nat) (pht phv phc pi pt : Int) (pm ph : Bool) (pl : List EntryC) (w : World) (hg : HasG w a ⟨id, fi, te, ht, hv, hc, l⟩) (hG : isG ⟨id, fi, te, ht, hv, hc, l⟩ = true) (hp : HasE w ⟨pg, pk, pa, plen, pcap, pht, phv, phc, pi, pt, pm, ph⟩ pl) (hce : chkG ⟨id, fi, te, ht, hv, hc, l⟩ ⟨pg, pk, pa, plen, pcap, pht, phv, phc, pi, pt, pm, ph⟩ pl ≠ 0) : Calls Try.prog 22 #[.agg #[.int .i64 id, .int .i64 fi, .int .i64 te, .int .i64 ht, .int .i64 hv, .int .i64 hc, .slice a l.length cap], .agg #[.int .i64 pg, .int .i64 pk, .slice pa plen pcap, .int .i64 pht, .int .i64 phv, .int .i64 phc, .int .i64 pi, .int .i64 pt, .bool pm, .bool ph]] w (DoPost w ⟨id, fi, te, ht, hv, hc, l⟩ (chkG ⟨id, fi, te, ht, hv, hc, l⟩ ⟨pg, pk, pa, plen, pcap, pht, phv, phc, pi, pt, pm, ph⟩ pl)) := by
  have GC := Lib.hid (fun W (hB : Below w.heap.size w W) => chk_any id fi te ht hv hc l a cap pg pk pa plen pcap pht phv phc pi pt pm ph pl W (hg.below hB) hG (hp.below hB))
  generalize chkG ⟨id, fi, te, ht, hv, hc, l⟩ ⟨pg, pk, pa, plen, pcap, pht, phv, phc, pi, pt, pm, ph⟩ pl = c at *
  have GK := Lib.hid (fun W (hB : Below w.heap.size w W) => clone_ent a l.length cap l rfl hg.1 W (hg.2.below hB))
  have hm := hg.1
  have hS := DoW.start w #[.int .i64 id, .int .i64 fi, .int .i64 te, .int .i64 ht, .int .i64 hv, .int .i64 hc, .slice a l.length cap] #[.int .i64 pg, .int .i64 pk, .slice pa plen pcap, .int .i64 pht, .int .i64 phv, .int .i64 phc, .int .i64 pi, .int .i64 pt, .bool pm, .bool ph]
  have HS := Lib.hid hS
  have t1 : (c != 0) = true := by rw [bne_iff_ne]; exact hce
  have t2 : (c == 0) = false := by rw [beq_eq_false_iff_ne]; exact hce
  clear hg hG hp hce hS
  go_enter Try.func22, Try.ntmps22
  go_wp2_with (first
    | (go_at_call 24; ((with_reducible refine (GC.out _ HS.out.bel).mono ?_); rintro e w1 ⟨rfl, hB1⟩; have hD := HS.out.after hB1; obtain ⟨g0, g1, g2, g3, g4, g5, g6, fg⟩ := cells7 hD.gb))
    | (go_at_call 40; ((with_reducible refine (GK.out _ hD.bel).mono ?_); rintro e w2 ⟨v, rfl, hown, hB2⟩; obtain ⟨va, vc, rfl, -, -⟩ := rowV_own hown; have hE := Lib.hid (hD.after hB2); clear hB1 g0 g1 g2 g3 g4 g5 g6 fg; obtain ⟨g0, g1, g2, g3, g4, g5, g6, fg⟩ := cells7 hE.out.gb; obtain ⟨r0, r1, r2, r3, r4, r5, r6, fr⟩ := cells7 hE.out.rb)))
  have hE2 := Lib.hid (hE.out.set 6 (.slice va l.length vc))
  have hb7 := st7_block hE2.out.rb (.int .i64 id) (.int .i64 fi) (.int .i64 te) (.int .i64 ht) (.int .i64 hv) (.int .i64 hc) (.slice va l.length vc)
  have hF7 := (FrameT.setCell w2 w.heap.size 6 (.slice va l.length vc)).mono (U := fun k => k = w.heap.size ∨ k = w.heap.size + 1 + 1) (fun k h => .inl h)
  have hF8 := hF7.trans ((st7_frame (w2.setCell ⟨w.heap.size, 6, none⟩ (.slice va l.length vc)) (w.heap.size + 1 + 1) (.int .i64 id) (.int .i64 fi) (.int .i64 te) (.int .i64 ht) (.int .i64 hv) (.int .i64 hc) (.slice va l.length vc)).mono (fun k h => .inr h))
  have hlt := hD.lt
  have hown2 := own_frame hown hF8 (fun k hk h => by rcases h with h | h <;> omega)
  have hbel := hE.out.bel.trans (hF8.toBelow hE.out.bel.size (fun k h => by rcases h with h | h <;> omega))
  clear g0 g1 g2 g3 g4 g5 g6 fg r0 r1 r2 r3 r4 r5 r6 fr
  obtain ⟨e0, e1, e2, e3, e4, e5, e6, -⟩ := cells7 hb7
  obtain ⟨va', vc', hx, -, hrow⟩ := rowV_own hown2
  cases hx
  refine bodyPost_ret (v := .tuple #[.agg #[.int .i64 id, .int .i64 fi, .int .i64 te, .int .i64 ht, .int .i64 hv, .int .i64 hc, .slice va l.length vc], .int .i64 c]) (by simp [results, Try.results22, go_sem, e0, e1, e2, e3, e4, e5, e6]) rfl ?_
  exact ⟨va, vc, rfl, ⟨hm, hrow⟩, hbel, fun k hk => Nat.le_trans (Nat.le_trans (by omega) hD.bel.size) (own_new hown2 k hk)⟩

set_option maxRecDepth 100000 in
set_option maxHeartbeats 4000000 in
theorem do_1 (id fi te ht hv hc : Int) (l : List EntryC) (a : Option Addr) (cap : Nat) (pg : Int) (pb po : Nat) (plen pcap : Nat) (pht phv phc pi pt : Int) (pm ph : Bool) (pl : List EntryC) (w : World) (hg : HasG w a ⟨id, fi, te, ht, hv, hc, l⟩) (hG : isG ⟨id, fi, te, ht, hv, hc, l⟩ = true) (hp : HasE w ⟨pg, 1, (some ⟨pb, po, none⟩), plen, pcap, pht, phv, phc, pi, pt, pm, ph⟩ pl) (hce : chkG ⟨id, fi, te, ht, hv, hc, l⟩ ⟨pg, 1, (some ⟨pb, po, none⟩), plen, pcap, pht, phv, phc, pi, pt, pm, ph⟩ pl = 0) (h30 : l.length ≤ 100000) : Calls Try.prog 22 #[.agg #[.int .i64 id, .int .i64 fi, .int .i64 te, .int .i64 ht, .int .i64 hv, .int .i64 hc, .slice a l.length cap], .agg #[.int .i64 pg, .int .i64 1, .slice (some ⟨pb, po, none⟩) plen pcap, .int .i64 pht, .int .i64 phv, .int .i64 phc, .int .i64 pi, .int .i64 pt, .bool pm, .bool ph]] w (DoPost w { id := id, fi := fi, te := te, ht := ht, hv := hv, hc := hc, l := btw l minI (headI pl - 1) ++ pl } 0) := by
  obtain ⟨i0, hi, hz0, hz1, hz2⟩ := info_parts infoEntry
  have GC := Lib.hid (fun W (hB : Below w.heap.size w W) => (show Gives Try.prog 24 #[.agg #[.int .i64 id, .int .i64 fi, .int .i64 te, .int .i64 ht, .int .i64 hv, .int .i64 hc, .slice a l.length cap], .agg #[.int .i64 pg, .int .i64 1, .slice (some ⟨pb, po, none⟩) plen pcap, .int .i64 pht, .int .i64 phv, .int .i64 phc, .int .i64 pi, .int .i64 pt, .bool pm, .bool ph]] W (.int .i64 0) from by have := chk_any id fi te ht hv hc l a cap pg 1 (some ⟨pb, po, none⟩) plen pcap pht phv phc pi pt pm ph pl W (hg.below hB) hG (hp.below hB); rwa [hce] at this))
  have hm := hg.1
  have HG := Lib.hid hg.2
  have M := Lib.hid (fun W (hB : Below w.heap.size w W) lo hi => btw_makes a l.length cap l lo hi rfl hm W (HG.out.below hB))
  have hplen := hp.1
  have hpb := hp.2.1
  have hprow := hp.2.2
  dsimp only at hplen hpb hprow hm
  have hpl3 : (entryCells pl).length = plen * 3 := hprow.1
  have HPL := Lib.hid (fun W (hB : Below w.heap.size w W) => (show ∀ j u, (entryCells pl)[j]? = some u → W.cell? ((⟨pb, po, none⟩ : Addr).add j) = some u from fun j u hu => by
    obtain ⟨hj, rfl⟩ := List.getElem?_eq_some_iff.1 hu
    obtain ⟨b, off, e, hb, hx⟩ := (hprow.below hB).2.2 (by rcases Nat.eq_zero_or_pos plen with h | h; (rw [h] at hpl3; omega); exact h)
    cases e
    rw [add_off]
    exact hx j hj))
  have hone : ∀ u ∈ entryCells pl, u.oneCell' = true := by
    intro u hu
    simp only [entryCells, List.mem_flatten, List.mem_map] at hu
    obtain ⟨_, ⟨e, _, rfl⟩, hu⟩ := hu
    simp only [EntryC.cells, List.mem_cons, List.not_mem_nil, or_false] at hu
    rcases hu with rfl | rfl | rfl <;> rfl
  have hne : plen ≠ 0 := by
    have h1 : isB ⟨pg, 1, (some ⟨pb, po, none⟩), plen, pcap, pht, phv, phc, pi, pt, pm, ph⟩ pl = true := by
      cases h : isB ⟨pg, 1, (some ⟨pb, po, none⟩), plen, pcap, pht, phv, phc, pi, pt, pm, ph⟩ pl
      · rw [show chkG ⟨id, fi, te, ht, hv, hc, l⟩ ⟨pg, 1, (some ⟨pb, po, none⟩), plen, pcap, pht, phv, phc, pi, pt, pm, ph⟩ pl = 11 from if_pos (.inl h)] at hce; exact absurd hce (by decide)
      · rfl
    rcases (isB_iff _ _).1 h1 with ⟨_, h | h | h | h | h | h⟩
    · exact h.2.1
    all_goals (have h9 := h.1; dsimp only at h9; omega)
  have hp6 : plen ≤ 6 := by
    have h1 : isB ⟨pg, 1, (some ⟨pb, po, none⟩), plen, pcap, pht, phv, phc, pi, pt, pm, ph⟩ pl = true := by
      cases h : isB ⟨pg, 1, (some ⟨pb, po, none⟩), plen, pcap, pht, phv, phc, pi, pt, pm, ph⟩ pl
      · rw [show chkG ⟨id, fi, te, ht, hv, hc, l⟩ ⟨pg, 1, (some ⟨pb, po, none⟩), plen, pcap, pht, phv, phc, pi, pt, pm, ph⟩ pl = 11 from if_pos (.inl h)] at hce; exact absurd hce (by decide)
      · rfl
    exact (isB_bounds hplen h1).2.2.2.1
  have h1e : entryB (pl[0]'(by omega)) = true := by
    have h1 : isB ⟨pg, 1, (some ⟨pb, po, none⟩), plen, pcap, pht, phv, phc, pi, pt, pm, ph⟩ pl = true := by
      cases h : isB ⟨pg, 1, (some ⟨pb, po, none⟩), plen, pcap, pht, phv, phc, pi, pt, pm, ph⟩ pl
      · rw [show chkG ⟨id, fi, te, ht, hv, hc, l⟩ ⟨pg, 1, (some ⟨pb, po, none⟩), plen, pcap, pht, phv, phc, pi, pt, pm, ph⟩ pl = 11 from if_pos (.inl h)] at hce; exact absurd hce (by decide)
      · rfl
    exact (isB_bounds hplen h1).2.2.2.2 _ (List.getElem_mem _)
  obtain ⟨hbw, hx⟩ : pb < w.heap.size ∧ ∀ j (h : j < (entryCells pl).length), w.cell? ⟨pb, po + j, none⟩ = some (entryCells pl)[j] := by
    obtain ⟨b, off, e, hb, hx⟩ := hprow.2.2 (by omega)
    cases e; exact ⟨hb, hx⟩
  have hI9 : headI pl = (pl[0]'(by omega)).i := by
    cases pl with
    | nil => simp at hplen; omega
    | cons e r => rfl
  have hd0 : w.cell? ⟨pb, po, none⟩ = some (.int .i64 (headI pl)) := by
    have := (entry_at hbw (Below.refl w.heap.size w) hx (k := 0) (by omega)).1
    rw [hI9]; simpa using this
  have hIb := (entryB_bd h1e).1
  rw [← hI9] at hIb
  have HD0 := Lib.hid (fun W (hB : Below w.heap.size w W) => (hB.cell (p := ⟨pb, po, none⟩) hbw).trans hd0)
  have hp0 : (0 : Int) < (plen : Int) := by omega
  have hp1 : 0 < plen := by omega
  clear hx hd0 hI9 h1e hne
  generalize hIe : headI pl = hI at *
  have HS := Lib.hid (DoW.start w #[.int .i64 id, .int .i64 fi, .int .i64 te, .int .i64 ht, .int .i64 hv, .int .i64 hc, .slice a l.length cap] #[.int .i64 pg, .int .i64 1, .slice (some ⟨pb, po, none⟩) plen pcap, .int .i64 pht, .int .i64 phv, .int .i64 phc, .int .i64 pi, .int .i64 pt, .bool pm, .bool ph])
  clear hg hG hp hce
  refine (callsIn_wide (n := 9)).1 ?_
  refine callsIn_of_wp_marks Try.func22 rfl trivial ?_ rfl
  simp only [Try.ntmps22, List.size_toArray, List.length_cons, List.length_nil, Nat.reduceAdd, Nat.reduceSub, Array.replicate_succ, Array.replicate_zero, List.push_toArray, List.append_toArray, List.nil_append, List.cons_append]
  gi_wp2_with (first
    | (gi_at_call 24; ((with_reducible refine (callsIn_wide.2 (GC.out _ HS.out.bel)).mono ?_); rintro e w1 ⟨rfl, hB1⟩; have HD := Lib.hid (HS.out.after hB1); obtain ⟨g0, g1, g2, g3, g4, g5, g6, fg⟩ := cells7 HD.out.gb; obtain ⟨p1, p2, p3, p4, p5, p6, p7⟩ := cells10 HD.out.pb; have d9 := HD0.out _ HD.out.bel))
    | (gi_at_make; (refine wpListIn_make_own _ rfl _ _ 24 rfl w1.heap.size 55 i0 (.agg #[.int .i64 0, .int .i64 0, .string ⟨#[]⟩]) 3 Try.underlying24 hi hz0 hz1 .i64 .i64 ((l.length : Int) + (plen : Int)) (l.length + plen) rfl rfl (by push_cast; rfl) (by rw [hz2]; omega) (by unfold maxLen; omega) (Nat.le_refl _) ?_; intro w4 hown4 hgrow4; have hD4 := HD.out.grown hgrow4 (fun k e => by cases e); have hlt0 : w.heap.size + 3 ≤ w1.heap.size := (by have h9 := HD.out.lt; simpa using h9); have hlt4 : w1.heap.size < w4.heap.size := (by rcases hown4.2 with ⟨hv, _⟩ | ⟨g, _, _, hv, _, hgg, _⟩; (cases hv); (cases hv; exact heap_lt hgg)); clear g0 g1 g2 g3 g4 g5 g6 fg p1 p2 p3 p4 p5 p6 p7; have hD5 := Lib.hid (hD4.after (bel_alloc (Below.refl w4.heap.size w4) (.cells #[.slice (some ⟨w1.heap.size, 0, none⟩) 0 (l.length + plen)] 24))); obtain ⟨g0, g1, g2, g3, g4, g5, g6, fg⟩ := cells7 hD5.out.gb; obtain ⟨p1, p2, p3, p4, p5, p6, p7⟩ := cells10 hD5.out.pb))
    | (gi_at_call 42; (refine (callsIn_wide.2 (M.out _ (bel_alloc hD4.bel (.cells #[.slice (some ⟨w1.heap.size, 0, none⟩) 0 (l.length + plen)] 24)) minI (hI - 1))).mono ?_; rintro e w6 ⟨lb, rfl, hB6, hI6⟩)))
  have hG0 : w.heap.size + 3 ≤ w1.heap.size := hlt0
  obtain ⟨X, hX⟩ : ∃ X, X = btw l minI (hI - 1) := ⟨_, rfl⟩
  have hXl : X.length ≤ l.length := by rw [hX]; exact btw_len _ _ _
  rw [← hX] at hI6
  have hs4 : w4.heap.size + 1 ≤ w6.heap.size := by have := hB6.size; simpa using this
  have hGL : w1.heap.size < w4.heap.size := hlt4
  have HI6 := Lib.hid hI6
  have hlS : ∀ k, inBlkE a l.length k → k < w.heap.size := fun k hk => btw_lt HG.out hk
  have hS1 : ¬ (inBlkE a l.length w1.heap.size ∨ span (w4.heap.size + 1) w6.heap.size w1.heap.size) := fun h => h.elim (fun h => by have := hlS _ h; omega) (fun h => by have := h.1; omega)
  have hS2 : ¬ (inBlkE a l.length w4.heap.size ∨ span (w4.heap.size + 1) w6.heap.size w4.heap.size) := fun h => h.elim (fun h => by have := hlS _ h; omega) (fun h => by have := h.1; omega)
  have hbx6 : Boxed w6 w4.heap.size 24 (.slice (some ⟨w1.heap.size, 0, none⟩) 0 (l.length + plen)) := (hB6.block _ (by simp)).trans (Boxed.new w4 _ _)
  have hrow6 := ownsRow_below (n := 0) (ownsRow_below (n := 0) hown4 (bel_alloc (Below.refl w4.heap.size w4) (.cells #[.slice (some ⟨w1.heap.size, 0, none⟩) 0 (l.length + plen)] 24))) hB6
  have hD6 := (hD4.after (bel_alloc (Below.refl w4.heap.size w4) (.cells #[.slice (some ⟨w1.heap.size, 0, none⟩) 0 (l.length + plen)] 24))).after hB6
  have hw6 : w.heap.size ≤ w6.heap.size := hD6.bel.size
  simp only [World.size_alloc] at HI6
  refine range_outer rfl (enters_of Try.func63 (by kernel_rfl) rfl) HI6.out (fun _ => rfl) (fun k hk => hk.elim (fun h => Nat.lt_of_lt_of_le (hlS k h) hw6) (fun h => h.2)) (fun _ h => h.elim)
    (fun pre W => doJ w #[.int .i64 id, .int .i64 fi, .int .i64 te, .int .i64 ht, .int .i64 hv, .int .i64 hc, .slice a l.length cap] #[.int .i64 pg, .int .i64 1, .slice (some ⟨pb, po, none⟩) plen pcap, .int .i64 pht, .int .i64 phv, .int .i64 phc, .int .i64 pi, .int .i64 pt, .bool pm, .bool ph] w1.heap.size w4.heap.size (l.length + plen) pre.length (entryCells pre) w6.heap.size W) (fun _ _ _ => False) (fun _ => doJ_stab hw6) (fun _ _ => Stab.pure _) ⟨hbx6, hrow6, hD6, Nat.le_refl _⟩ ?hr ?hd (fun _ _ _ _ _ _ h => h.elim)
  case hr =>
    rintro L0 pre x suf W hx hl' hi1 hrec
    dsimp only [EntryC.enc, EntryC.val]
    have hpl : pre.length < X.length := by have h1 := congrArg List.length hx; simp at h1; omega
    gi_wp2
    refine rdThen_mk (fun W' => doJ w #[.int .i64 id, .int .i64 fi, .int .i64 te, .int .i64 ht, .int .i64 hv, .int .i64 hc, .slice a l.length cap] #[.int .i64 pg, .int .i64 1, .slice (some ⟨pb, po, none⟩) plen pcap, .int .i64 pht, .int .i64 phv, .int .i64 phc, .int .i64 pi, .int .i64 pt, .bool pm, .bool ph] w1.heap.size w4.heap.size (l.length + plen) pre.length (entryCells pre) w6.heap.size W' ∧ W'.heap[W.heap.size]? = some (.cells #[.int .i64 x.i, .int .i64 x.t, .string x.d] 55 (0, 0)))
      ((doJ_stab hw6).and (Stab.block (fun h => h) (.inr rfl))) ⟨doJ_stab hw6 _ _ hi1 (Moves.alloc _ _), World.alloc_heap_new W _⟩ ((Rd.refl _ _ _).alloc _) ?_
    clear hi1 hrec
    obtain ⟨Xb, hXb⟩ : ∃ Xb, Xb = W.heap.size := ⟨_, rfl⟩
    rw [← hXb]
    clear hXb W
    rintro W ⟨hJ, hblk⟩ hrec
    have hcL := hJ.1.cell
    have hrow := hJ.2.1
    have HJ := Lib.hid hJ
    have d0 : W.cell? ⟨Xb, 0, none⟩ = some (.int .i64 x.i) := cell_of_row W Xb 0 _ _ _ hblk
    have d1 : W.cell? ⟨Xb, 1, none⟩ = some (.int .i64 x.t) := cell_of_row W Xb 1 _ _ _ hblk
    have d2 : W.cell? ⟨Xb, 2, none⟩ = some (.string x.d) := cell_of_row W Xb 2 _ _ _ hblk
    clear hJ hblk hbx6 hrow6 hD6 hI6 hX
    gi_wp2_with (gi_at_builtin; refine wpListIn_append_fits _ rfl _ _ 24 rfl w1.heap.size 55 i0 3 Try.underlying24 hi hz1 w1.heap.size pre.length (l.length + plen) (entryCells pre) rfl (hrow.alloc _) ⟨W.heap.size, 0, none⟩ 1 1 x.cells rfl rfl (news_new _ _ _) (by simp [Value.oneCell', EntryC.cells]) (by omega) ?_; intro w9 hown9 hgrow9; obtain ⟨hb9, hR9, hJ9⟩ := doJ_append (B := w6.heap.size) (S := fun k => inBlkE a l.length k ∨ span (w4.heap.size + 1) w6.heap.size k) HJ.out hG0 hGL hS1 hS2 hown9 hgrow9; have hc9 := hb9.cell; have hf9 := hb9.frozen)
    refine ⟨hR9, ?_⟩
    dsimp only
    rw [List.length_append, entryCells_snoc]
    exact hJ9
  case hd =>
    rintro W ⟨hbx, hrow, hDo, hs⟩ hDef
    have hcL := hbx.cell
    obtain ⟨g0, g1, g2, g3, g4, g5, g6, fg⟩ := cells7 hDo.gb
    obtain ⟨p1, p2, p3, p4, p5, p6, p7⟩ := cells10 hDo.pb
    obtain ⟨r0, r1, r2, r3, r4, r5, r6, fr⟩ := cells7 hDo.rb
    have HX := Lib.hid hX
    clear hbx6 hrow6 hD6 hI6 hX hbx
    gi_wp2_with (gi_at_builtin; refine wpListIn_append_fits _ rfl _ _ 24 rfl w1.heap.size 55 i0 3 Try.underlying24 hi hz1 w1.heap.size X.length (l.length + plen) (entryCells X) rfl hrow ⟨pb, po, none⟩ plen pcap (entryCells pl) rfl hpl3 (HPL.out W (hDo.bel)) hone (by omega) ?_; intro w9 hown9 hgrow9; have hD9 := Lib.hid (hDo.grown hgrow9 (fun k e => by cases e; exact hG0)); have hDf := Lib.hid ((hgrow9.block _ (heap_lt hDef) (fun e => by have h9 := Option.some.inj e; omega)).trans hDef); clear g0 g1 g2 g3 g4 g5 g6 fg p1 p2 p3 p4 p5 p6 p7 r0 r1 r2 r3 r4 r5 r6 fr; obtain ⟨g0, g1, g2, g3, g4, g5, g6, fg⟩ := cells7 hD9.out.gb; obtain ⟨r0, r1, r2, r3, r4, r5, r6, fr⟩ := cells7 hD9.out.rb)
    have hE2 := Lib.hid (hD9.out.set 6 (.slice (some ⟨w1.heap.size, 0, none⟩) (X.length + plen) (l.length + plen)))
    have hb7 := st7_block hE2.out.rb (.int .i64 id) (.int .i64 fi) (.int .i64 te) (.int .i64 ht) (.int .i64 hv) (.int .i64 hc) (.slice (some ⟨w1.heap.size, 0, none⟩) (X.length + plen) (l.length + plen))
    have hF7 := (FrameT.setCell w9 w.heap.size 6 (.slice (some ⟨w1.heap.size, 0, none⟩) (X.length + plen) (l.length + plen))).mono (U := fun k => k = w.heap.size ∨ k = w.heap.size + 1 + 1) (fun k h => .inl h)
    have hF8 := hF7.trans ((st7_frame (w9.setCell ⟨w.heap.size, 6, none⟩ (.slice (some ⟨w1.heap.size, 0, none⟩) (X.length + plen) (l.length + plen))) (w.heap.size + 1 + 1) (.int .i64 id) (.int .i64 fi) (.int .i64 te) (.int .i64 ht) (.int .i64 hv) (.int .i64 hc) (.slice (some ⟨w1.heap.size, 0, none⟩) (X.length + plen) (l.length + plen))).mono (fun k h => .inr h))
    have hown2 := own_frame hown9 hF8 (fun k hk h => by rcases h with h | h <;> omega)
    have hbel := hD9.out.bel.trans (hF8.toBelow hD9.out.bel.size (fun k h => by rcases h with h | h <;> omega))
    have hDz := hF8.get hDf.out (fun h => by rcases h with h | h <;> omega)
    clear g0 g1 g2 g3 g4 g5 g6 fg r0 r1 r2 r3 r4 r5 r6 fr
    obtain ⟨e0, e1, e2, e3, e4, e5, e6, -⟩ := cells7 hb7
    replace e0 := cell_putObj (o' := .deferred none) e0 hDz rfl
    replace e1 := cell_putObj (o' := .deferred none) e1 hDz rfl
    replace e2 := cell_putObj (o' := .deferred none) e2 hDz rfl
    replace e3 := cell_putObj (o' := .deferred none) e3 hDz rfl
    replace e4 := cell_putObj (o' := .deferred none) e4 hDz rfl
    replace e5 := cell_putObj (o' := .deferred none) e5 hDz rfl
    replace e6 := cell_putObj (o' := .deferred none) e6 hDz rfl
    refine leave_one hDz (v := .tuple #[.agg #[.int .i64 id, .int .i64 fi, .int .i64 te, .int .i64 ht, .int .i64 hv, .int .i64 hc, .slice (some ⟨w1.heap.size, 0, none⟩) (X.length + plen) (l.length + plen)], .int .i64 0]) (by simp [results, Try.results22, go_sem, e0, e1, e2, e3, e4, e5, e6]) ?_
    have hm9 : Moves w6.heap.size (fun _ => False) _ _ := Moves.putObj _ (.deferred none) (Nat.le_refl _) hDz rfl
    obtain ⟨va', vc', hx, -, hrv⟩ := rowV_own (Stab.ownsRow (B := w6.heap.size) (T := fun _ => False) (fun _ h => h.elim) _ _ hown2 hm9)
    cases hx
    have hlen9 : (btw l minI (hI - 1) ++ pl).length = X.length + plen := by rw [List.length_append, ← HX.out, hplen]
    refine ⟨_, _, by dsimp only; rw [hlen9], ⟨by dsimp only; rw [hlen9]; omega, ?_⟩, below_putObj hbel (Nat.le_refl _) hw6 _, fun k hk => by obtain ⟨b9, o9, e9, _, rfl⟩ := hk; cases e9; omega⟩
    dsimp only
    rw [hlen9, ← HX.out, show entryCells (X ++ pl) = entryCells X ++ entryCells pl by simp [entryCells]]
    exact hrv

set_option maxRecDepth 100000 in
set_option maxHeartbeats 4000000 in
theorem do_2n (id fi te ht hv hc : Int) (l : List EntryC) (a : Option Addr) (cap : Nat) (pg : Int) (plen pcap : Nat) (pht phv phc pi pt : Int) (pm ph : Bool) (pl : List EntryC) (w : World) (hg : HasG w a ⟨id, fi, te, ht, hv, hc, l⟩) (hG : isG ⟨id, fi, te, ht, hv, hc, l⟩ = true) (hp : HasE w ⟨pg, 2, none, plen, pcap, pht, phv, phc, pi, pt, pm, ph⟩ pl) (hce : chkG ⟨id, fi, te, ht, hv, hc, l⟩ ⟨pg, 2, none, plen, pcap, pht, phv, phc, pi, pt, pm, ph⟩ pl = 0) (h30 : l.length ≤ 100000) : Calls Try.prog 22 #[.agg #[.int .i64 id, .int .i64 fi, .int .i64 te, .int .i64 ht, .int .i64 hv, .int .i64 hc, .slice a l.length cap], .agg #[.int .i64 pg, .int .i64 2, .slice none plen pcap, .int .i64 pht, .int .i64 phv, .int .i64 phc, .int .i64 pi, .int .i64 pt, .bool pm, .bool ph]] w (DoPost w { id := id, fi := fi, te := te, ht := pht, hv := phv, hc := phc, l := btw l minI maxI ++ pl } 0) := by
  obtain ⟨i0, hi, hz0, hz1, hz2⟩ := info_parts infoEntry
  have GC := Lib.hid (fun W (hB : Below w.heap.size w W) => (show Gives Try.prog 24 #[.agg #[.int .i64 id, .int .i64 fi, .int .i64 te, .int .i64 ht, .int .i64 hv, .int .i64 hc, .slice a l.length cap], .agg #[.int .i64 pg, .int .i64 2, .slice none plen pcap, .int .i64 pht, .int .i64 phv, .int .i64 phc, .int .i64 pi, .int .i64 pt, .bool pm, .bool ph]] W (.int .i64 0) from by have := chk_any id fi te ht hv hc l a cap pg 2 none plen pcap pht phv phc pi pt pm ph pl W (hg.below hB) hG (hp.below hB); rwa [hce] at this))
  have hm := hg.1
  have HG := Lib.hid hg.2
  have M := Lib.hid (fun W (hB : Below w.heap.size w W) lo hi => btw_makes a l.length cap l lo hi rfl hm W (HG.out.below hB))
  have hplen := hp.1
  have hpb := hp.2.1
  have hprow := hp.2.2
  dsimp only at hplen hpb hprow hm
  obtain ⟨h0l, hpl0⟩ : plen = 0 ∧ pl = [] := by
    have h1 : isB ⟨pg, 2, none, plen, pcap, pht, phv, phc, pi, pt, pm, ph⟩ pl = true := by
      cases h : isB ⟨pg, 2, none, plen, pcap, pht, phv, phc, pi, pt, pm, ph⟩ pl
      · rw [show chkG ⟨id, fi, te, ht, hv, hc, l⟩ ⟨pg, 2, none, plen, pcap, pht, phv, phc, pi, pt, pm, ph⟩ pl = 11 from if_pos (.inl h)] at hce; exact absurd hce (by decide)
      · rfl
    rcases (isB_iff _ _).1 h1 with ⟨_, h | h | h | h | h | h⟩
    all_goals (have h9 := h.1; dsimp only at h9)
    all_goals first | omega | skip
    have h8 : pl = [] := by first | exact h.2.2.1 | exact h.2.2.2.1
    exact ⟨by rw [h8] at hplen; simpa using hplen.symm, h8⟩
  have hp6 : plen ≤ 6 := by omega
  have HN0 := Lib.hid (And.intro hpl0 h0l)
  clear h0l hpl0
  have HS := Lib.hid (DoW.start w #[.int .i64 id, .int .i64 fi, .int .i64 te, .int .i64 ht, .int .i64 hv, .int .i64 hc, .slice a l.length cap] #[.int .i64 pg, .int .i64 2, .slice none plen pcap, .int .i64 pht, .int .i64 phv, .int .i64 phc, .int .i64 pi, .int .i64 pt, .bool pm, .bool ph])
  clear hg hG hp hce
  refine (callsIn_wide (n := 9)).1 ?_
  refine callsIn_of_wp_marks Try.func22 rfl trivial ?_ rfl
  simp only [Try.ntmps22, List.size_toArray, List.length_cons, List.length_nil, Nat.reduceAdd, Nat.reduceSub, Array.replicate_succ, Array.replicate_zero, List.push_toArray, List.append_toArray, List.nil_append, List.cons_append]
  gi_wp2_with (first
    | (gi_at_call 24; ((with_reducible refine (callsIn_wide.2 (GC.out _ HS.out.bel)).mono ?_); rintro e w1 ⟨rfl, hB1⟩; have HD := Lib.hid (HS.out.after hB1); obtain ⟨g0, g1, g2, g3, g4, g5, g6, fg⟩ := cells7 HD.out.gb; obtain ⟨p1, p2, p3, p4, p5, p6, p7⟩ := cells10 HD.out.pb; have HD2 := Lib.hid (show DoW w #[.int .i64 id, .int .i64 fi, .int .i64 te, .int .i64 pht, .int .i64 phv, .int .i64 phc, .slice a l.length cap] #[.int .i64 pg, .int .i64 2, .slice none plen pcap, .int .i64 pht, .int .i64 phv, .int .i64 phc, .int .i64 pi, .int .i64 pt, .bool pm, .bool ph] (((w1.setCell ⟨w.heap.size, 3, none⟩ (.int .i64 pht)).setCell ⟨w.heap.size, 4, none⟩ (.int .i64 phv)).setCell ⟨w.heap.size, 5, none⟩ (.int .i64 phc)) from ((HD.out.set 3 (.int .i64 pht)).set 4 (.int .i64 phv)).set 5 (.int .i64 phc))))
    | (gi_at_make; (refine wpListIn_make_own _ rfl _ _ 24 rfl w1.heap.size 55 i0 (.agg #[.int .i64 0, .int .i64 0, .string ⟨#[]⟩]) 3 Try.underlying24 hi hz0 hz1 .i64 .i64 ((l.length : Int) + (plen : Int)) (l.length + plen) rfl rfl (by push_cast; rfl) (by rw [hz2]; omega) (by unfold maxLen; omega) (by simp) ?_; intro w4 hown4 hgrow4; simp only [World.size_setCell] at hown4; have hD4 := HD2.out.grown hgrow4 (fun k e => by cases e); have hlt0 : w.heap.size + 3 ≤ w1.heap.size := (by have h9 := HD2.out.lt; simpa using h9); have hlt4 : w1.heap.size < w4.heap.size := (by rcases hown4.2 with ⟨hv, _⟩ | ⟨g, _, _, hv, _, hgg, _⟩; (cases hv); (cases hv; exact heap_lt hgg)); clear g0 g1 g2 g3 g4 g5 g6 fg p1 p2 p3 p4 p5 p6 p7; have hD5 := Lib.hid (hD4.after (bel_alloc (Below.refl w4.heap.size w4) (.cells #[.slice (some ⟨w1.heap.size, 0, none⟩) 0 (l.length + plen)] 24))); obtain ⟨g0, g1, g2, g3, g4, g5, g6, fg⟩ := cells7 hD5.out.gb; obtain ⟨p1, p2, p3, p4, p5, p6, p7⟩ := cells10 hD5.out.pb))
    | (gi_at_call 42; (refine (callsIn_wide.2 (M.out _ (bel_alloc hD4.bel (.cells #[.slice (some ⟨w1.heap.size, 0, none⟩) 0 (l.length + plen)] 24)) minI maxI)).mono ?_; rintro e w6 ⟨lb, rfl, hB6, hI6⟩)))
  have hG0 : w.heap.size + 3 ≤ w1.heap.size := hlt0
  obtain ⟨X, hX⟩ : ∃ X, X = btw l minI maxI := ⟨_, rfl⟩
  have hXl : X.length ≤ l.length := by rw [hX]; exact btw_len _ _ _
  rw [← hX] at hI6
  have hs4 : w4.heap.size + 1 ≤ w6.heap.size := by have := hB6.size; simpa using this
  have hGL : w1.heap.size < w4.heap.size := hlt4
  have HI6 := Lib.hid hI6
  have hlS : ∀ k, inBlkE a l.length k → k < w.heap.size := fun k hk => btw_lt HG.out hk
  have hS1 : ¬ (inBlkE a l.length w1.heap.size ∨ span (w4.heap.size + 1) w6.heap.size w1.heap.size) := fun h => h.elim (fun h => by have := hlS _ h; omega) (fun h => by have := h.1; omega)
  have hS2 : ¬ (inBlkE a l.length w4.heap.size ∨ span (w4.heap.size + 1) w6.heap.size w4.heap.size) := fun h => h.elim (fun h => by have := hlS _ h; omega) (fun h => by have := h.1; omega)
  have hbx6 : Boxed w6 w4.heap.size 24 (.slice (some ⟨w1.heap.size, 0, none⟩) 0 (l.length + plen)) := (hB6.block _ (by simp)).trans (Boxed.new w4 _ _)
  have hrow6 := ownsRow_below (n := 0) (ownsRow_below (n := 0) hown4 (bel_alloc (Below.refl w4.heap.size w4) (.cells #[.slice (some ⟨w1.heap.size, 0, none⟩) 0 (l.length + plen)] 24))) hB6
  have hD6 := (hD4.after (bel_alloc (Below.refl w4.heap.size w4) (.cells #[.slice (some ⟨w1.heap.size, 0, none⟩) 0 (l.length + plen)] 24))).after hB6
  have hw6 : w.heap.size ≤ w6.heap.size := hD6.bel.size
  simp only [World.size_alloc] at HI6
  refine range_outer rfl (enters_of Try.func63 (by kernel_rfl) rfl) HI6.out (fun _ => rfl) (fun k hk => hk.elim (fun h => Nat.lt_of_lt_of_le (hlS k h) hw6) (fun h => h.2)) (fun _ h => h.elim)
    (fun pre W => doJ w #[.int .i64 id, .int .i64 fi, .int .i64 te, .int .i64 pht, .int .i64 phv, .int .i64 phc, .slice a l.length cap] #[.int .i64 pg, .int .i64 2, .slice none plen pcap, .int .i64 pht, .int .i64 phv, .int .i64 phc, .int .i64 pi, .int .i64 pt, .bool pm, .bool ph] w1.heap.size w4.heap.size (l.length + plen) pre.length (entryCells pre) w6.heap.size W) (fun _ _ _ => False) (fun _ => doJ_stab hw6) (fun _ _ => Stab.pure _) ⟨hbx6, hrow6, hD6, Nat.le_refl _⟩ ?hr ?hd (fun _ _ _ _ _ _ h => h.elim)
  case hr =>
    rintro L0 pre x suf W hx hl' hi1 hrec
    dsimp only [EntryC.enc, EntryC.val]
    have hpl : pre.length < X.length := by have h1 := congrArg List.length hx; simp at h1; omega
    gi_wp2
    refine rdThen_mk (fun W' => doJ w #[.int .i64 id, .int .i64 fi, .int .i64 te, .int .i64 pht, .int .i64 phv, .int .i64 phc, .slice a l.length cap] #[.int .i64 pg, .int .i64 2, .slice none plen pcap, .int .i64 pht, .int .i64 phv, .int .i64 phc, .int .i64 pi, .int .i64 pt, .bool pm, .bool ph] w1.heap.size w4.heap.size (l.length + plen) pre.length (entryCells pre) w6.heap.size W' ∧ W'.heap[W.heap.size]? = some (.cells #[.int .i64 x.i, .int .i64 x.t, .string x.d] 55 (0, 0)))
      ((doJ_stab hw6).and (Stab.block (fun h => h) (.inr rfl))) ⟨doJ_stab hw6 _ _ hi1 (Moves.alloc _ _), World.alloc_heap_new W _⟩ ((Rd.refl _ _ _).alloc _) ?_
    clear hi1 hrec
    obtain ⟨Xb, hXb⟩ : ∃ Xb, Xb = W.heap.size := ⟨_, rfl⟩
    rw [← hXb]
    clear hXb W
    rintro W ⟨hJ, hblk⟩ hrec
    have hcL := hJ.1.cell
    have hrow := hJ.2.1
    have HJ := Lib.hid hJ
    have d0 : W.cell? ⟨Xb, 0, none⟩ = some (.int .i64 x.i) := cell_of_row W Xb 0 _ _ _ hblk
    have d1 : W.cell? ⟨Xb, 1, none⟩ = some (.int .i64 x.t) := cell_of_row W Xb 1 _ _ _ hblk
    have d2 : W.cell? ⟨Xb, 2, none⟩ = some (.string x.d) := cell_of_row W Xb 2 _ _ _ hblk
    clear hJ hblk hbx6 hrow6 hD6 hI6 hX
    gi_wp2_with (gi_at_builtin; refine wpListIn_append_fits _ rfl _ _ 24 rfl w1.heap.size 55 i0 3 Try.underlying24 hi hz1 w1.heap.size pre.length (l.length + plen) (entryCells pre) rfl (hrow.alloc _) ⟨W.heap.size, 0, none⟩ 1 1 x.cells rfl rfl (news_new _ _ _) (by simp [Value.oneCell', EntryC.cells]) (by omega) ?_; intro w9 hown9 hgrow9; obtain ⟨hb9, hR9, hJ9⟩ := doJ_append (B := w6.heap.size) (S := fun k => inBlkE a l.length k ∨ span (w4.heap.size + 1) w6.heap.size k) HJ.out hG0 hGL hS1 hS2 hown9 hgrow9; have hc9 := hb9.cell; have hf9 := hb9.frozen)
    refine ⟨hR9, ?_⟩
    dsimp only
    rw [List.length_append, entryCells_snoc]
    exact hJ9
  case hd =>
    rintro W ⟨hbx, hrow, hDo, hs⟩ hDef
    have hcL := hbx.cell
    obtain ⟨g0, g1, g2, g3, g4, g5, g6, fg⟩ := cells7 hDo.gb
    obtain ⟨p1, p2, p3, p4, p5, p6, p7⟩ := cells10 hDo.pb
    obtain ⟨r0, r1, r2, r3, r4, r5, r6, fr⟩ := cells7 hDo.rb
    have HX := Lib.hid hX
    clear hbx6 hrow6 hD6 hI6 hX hbx
    gi_wp2_with (gi_at_builtin; refine wpListIn_append_none rfl _ _ 24 rfl w1.heap.size 55 i0 3 Try.underlying24 hi (.slice (some ⟨w1.heap.size, 0, none⟩) X.length (l.length + plen)) X.length (entryCells X) rfl hrow plen pcap HN0.out.2 rfl ?_)
    have hD9 := Lib.hid hDo
    have hDf := Lib.hid hDef
    have hown9 := hrow
    have hE2 := Lib.hid (hD9.out.set 6 (.slice (some ⟨w1.heap.size, 0, none⟩) (X.length) (l.length + plen)))
    have hb7 := st7_block hE2.out.rb (.int .i64 id) (.int .i64 fi) (.int .i64 te) (.int .i64 pht) (.int .i64 phv) (.int .i64 phc) (.slice (some ⟨w1.heap.size, 0, none⟩) (X.length) (l.length + plen))
    have hF7 := (FrameT.setCell W w.heap.size 6 (.slice (some ⟨w1.heap.size, 0, none⟩) (X.length) (l.length + plen))).mono (U := fun k => k = w.heap.size ∨ k = w.heap.size + 1 + 1) (fun k h => .inl h)
    have hF8 := hF7.trans ((st7_frame (W.setCell ⟨w.heap.size, 6, none⟩ (.slice (some ⟨w1.heap.size, 0, none⟩) (X.length) (l.length + plen))) (w.heap.size + 1 + 1) (.int .i64 id) (.int .i64 fi) (.int .i64 te) (.int .i64 pht) (.int .i64 phv) (.int .i64 phc) (.slice (some ⟨w1.heap.size, 0, none⟩) (X.length) (l.length + plen))).mono (fun k h => .inr h))
    have hown2 := own_frame hown9 hF8 (fun k hk h => by rcases h with h | h <;> omega)
    have hbel := hD9.out.bel.trans (hF8.toBelow hD9.out.bel.size (fun k h => by rcases h with h | h <;> omega))
    have hDz := hF8.get hDf.out (fun h => by rcases h with h | h <;> omega)
    clear g0 g1 g2 g3 g4 g5 g6 fg r0 r1 r2 r3 r4 r5 r6 fr
    obtain ⟨e0, e1, e2, e3, e4, e5, e6, -⟩ := cells7 hb7
    replace e0 := cell_putObj (o' := .deferred none) e0 hDz rfl
    replace e1 := cell_putObj (o' := .deferred none) e1 hDz rfl
    replace e2 := cell_putObj (o' := .deferred none) e2 hDz rfl
    replace e3 := cell_putObj (o' := .deferred none) e3 hDz rfl
    replace e4 := cell_putObj (o' := .deferred none) e4 hDz rfl
    replace e5 := cell_putObj (o' := .deferred none) e5 hDz rfl
    replace e6 := cell_putObj (o' := .deferred none) e6 hDz rfl
    refine leave_one hDz (v := .tuple #[.agg #[.int .i64 id, .int .i64 fi, .int .i64 te, .int .i64 pht, .int .i64 phv, .int .i64 phc, .slice (some ⟨w1.heap.size, 0, none⟩) (X.length) (l.length + plen)], .int .i64 0]) (by simp [results, Try.results22, go_sem, e0, e1, e2, e3, e4, e5, e6]) ?_
    have hm9 : Moves w6.heap.size (fun _ => False) _ _ := Moves.putObj _ (.deferred none) (Nat.le_refl _) hDz rfl
    obtain ⟨va', vc', hx, -, hrv⟩ := rowV_own (Stab.ownsRow (B := w6.heap.size) (T := fun _ => False) (fun _ h => h.elim) _ _ hown2 hm9)
    cases hx
    have hlen9 : (btw l minI maxI ++ pl).length = X.length := by rw [HN0.out.1, List.append_nil, ← HX.out]
    refine ⟨_, _, by dsimp only; rw [hlen9], ⟨by dsimp only; rw [hlen9]; omega, ?_⟩, below_putObj hbel (Nat.le_refl _) hw6 _, fun k hk => by obtain ⟨b9, o9, e9, _, rfl⟩ := hk; cases e9; omega⟩
    dsimp only
    rw [hlen9, ← HX.out, show entryCells (X ++ pl) = entryCells X ++ entryCells pl by simp [entryCells]]
    rw [HN0.out.1]; simpa [entryCells] using hrv

set_option maxRecDepth 100000 in
set_option maxHeartbeats 4000000 in
theorem do_2s (id fi te ht hv hc : Int) (l : List EntryC) (a : Option Addr) (cap : Nat) (pg : Int) (ad : Addr) (plen pcap : Nat) (pht phv phc pi pt : Int) (pm ph : Bool) (pl : List EntryC) (w : World) (hg : HasG w a ⟨id, fi, te, ht, hv, hc, l⟩) (hG : isG ⟨id, fi, te, ht, hv, hc, l⟩ = true) (hp : HasE w ⟨pg, 2, (some ad), plen, pcap, pht, phv, phc, pi, pt, pm, ph⟩ pl) (hce : chkG ⟨id, fi, te, ht, hv, hc, l⟩ ⟨pg, 2, (some ad), plen, pcap, pht, phv, phc, pi, pt, pm, ph⟩ pl = 0) (h30 : l.length ≤ 100000) : Calls Try.prog 22 #[.agg #[.int .i64 id, .int .i64 fi, .int .i64 te, .int .i64 ht, .int .i64 hv, .int .i64 hc, .slice a l.length cap], .agg #[.int .i64 pg, .int .i64 2, .slice (some ad) plen pcap, .int .i64 pht, .int .i64 phv, .int .i64 phc, .int .i64 pi, .int .i64 pt, .bool pm, .bool ph]] w (DoPost w { id := id, fi := fi, te := te, ht := pht, hv := phv, hc := phc, l := btw l minI maxI ++ pl } 0) := by
  obtain ⟨i0, hi, hz0, hz1, hz2⟩ := info_parts infoEntry
  have GC := Lib.hid (fun W (hB : Below w.heap.size w W) => (show Gives Try.prog 24 #[.agg #[.int .i64 id, .int .i64 fi, .int .i64 te, .int .i64 ht, .int .i64 hv, .int .i64 hc, .slice a l.length cap], .agg #[.int .i64 pg, .int .i64 2, .slice (some ad) plen pcap, .int .i64 pht, .int .i64 phv, .int .i64 phc, .int .i64 pi, .int .i64 pt, .bool pm, .bool ph]] W (.int .i64 0) from by have := chk_any id fi te ht hv hc l a cap pg 2 (some ad) plen pcap pht phv phc pi pt pm ph pl W (hg.below hB) hG (hp.below hB); rwa [hce] at this))
  have hm := hg.1
  have HG := Lib.hid hg.2
  have M := Lib.hid (fun W (hB : Below w.heap.size w W) lo hi => btw_makes a l.length cap l lo hi rfl hm W (HG.out.below hB))
  have hplen := hp.1
  have hpb := hp.2.1
  have hprow := hp.2.2
  dsimp only at hplen hpb hprow hm
  have hpl3 : (entryCells pl).length = plen * 3 := hprow.1
  have HPL := Lib.hid (fun W (hB : Below w.heap.size w W) => (show ∀ j u, (entryCells pl)[j]? = some u → W.cell? (ad.add j) = some u from fun j u hu => by
    obtain ⟨hj, rfl⟩ := List.getElem?_eq_some_iff.1 hu
    obtain ⟨b, off, e, hb, hx⟩ := (hprow.below hB).2.2 (by rcases Nat.eq_zero_or_pos plen with h | h; (rw [h] at hpl3; omega); exact h)
    cases e
    rw [add_off]
    exact hx j hj))
  have hone : ∀ u ∈ entryCells pl, u.oneCell' = true := by
    intro u hu
    simp only [entryCells, List.mem_flatten, List.mem_map] at hu
    obtain ⟨_, ⟨e, _, rfl⟩, hu⟩ := hu
    simp only [EntryC.cells, List.mem_cons, List.not_mem_nil, or_false] at hu
    rcases hu with rfl | rfl | rfl <;> rfl
  obtain ⟨h0l, hpl0⟩ : plen = 0 ∧ pl = [] := by
    have h1 : isB ⟨pg, 2, (some ad), plen, pcap, pht, phv, phc, pi, pt, pm, ph⟩ pl = true := by
      cases h : isB ⟨pg, 2, (some ad), plen, pcap, pht, phv, phc, pi, pt, pm, ph⟩ pl
      · rw [show chkG ⟨id, fi, te, ht, hv, hc, l⟩ ⟨pg, 2, (some ad), plen, pcap, pht, phv, phc, pi, pt, pm, ph⟩ pl = 11 from if_pos (.inl h)] at hce; exact absurd hce (by decide)
      · rfl
    rcases (isB_iff _ _).1 h1 with ⟨_, h | h | h | h | h | h⟩
    all_goals (have h9 := h.1; dsimp only at h9)
    all_goals first | omega | skip
    have h8 : pl = [] := by first | exact h.2.2.1 | exact h.2.2.2.1
    exact ⟨by rw [h8] at hplen; simpa using hplen.symm, h8⟩
  have hp6 : plen ≤ 6 := by omega
  have HN0 := Lib.hid (And.intro hpl0 h0l)
  clear h0l hpl0
  have HS := Lib.hid (DoW.start w #[.int .i64 id, .int .i64 fi, .int .i64 te, .int .i64 ht, .int .i64 hv, .int .i64 hc, .slice a l.length cap] #[.int .i64 pg, .int .i64 2, .slice (some ad) plen pcap, .int .i64 pht, .int .i64 phv, .int .i64 phc, .int .i64 pi, .int .i64 pt, .bool pm, .bool ph])
  clear hg hG hp hce
  refine (callsIn_wide (n := 9)).1 ?_
  refine callsIn_of_wp_marks Try.func22 rfl trivial ?_ rfl
  simp only [Try.ntmps22, List.size_toArray, List.length_cons, List.length_nil, Nat.reduceAdd, Nat.reduceSub, Array.replicate_succ, Array.replicate_zero, List.push_toArray, List.append_toArray, List.nil_append, List.cons_append]
  gi_wp2_with (first
    | (gi_at_call 24; ((with_reducible refine (callsIn_wide.2 (GC.out _ HS.out.bel)).mono ?_); rintro e w1 ⟨rfl, hB1⟩; have HD := Lib.hid (HS.out.after hB1); obtain ⟨g0, g1, g2, g3, g4, g5, g6, fg⟩ := cells7 HD.out.gb; obtain ⟨p1, p2, p3, p4, p5, p6, p7⟩ := cells10 HD.out.pb; have HD2 := Lib.hid (show DoW w #[.int .i64 id, .int .i64 fi, .int .i64 te, .int .i64 pht, .int .i64 phv, .int .i64 phc, .slice a l.length cap] #[.int .i64 pg, .int .i64 2, .slice (some ad) plen pcap, .int .i64 pht, .int .i64 phv, .int .i64 phc, .int .i64 pi, .int .i64 pt, .bool pm, .bool ph] (((w1.setCell ⟨w.heap.size, 3, none⟩ (.int .i64 pht)).setCell ⟨w.heap.size, 4, none⟩ (.int .i64 phv)).setCell ⟨w.heap.size, 5, none⟩ (.int .i64 phc)) from ((HD.out.set 3 (.int .i64 pht)).set 4 (.int .i64 phv)).set 5 (.int .i64 phc))))
    | (gi_at_make; (refine wpListIn_make_own _ rfl _ _ 24 rfl w1.heap.size 55 i0 (.agg #[.int .i64 0, .int .i64 0, .string ⟨#[]⟩]) 3 Try.underlying24 hi hz0 hz1 .i64 .i64 ((l.length : Int) + (plen : Int)) (l.length + plen) rfl rfl (by push_cast; rfl) (by rw [hz2]; omega) (by unfold maxLen; omega) (by simp) ?_; intro w4 hown4 hgrow4; simp only [World.size_setCell] at hown4; have hD4 := HD2.out.grown hgrow4 (fun k e => by cases e); have hlt0 : w.heap.size + 3 ≤ w1.heap.size := (by have h9 := HD2.out.lt; simpa using h9); have hlt4 : w1.heap.size < w4.heap.size := (by rcases hown4.2 with ⟨hv, _⟩ | ⟨g, _, _, hv, _, hgg, _⟩; (cases hv); (cases hv; exact heap_lt hgg)); clear g0 g1 g2 g3 g4 g5 g6 fg p1 p2 p3 p4 p5 p6 p7; have hD5 := Lib.hid (hD4.after (bel_alloc (Below.refl w4.heap.size w4) (.cells #[.slice (some ⟨w1.heap.size, 0, none⟩) 0 (l.length + plen)] 24))); obtain ⟨g0, g1, g2, g3, g4, g5, g6, fg⟩ := cells7 hD5.out.gb; obtain ⟨p1, p2, p3, p4, p5, p6, p7⟩ := cells10 hD5.out.pb))
    | (gi_at_call 42; (refine (callsIn_wide.2 (M.out _ (bel_alloc hD4.bel (.cells #[.slice (some ⟨w1.heap.size, 0, none⟩) 0 (l.length + plen)] 24)) minI maxI)).mono ?_; rintro e w6 ⟨lb, rfl, hB6, hI6⟩)))
  have hG0 : w.heap.size + 3 ≤ w1.heap.size := hlt0
  obtain ⟨X, hX⟩ : ∃ X, X = btw l minI maxI := ⟨_, rfl⟩
  have hXl : X.length ≤ l.length := by rw [hX]; exact btw_len _ _ _
  rw [← hX] at hI6
  have hs4 : w4.heap.size + 1 ≤ w6.heap.size := by have := hB6.size; simpa using this
  have hGL : w1.heap.size < w4.heap.size := hlt4
  have HI6 := Lib.hid hI6
  have hlS : ∀ k, inBlkE a l.length k → k < w.heap.size := fun k hk => btw_lt HG.out hk
  have hS1 : ¬ (inBlkE a l.length w1.heap.size ∨ span (w4.heap.size + 1) w6.heap.size w1.heap.size) := fun h => h.elim (fun h => by have := hlS _ h; omega) (fun h => by have := h.1; omega)
  have hS2 : ¬ (inBlkE a l.length w4.heap.size ∨ span (w4.heap.size + 1) w6.heap.size w4.heap.size) := fun h => h.elim (fun h => by have := hlS _ h; omega) (fun h => by have := h.1; omega)
  have hbx6 : Boxed w6 w4.heap.size 24 (.slice (some ⟨w1.heap.size, 0, none⟩) 0 (l.length + plen)) := (hB6.block _ (by simp)).trans (Boxed.new w4 _ _)
  have hrow6 := ownsRow_below (n := 0) (ownsRow_below (n := 0) hown4 (bel_alloc (Below.refl w4.heap.size w4) (.cells #[.slice (some ⟨w1.heap.size, 0, none⟩) 0 (l.length + plen)] 24))) hB6
  have hD6 := (hD4.after (bel_alloc (Below.refl w4.heap.size w4) (.cells #[.slice (some ⟨w1.heap.size, 0, none⟩) 0 (l.length + plen)] 24))).after hB6
  have hw6 : w.heap.size ≤ w6.heap.size := hD6.bel.size
  simp only [World.size_alloc] at HI6
  refine range_outer rfl (enters_of Try.func63 (by kernel_rfl) rfl) HI6.out (fun _ => rfl) (fun k hk => hk.elim (fun h => Nat.lt_of_lt_of_le (hlS k h) hw6) (fun h => h.2)) (fun _ h => h.elim)
    (fun pre W => doJ w #[.int .i64 id, .int .i64 fi, .int .i64 te, .int .i64 pht, .int .i64 phv, .int .i64 phc, .slice a l.length cap] #[.int .i64 pg, .int .i64 2, .slice (some ad) plen pcap, .int .i64 pht, .int .i64 phv, .int .i64 phc, .int .i64 pi, .int .i64 pt, .bool pm, .bool ph] w1.heap.size w4.heap.size (l.length + plen) pre.length (entryCells pre) w6.heap.size W) (fun _ _ _ => False) (fun _ => doJ_stab hw6) (fun _ _ => Stab.pure _) ⟨hbx6, hrow6, hD6, Nat.le_refl _⟩ ?hr ?hd (fun _ _ _ _ _ _ h => h.elim)
  case hr =>
    rintro L0 pre x suf W hx hl' hi1 hrec
    dsimp only [EntryC.enc, EntryC.val]
    have hpl : pre.length < X.length := by have h1 := congrArg List.length hx; simp at h1; omega
    gi_wp2
    refine rdThen_mk (fun W' => doJ w #[.int .i64 id, .int .i64 fi, .int .i64 te, .int .i64 pht, .int .i64 phv, .int .i64 phc, .slice a l.length cap] #[.int .i64 pg, .int .i64 2, .slice (some ad) plen pcap, .int .i64 pht, .int .i64 phv, .int .i64 phc, .int .i64 pi, .int .i64 pt, .bool pm, .bool ph] w1.heap.size w4.heap.size (l.length + plen) pre.length (entryCells pre) w6.heap.size W' ∧ W'.heap[W.heap.size]? = some (.cells #[.int .i64 x.i, .int .i64 x.t, .string x.d] 55 (0, 0)))
      ((doJ_stab hw6).and (Stab.block (fun h => h) (.inr rfl))) ⟨doJ_stab hw6 _ _ hi1 (Moves.alloc _ _), World.alloc_heap_new W _⟩ ((Rd.refl _ _ _).alloc _) ?_
    clear hi1 hrec
    obtain ⟨Xb, hXb⟩ : ∃ Xb, Xb = W.heap.size := ⟨_, rfl⟩
    rw [← hXb]
    clear hXb W
    rintro W ⟨hJ, hblk⟩ hrec
    have hcL := hJ.1.cell
    have hrow := hJ.2.1
    have HJ := Lib.hid hJ
    have d0 : W.cell? ⟨Xb, 0, none⟩ = some (.int .i64 x.i) := cell_of_row W Xb 0 _ _ _ hblk
    have d1 : W.cell? ⟨Xb, 1, none⟩ = some (.int .i64 x.t) := cell_of_row W Xb 1 _ _ _ hblk
    have d2 : W.cell? ⟨Xb, 2, none⟩ = some (.string x.d) := cell_of_row W Xb 2 _ _ _ hblk
    clear hJ hblk hbx6 hrow6 hD6 hI6 hX
    gi_wp2_with (gi_at_builtin; refine wpListIn_append_fits _ rfl _ _ 24 rfl w1.heap.size 55 i0 3 Try.underlying24 hi hz1 w1.heap.size pre.length (l.length + plen) (entryCells pre) rfl (hrow.alloc _) ⟨W.heap.size, 0, none⟩ 1 1 x.cells rfl rfl (news_new _ _ _) (by simp [Value.oneCell', EntryC.cells]) (by omega) ?_; intro w9 hown9 hgrow9; obtain ⟨hb9, hR9, hJ9⟩ := doJ_append (B := w6.heap.size) (S := fun k => inBlkE a l.length k ∨ span (w4.heap.size + 1) w6.heap.size k) HJ.out hG0 hGL hS1 hS2 hown9 hgrow9; have hc9 := hb9.cell; have hf9 := hb9.frozen)
    refine ⟨hR9, ?_⟩
    dsimp only
    rw [List.length_append, entryCells_snoc]
    exact hJ9
  case hd =>
    rintro W ⟨hbx, hrow, hDo, hs⟩ hDef
    have hcL := hbx.cell
    obtain ⟨g0, g1, g2, g3, g4, g5, g6, fg⟩ := cells7 hDo.gb
    obtain ⟨p1, p2, p3, p4, p5, p6, p7⟩ := cells10 hDo.pb
    obtain ⟨r0, r1, r2, r3, r4, r5, r6, fr⟩ := cells7 hDo.rb
    have HX := Lib.hid hX
    clear hbx6 hrow6 hD6 hI6 hX hbx
    gi_wp2_with (gi_at_builtin; refine wpListIn_append_fits _ rfl _ _ 24 rfl w1.heap.size 55 i0 3 Try.underlying24 hi hz1 w1.heap.size X.length (l.length + plen) (entryCells X) rfl hrow ad plen pcap (entryCells pl) rfl hpl3 (HPL.out W (hDo.bel)) hone (by omega) ?_; intro w9 hown9 hgrow9; have hD9 := Lib.hid (hDo.grown hgrow9 (fun k e => by cases e; exact hG0)); have hDf := Lib.hid ((hgrow9.block _ (heap_lt hDef) (fun e => by have h9 := Option.some.inj e; omega)).trans hDef); clear g0 g1 g2 g3 g4 g5 g6 fg p1 p2 p3 p4 p5 p6 p7 r0 r1 r2 r3 r4 r5 r6 fr; obtain ⟨g0, g1, g2, g3, g4, g5, g6, fg⟩ := cells7 hD9.out.gb; obtain ⟨r0, r1, r2, r3, r4, r5, r6, fr⟩ := cells7 hD9.out.rb)
    have hE2 := Lib.hid (hD9.out.set 6 (.slice (some ⟨w1.heap.size, 0, none⟩) (X.length + plen) (l.length + plen)))
    have hb7 := st7_block hE2.out.rb (.int .i64 id) (.int .i64 fi) (.int .i64 te) (.int .i64 pht) (.int .i64 phv) (.int .i64 phc) (.slice (some ⟨w1.heap.size, 0, none⟩) (X.length + plen) (l.length + plen))
    have hF7 := (FrameT.setCell w9 w.heap.size 6 (.slice (some ⟨w1.heap.size, 0, none⟩) (X.length + plen) (l.length + plen))).mono (U := fun k => k = w.heap.size ∨ k = w.heap.size + 1 + 1) (fun k h => .inl h)
    have hF8 := hF7.trans ((st7_frame (w9.setCell ⟨w.heap.size, 6, none⟩ (.slice (some ⟨w1.heap.size, 0, none⟩) (X.length + plen) (l.length + plen))) (w.heap.size + 1 + 1) (.int .i64 id) (.int .i64 fi) (.int .i64 te) (.int .i64 pht) (.int .i64 phv) (.int .i64 phc) (.slice (some ⟨w1.heap.size, 0, none⟩) (X.length + plen) (l.length + plen))).mono (fun k h => .inr h))
    have hown2 := own_frame hown9 hF8 (fun k hk h => by rcases h with h | h <;> omega)
    have hbel := hD9.out.bel.trans (hF8.toBelow hD9.out.bel.size (fun k h => by rcases h with h | h <;> omega))
    have hDz := hF8.get hDf.out (fun h => by rcases h with h | h <;> omega)
    clear g0 g1 g2 g3 g4 g5 g6 fg r0 r1 r2 r3 r4 r5 r6 fr
    obtain ⟨e0, e1, e2, e3, e4, e5, e6, -⟩ := cells7 hb7
    replace e0 := cell_putObj (o' := .deferred none) e0 hDz rfl
    replace e1 := cell_putObj (o' := .deferred none) e1 hDz rfl
    replace e2 := cell_putObj (o' := .deferred none) e2 hDz rfl
    replace e3 := cell_putObj (o' := .deferred none) e3 hDz rfl
    replace e4 := cell_putObj (o' := .deferred none) e4 hDz rfl
    replace e5 := cell_putObj (o' := .deferred none) e5 hDz rfl
    replace e6 := cell_putObj (o' := .deferred none) e6 hDz rfl
    refine leave_one hDz (v := .tuple #[.agg #[.int .i64 id, .int .i64 fi, .int .i64 te, .int .i64 pht, .int .i64 phv, .int .i64 phc, .slice (some ⟨w1.heap.size, 0, none⟩) (X.length + plen) (l.length + plen)], .int .i64 0]) (by simp [results, Try.results22, go_sem, e0, e1, e2, e3, e4, e5, e6]) ?_
    have hm9 : Moves w6.heap.size (fun _ => False) _ _ := Moves.putObj _ (.deferred none) (Nat.le_refl _) hDz rfl
    obtain ⟨va', vc', hx, -, hrv⟩ := rowV_own (Stab.ownsRow (B := w6.heap.size) (T := fun _ => False) (fun _ h => h.elim) _ _ hown2 hm9)
    cases hx
    have hlen9 : (btw l minI maxI ++ pl).length = X.length + plen := by rw [List.length_append, ← HX.out, hplen]
    refine ⟨_, _, by dsimp only; rw [hlen9], ⟨by dsimp only; rw [hlen9]; omega, ?_⟩, below_putObj hbel (Nat.le_refl _) hw6 _, fun k hk => by obtain ⟨b9, o9, e9, _, rfl⟩ := hk; cases e9; omega⟩
    dsimp only
    rw [hlen9, ← HX.out, show entryCells (X ++ pl) = entryCells X ++ entryCells pl by simp [entryCells]]
    exact hrv


end Go.Proofs.Ytfmcebmkclaafaa
