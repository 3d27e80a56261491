/- sparse.Do where nothing is to be done; and at whatever group and part. -/
import Derived.Test.YtfbibpnkfmgkaaaSprDo
import Derived.Deep.DeepCutAuto
import Derived.Deep.Cut
namespace Go.Proofs.Ytfbibpnkfmgkaaa
open Go.RowKit Go.Shelf
set_option linter.unusedVariables false
attribute [local go_sem] Oper.semAt_some wide_fn wide_round_fn

set_option maxRecDepth 100000 in
set_option maxHeartbeats 4000000 in
theorem sdo_badA (id fi te ht hv hc : Int) (l : List EntryC) (a : Option Addr) (cap : Nat) (pg pk : Int) (pa : Option Addr) (plen pcap : Nat) (pht phv phc pi pt : Int) (pm ph : Bool) (pl : List EntryC) (w : World) (hg : HasG w a ⟨id, fi, te, ht, hv, hc, l⟩) (hgc : l.length ≤ cap) (hp : HasE w ⟨pg, pk, pa, plen, pcap, pht, phv, phc, pi, pt, pm, ph⟩ pl) (h30 : l.length ≤ 100000) (hI : isSp ⟨id, fi, te, ht, hv, hc, l⟩ = false) : Calls Try.prog 12 #[.agg #[.int .i64 id, .int .i64 fi, .int .i64 te, .int .i64 ht, .int .i64 hv, .int .i64 hc, .slice a l.length cap], .agg #[.int .i64 pg, .int .i64 pk, .slice pa plen pcap, .int .i64 pht, .int .i64 phv, .int .i64 phc, .int .i64 pi, .int .i64 pt, .bool pm, .bool ph]] w (SDoP w ⟨id, fi, te, ht, hv, hc, l⟩) := by
  have GI := Lib.hid (fun W (hB : Below w.heap.size w W) => (show Gives Try.prog 13 #[.agg #[.int .i64 id, .int .i64 fi, .int .i64 te, .int .i64 ht, .int .i64 hv, .int .i64 hc, .slice a l.length cap]] W (.bool false) from by have := sprIs_any id fi te ht hv hc l a cap W (hg.below hB); rwa [hI] at this))
  have HS := Lib.hid (DoW.start w #[.int .i64 id, .int .i64 fi, .int .i64 te, .int .i64 ht, .int .i64 hv, .int .i64 hc, .slice a l.length cap] #[.int .i64 pg, .int .i64 pk, .slice pa plen pcap, .int .i64 pht, .int .i64 phv, .int .i64 phc, .int .i64 pi, .int .i64 pt, .bool pm, .bool ph])
  have HG := Lib.hid hg
  have hm := hg.1
  dsimp only at hm
  clear hI
  clear hg hp
  refine (callsIn_wide (n := 9)).1 ?_
  refine callsIn_of_wp_marks Try.func12 rfl trivial ?_ rfl
  simp only [Try.ntmps12, List.size_toArray, List.length_cons, List.length_nil, Nat.reduceAdd, Nat.reduceSub, Array.replicate_succ, Array.replicate_zero, List.push_toArray, List.append_toArray, List.nil_append, List.cons_append]
  refine wpIn_wide.2 ?_
  go_upto_if 22 with (first
    | (go_at_call 13; ((with_reducible refine (GI.out _ HS.out.bel).mono ?_); rintro e w1 ⟨rfl, hB1⟩; have hD1 := HS.out.after hB1; obtain ⟨g0, g1, g2, g3, g4, g5, g6, fg⟩ := cells7 hD1.gb; obtain ⟨p1, p2, p3, p4, p5, p6, p7⟩ := cells10 hD1.pb; have p0 := cell_of_row _ _ 0 _ _ _ hD1.pb; have p8 := cell_of_row _ _ 8 _ _ _ hD1.pb; have p9 := cell_of_row _ _ 9 _ _ _ hD1.pb)))
  go_cut [5, 6] from 23 to 73 (fun s5 s6 wx => SprMid w a l.length cap id #[.int .i64 pg, .int .i64 pk, .slice pa plen pcap, .int .i64 pht, .int .i64 phv, .int .i64 phc, .int .i64 pi, .int .i64 pt, .bool pm, .bool ph] ⟨id, fi, te, ht, hv, hc, l⟩ s5 s6 wx)
  case first =>
    have hgr := HG.out.2
    dsimp only at hgr
    have hlK : ∀ k, inBlkE a l.length k → k < w.heap.size := fun k hk => inBlkE_lt hgr hk
    go_wp2
    go_meet
    exact ⟨fi, te, ht, hv, hc, a, cap, l, none, 0, [], rfl, rfl, hD1, hgr, hlK, Nat.le_refl _, RowV.nil _ _ _, Nat.le_refl _, by simp, fun j k hj hk => by simp at hk, (addG_nil _).symm⟩
  case rest =>
    clear g0 g1 g2 g3 g4 g5 g6 fg p0 p1 p2 p3 p4 p5 p6 p7 p8 p9 hD1 hB1
    obtain ⟨fi1, te1, ht1, hv1, hc1, ka, kc, K, ma, mc, M, rfl, rfl, hD, hK, hKlt, hKl, hM, hMc, hM6, hMr, hdo⟩ := hcut
    have HDO := Lib.hid hdo
    clear hdo
    have hMlt : ∀ k, inBlkE ma M.length k → k < w.heap.size := fun k hk => inBlkE_lt hM hk
    have GF := Lib.hid (fun W (hB : Below w.heap.size w W) => sfrom_any M ma mc fi1 W (by omega) hMc (hM.below hB) hMr)
    obtain ⟨FL, hFL⟩ : ∃ FL, FL = M.drop (fnd M fi1) := ⟨_, rfl⟩
    have hFl : FL.length ≤ M.length := by rw [hFL, List.length_drop]; omega
    rw [← hFL] at GF
    have HFL := Lib.hid hFL
    clear hFL
    obtain ⟨i0, hi9, hz0, hz1, hz2⟩ := info_parts infoEntry
    obtain ⟨g0, g1, g2, g3, g4, g5, g6, fg⟩ := cells7 hD.gb
    have hlt := hD.lt
    have hw0 : w.heap.size ≤ wc.heap.size := by omega
    refine (by assumption : ∀ (a : Act) (w : World), Code.wp _ _ _ a w → (_ : Prop)) _ _ ?_
    refine (wpIn_wide (n := 9)).1 ?_
    gi_wp2_with (first
      | (gi_at_make; (refine wpListIn_make_own _ rfl _ _ 24 rfl wc.heap.size 38 i0 (.agg #[.int .i64 0, .int .i64 0, .string ⟨#[]⟩]) 3 Try.underlying24 hi9 hz0 hz1 .i64 .i64 ((K.length : Int) + (M.length : Int)) (K.length + M.length) rfl rfl (by push_cast; rfl) (by rw [hz2]; omega) (by unfold maxLen; omega) (Nat.le_refl _) ?_; intro w4 hown4 hgrow4; have hD4 := hD.grown hgrow4 (fun k e => by cases e); have hlt4 : wc.heap.size < w4.heap.size := (by rcases hown4.2 with ⟨hv, _⟩ | ⟨g, _, _, hv, _, hgg, _⟩; (cases hv); (cases hv; exact heap_lt hgg)); have hD5 := hD4.set 6 (.slice (some ⟨wc.heap.size, 0, none⟩) 0 (K.length + M.length)); simp only [List.setIfInBounds_toArray, List.set_cons_succ, List.set_cons_zero] at hD5; have hown5 := own_frame hown4 (FrameT.setCell w4 w.heap.size 6 (.slice (some ⟨wc.heap.size, 0, none⟩) 0 (K.length + M.length))) (fun k hk h => by omega); clear g0 g1 g2 g3 g4 g5 g6 fg; obtain ⟨g0, g1, g2, g3, g4, g5, g6, fg⟩ := cells7 hD4.gb))
      | (gi_at_call 29; ((with_reducible refine (callsIn_wide.2 (GF.out _ hD5.bel)).mono ?_); rintro e w6 ⟨va, vc, rfl, hrF, hvc, hB6, hinF⟩; have hD6 := hD5.after hB6; have hown6 := ownsRow_below (n := 0) hown5 hB6))
      | (gi_at_call 28; (refine (callsIn_wide.2 (mrg_makes ka va kc vc K FL (by omega) (by omega) hvc (fun k => k = w.heap.size ∨ k = wc.heap.size) w6 (fun k hk => by have h1 := hD6.lt; have h2 := hB6.size; have h3 : wc.heap.size < w4.heap.size := hlt4; simp at h2; rcases hk with rfl | rfl <;> omega) (fun k hk h => by have h1 := hKlt k hk; rcases h with rfl | rfl <;> omega) (fun k hk h => by have h1 := hMlt k (hinF k hk); rcases h with rfl | rfl <;> omega) (hK.below hD6.bel) hrF)).mono ?_; rintro e w7 ⟨lb, rfl, hB7, hI7⟩; have hD7 := hD6.after hB7; have hown7 := ownsRow_below (n := 0) hown6 hB7)))
    obtain ⟨X, hX⟩ : ∃ X, X = mrg K FL := ⟨_, rfl⟩
    have hXl : X.length ≤ K.length + M.length := by rw [hX]; exact Nat.le_trans (mrg_len _ _) (by omega)
    rw [← hX] at hI7
    have HX := Lib.hid hX
    clear hX
    have hs7 : wc.heap.size + 1 ≤ w7.heap.size := by have h1 := hB6.size; have h2 := hB7.size; simp at h1; omega
    have hw7 : w.heap.size ≤ w7.heap.size := hD7.bel.size
    refine range_outerU rfl (enters_of Try.func52 (by kernel_rfl) rfl) hI7 (fun _ => rfl)
      (fun pre W => sJ w #[.int .i64 pg, .int .i64 pk, .slice pa plen pcap, .int .i64 pht, .int .i64 phv, .int .i64 phc, .int .i64 pi, .int .i64 pt, .bool pm, .bool ph] id fi1 te1 ht1 hv1 hc1 wc.heap.size (K.length + M.length) pre.length (entryCells pre) w7.heap.size W) (fun _ _ _ => False) (fun _ => sJ_stab hw7) (fun _ _ => Stab.pure _) ⟨hD7, hown7, Nat.le_refl _⟩ ?hr ?hd (fun _ _ _ _ _ _ h => h.elim)
    case hr =>
      rintro L0 pre x suf W hx hl' hi1 hrec
      dsimp only [EntryC.enc, EntryC.val]
      have hpl9 : pre.length < X.length := by have h1 := congrArg List.length hx; simp at h1; omega
      gi_wp2
      refine rdThen_mk (fun W' => sJ w #[.int .i64 pg, .int .i64 pk, .slice pa plen pcap, .int .i64 pht, .int .i64 phv, .int .i64 phc, .int .i64 pi, .int .i64 pt, .bool pm, .bool ph] id fi1 te1 ht1 hv1 hc1 wc.heap.size (K.length + M.length) pre.length (entryCells pre) w7.heap.size W' ∧ W'.heap[W.heap.size]? = some (.cells #[.int .i64 x.i, .int .i64 x.t, .string x.d] 38 (0, 0)))
        ((sJ_stab hw7).and (Stab.block (fun h => h) (.inr rfl))) ⟨sJ_stab hw7 _ _ hi1 (Moves.alloc _ _), World.alloc_heap_new W _⟩ ((Rd.refl _ _ _).alloc _) ?_
      clear hi1 hrec
      obtain ⟨Xb, hXb⟩ : ∃ Xb, Xb = W.heap.size := ⟨_, rfl⟩
      rw [← hXb]
      clear hXb W
      rintro W ⟨hJ, hblk⟩ hrec
      have hrow := hJ.2.1
      have HJ := Lib.hid hJ
      clear g0 g1 g2 g3 g4 g5 g6 fg
      obtain ⟨g0, g1, g2, g3, g4, g5, g6, fg⟩ := cells7 hJ.1.gb
      have d0 : W.cell? ⟨Xb, 0, none⟩ = some (.int .i64 x.i) := cell_of_row W Xb 0 _ _ _ hblk
      have d1 : W.cell? ⟨Xb, 1, none⟩ = some (.int .i64 x.t) := cell_of_row W Xb 1 _ _ _ hblk
      have d2 : W.cell? ⟨Xb, 2, none⟩ = some (.string x.d) := cell_of_row W Xb 2 _ _ _ hblk
      clear hJ hblk hD7 hD6 hD5 hD4 hown7 hown6 hown5 hown4 hI7
      gi_wp2_with (gi_at_builtin; refine wpListIn_append_fits _ rfl _ _ 24 rfl wc.heap.size 38 i0 3 Try.underlying24 hi9 hz1 wc.heap.size pre.length (K.length + M.length) (entryCells pre) rfl (hrow.alloc _) ⟨W.heap.size, 0, none⟩ 1 1 x.cells rfl rfl (news_new _ _ _) (by simp [Value.oneCell', EntryC.cells]) (by omega) ?_; intro w9 hown9 hgrow9; obtain ⟨hD9, hR9, hJ9⟩ := sJ_append (B := w7.heap.size) (S := fun k => ¬ (k = w.heap.size ∨ k = wc.heap.size) ∧ k ≠ L0) HJ.out hlt (fun h => h.1 (.inr rfl)) (fun h => h.1 (.inl rfl)) hown9 hgrow9; clear g0 g1 g2 g3 g4 g5 g6 fg; obtain ⟨g0, g1, g2, g3, g4, g5, g6, fg⟩ := cells7 hD9.gb)
      refine ⟨hR9, ?_⟩
      dsimp only
      rw [List.length_append, entryCells_snoc]
      exact hJ9
    case hd =>
      rintro W ⟨hDo, hrow, hs⟩ hDef
      clear g0 g1 g2 g3 g4 g5 g6 fg
      obtain ⟨g0, g1, g2, g3, g4, g5, g6, fg⟩ := cells7 hDo.gb
      obtain ⟨r0, r1, r2, r3, r4, r5, r6, fr⟩ := cells7 hDo.rb
      have HG9 := Lib.hid (show (⟨id, fi, te, ht, hv, hc, l⟩ : GM) = ⟨id, fi1, te1, ht1, hv1, hc1, X⟩ by rw [HDO.out]; unfold addG; dsimp only; rw [← HFL.out, ← HX.out])
      have hb7 := st7_block hDo.rb (.int .i64 id) (.int .i64 fi1) (.int .i64 te1) (.int .i64 ht1) (.int .i64 hv1) (.int .i64 hc1) (.slice (some ⟨wc.heap.size, 0, none⟩) X.length (K.length + M.length))
      have hF8 := st7_frame W (w.heap.size + 1 + 1) (.int .i64 id) (.int .i64 fi1) (.int .i64 te1) (.int .i64 ht1) (.int .i64 hv1) (.int .i64 hc1) (.slice (some ⟨wc.heap.size, 0, none⟩) X.length (K.length + M.length))
      have hown2 := own_frame hrow hF8 (fun k hk h => by omega)
      have hbel := hDo.bel.trans (hF8.toBelow hDo.bel.size (fun k h => by omega))
      have hDz := hF8.get hDef (by show ¬ (w7.heap.size = w.heap.size + 1 + 1); omega)
      clear hD7 hD6 hD5 hD4 hown7 hown6 hown5 hown4 hI7
      gi_wp2
      clear g0 g1 g2 g3 g4 g5 g6 fg r0 r1 r2 r3 r4 r5 r6 fr
      obtain ⟨e0, e1, e2, e3, e4, e5, e6, -⟩ := cells7 hb7
      replace e0 := cell_putObj (o' := .deferred none) e0 hDz rfl
      replace e1 := cell_putObj (o' := .deferred none) e1 hDz rfl
      replace e2 := cell_putObj (o' := .deferred none) e2 hDz rfl
      replace e3 := cell_putObj (o' := .deferred none) e3 hDz rfl
      replace e4 := cell_putObj (o' := .deferred none) e4 hDz rfl
      replace e5 := cell_putObj (o' := .deferred none) e5 hDz rfl
      replace e6 := cell_putObj (o' := .deferred none) e6 hDz rfl
      refine leave_one hDz (v := .agg #[.int .i64 id, .int .i64 fi1, .int .i64 te1, .int .i64 ht1, .int .i64 hv1, .int .i64 hc1, .slice (some ⟨wc.heap.size, 0, none⟩) X.length (K.length + M.length)]) (by simp [results, Try.results12, go_sem, e0, e1, e2, e3, e4, e5, e6]) ?_
      have hm9 : Moves w7.heap.size (fun _ => False) _ _ := Moves.putObj _ (.deferred none) (Nat.le_refl _) hDz rfl
      obtain ⟨va', vc', hx, -, hrv⟩ := rowV_own (Stab.ownsRow (B := w7.heap.size) (T := fun _ => False) (fun _ h => h.elim) _ _ hown2 hm9)
      cases hx
      rw [HG9.out]
      exact ⟨some ⟨wc.heap.size, 0, none⟩, K.length + M.length, rfl, ⟨by show X.length < 1000000; omega, hrv⟩, hXl, below_putObj hbel (Nat.le_refl _) hw7 _, fun k hk => by obtain ⟨_, _, e9, _, rfl⟩ := hk; cases e9; omega⟩

set_option maxRecDepth 100000 in
set_option maxHeartbeats 4000000 in
theorem sdo_badB (id fi te ht hv hc : Int) (l : List EntryC) (a : Option Addr) (cap : Nat) (pg pk : Int) (pa : Option Addr) (plen pcap : Nat) (pht phv phc pi pt : Int) (pm ph : Bool) (pl : List EntryC) (w : World) (hg : HasG w a ⟨id, fi, te, ht, hv, hc, l⟩) (hgc : l.length ≤ cap) (hp : HasE w ⟨pg, pk, pa, plen, pcap, pht, phv, phc, pi, pt, pm, ph⟩ pl) (h30 : l.length ≤ 100000) (hI : isSp ⟨id, fi, te, ht, hv, hc, l⟩ = true) (hBB : isB ⟨pg, pk, pa, plen, pcap, pht, phv, phc, pi, pt, pm, ph⟩ pl = false) : Calls Try.prog 12 #[.agg #[.int .i64 id, .int .i64 fi, .int .i64 te, .int .i64 ht, .int .i64 hv, .int .i64 hc, .slice a l.length cap], .agg #[.int .i64 pg, .int .i64 pk, .slice pa plen pcap, .int .i64 pht, .int .i64 phv, .int .i64 phc, .int .i64 pi, .int .i64 pt, .bool pm, .bool ph]] w (SDoP w ⟨id, fi, te, ht, hv, hc, l⟩) := by
  have GI := Lib.hid (fun W (hB : Below w.heap.size w W) => (show Gives Try.prog 13 #[.agg #[.int .i64 id, .int .i64 fi, .int .i64 te, .int .i64 ht, .int .i64 hv, .int .i64 hc, .slice a l.length cap]] W (.bool true) from by have := sprIs_any id fi te ht hv hc l a cap W (hg.below hB); rwa [hI] at this))
  have GP := Lib.hid (fun W (hB : Below w.heap.size w W) => (show Gives Try.prog 24 #[.agg #[.int .i64 pg, .int .i64 pk, .slice pa plen pcap, .int .i64 pht, .int .i64 phv, .int .i64 phc, .int .i64 pi, .int .i64 pt, .bool pm, .bool ph]] W (.bool false) from by have := is_any ⟨pg, pk, pa, plen, pcap, pht, phv, phc, pi, pt, pm, ph⟩ pl W (hp.below hB); rwa [hBB] at this))
  have HS := Lib.hid (DoW.start w #[.int .i64 id, .int .i64 fi, .int .i64 te, .int .i64 ht, .int .i64 hv, .int .i64 hc, .slice a l.length cap] #[.int .i64 pg, .int .i64 pk, .slice pa plen pcap, .int .i64 pht, .int .i64 phv, .int .i64 phc, .int .i64 pi, .int .i64 pt, .bool pm, .bool ph])
  have HG := Lib.hid hg
  have hm := hg.1
  dsimp only at hm
  clear hI hBB
  clear hg hp
  refine (callsIn_wide (n := 9)).1 ?_
  refine callsIn_of_wp_marks Try.func12 rfl trivial ?_ rfl
  simp only [Try.ntmps12, List.size_toArray, List.length_cons, List.length_nil, Nat.reduceAdd, Nat.reduceSub, Array.replicate_succ, Array.replicate_zero, List.push_toArray, List.append_toArray, List.nil_append, List.cons_append]
  refine wpIn_wide.2 ?_
  go_upto_if 22 with (first
    | (go_at_call 13; ((with_reducible refine (GI.out _ HS.out.bel).mono ?_); rintro e w1 ⟨rfl, hB1⟩; have hD1 := HS.out.after hB1; obtain ⟨g0, g1, g2, g3, g4, g5, g6, fg⟩ := cells7 hD1.gb; obtain ⟨p1, p2, p3, p4, p5, p6, p7⟩ := cells10 hD1.pb; have p0 := cell_of_row _ _ 0 _ _ _ hD1.pb; have p8 := cell_of_row _ _ 8 _ _ _ hD1.pb; have p9 := cell_of_row _ _ 9 _ _ _ hD1.pb))
    | (go_at_call 24; ((with_reducible refine (GP.out _ hD1.bel).mono ?_); rintro e w2 ⟨rfl, hB2⟩; have hD2 := hD1.after hB2; clear g0 g1 g2 g3 g4 g5 g6 fg p0 p1 p2 p3 p4 p5 p6 p7 p8 p9; obtain ⟨g0, g1, g2, g3, g4, g5, g6, fg⟩ := cells7 hD2.gb; obtain ⟨p1, p2, p3, p4, p5, p6, p7⟩ := cells10 hD2.pb; have p0 := cell_of_row _ _ 0 _ _ _ hD2.pb; have p8 := cell_of_row _ _ 8 _ _ _ hD2.pb; have p9 := cell_of_row _ _ 9 _ _ _ hD2.pb)))
  go_cut [5, 6] from 23 to 73 (fun s5 s6 wx => SprMid w a l.length cap id #[.int .i64 pg, .int .i64 pk, .slice pa plen pcap, .int .i64 pht, .int .i64 phv, .int .i64 phc, .int .i64 pi, .int .i64 pt, .bool pm, .bool ph] ⟨id, fi, te, ht, hv, hc, l⟩ s5 s6 wx)
  case first =>
    have hgr := HG.out.2
    dsimp only at hgr
    have hlK : ∀ k, inBlkE a l.length k → k < w.heap.size := fun k hk => inBlkE_lt hgr hk
    go_wp2
    go_meet
    exact ⟨fi, te, ht, hv, hc, a, cap, l, none, 0, [], rfl, rfl, hD2, hgr, hlK, Nat.le_refl _, RowV.nil _ _ _, Nat.le_refl _, by simp, fun j k hj hk => by simp at hk, (addG_nil _).symm⟩
  case rest =>
    clear g0 g1 g2 g3 g4 g5 g6 fg p0 p1 p2 p3 p4 p5 p6 p7 p8 p9 hD1 hD2 hB1 hB2
    obtain ⟨fi1, te1, ht1, hv1, hc1, ka, kc, K, ma, mc, M, rfl, rfl, hD, hK, hKlt, hKl, hM, hMc, hM6, hMr, hdo⟩ := hcut
    have HDO := Lib.hid hdo
    clear hdo
    have hMlt : ∀ k, inBlkE ma M.length k → k < w.heap.size := fun k hk => inBlkE_lt hM hk
    have GF := Lib.hid (fun W (hB : Below w.heap.size w W) => sfrom_any M ma mc fi1 W (by omega) hMc (hM.below hB) hMr)
    obtain ⟨FL, hFL⟩ : ∃ FL, FL = M.drop (fnd M fi1) := ⟨_, rfl⟩
    have hFl : FL.length ≤ M.length := by rw [hFL, List.length_drop]; omega
    rw [← hFL] at GF
    have HFL := Lib.hid hFL
    clear hFL
    obtain ⟨i0, hi9, hz0, hz1, hz2⟩ := info_parts infoEntry
    obtain ⟨g0, g1, g2, g3, g4, g5, g6, fg⟩ := cells7 hD.gb
    have hlt := hD.lt
    have hw0 : w.heap.size ≤ wc.heap.size := by omega
    refine (by assumption : ∀ (a : Act) (w : World), Code.wp _ _ _ a w → (_ : Prop)) _ _ ?_
    refine (wpIn_wide (n := 9)).1 ?_
    gi_wp2_with (first
      | (gi_at_make; (refine wpListIn_make_own _ rfl _ _ 24 rfl wc.heap.size 38 i0 (.agg #[.int .i64 0, .int .i64 0, .string ⟨#[]⟩]) 3 Try.underlying24 hi9 hz0 hz1 .i64 .i64 ((K.length : Int) + (M.length : Int)) (K.length + M.length) rfl rfl (by push_cast; rfl) (by rw [hz2]; omega) (by unfold maxLen; omega) (Nat.le_refl _) ?_; intro w4 hown4 hgrow4; have hD4 := hD.grown hgrow4 (fun k e => by cases e); have hlt4 : wc.heap.size < w4.heap.size := (by rcases hown4.2 with ⟨hv, _⟩ | ⟨g, _, _, hv, _, hgg, _⟩; (cases hv); (cases hv; exact heap_lt hgg)); have hD5 := hD4.set 6 (.slice (some ⟨wc.heap.size, 0, none⟩) 0 (K.length + M.length)); simp only [List.setIfInBounds_toArray, List.set_cons_succ, List.set_cons_zero] at hD5; have hown5 := own_frame hown4 (FrameT.setCell w4 w.heap.size 6 (.slice (some ⟨wc.heap.size, 0, none⟩) 0 (K.length + M.length))) (fun k hk h => by omega); clear g0 g1 g2 g3 g4 g5 g6 fg; obtain ⟨g0, g1, g2, g3, g4, g5, g6, fg⟩ := cells7 hD4.gb))
      | (gi_at_call 29; ((with_reducible refine (callsIn_wide.2 (GF.out _ hD5.bel)).mono ?_); rintro e w6 ⟨va, vc, rfl, hrF, hvc, hB6, hinF⟩; have hD6 := hD5.after hB6; have hown6 := ownsRow_below (n := 0) hown5 hB6))
      | (gi_at_call 28; (refine (callsIn_wide.2 (mrg_makes ka va kc vc K FL (by omega) (by omega) hvc (fun k => k = w.heap.size ∨ k = wc.heap.size) w6 (fun k hk => by have h1 := hD6.lt; have h2 := hB6.size; have h3 : wc.heap.size < w4.heap.size := hlt4; simp at h2; rcases hk with rfl | rfl <;> omega) (fun k hk h => by have h1 := hKlt k hk; rcases h with rfl | rfl <;> omega) (fun k hk h => by have h1 := hMlt k (hinF k hk); rcases h with rfl | rfl <;> omega) (hK.below hD6.bel) hrF)).mono ?_; rintro e w7 ⟨lb, rfl, hB7, hI7⟩; have hD7 := hD6.after hB7; have hown7 := ownsRow_below (n := 0) hown6 hB7)))
    obtain ⟨X, hX⟩ : ∃ X, X = mrg K FL := ⟨_, rfl⟩
    have hXl : X.length ≤ K.length + M.length := by rw [hX]; exact Nat.le_trans (mrg_len _ _) (by omega)
    rw [← hX] at hI7
    have HX := Lib.hid hX
    clear hX
    have hs7 : wc.heap.size + 1 ≤ w7.heap.size := by have h1 := hB6.size; have h2 := hB7.size; simp at h1; omega
    have hw7 : w.heap.size ≤ w7.heap.size := hD7.bel.size
    refine range_outerU rfl (enters_of Try.func52 (by kernel_rfl) rfl) hI7 (fun _ => rfl)
      (fun pre W => sJ w #[.int .i64 pg, .int .i64 pk, .slice pa plen pcap, .int .i64 pht, .int .i64 phv, .int .i64 phc, .int .i64 pi, .int .i64 pt, .bool pm, .bool ph] id fi1 te1 ht1 hv1 hc1 wc.heap.size (K.length + M.length) pre.length (entryCells pre) w7.heap.size W) (fun _ _ _ => False) (fun _ => sJ_stab hw7) (fun _ _ => Stab.pure _) ⟨hD7, hown7, Nat.le_refl _⟩ ?hr ?hd (fun _ _ _ _ _ _ h => h.elim)
    case hr =>
      rintro L0 pre x suf W hx hl' hi1 hrec
      dsimp only [EntryC.enc, EntryC.val]
      have hpl9 : pre.length < X.length := by have h1 := congrArg List.length hx; simp at h1; omega
      gi_wp2
      refine rdThen_mk (fun W' => sJ w #[.int .i64 pg, .int .i64 pk, .slice pa plen pcap, .int .i64 pht, .int .i64 phv, .int .i64 phc, .int .i64 pi, .int .i64 pt, .bool pm, .bool ph] id fi1 te1 ht1 hv1 hc1 wc.heap.size (K.length + M.length) pre.length (entryCells pre) w7.heap.size W' ∧ W'.heap[W.heap.size]? = some (.cells #[.int .i64 x.i, .int .i64 x.t, .string x.d] 38 (0, 0)))
        ((sJ_stab hw7).and (Stab.block (fun h => h) (.inr rfl))) ⟨sJ_stab hw7 _ _ hi1 (Moves.alloc _ _), World.alloc_heap_new W _⟩ ((Rd.refl _ _ _).alloc _) ?_
      clear hi1 hrec
      obtain ⟨Xb, hXb⟩ : ∃ Xb, Xb = W.heap.size := ⟨_, rfl⟩
      rw [← hXb]
      clear hXb W
      rintro W ⟨hJ, hblk⟩ hrec
      have hrow := hJ.2.1
      have HJ := Lib.hid hJ
      clear g0 g1 g2 g3 g4 g5 g6 fg
      obtain ⟨g0, g1, g2, g3, g4, g5, g6, fg⟩ := cells7 hJ.1.gb
      have d0 : W.cell? ⟨Xb, 0, none⟩ = some (.int .i64 x.i) := cell_of_row W Xb 0 _ _ _ hblk
      have d1 : W.cell? ⟨Xb, 1, none⟩ = some (.int .i64 x.t) := cell_of_row W Xb 1 _ _ _ hblk
      have d2 : W.cell? ⟨Xb, 2, none⟩ = some (.string x.d) := cell_of_row W Xb 2 _ _ _ hblk
      clear hJ hblk hD7 hD6 hD5 hD4 hown7 hown6 hown5 hown4 hI7
      gi_wp2_with (gi_at_builtin; refine wpListIn_append_fits _ rfl _ _ 24 rfl wc.heap.size 38 i0 3 Try.underlying24 hi9 hz1 wc.heap.size pre.length (K.length + M.length) (entryCells pre) rfl (hrow.alloc _) ⟨W.heap.size, 0, none⟩ 1 1 x.cells rfl rfl (news_new _ _ _) (by simp [Value.oneCell', EntryC.cells]) (by omega) ?_; intro w9 hown9 hgrow9; obtain ⟨hD9, hR9, hJ9⟩ := sJ_append (B := w7.heap.size) (S := fun k => ¬ (k = w.heap.size ∨ k = wc.heap.size) ∧ k ≠ L0) HJ.out hlt (fun h => h.1 (.inr rfl)) (fun h => h.1 (.inl rfl)) hown9 hgrow9; clear g0 g1 g2 g3 g4 g5 g6 fg; obtain ⟨g0, g1, g2, g3, g4, g5, g6, fg⟩ := cells7 hD9.gb)
      refine ⟨hR9, ?_⟩
      dsimp only
      rw [List.length_append, entryCells_snoc]
      exact hJ9
    case hd =>
      rintro W ⟨hDo, hrow, hs⟩ hDef
      clear g0 g1 g2 g3 g4 g5 g6 fg
      obtain ⟨g0, g1, g2, g3, g4, g5, g6, fg⟩ := cells7 hDo.gb
      obtain ⟨r0, r1, r2, r3, r4, r5, r6, fr⟩ := cells7 hDo.rb
      have HG9 := Lib.hid (show (⟨id, fi, te, ht, hv, hc, l⟩ : GM) = ⟨id, fi1, te1, ht1, hv1, hc1, X⟩ by rw [HDO.out]; unfold addG; dsimp only; rw [← HFL.out, ← HX.out])
      have hb7 := st7_block hDo.rb (.int .i64 id) (.int .i64 fi1) (.int .i64 te1) (.int .i64 ht1) (.int .i64 hv1) (.int .i64 hc1) (.slice (some ⟨wc.heap.size, 0, none⟩) X.length (K.length + M.length))
      have hF8 := st7_frame W (w.heap.size + 1 + 1) (.int .i64 id) (.int .i64 fi1) (.int .i64 te1) (.int .i64 ht1) (.int .i64 hv1) (.int .i64 hc1) (.slice (some ⟨wc.heap.size, 0, none⟩) X.length (K.length + M.length))
      have hown2 := own_frame hrow hF8 (fun k hk h => by omega)
      have hbel := hDo.bel.trans (hF8.toBelow hDo.bel.size (fun k h => by omega))
      have hDz := hF8.get hDef (by show ¬ (w7.heap.size = w.heap.size + 1 + 1); omega)
      clear hD7 hD6 hD5 hD4 hown7 hown6 hown5 hown4 hI7
      gi_wp2
      clear g0 g1 g2 g3 g4 g5 g6 fg r0 r1 r2 r3 r4 r5 r6 fr
      obtain ⟨e0, e1, e2, e3, e4, e5, e6, -⟩ := cells7 hb7
      replace e0 := cell_putObj (o' := .deferred none) e0 hDz rfl
      replace e1 := cell_putObj (o' := .deferred none) e1 hDz rfl
      replace e2 := cell_putObj (o' := .deferred none) e2 hDz rfl
      replace e3 := cell_putObj (o' := .deferred none) e3 hDz rfl
      replace e4 := cell_putObj (o' := .deferred none) e4 hDz rfl
      replace e5 := cell_putObj (o' := .deferred none) e5 hDz rfl
      replace e6 := cell_putObj (o' := .deferred none) e6 hDz rfl
      refine leave_one hDz (v := .agg #[.int .i64 id, .int .i64 fi1, .int .i64 te1, .int .i64 ht1, .int .i64 hv1, .int .i64 hc1, .slice (some ⟨wc.heap.size, 0, none⟩) X.length (K.length + M.length)]) (by simp [results, Try.results12, go_sem, e0, e1, e2, e3, e4, e5, e6]) ?_
      have hm9 : Moves w7.heap.size (fun _ => False) _ _ := Moves.putObj _ (.deferred none) (Nat.le_refl _) hDz rfl
      obtain ⟨va', vc', hx, -, hrv⟩ := rowV_own (Stab.ownsRow (B := w7.heap.size) (T := fun _ => False) (fun _ h => h.elim) _ _ hown2 hm9)
      cases hx
      rw [HG9.out]
      exact ⟨some ⟨wc.heap.size, 0, none⟩, K.length + M.length, rfl, ⟨by show X.length < 1000000; omega, hrv⟩, hXl, below_putObj hbel (Nat.le_refl _) hw7 _, fun k hk => by obtain ⟨_, _, e9, _, rfl⟩ := hk; cases e9; omega⟩

set_option maxRecDepth 100000 in
set_option maxHeartbeats 4000000 in
theorem sdo_badC (id fi te ht hv hc : Int) (l : List EntryC) (a : Option Addr) (cap : Nat) (pg pk : Int) (pa : Option Addr) (plen pcap : Nat) (pht phv phc pi pt : Int) (pm ph : Bool) (pl : List EntryC) (w : World) (hg : HasG w a ⟨id, fi, te, ht, hv, hc, l⟩) (hgc : l.length ≤ cap) (hp : HasE w ⟨pg, pk, pa, plen, pcap, pht, phv, phc, pi, pt, pm, ph⟩ pl) (h30 : l.length ≤ 100000) (hI : isSp ⟨id, fi, te, ht, hv, hc, l⟩ = true) (hBB : isB ⟨pg, pk, pa, plen, pcap, pht, phv, phc, pi, pt, pm, ph⟩ pl = true) (hne : pg ≠ id) : Calls Try.prog 12 #[.agg #[.int .i64 id, .int .i64 fi, .int .i64 te, .int .i64 ht, .int .i64 hv, .int .i64 hc, .slice a l.length cap], .agg #[.int .i64 pg, .int .i64 pk, .slice pa plen pcap, .int .i64 pht, .int .i64 phv, .int .i64 phc, .int .i64 pi, .int .i64 pt, .bool pm, .bool ph]] w (SDoP w ⟨id, fi, te, ht, hv, hc, l⟩) := by
  have GI := Lib.hid (fun W (hB : Below w.heap.size w W) => (show Gives Try.prog 13 #[.agg #[.int .i64 id, .int .i64 fi, .int .i64 te, .int .i64 ht, .int .i64 hv, .int .i64 hc, .slice a l.length cap]] W (.bool true) from by have := sprIs_any id fi te ht hv hc l a cap W (hg.below hB); rwa [hI] at this))
  have GP := Lib.hid (fun W (hB : Below w.heap.size w W) => (show Gives Try.prog 24 #[.agg #[.int .i64 pg, .int .i64 pk, .slice pa plen pcap, .int .i64 pht, .int .i64 phv, .int .i64 phc, .int .i64 pi, .int .i64 pt, .bool pm, .bool ph]] W (.bool true) from by have := is_any ⟨pg, pk, pa, plen, pcap, pht, phv, phc, pi, pt, pm, ph⟩ pl W (hp.below hB); rwa [hBB] at this))
  have HS := Lib.hid (DoW.start w #[.int .i64 id, .int .i64 fi, .int .i64 te, .int .i64 ht, .int .i64 hv, .int .i64 hc, .slice a l.length cap] #[.int .i64 pg, .int .i64 pk, .slice pa plen pcap, .int .i64 pht, .int .i64 phv, .int .i64 phc, .int .i64 pi, .int .i64 pt, .bool pm, .bool ph])
  have HG := Lib.hid hg
  have hm := hg.1
  dsimp only at hm
  have hn1 : (pg == id) = false := by rw [beq_eq_false_iff_ne]; exact hne
  clear hI hBB hne
  clear hg hp
  refine (callsIn_wide (n := 9)).1 ?_
  refine callsIn_of_wp_marks Try.func12 rfl trivial ?_ rfl
  simp only [Try.ntmps12, List.size_toArray, List.length_cons, List.length_nil, Nat.reduceAdd, Nat.reduceSub, Array.replicate_succ, Array.replicate_zero, List.push_toArray, List.append_toArray, List.nil_append, List.cons_append]
  refine wpIn_wide.2 ?_
  go_upto_if 22 with (first
    | (go_at_call 13; ((with_reducible refine (GI.out _ HS.out.bel).mono ?_); rintro e w1 ⟨rfl, hB1⟩; have hD1 := HS.out.after hB1; obtain ⟨g0, g1, g2, g3, g4, g5, g6, fg⟩ := cells7 hD1.gb; obtain ⟨p1, p2, p3, p4, p5, p6, p7⟩ := cells10 hD1.pb; have p0 := cell_of_row _ _ 0 _ _ _ hD1.pb; have p8 := cell_of_row _ _ 8 _ _ _ hD1.pb; have p9 := cell_of_row _ _ 9 _ _ _ hD1.pb))
    | (go_at_call 24; ((with_reducible refine (GP.out _ hD1.bel).mono ?_); rintro e w2 ⟨rfl, hB2⟩; have hD2 := hD1.after hB2; clear g0 g1 g2 g3 g4 g5 g6 fg p0 p1 p2 p3 p4 p5 p6 p7 p8 p9; obtain ⟨g0, g1, g2, g3, g4, g5, g6, fg⟩ := cells7 hD2.gb; obtain ⟨p1, p2, p3, p4, p5, p6, p7⟩ := cells10 hD2.pb; have p0 := cell_of_row _ _ 0 _ _ _ hD2.pb; have p8 := cell_of_row _ _ 8 _ _ _ hD2.pb; have p9 := cell_of_row _ _ 9 _ _ _ hD2.pb)))
  go_cut [5, 6] from 23 to 73 (fun s5 s6 wx => SprMid w a l.length cap id #[.int .i64 pg, .int .i64 pk, .slice pa plen pcap, .int .i64 pht, .int .i64 phv, .int .i64 phc, .int .i64 pi, .int .i64 pt, .bool pm, .bool ph] ⟨id, fi, te, ht, hv, hc, l⟩ s5 s6 wx)
  case first =>
    have hgr := HG.out.2
    dsimp only at hgr
    have hlK : ∀ k, inBlkE a l.length k → k < w.heap.size := fun k hk => inBlkE_lt hgr hk
    go_wp2
    go_meet
    exact ⟨fi, te, ht, hv, hc, a, cap, l, none, 0, [], rfl, rfl, hD2, hgr, hlK, Nat.le_refl _, RowV.nil _ _ _, Nat.le_refl _, by simp, fun j k hj hk => by simp at hk, (addG_nil _).symm⟩
  case rest =>
    clear g0 g1 g2 g3 g4 g5 g6 fg p0 p1 p2 p3 p4 p5 p6 p7 p8 p9 hD1 hD2 hB1 hB2
    obtain ⟨fi1, te1, ht1, hv1, hc1, ka, kc, K, ma, mc, M, rfl, rfl, hD, hK, hKlt, hKl, hM, hMc, hM6, hMr, hdo⟩ := hcut
    have HDO := Lib.hid hdo
    clear hdo
    have hMlt : ∀ k, inBlkE ma M.length k → k < w.heap.size := fun k hk => inBlkE_lt hM hk
    have GF := Lib.hid (fun W (hB : Below w.heap.size w W) => sfrom_any M ma mc fi1 W (by omega) hMc (hM.below hB) hMr)
    obtain ⟨FL, hFL⟩ : ∃ FL, FL = M.drop (fnd M fi1) := ⟨_, rfl⟩
    have hFl : FL.length ≤ M.length := by rw [hFL, List.length_drop]; omega
    rw [← hFL] at GF
    have HFL := Lib.hid hFL
    clear hFL
    obtain ⟨i0, hi9, hz0, hz1, hz2⟩ := info_parts infoEntry
    obtain ⟨g0, g1, g2, g3, g4, g5, g6, fg⟩ := cells7 hD.gb
    have hlt := hD.lt
    have hw0 : w.heap.size ≤ wc.heap.size := by omega
    refine (by assumption : ∀ (a : Act) (w : World), Code.wp _ _ _ a w → (_ : Prop)) _ _ ?_
    refine (wpIn_wide (n := 9)).1 ?_
    gi_wp2_with (first
      | (gi_at_make; (refine wpListIn_make_own _ rfl _ _ 24 rfl wc.heap.size 38 i0 (.agg #[.int .i64 0, .int .i64 0, .string ⟨#[]⟩]) 3 Try.underlying24 hi9 hz0 hz1 .i64 .i64 ((K.length : Int) + (M.length : Int)) (K.length + M.length) rfl rfl (by push_cast; rfl) (by rw [hz2]; omega) (by unfold maxLen; omega) (Nat.le_refl _) ?_; intro w4 hown4 hgrow4; have hD4 := hD.grown hgrow4 (fun k e => by cases e); have hlt4 : wc.heap.size < w4.heap.size := (by rcases hown4.2 with ⟨hv, _⟩ | ⟨g, _, _, hv, _, hgg, _⟩; (cases hv); (cases hv; exact heap_lt hgg)); have hD5 := hD4.set 6 (.slice (some ⟨wc.heap.size, 0, none⟩) 0 (K.length + M.length)); simp only [List.setIfInBounds_toArray, List.set_cons_succ, List.set_cons_zero] at hD5; have hown5 := own_frame hown4 (FrameT.setCell w4 w.heap.size 6 (.slice (some ⟨wc.heap.size, 0, none⟩) 0 (K.length + M.length))) (fun k hk h => by omega); clear g0 g1 g2 g3 g4 g5 g6 fg; obtain ⟨g0, g1, g2, g3, g4, g5, g6, fg⟩ := cells7 hD4.gb))
      | (gi_at_call 29; ((with_reducible refine (callsIn_wide.2 (GF.out _ hD5.bel)).mono ?_); rintro e w6 ⟨va, vc, rfl, hrF, hvc, hB6, hinF⟩; have hD6 := hD5.after hB6; have hown6 := ownsRow_below (n := 0) hown5 hB6))
      | (gi_at_call 28; (refine (callsIn_wide.2 (mrg_makes ka va kc vc K FL (by omega) (by omega) hvc (fun k => k = w.heap.size ∨ k = wc.heap.size) w6 (fun k hk => by have h1 := hD6.lt; have h2 := hB6.size; have h3 : wc.heap.size < w4.heap.size := hlt4; simp at h2; rcases hk with rfl | rfl <;> omega) (fun k hk h => by have h1 := hKlt k hk; rcases h with rfl | rfl <;> omega) (fun k hk h => by have h1 := hMlt k (hinF k hk); rcases h with rfl | rfl <;> omega) (hK.below hD6.bel) hrF)).mono ?_; rintro e w7 ⟨lb, rfl, hB7, hI7⟩; have hD7 := hD6.after hB7; have hown7 := ownsRow_below (n := 0) hown6 hB7)))
    obtain ⟨X, hX⟩ : ∃ X, X = mrg K FL := ⟨_, rfl⟩
    have hXl : X.length ≤ K.length + M.length := by rw [hX]; exact Nat.le_trans (mrg_len _ _) (by omega)
    rw [← hX] at hI7
    have HX := Lib.hid hX
    clear hX
    have hs7 : wc.heap.size + 1 ≤ w7.heap.size := by have h1 := hB6.size; have h2 := hB7.size; simp at h1; omega
    have hw7 : w.heap.size ≤ w7.heap.size := hD7.bel.size
    refine range_outerU rfl (enters_of Try.func52 (by kernel_rfl) rfl) hI7 (fun _ => rfl)
      (fun pre W => sJ w #[.int .i64 pg, .int .i64 pk, .slice pa plen pcap, .int .i64 pht, .int .i64 phv, .int .i64 phc, .int .i64 pi, .int .i64 pt, .bool pm, .bool ph] id fi1 te1 ht1 hv1 hc1 wc.heap.size (K.length + M.length) pre.length (entryCells pre) w7.heap.size W) (fun _ _ _ => False) (fun _ => sJ_stab hw7) (fun _ _ => Stab.pure _) ⟨hD7, hown7, Nat.le_refl _⟩ ?hr ?hd (fun _ _ _ _ _ _ h => h.elim)
    case hr =>
      rintro L0 pre x suf W hx hl' hi1 hrec
      dsimp only [EntryC.enc, EntryC.val]
      have hpl9 : pre.length < X.length := by have h1 := congrArg List.length hx; simp at h1; omega
      gi_wp2
      refine rdThen_mk (fun W' => sJ w #[.int .i64 pg, .int .i64 pk, .slice pa plen pcap, .int .i64 pht, .int .i64 phv, .int .i64 phc, .int .i64 pi, .int .i64 pt, .bool pm, .bool ph] id fi1 te1 ht1 hv1 hc1 wc.heap.size (K.length + M.length) pre.length (entryCells pre) w7.heap.size W' ∧ W'.heap[W.heap.size]? = some (.cells #[.int .i64 x.i, .int .i64 x.t, .string x.d] 38 (0, 0)))
        ((sJ_stab hw7).and (Stab.block (fun h => h) (.inr rfl))) ⟨sJ_stab hw7 _ _ hi1 (Moves.alloc _ _), World.alloc_heap_new W _⟩ ((Rd.refl _ _ _).alloc _) ?_
      clear hi1 hrec
      obtain ⟨Xb, hXb⟩ : ∃ Xb, Xb = W.heap.size := ⟨_, rfl⟩
      rw [← hXb]
      clear hXb W
      rintro W ⟨hJ, hblk⟩ hrec
      have hrow := hJ.2.1
      have HJ := Lib.hid hJ
      clear g0 g1 g2 g3 g4 g5 g6 fg
      obtain ⟨g0, g1, g2, g3, g4, g5, g6, fg⟩ := cells7 hJ.1.gb
      have d0 : W.cell? ⟨Xb, 0, none⟩ = some (.int .i64 x.i) := cell_of_row W Xb 0 _ _ _ hblk
      have d1 : W.cell? ⟨Xb, 1, none⟩ = some (.int .i64 x.t) := cell_of_row W Xb 1 _ _ _ hblk
      have d2 : W.cell? ⟨Xb, 2, none⟩ = some (.string x.d) := cell_of_row W Xb 2 _ _ _ hblk
      clear hJ hblk hD7 hD6 hD5 hD4 hown7 hown6 hown5 hown4 hI7
      gi_wp2_with (gi_at_builtin; refine wpListIn_append_fits _ rfl _ _ 24 rfl wc.heap.size 38 i0 3 Try.underlying24 hi9 hz1 wc.heap.size pre.length (K.length + M.length) (entryCells pre) rfl (hrow.alloc _) ⟨W.heap.size, 0, none⟩ 1 1 x.cells rfl rfl (news_new _ _ _) (by simp [Value.oneCell', EntryC.cells]) (by omega) ?_; intro w9 hown9 hgrow9; obtain ⟨hD9, hR9, hJ9⟩ := sJ_append (B := w7.heap.size) (S := fun k => ¬ (k = w.heap.size ∨ k = wc.heap.size) ∧ k ≠ L0) HJ.out hlt (fun h => h.1 (.inr rfl)) (fun h => h.1 (.inl rfl)) hown9 hgrow9; clear g0 g1 g2 g3 g4 g5 g6 fg; obtain ⟨g0, g1, g2, g3, g4, g5, g6, fg⟩ := cells7 hD9.gb)
      refine ⟨hR9, ?_⟩
      dsimp only
      rw [List.length_append, entryCells_snoc]
      exact hJ9
    case hd =>
      rintro W ⟨hDo, hrow, hs⟩ hDef
      clear g0 g1 g2 g3 g4 g5 g6 fg
      obtain ⟨g0, g1, g2, g3, g4, g5, g6, fg⟩ := cells7 hDo.gb
      obtain ⟨r0, r1, r2, r3, r4, r5, r6, fr⟩ := cells7 hDo.rb
      have HG9 := Lib.hid (show (⟨id, fi, te, ht, hv, hc, l⟩ : GM) = ⟨id, fi1, te1, ht1, hv1, hc1, X⟩ by rw [HDO.out]; unfold addG; dsimp only; rw [← HFL.out, ← HX.out])
      have hb7 := st7_block hDo.rb (.int .i64 id) (.int .i64 fi1) (.int .i64 te1) (.int .i64 ht1) (.int .i64 hv1) (.int .i64 hc1) (.slice (some ⟨wc.heap.size, 0, none⟩) X.length (K.length + M.length))
      have hF8 := st7_frame W (w.heap.size + 1 + 1) (.int .i64 id) (.int .i64 fi1) (.int .i64 te1) (.int .i64 ht1) (.int .i64 hv1) (.int .i64 hc1) (.slice (some ⟨wc.heap.size, 0, none⟩) X.length (K.length + M.length))
      have hown2 := own_frame hrow hF8 (fun k hk h => by omega)
      have hbel := hDo.bel.trans (hF8.toBelow hDo.bel.size (fun k h => by omega))
      have hDz := hF8.get hDef (by show ¬ (w7.heap.size = w.heap.size + 1 + 1); omega)
      clear hD7 hD6 hD5 hD4 hown7 hown6 hown5 hown4 hI7
      gi_wp2
      clear g0 g1 g2 g3 g4 g5 g6 fg r0 r1 r2 r3 r4 r5 r6 fr
      obtain ⟨e0, e1, e2, e3, e4, e5, e6, -⟩ := cells7 hb7
      replace e0 := cell_putObj (o' := .deferred none) e0 hDz rfl
      replace e1 := cell_putObj (o' := .deferred none) e1 hDz rfl
      replace e2 := cell_putObj (o' := .deferred none) e2 hDz rfl
      replace e3 := cell_putObj (o' := .deferred none) e3 hDz rfl
      replace e4 := cell_putObj (o' := .deferred none) e4 hDz rfl
      replace e5 := cell_putObj (o' := .deferred none) e5 hDz rfl
      replace e6 := cell_putObj (o' := .deferred none) e6 hDz rfl
      refine leave_one hDz (v := .agg #[.int .i64 id, .int .i64 fi1, .int .i64 te1, .int .i64 ht1, .int .i64 hv1, .int .i64 hc1, .slice (some ⟨wc.heap.size, 0, none⟩) X.length (K.length + M.length)]) (by simp [results, Try.results12, go_sem, e0, e1, e2, e3, e4, e5, e6]) ?_
      have hm9 : Moves w7.heap.size (fun _ => False) _ _ := Moves.putObj _ (.deferred none) (Nat.le_refl _) hDz rfl
      obtain ⟨va', vc', hx, -, hrv⟩ := rowV_own (Stab.ownsRow (B := w7.heap.size) (T := fun _ => False) (fun _ h => h.elim) _ _ hown2 hm9)
      cases hx
      rw [HG9.out]
      exact ⟨some ⟨wc.heap.size, 0, none⟩, K.length + M.length, rfl, ⟨by show X.length < 1000000; omega, hrv⟩, hXl, below_putObj hbel (Nat.le_refl _) hw7 _, fun k hk => by obtain ⟨_, _, e9, _, rfl⟩ := hk; cases e9; omega⟩

set_option maxRecDepth 100000 in
set_option maxHeartbeats 4000000 in
theorem sdo_any (id fi te ht hv hc : Int) (l : List EntryC) (a : Option Addr) (cap : Nat) (pg pk : Int) (pa : Option Addr) (plen pcap : Nat) (pht phv phc pi pt : Int) (pm ph : Bool) (pl : List EntryC) (w : World) (hg : HasG w a ⟨id, fi, te, ht, hv, hc, l⟩) (hgc : l.length ≤ cap) (hp : HasE w ⟨pg, pk, pa, plen, pcap, pht, phv, phc, pi, pt, pm, ph⟩ pl) (hpc : pl.length ≤ pcap) (h30 : l.length ≤ 100000) : Calls Try.prog 12 #[.agg #[.int .i64 id, .int .i64 fi, .int .i64 te, .int .i64 ht, .int .i64 hv, .int .i64 hc, .slice a l.length cap], .agg #[.int .i64 pg, .int .i64 pk, .slice pa plen pcap, .int .i64 pht, .int .i64 phv, .int .i64 phc, .int .i64 pi, .int .i64 pt, .bool pm, .bool ph]] w (SDoP w (doSp ⟨id, fi, te, ht, hv, hc, l⟩ ⟨pg, pk, pa, plen, pcap, pht, phv, phc, pi, pt, pm, ph⟩ pl)) := by
  by_cases hok : isSp ⟨id, fi, te, ht, hv, hc, l⟩ = true ∧ isB ⟨pg, pk, pa, plen, pcap, pht, phv, phc, pi, pt, pm, ph⟩ pl = true ∧ pg = id
  · obtain ⟨hI, hBB, rfl⟩ := hok
    exact sdo_valid pg fi te ht hv hc l a cap pk pa plen pcap pht phv phc pi pt pm ph pl w hg hgc hp hpc h30 hI hBB
  · have e : doSp ⟨id, fi, te, ht, hv, hc, l⟩ ⟨pg, pk, pa, plen, pcap, pht, phv, phc, pi, pt, pm, ph⟩ pl = ⟨id, fi, te, ht, hv, hc, l⟩ := if_neg hok
    rw [e]
    cases hI : isSp ⟨id, fi, te, ht, hv, hc, l⟩
    · exact sdo_badA id fi te ht hv hc l a cap pg pk pa plen pcap pht phv phc pi pt pm ph pl w hg hgc hp h30 hI
    · cases hBB : isB ⟨pg, pk, pa, plen, pcap, pht, phv, phc, pi, pt, pm, ph⟩ pl
      · exact sdo_badB id fi te ht hv hc l a cap pg pk pa plen pcap pht phv phc pi pt pm ph pl w hg hgc hp h30 hI hBB
      · exact sdo_badC id fi te ht hv hc l a cap pg pk pa plen pcap pht phv phc pi pt pm ph pl w hg hgc hp h30 hI hBB (fun h => hok ⟨hI, hBB, h⟩)

end Go.Proofs.Ytfbibpnkfmgkaaa
