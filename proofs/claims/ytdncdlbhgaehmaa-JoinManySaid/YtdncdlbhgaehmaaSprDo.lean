/- SprDo, SprBad: in one text. -/
import Derived.Test.YtdncdlbhgaehmaaSprCmp
import Derived.Deep.DeepCutAuto
import Derived.Deep.Cut
/- The contract of package sparse's Do. -/
namespace Go.Proofs.Ytdncdlbhgaehmaa
open Go.RowKit Go.Shelf
set_option linter.unusedVariables false
attribute [local go_sem] Oper.semAt_some wide_fn wide_round_fn

/-- Where Do stands behind its switch: the group's numbers in its box, the entries that stay (K), those that come (M). -/
def SprMid (w : World) (a : Option Addr) (n cap : Nat) (id : Int) (P : Array Value) (g : GM) (s5 s6 : Value) (W : World) : Prop :=
  ∃ (fi1 te1 ht1 hv1 hc1 : Int) (ka : Option Addr) (kc : Nat) (K : List EntryC) (ma : Option Addr) (mc : Nat) (M : List EntryC), s5 = .slice ka K.length kc ∧ s6 = .slice ma M.length mc ∧ DoW w #[.int .i64 id, .int .i64 fi1, .int .i64 te1, .int .i64 ht1, .int .i64 hv1, .int .i64 hc1, .slice a n cap] P W ∧
    RowV w ka K.length 3 (entryCells K) ∧ (∀ k, inBlkE ka K.length k → k < w.heap.size) ∧ K.length ≤ n ∧ RowV w ma M.length 3 (entryCells M) ∧ M.length ≤ mc ∧ M.length ≤ 6 ∧ Ris M ∧ g = addG ⟨id, fi1, te1, ht1, hv1, hc1, K⟩ M
theorem DoW.set7 {w W : World} {G P : Array Value} (h : DoW w G P W) (v0 v1 v2 v3 v4 v5 v6 : Value) (hz : ∃ z0 z1 z2 z3 z4 z5 z6, G = #[z0, z1, z2, z3, z4, z5, z6]) : DoW w #[v0, v1, v2, v3, v4, v5, v6] P (st7 W w.heap.size v0 v1 v2 v3 v4 v5 v6) := by
  obtain ⟨z0, z1, z2, z3, z4, z5, z6, rfl⟩ := hz
  have := ((((((h.set 0 v0).set 1 v1).set 2 v2).set 3 v3).set 4 v4).set 5 v5).set 6 v6
  simpa only [List.setIfInBounds_toArray, List.set_cons_succ, List.set_cons_zero] using this

set_option maxRecDepth 100000 in
set_option maxHeartbeats 4000000 in
theorem sbelow_g (l : List EntryC) (a : Option Addr) (cap : Nat) (i : Int) (w : World) (hm : l.length < 1000000) (hcap : l.length ≤ cap) (hr : RowV w a l.length 3 (entryCells l)) (hs : Ris l) : Gives Try.prog 91 #[.slice a l.length cap, .int .i64 i] w (.slice a (l.take (fnd l i)).length cap) := by
  have GF := Lib.hid (find_any l a cap i w hm hr hs)
  have hfl := fnd_le l i
  rw [List.length_take, Nat.min_eq_left hfl]
  generalize fnd l i = k at *
  generalize hasB l i = bb at *
  have hk0 : (0 : Int) ≤ (k : Int) := by omega
  have hkl : (k : Int) ≤ (l.length : Int) := by omega
  have hkc : (k : Int) ≤ (cap : Int) := by omega
  have hlc : (l.length : Int) ≤ (cap : Int) := by omega
  clear hr hs
  unfold Gives
  go_enter Try.func91, Try.ntmps91
  go_wp2_with (go_at_call 113; ((with_reducible refine GF.out.mono ?_); rintro e w1 ⟨rfl, hB1⟩))
  go_ret
  exact ⟨rfl, hB1⟩

theorem Rd.setAt {B : Nat} {S : Nat → Prop} {a w : World} (h : Rd B S a w) {b i : Nat} {v : Value} {o : Obj} (hb : w.heap[b]? = some o) (hc : o.isCells = true) (hS : ¬ S b) : Rd B S a (w.setCell ⟨b, i, none⟩ v) :=
  h.trans ⟨rfl, rfl, rfl, by simp, fun k o' ho hk => (heap_setCell_other _ _ _ _ (fun e => by
    rcases hk with hk | ⟨_, hk⟩
    · rw [e] at hk; exact hS hk
    · rw [e, hb] at ho; cases ho; rw [hc] at hk; cases hk)).trans ho⟩
/-- In the loop: the group's box with what it has so far. -/
def sJ (w : World) (P : Array Value) (id fi1 te1 ht1 hv1 hc1 : Int) (G0 M n : Nat) (ys : List Value) (s : Nat) (W : World) : Prop :=
  DoW w #[.int .i64 id, .int .i64 fi1, .int .i64 te1, .int .i64 ht1, .int .i64 hv1, .int .i64 hc1, .slice (some ⟨G0, 0, none⟩) n M] P W ∧ W.ownsRow G0 115 3 (.slice (some ⟨G0, 0, none⟩) n M) n ys ∧ s ≤ W.heap.size
theorem sJ_stab {w : World} {P : Array Value} {id fi1 te1 ht1 hv1 hc1 : Int} {G0 M n : Nat} {ys : List Value} {s B : Nat} (hB : w.heap.size ≤ B) : Stab B (fun _ => False) (sJ w P id fi1 te1 ht1 hv1 hc1 G0 M n ys s) :=
  (DoW.stab hB).and ((Stab.ownsRow (fun _ h => h.elim)).and Stab.size)
theorem sJ_append {w W w2 : World} {P : Array Value} {id fi1 te1 ht1 hv1 hc1 : Int} {G0 M n m s B : Nat} {ys zs : List Value} {S : Nat → Prop} {tmp : Obj} (h : sJ w P id fi1 te1 ht1 hv1 hc1 G0 M n ys s W) (hg0 : w.heap.size + 3 ≤ G0) (hS1 : ¬ S G0) (hS2 : ¬ S w.heap.size)
    (hown' : w2.ownsRow G0 115 3 (.slice (some ⟨G0, 0, none⟩) m M) m zs) (hgrow : (W.alloc tmp).grownBy w2 (some G0)) :
    DoW w #[.int .i64 id, .int .i64 fi1, .int .i64 te1, .int .i64 ht1, .int .i64 hv1, .int .i64 hc1, .slice (some ⟨G0, 0, none⟩) n M] P w2 ∧ Rd B S W (w2.setCell ⟨w.heap.size, 6, none⟩ (.slice (some ⟨G0, 0, none⟩) m M)) ∧ sJ w P id fi1 te1 ht1 hv1 hc1 G0 M m zs s (w2.setCell ⟨w.heap.size, 6, none⟩ (.slice (some ⟨G0, 0, none⟩) m M)) := by
  obtain ⟨hD, hrow, hs⟩ := h
  have hBA := bel_alloc (Below.refl W.heap.size W) tmp
  have hD2 := (hD.after hBA).grown hgrow (fun k e => by cases e; exact hg0)
  obtain ⟨o, ho, hoc⟩ : ∃ o : Obj, (W.alloc tmp).heap[G0]? = some o ∧ o.isCells = true := by
    rcases (hrow.alloc tmp).2 with ⟨hv, _⟩ | ⟨g, cap, cur, hv, _, hgg, _⟩
    · cases hv
    · cases hv; exact ⟨_, hgg, rfl⟩
  have hD3 := hD2.set 6 (.slice (some ⟨G0, 0, none⟩) m M)
  simp only [List.setIfInBounds_toArray, List.set_cons_succ, List.set_cons_zero] at hD3
  refine ⟨hD2, ?_, hD3, own_frame hown' (FrameT.setCell w2 w.heap.size 6 _) (fun k hk h => by omega), ?_⟩
  · exact (((Rd.refl B S W).alloc tmp).grown hgrow (fun k e => by cases e; exact ⟨hS1, .inr ⟨o, ho, hoc⟩⟩)).setAt hD2.gb rfl hS2
  · have h1 := hgrow.size
    have h2 := hBA.size
    rw [World.size_setCell]; omega
/-- What Do makes. -/
def SDoP (w : World) (g : GM) (e : Ending) (w' : World) : Prop := ∃ a cap, e = .returned (.agg #[.int .i64 g.id, .int .i64 g.fi, .int .i64 g.te, .int .i64 g.ht, .int .i64 g.hv, .int .i64 g.hc, .slice a g.l.length cap]) ∧ HasG w' a g ∧ g.l.length ≤ cap ∧ Below w.heap.size w w' ∧ ∀ k, inBlkE a g.l.length k → w.heap.size ≤ k

set_option maxRecDepth 100000 in
set_option maxHeartbeats 4000000 in
theorem sdo_valid (id fi te ht hv hc : Int) (l : List EntryC) (a : Option Addr) (cap : Nat) (pk : Int) (pa : Option Addr) (plen pcap : Nat) (pht phv phc pi pt : Int) (pm ph : Bool) (pl : List EntryC) (w : World) (hg : HasG w a ⟨id, fi, te, ht, hv, hc, l⟩) (hgc : l.length ≤ cap) (hp : HasE w ⟨id, pk, pa, plen, pcap, pht, phv, phc, pi, pt, pm, ph⟩ pl) (hpc : pl.length ≤ pcap) (h30 : l.length ≤ 100000) (hI : isSp ⟨id, fi, te, ht, hv, hc, l⟩ = true) (hBB : isB ⟨id, pk, pa, plen, pcap, pht, phv, phc, pi, pt, pm, ph⟩ pl = true) : Calls Try.prog 71 #[.agg #[.int .i64 id, .int .i64 fi, .int .i64 te, .int .i64 ht, .int .i64 hv, .int .i64 hc, .slice a l.length cap], .agg #[.int .i64 id, .int .i64 pk, .slice pa plen pcap, .int .i64 pht, .int .i64 phv, .int .i64 phc, .int .i64 pi, .int .i64 pt, .bool pm, .bool ph]] w (SDoP w (doSp ⟨id, fi, te, ht, hv, hc, l⟩ ⟨id, pk, pa, plen, pcap, pht, phv, phc, pi, pt, pm, ph⟩ pl)) := by
  have GI := Lib.hid (fun W (hB : Below w.heap.size w W) => (show Gives Try.prog 90 #[.agg #[.int .i64 id, .int .i64 fi, .int .i64 te, .int .i64 ht, .int .i64 hv, .int .i64 hc, .slice a l.length cap]] W (.bool true) from by have := sprIs_any id fi te ht hv hc l a cap W (hg.below hB); rwa [hI] at this))
  have GP := Lib.hid (fun W (hB : Below w.heap.size w W) => (show Gives Try.prog 44 #[.agg #[.int .i64 id, .int .i64 pk, .slice pa plen pcap, .int .i64 pht, .int .i64 phv, .int .i64 phc, .int .i64 pi, .int .i64 pt, .bool pm, .bool ph]] W (.bool true) from by have := is_any ⟨id, pk, pa, plen, pcap, pht, phv, phc, pi, pt, pm, ph⟩ pl W (hp.below hB); rwa [hBB] at this))
  have HS := Lib.hid (DoW.start w #[.int .i64 id, .int .i64 fi, .int .i64 te, .int .i64 ht, .int .i64 hv, .int .i64 hc, .slice a l.length cap] #[.int .i64 id, .int .i64 pk, .slice pa plen pcap, .int .i64 pht, .int .i64 phv, .int .i64 phc, .int .i64 pi, .int .i64 pt, .bool pm, .bool ph])
  have HG := Lib.hid hg
  have HP := Lib.hid hp
  have HI := Lib.hid hI
  have HBB := Lib.hid hBB
  have hm := hg.1
  dsimp only at hm
  clear hg hp hI hBB
  refine (callsIn_wide (n := 9)).1 ?_
  refine callsIn_of_wp_marks Try.func71 rfl trivial ?_ rfl
  simp only [Try.ntmps71, List.size_toArray, List.length_cons, List.length_nil, Nat.reduceAdd, Nat.reduceSub, Array.replicate_succ, Array.replicate_zero, List.push_toArray, List.append_toArray, List.nil_append, List.cons_append]
  refine wpIn_wide.2 ?_
  go_upto_if 22 with (first
    | (go_at_call 90; ((with_reducible refine (GI.out _ HS.out.bel).mono ?_); rintro e w1 ⟨rfl, hB1⟩; have hD1 := HS.out.after hB1; obtain ⟨g0, g1, g2, g3, g4, g5, g6, fg⟩ := cells7 hD1.gb; obtain ⟨p1, p2, p3, p4, p5, p6, p7⟩ := cells10 hD1.pb; have p0 := cell_of_row _ _ 0 _ _ _ hD1.pb; have p8 := cell_of_row _ _ 8 _ _ _ hD1.pb; have p9 := cell_of_row _ _ 9 _ _ _ hD1.pb))
    | (go_at_call 44; ((with_reducible refine (GP.out _ hD1.bel).mono ?_); rintro e w2 ⟨rfl, hB2⟩; have hD2 := hD1.after hB2; clear g0 g1 g2 g3 g4 g5 g6 fg p0 p1 p2 p3 p4 p5 p6 p7 p8 p9; obtain ⟨g0, g1, g2, g3, g4, g5, g6, fg⟩ := cells7 hD2.gb; obtain ⟨p1, p2, p3, p4, p5, p6, p7⟩ := cells10 hD2.pb; have p0 := cell_of_row _ _ 0 _ _ _ hD2.pb; have p8 := cell_of_row _ _ 8 _ _ _ hD2.pb; have p9 := cell_of_row _ _ 9 _ _ _ hD2.pb)))
  go_cut [5, 6] from 23 to 73 (fun s5 s6 wx => SprMid w a l.length cap id #[.int .i64 id, .int .i64 pk, .slice pa plen pcap, .int .i64 pht, .int .i64 phv, .int .i64 phc, .int .i64 pi, .int .i64 pt, .bool pm, .bool ph] (doSp ⟨id, fi, te, ht, hv, hc, l⟩ ⟨id, pk, pa, plen, pcap, pht, phv, phc, pi, pt, pm, ph⟩ pl) s5 s6 wx)
  case first =>
    have hB9 := HBB.out
    have hg9 := HG.out
    have hp9 := HP.out
    have hgr := hg9.2
    have hplen := hp9.1
    have hprow := hp9.2.2
    dsimp only at hplen hprow hgr
    have h6 : pl.length ≤ 6 := by have := (isB_bounds hplen hB9).2.2.2.1; dsimp only at this; omega
    have hsp := (isSp_iff.1 HI.out).2.2
    have hrl := sprB_ris hsp
    have hlK : ∀ k, inBlkE a l.length k → k < w.heap.size := fun k hk => inBlkE_lt hgr hk
    clear hsp
    rcases (isB_iff _ _).1 hB9 with ⟨_, h | h | h | h | h | h⟩
    · obtain rfl : pk = 1 := h.1
      have hne : plen ≠ 0 := h.2.1
      have hris := sprB_ris (are_spr ⟨by decide, by decide⟩ h.2.2.1)
      clear h
      obtain ⟨b, off, rfl, hbw, hx⟩ := hprow.2.2 (by omega)
      have hd0 : w.cell? ⟨b, off, none⟩ = some (.int .i64 (headI pl)) := by
        have := (entry_at hbw (Below.refl w.heap.size w) hx (k := 0) (by omega)).1
        cases pl with
        | nil => simp at hplen; omega
        | cons e r => simpa [headI] using this
      have GB := Lib.hid (fun W (hB : Below w.heap.size w W) => sbelow_g l a cap (headI pl) W hm hgc (hgr.below hB) hrl)
      have HSQ := Lib.hid (fun W (hW : Above w2 W) => And.intro (cells7 (hD2.after hW).gb) (And.intro (cells10 (hD2.after hW).pb) (((hD2.after hW).bel.cell (p := ⟨b, off, none⟩) hbw).trans hd0)))
      have hp0 : (0 : Int) < (plen : Int) := by omega
      have hp1 : 0 < plen := by omega
      obtain ⟨K, hK⟩ : ∃ K, K = (l.take (fnd l (headI pl))) := ⟨_, rfl⟩
      have hfl := fnd_le l (headI pl)
      have hKr : RowV w a K.length 3 (entryCells K) := by rw [hK]; exact rowV_take hgr hm hfl
      have hKl : K.length ≤ l.length := by rw [hK, List.length_take]; omega
      rw [← hK] at GB
      have HK := Lib.hid hK
      have HPR := Lib.hid hprow
      clear hd0 hx hK hfl
      go_wp2
      clear g0 g1 g2 g3 g4 g5 g6 fg p0 p1 p2 p3 p4 p5 p6 p7 p8 p9
      refine wp_region_below (by kernel_rfl) (by kernel_rfl) ?_
      repeat (first
        | (refine BigFrame.wpQuiet_skip (by rfl) ?_; (try simp only [Act.put, List.setIfInBounds_toArray, List.set_cons_zero, List.set_cons_succ]))
        | (refine BigFrame.wpQuiet_want (by rfl) (fun K hK => ?_); apply Exists.intro; refine ⟨fun W hW => ?_, hK _ ?_⟩; (focus (have hWB : Below _ _ W := hW; obtain ⟨⟨g0, g1, g2, g3, g4, g5, g6, -⟩, ⟨p1, p2, p3, p4, p5, p6, p7⟩, d0⟩ := HSQ.out _ hW; go_simp; (first | done | with_reducible rfl | (go_at_call 91; with_reducible exact gives_above hW (GB.out _ (bel2 hD2.bel hWB))) | (rw [if_neg (by omega)]; go_simp; (first | done | with_reducible rfl))))); clear hK K; (try simp only [Act.put, List.setIfInBounds_toArray, List.set_cons_zero, List.set_cons_succ])))
      refine wpQuiet_nil ?_
      intro w3 hB3
      replace hB3 : Below _ _ w3 := hB3
      go_wp2
      go_meet
      exact ⟨fi, te, ht, hv, hc, a, cap, K, some ⟨b, off, none⟩, pcap, pl, rfl, by first | rfl | (rw [hplen]), hD2.after hB3, hKr, fun k hk => inBlkE_lt hKr hk, hKl, by rw [hplen]; exact hprow, hpc, h6, hris, by unfold doSp; rw [if_pos ⟨HI.out, HBB.out, rfl⟩, if_pos rfl]; rw [HK.out]⟩
    · obtain rfl : pk = 2 := h.1
      clear h
      go_wp2
      go_meet
      exact ⟨fi, te, pht, phv, phc, a, cap, l, none, 0, [], rfl, by first | rfl | (rw [hplen]), (by have := (((hD2).set 3 (.int .i64 pht)).set 4 (.int .i64 phv)).set 5 (.int .i64 phc); simpa only [List.setIfInBounds_toArray, List.set_cons_succ, List.set_cons_zero] using this), hgr, hlK, Nat.le_refl _, RowV.nil _ _ _, Nat.le_refl _, by simp, fun j k hj hk => by simp at hk, by unfold doSp; rw [if_pos ⟨HI.out, HBB.out, rfl⟩, if_neg (by simp), if_pos rfl]; rw [addG_nil]; rfl⟩
    · obtain rfl : pk = 3 := h.1
      obtain ⟨hpi1, hpi2⟩ := wB_iff.1 h.2.1
      clear h
      by_cases hno : pi < fi
      · have GC := Lib.hid (fun W (hB : Below w.heap.size w W) => cmp_no id fi te ht hv hc l a cap id 3 pa plen pcap pht phv phc pi pt pm ph W hm hgc (hgr.below hB) hrl hno)
        go_wp2_with (go_at_call 92; ((with_reducible refine (GC.out _ hD2.bel).mono ?_); rintro e w3 ⟨va, vc, rfl, hrK, hvc, hB3, hinK⟩; have hD3 := hD2.after hB3; clear g0 g1 g2 g3 g4 g5 g6 fg p0 p1 p2 p3 p4 p5 p6 p7 p8 p9; obtain ⟨g0, g1, g2, g3, g4, g5, g6, fg⟩ := cells7 hD3.gb; obtain ⟨p1, p2, p3, p4, p5, p6, p7⟩ := cells10 hD3.pb; have p0 := cell_of_row _ _ 0 _ _ _ hD3.pb; have p8 := cell_of_row _ _ 8 _ _ _ hD3.pb; have p9 := cell_of_row _ _ 9 _ _ _ hD3.pb))
        go_meet
        exact ⟨fi, te, ht, hv, hc, va, vc, l, none, 0, [], rfl, by first | rfl | (rw [hplen]), DoW.set7 hD3 (.int .i64 id) (.int .i64 fi) (.int .i64 te) (.int .i64 ht) (.int .i64 hv) (.int .i64 hc) (.slice a l.length cap) ⟨_, _, _, _, _, _, _, rfl⟩, rowV_back hrK hD3.bel (fun k hk => hlK k (hinK k hk)), fun k hk => hlK k (hinK k hk), Nat.le_refl _, RowV.nil _ _ _, Nat.le_refl _, by simp, fun j k hj hk => by simp at hk, by unfold doSp; rw [if_pos ⟨HI.out, HBB.out, rfl⟩, if_neg (by simp), if_neg (by simp), if_pos rfl]; rw [addG_nil]; exact if_pos (show pi < fi by omega)⟩
      · have hyes : fi ≤ pi := by omega
        have GC := Lib.hid (fun W (hB : Below w.heap.size w W) => cmp_yes id fi te ht hv hc l a cap id 3 pa plen pcap pht phv phc pi pt pm ph W hm hgc (hgr.below hB) hrl hyes hpi1 hpi2)
        obtain ⟨L9, hL9⟩ : ∃ L9, L9 = (l.drop (fnd l (pi + 1))) := ⟨_, rfl⟩
        obtain ⟨t9, ht9⟩ : ∃ t9, t9 = (if pt = 0 then entT l pi else pt) := ⟨_, rfl⟩
        have hL9l : L9.length ≤ l.length := by rw [hL9]; simp
        rw [← hL9, ← ht9] at GC
        have HL9 := Lib.hid hL9
        have HT9 := Lib.hid ht9
        clear hL9 ht9
        go_wp2_with (go_at_call 92; ((with_reducible refine (GC.out _ hD2.bel).mono ?_); rintro e w3 ⟨va, vc, rfl, hrK, hvc, hB3, hinK⟩; have hD3 := hD2.after hB3; clear g0 g1 g2 g3 g4 g5 g6 fg p0 p1 p2 p3 p4 p5 p6 p7 p8 p9; obtain ⟨g0, g1, g2, g3, g4, g5, g6, fg⟩ := cells7 hD3.gb; obtain ⟨p1, p2, p3, p4, p5, p6, p7⟩ := cells10 hD3.pb; have p0 := cell_of_row _ _ 0 _ _ _ hD3.pb; have p8 := cell_of_row _ _ 8 _ _ _ hD3.pb; have p9 := cell_of_row _ _ 9 _ _ _ hD3.pb))
        go_meet
        exact ⟨(pi + 1), t9, ht, hv, hc, va, vc, L9, none, 0, [], rfl, by first | rfl | (rw [hplen]), DoW.set7 hD3 (.int .i64 id) (.int .i64 (pi + 1)) (.int .i64 t9) (.int .i64 ht) (.int .i64 hv) (.int .i64 hc) (.slice a l.length cap) ⟨_, _, _, _, _, _, _, rfl⟩, rowV_back hrK hD3.bel (fun k hk => hlK k (hinK k hk)), fun k hk => hlK k (hinK k hk), hL9l, RowV.nil _ _ _, Nat.le_refl _, by simp, fun j k hj hk => by simp at hk, by unfold doSp; rw [if_pos ⟨HI.out, HBB.out, rfl⟩, if_neg (by simp), if_neg (by simp), if_pos rfl]; rw [addG_nil, HL9.out, HT9.out]; exact if_neg (show ¬ (pi < fi) by omega)⟩
    · obtain rfl : pk = 4 := h.1
      obtain ⟨hpi1, hpi2⟩ := wB_iff.1 h.2.1
      clear h
      by_cases hno : pi < fi
      · have GC := Lib.hid (fun W (hB : Below w.heap.size w W) => snp_no id fi te ht hv hc l a cap id 4 pa plen pcap pht phv phc pi pt pm ph W hm hgc (hgr.below hB) hrl hno)
        go_wp2_with (go_at_call 93; ((with_reducible refine (GC.out _ hD2.bel).mono ?_); rintro e w3 ⟨va, vc, rfl, hrK, hvc, hB3, hinK⟩; have hD3 := hD2.after hB3; clear g0 g1 g2 g3 g4 g5 g6 fg p0 p1 p2 p3 p4 p5 p6 p7 p8 p9; obtain ⟨g0, g1, g2, g3, g4, g5, g6, fg⟩ := cells7 hD3.gb; obtain ⟨p1, p2, p3, p4, p5, p6, p7⟩ := cells10 hD3.pb; have p0 := cell_of_row _ _ 0 _ _ _ hD3.pb; have p8 := cell_of_row _ _ 8 _ _ _ hD3.pb; have p9 := cell_of_row _ _ 9 _ _ _ hD3.pb))
        go_meet
        exact ⟨fi, te, ht, hv, hc, va, vc, l, none, 0, [], rfl, by first | rfl | (rw [hplen]), DoW.set7 hD3 (.int .i64 id) (.int .i64 fi) (.int .i64 te) (.int .i64 ht) (.int .i64 hv) (.int .i64 hc) (.slice a l.length cap) ⟨_, _, _, _, _, _, _, rfl⟩, rowV_back hrK hD3.bel (fun k hk => hlK k (hinK k hk)), fun k hk => hlK k (hinK k hk), Nat.le_refl _, RowV.nil _ _ _, Nat.le_refl _, by simp, fun j k hj hk => by simp at hk, by unfold doSp; rw [if_pos ⟨HI.out, HBB.out, rfl⟩, if_neg (by simp), if_neg (by simp), if_neg (by simp), if_pos rfl]; rw [addG_nil]; exact if_pos (show pi < fi by omega)⟩
      · have hyes : fi ≤ pi := by omega
        have GC := Lib.hid (fun W (hB : Below w.heap.size w W) => snp_yes id fi te ht hv hc l a cap id 4 pa plen pcap pht phv phc pi pt pm ph W hm hgc (hgr.below hB) hrl hyes hpi1 hpi2)
        go_wp2_with (go_at_call 93; ((with_reducible refine (GC.out _ hD2.bel).mono ?_); rintro e w3 ⟨va, vc, rfl, hrK, hvc, hB3, hinK⟩; have hD3 := hD2.after hB3; clear g0 g1 g2 g3 g4 g5 g6 fg p0 p1 p2 p3 p4 p5 p6 p7 p8 p9; obtain ⟨g0, g1, g2, g3, g4, g5, g6, fg⟩ := cells7 hD3.gb; obtain ⟨p1, p2, p3, p4, p5, p6, p7⟩ := cells10 hD3.pb; have p0 := cell_of_row _ _ 0 _ _ _ hD3.pb; have p8 := cell_of_row _ _ 8 _ _ _ hD3.pb; have p9 := cell_of_row _ _ 9 _ _ _ hD3.pb))
        go_meet
        exact ⟨(pi + 1), pt, ht, hv, hc, va, vc, ([] : List EntryC), none, 0, [], rfl, by first | rfl | (rw [hplen]), DoW.set7 hD3 (.int .i64 id) (.int .i64 (pi + 1)) (.int .i64 pt) (.int .i64 ht) (.int .i64 hv) (.int .i64 hc) (.slice a l.length cap) ⟨_, _, _, _, _, _, _, rfl⟩, rowV_back hrK hD3.bel (fun k hk => hlK k (hinK k hk)), fun k hk => hlK k (hinK k hk), Nat.zero_le _, RowV.nil _ _ _, Nat.le_refl _, by simp, fun j k hj hk => by simp at hk, by unfold doSp; rw [if_pos ⟨HI.out, HBB.out, rfl⟩, if_neg (by simp), if_neg (by simp), if_neg (by simp), if_pos rfl]; rw [addG_nil]; exact if_neg (show ¬ (pi < fi) by omega)⟩
    · obtain rfl : pk = 5 := h.1
      clear h
      go_wp2
      go_meet
      exact ⟨fi, te, ht, hv, hc, a, cap, l, none, 0, [], rfl, by first | rfl | (rw [hplen]), hD2, hgr, hlK, Nat.le_refl _, RowV.nil _ _ _, Nat.le_refl _, by simp, fun j k hj hk => by simp at hk, by unfold doSp; rw [if_pos ⟨HI.out, HBB.out, rfl⟩, if_neg (by simp), if_neg (by simp), if_neg (by simp), if_neg (by simp), if_neg (by simp)]; rw [addG_nil]⟩
    · obtain rfl : pk = 6 := h.1
      have hfw := h.2.1
      clear h
      unfold isFwdB at hfw
      simp only [Bool.and_eq_true] at hfw
      obtain ⟨-, hmk, -, hare⟩ := hfw
      have hris := sprB_ris (are_spr ⟨by decide, by decide⟩ hare)
      cases pm
      · cases ph
        · go_wp2
          go_meet
          exact ⟨fi, te, ht, hv, hc, a, cap, l, pa, pcap, pl, rfl, by first | rfl | (rw [hplen]), hD2, hgr, hlK, Nat.le_refl _, by rw [hplen]; exact hprow, hpc, h6, hris, by unfold doSp; rw [if_pos ⟨HI.out, HBB.out, rfl⟩, if_neg (by simp), if_neg (by simp), if_neg (by simp), if_neg (by simp), if_pos rfl]; (simp only [reduceIte, Bool.false_eq_true, eq_self]) <;> (try rfl)⟩
        · go_wp2
          go_meet
          exact ⟨fi, te, pht, phv, phc, a, cap, l, pa, pcap, pl, rfl, by first | rfl | (rw [hplen]), (by have := (((hD2).set 3 (.int .i64 pht)).set 4 (.int .i64 phv)).set 5 (.int .i64 phc); simpa only [List.setIfInBounds_toArray, List.set_cons_succ, List.set_cons_zero] using this), hgr, hlK, Nat.le_refl _, by rw [hplen]; exact hprow, hpc, h6, hris, by unfold doSp; rw [if_pos ⟨HI.out, HBB.out, rfl⟩, if_neg (by simp), if_neg (by simp), if_neg (by simp), if_neg (by simp), if_pos rfl]; (simp only [reduceIte, Bool.false_eq_true, eq_self]) <;> (try rfl)⟩
      · have hmk2 : wB pi 1 1099511627776 = true := by simp at hmk; exact hmk.1
        obtain ⟨hpi1, hpi2⟩ := wB_iff.1 hmk2
        by_cases hno : pi < fi
        · cases ph
          · have GC := Lib.hid (fun W (hB : Below w.heap.size w W) => cmp_no id fi te ht hv hc l a cap id 6 pa plen pcap pht phv phc pi pt true false W hm hgc (hgr.below hB) hrl hno)
            go_wp2_with (go_at_call 92; ((with_reducible refine (GC.out _ hD2.bel).mono ?_); rintro e w3 ⟨va, vc, rfl, hrK, hvc, hB3, hinK⟩; have hD3 := hD2.after hB3; clear g0 g1 g2 g3 g4 g5 g6 fg p0 p1 p2 p3 p4 p5 p6 p7 p8 p9; obtain ⟨g0, g1, g2, g3, g4, g5, g6, fg⟩ := cells7 hD3.gb; obtain ⟨p1, p2, p3, p4, p5, p6, p7⟩ := cells10 hD3.pb; have p0 := cell_of_row _ _ 0 _ _ _ hD3.pb; have p8 := cell_of_row _ _ 8 _ _ _ hD3.pb; have p9 := cell_of_row _ _ 9 _ _ _ hD3.pb))
            go_meet
            exact ⟨fi, te, ht, hv, hc, va, vc, l, pa, pcap, pl, rfl, by first | rfl | (rw [hplen]), (DoW.set7 hD3 (.int .i64 id) (.int .i64 fi) (.int .i64 te) (.int .i64 ht) (.int .i64 hv) (.int .i64 hc) (.slice a l.length cap) ⟨_, _, _, _, _, _, _, rfl⟩), rowV_back hrK hD3.bel (fun k hk => hlK k (hinK k hk)), fun k hk => hlK k (hinK k hk), Nat.le_refl _, by rw [hplen]; exact hprow, hpc, h6, hris, by unfold doSp; rw [if_pos ⟨HI.out, HBB.out, rfl⟩, if_neg (by simp), if_neg (by simp), if_neg (by simp), if_neg (by simp), if_pos rfl]; have hc9 : cmpG ⟨id, fi, te, ht, hv, hc, l⟩ ⟨id, 6, pa, plen, pcap, pht, phv, phc, pi, pt, true, false⟩ = ⟨id, fi, te, ht, hv, hc, l⟩ := (by exact if_pos (show pi < fi by omega)); (simp only [reduceIte, Bool.false_eq_true, eq_self, hc9]) <;> (try rfl)⟩
          · have GC := Lib.hid (fun W (hB : Below w.heap.size w W) => cmp_no id fi te ht hv hc l a cap id 6 pa plen pcap pht phv phc pi pt true true W hm hgc (hgr.below hB) hrl hno)
            go_wp2_with (go_at_call 92; ((with_reducible refine (GC.out _ hD2.bel).mono ?_); rintro e w3 ⟨va, vc, rfl, hrK, hvc, hB3, hinK⟩; have hD3 := hD2.after hB3; clear g0 g1 g2 g3 g4 g5 g6 fg p0 p1 p2 p3 p4 p5 p6 p7 p8 p9; obtain ⟨g0, g1, g2, g3, g4, g5, g6, fg⟩ := cells7 hD3.gb; obtain ⟨p1, p2, p3, p4, p5, p6, p7⟩ := cells10 hD3.pb; have p0 := cell_of_row _ _ 0 _ _ _ hD3.pb; have p8 := cell_of_row _ _ 8 _ _ _ hD3.pb; have p9 := cell_of_row _ _ 9 _ _ _ hD3.pb))
            go_meet
            exact ⟨fi, te, pht, phv, phc, va, vc, l, pa, pcap, pl, rfl, by first | rfl | (rw [hplen]), (by have := ((((DoW.set7 hD3 (.int .i64 id) (.int .i64 fi) (.int .i64 te) (.int .i64 ht) (.int .i64 hv) (.int .i64 hc) (.slice a l.length cap) ⟨_, _, _, _, _, _, _, rfl⟩)).set 3 (.int .i64 pht)).set 4 (.int .i64 phv)).set 5 (.int .i64 phc); simpa only [List.setIfInBounds_toArray, List.set_cons_succ, List.set_cons_zero] using this), rowV_back hrK hD3.bel (fun k hk => hlK k (hinK k hk)), fun k hk => hlK k (hinK k hk), Nat.le_refl _, by rw [hplen]; exact hprow, hpc, h6, hris, by unfold doSp; rw [if_pos ⟨HI.out, HBB.out, rfl⟩, if_neg (by simp), if_neg (by simp), if_neg (by simp), if_neg (by simp), if_pos rfl]; have hc9 : cmpG ⟨id, fi, te, ht, hv, hc, l⟩ ⟨id, 6, pa, plen, pcap, pht, phv, phc, pi, pt, true, true⟩ = ⟨id, fi, te, ht, hv, hc, l⟩ := (by exact if_pos (show pi < fi by omega)); (simp only [reduceIte, eq_self, hc9]) <;> (try rfl)⟩
        · cases ph
          · have hyes : fi ≤ pi := by omega
            have GC := Lib.hid (fun W (hB : Below w.heap.size w W) => cmp_yes id fi te ht hv hc l a cap id 6 pa plen pcap pht phv phc pi pt true false W hm hgc (hgr.below hB) hrl hyes hpi1 hpi2)
            obtain ⟨L9, hL9⟩ : ∃ L9, L9 = (l.drop (fnd l (pi + 1))) := ⟨_, rfl⟩
            obtain ⟨t9, ht9⟩ : ∃ t9, t9 = (if pt = 0 then entT l pi else pt) := ⟨_, rfl⟩
            have hL9l : L9.length ≤ l.length := by rw [hL9]; simp
            rw [← hL9, ← ht9] at GC
            have HL9 := Lib.hid hL9
            have HT9 := Lib.hid ht9
            clear hL9 ht9
            go_wp2_with (go_at_call 92; ((with_reducible refine (GC.out _ hD2.bel).mono ?_); rintro e w3 ⟨va, vc, rfl, hrK, hvc, hB3, hinK⟩; have hD3 := hD2.after hB3; clear g0 g1 g2 g3 g4 g5 g6 fg p0 p1 p2 p3 p4 p5 p6 p7 p8 p9; obtain ⟨g0, g1, g2, g3, g4, g5, g6, fg⟩ := cells7 hD3.gb; obtain ⟨p1, p2, p3, p4, p5, p6, p7⟩ := cells10 hD3.pb; have p0 := cell_of_row _ _ 0 _ _ _ hD3.pb; have p8 := cell_of_row _ _ 8 _ _ _ hD3.pb; have p9 := cell_of_row _ _ 9 _ _ _ hD3.pb))
            go_meet
            exact ⟨(pi + 1), t9, ht, hv, hc, va, vc, L9, pa, pcap, pl, rfl, by first | rfl | (rw [hplen]), (DoW.set7 hD3 (.int .i64 id) (.int .i64 (pi + 1)) (.int .i64 t9) (.int .i64 ht) (.int .i64 hv) (.int .i64 hc) (.slice a l.length cap) ⟨_, _, _, _, _, _, _, rfl⟩), rowV_back hrK hD3.bel (fun k hk => hlK k (hinK k hk)), fun k hk => hlK k (hinK k hk), hL9l, by rw [hplen]; exact hprow, hpc, h6, hris, by unfold doSp; rw [if_pos ⟨HI.out, HBB.out, rfl⟩, if_neg (by simp), if_neg (by simp), if_neg (by simp), if_neg (by simp), if_pos rfl]; have hc9 : cmpG ⟨id, fi, te, ht, hv, hc, l⟩ ⟨id, 6, pa, plen, pcap, pht, phv, phc, pi, pt, true, false⟩ = ⟨id, (pi + 1), t9, ht, hv, hc, L9⟩ := (by rw [HL9.out, HT9.out]; exact if_neg (show ¬ (pi < fi) by omega)); (simp only [reduceIte, Bool.false_eq_true, eq_self, hc9]) <;> (try rfl)⟩
          · have hyes : fi ≤ pi := by omega
            have GC := Lib.hid (fun W (hB : Below w.heap.size w W) => cmp_yes id fi te ht hv hc l a cap id 6 pa plen pcap pht phv phc pi pt true true W hm hgc (hgr.below hB) hrl hyes hpi1 hpi2)
            obtain ⟨L9, hL9⟩ : ∃ L9, L9 = (l.drop (fnd l (pi + 1))) := ⟨_, rfl⟩
            obtain ⟨t9, ht9⟩ : ∃ t9, t9 = (if pt = 0 then entT l pi else pt) := ⟨_, rfl⟩
            have hL9l : L9.length ≤ l.length := by rw [hL9]; simp
            rw [← hL9, ← ht9] at GC
            have HL9 := Lib.hid hL9
            have HT9 := Lib.hid ht9
            clear hL9 ht9
            go_wp2_with (go_at_call 92; ((with_reducible refine (GC.out _ hD2.bel).mono ?_); rintro e w3 ⟨va, vc, rfl, hrK, hvc, hB3, hinK⟩; have hD3 := hD2.after hB3; clear g0 g1 g2 g3 g4 g5 g6 fg p0 p1 p2 p3 p4 p5 p6 p7 p8 p9; obtain ⟨g0, g1, g2, g3, g4, g5, g6, fg⟩ := cells7 hD3.gb; obtain ⟨p1, p2, p3, p4, p5, p6, p7⟩ := cells10 hD3.pb; have p0 := cell_of_row _ _ 0 _ _ _ hD3.pb; have p8 := cell_of_row _ _ 8 _ _ _ hD3.pb; have p9 := cell_of_row _ _ 9 _ _ _ hD3.pb))
            go_meet
            exact ⟨(pi + 1), t9, pht, phv, phc, va, vc, L9, pa, pcap, pl, rfl, by first | rfl | (rw [hplen]), (by have := ((((DoW.set7 hD3 (.int .i64 id) (.int .i64 (pi + 1)) (.int .i64 t9) (.int .i64 ht) (.int .i64 hv) (.int .i64 hc) (.slice a l.length cap) ⟨_, _, _, _, _, _, _, rfl⟩)).set 3 (.int .i64 pht)).set 4 (.int .i64 phv)).set 5 (.int .i64 phc); simpa only [List.setIfInBounds_toArray, List.set_cons_succ, List.set_cons_zero] using this), rowV_back hrK hD3.bel (fun k hk => hlK k (hinK k hk)), fun k hk => hlK k (hinK k hk), hL9l, by rw [hplen]; exact hprow, hpc, h6, hris, by unfold doSp; rw [if_pos ⟨HI.out, HBB.out, rfl⟩, if_neg (by simp), if_neg (by simp), if_neg (by simp), if_neg (by simp), if_pos rfl]; have hc9 : cmpG ⟨id, fi, te, ht, hv, hc, l⟩ ⟨id, 6, pa, plen, pcap, pht, phv, phc, pi, pt, true, true⟩ = ⟨id, (pi + 1), t9, ht, hv, hc, L9⟩ := (by rw [HL9.out, HT9.out]; exact if_neg (show ¬ (pi < fi) by omega)); (simp only [reduceIte, eq_self, hc9]) <;> (try rfl)⟩
  case rest =>
    clear g0 g1 g2 g3 g4 g5 g6 fg p0 p1 p2 p3 p4 p5 p6 p7 p8 p9 hD1 hD2 hB1 hB2
    obtain ⟨fi1, te1, ht1, hv1, hc1, ka, kc, K, ma, mc, M, rfl, rfl, hD, hK, hKlt, hKl, hM, hMc, hM6, hMr, hdo⟩ := hcut
    have HDO := Lib.hid hdo
    clear hdo
    have hMlt : ∀ k, inBlkE ma M.length k → k < w.heap.size := fun k hk => inBlkE_lt hM hk
    have GF := Lib.hid (fun W (hB : Below w.heap.size w W) => sfrom_any M ma mc fi1 W (by omega) hMc (hM.below hB) hMr)
    obtain ⟨FL, hFL⟩ : ∃ FL, FL = M.drop (fnd M fi1) := ⟨_, rfl⟩
    have hFl : FL.length ≤ M.length := by rw [hFL, List.length_drop]; omega
    rw [← hFL] at GF
    have HFL := Lib.hid hFL
    clear hFL
    obtain ⟨i0, hi9, hz0, hz1, hz2⟩ := info_parts infoEntry
    obtain ⟨g0, g1, g2, g3, g4, g5, g6, fg⟩ := cells7 hD.gb
    have hlt := hD.lt
    have hw0 : w.heap.size ≤ wc.heap.size := by omega
    refine (by assumption : ∀ (a : Act) (w : World), Code.wp _ _ _ a w → (_ : Prop)) _ _ ?_
    refine (wpIn_wide (n := 9)).1 ?_
    gi_wp2_with (first
      | (gi_at_make; (refine wpListIn_make_own _ rfl _ _ 37 rfl wc.heap.size 115 i0 (.agg #[.int .i64 0, .int .i64 0, .string ⟨#[]⟩]) 3 Try.underlying37 hi9 hz0 hz1 .i64 .i64 ((K.length : Int) + (M.length : Int)) (K.length + M.length) rfl rfl (by push_cast; rfl) (by rw [hz2]; omega) (by unfold maxLen; omega) (Nat.le_refl _) ?_; intro w4 hown4 hgrow4; have hD4 := hD.grown hgrow4 (fun k e => by cases e); have hlt4 : wc.heap.size < w4.heap.size := (by rcases hown4.2 with ⟨hv, _⟩ | ⟨g, _, _, hv, _, hgg, _⟩; (cases hv); (cases hv; exact heap_lt hgg)); have hD5 := hD4.set 6 (.slice (some ⟨wc.heap.size, 0, none⟩) 0 (K.length + M.length)); simp only [List.setIfInBounds_toArray, List.set_cons_succ, List.set_cons_zero] at hD5; have hown5 := own_frame hown4 (FrameT.setCell w4 w.heap.size 6 (.slice (some ⟨wc.heap.size, 0, none⟩) 0 (K.length + M.length))) (fun k hk h => by omega); clear g0 g1 g2 g3 g4 g5 g6 fg; obtain ⟨g0, g1, g2, g3, g4, g5, g6, fg⟩ := cells7 hD4.gb))
      | (gi_at_call 95; ((with_reducible refine (callsIn_wide.2 (GF.out _ hD5.bel)).mono ?_); rintro e w6 ⟨va, vc, rfl, hrF, hvc, hB6, hinF⟩; have hD6 := hD5.after hB6; have hown6 := ownsRow_below (n := 0) hown5 hB6))
      | (gi_at_call 94; (refine (callsIn_wide.2 (mrg_makes ka va kc vc K FL (by omega) (by omega) hvc (fun k => k = w.heap.size ∨ k = wc.heap.size) w6 (fun k hk => by have h1 := hD6.lt; have h2 := hB6.size; have h3 : wc.heap.size < w4.heap.size := hlt4; simp at h2; rcases hk with rfl | rfl <;> omega) (fun k hk h => by have h1 := hKlt k hk; rcases h with rfl | rfl <;> omega) (fun k hk h => by have h1 := hMlt k (hinF k hk); rcases h with rfl | rfl <;> omega) (hK.below hD6.bel) hrF)).mono ?_; rintro e w7 ⟨lb, rfl, hB7, hI7⟩; have hD7 := hD6.after hB7; have hown7 := ownsRow_below (n := 0) hown6 hB7)))
    obtain ⟨X, hX⟩ : ∃ X, X = mrg K FL := ⟨_, rfl⟩
    have hXl : X.length ≤ K.length + M.length := by rw [hX]; exact Nat.le_trans (mrg_len _ _) (by omega)
    rw [← hX] at hI7
    have HX := Lib.hid hX
    clear hX
    have hs7 : wc.heap.size + 1 ≤ w7.heap.size := by have h1 := hB6.size; have h2 := hB7.size; simp at h1; omega
    have hw7 : w.heap.size ≤ w7.heap.size := hD7.bel.size
    refine range_outerU rfl (enters_of Try.func114 (by kernel_rfl) rfl) hI7 (fun _ => rfl)
      (fun pre W => sJ w #[.int .i64 id, .int .i64 pk, .slice pa plen pcap, .int .i64 pht, .int .i64 phv, .int .i64 phc, .int .i64 pi, .int .i64 pt, .bool pm, .bool ph] id fi1 te1 ht1 hv1 hc1 wc.heap.size (K.length + M.length) pre.length (entryCells pre) w7.heap.size W) (fun _ _ _ => False) (fun _ => sJ_stab hw7) (fun _ _ => Stab.pure _) ⟨hD7, hown7, Nat.le_refl _⟩ ?hr ?hd (fun _ _ _ _ _ _ h => h.elim)
    case hr =>
      rintro L0 pre x suf W hx hl' hi1 hrec
      dsimp only [EntryC.enc, EntryC.val]
      have hpl9 : pre.length < X.length := by have h1 := congrArg List.length hx; simp at h1; omega
      gi_wp2
      refine rdThen_mk (fun W' => sJ w #[.int .i64 id, .int .i64 pk, .slice pa plen pcap, .int .i64 pht, .int .i64 phv, .int .i64 phc, .int .i64 pi, .int .i64 pt, .bool pm, .bool ph] id fi1 te1 ht1 hv1 hc1 wc.heap.size (K.length + M.length) pre.length (entryCells pre) w7.heap.size W' ∧ W'.heap[W.heap.size]? = some (.cells #[.int .i64 x.i, .int .i64 x.t, .string x.d] 115 (0, 0)))
        ((sJ_stab hw7).and (Stab.block (fun h => h) (.inr rfl))) ⟨sJ_stab hw7 _ _ hi1 (Moves.alloc _ _), World.alloc_heap_new W _⟩ ((Rd.refl _ _ _).alloc _) ?_
      clear hi1 hrec
      obtain ⟨Xb, hXb⟩ : ∃ Xb, Xb = W.heap.size := ⟨_, rfl⟩
      rw [← hXb]
      clear hXb W
      rintro W ⟨hJ, hblk⟩ hrec
      have hrow := hJ.2.1
      have HJ := Lib.hid hJ
      clear g0 g1 g2 g3 g4 g5 g6 fg
      obtain ⟨g0, g1, g2, g3, g4, g5, g6, fg⟩ := cells7 hJ.1.gb
      have d0 : W.cell? ⟨Xb, 0, none⟩ = some (.int .i64 x.i) := cell_of_row W Xb 0 _ _ _ hblk
      have d1 : W.cell? ⟨Xb, 1, none⟩ = some (.int .i64 x.t) := cell_of_row W Xb 1 _ _ _ hblk
      have d2 : W.cell? ⟨Xb, 2, none⟩ = some (.string x.d) := cell_of_row W Xb 2 _ _ _ hblk
      clear hJ hblk hD7 hD6 hD5 hD4 hown7 hown6 hown5 hown4 hI7
      gi_wp2_with (gi_at_builtin; refine wpListIn_append_fits _ rfl _ _ 37 rfl wc.heap.size 115 i0 3 Try.underlying37 hi9 hz1 wc.heap.size pre.length (K.length + M.length) (entryCells pre) rfl (hrow.alloc _) ⟨W.heap.size, 0, none⟩ 1 1 x.cells rfl rfl (news_new _ _ _) (by simp [Value.oneCell', EntryC.cells]) (by omega) ?_; intro w9 hown9 hgrow9; obtain ⟨hD9, hR9, hJ9⟩ := sJ_append (B := w7.heap.size) (S := fun k => ¬ (k = w.heap.size ∨ k = wc.heap.size) ∧ k ≠ L0) HJ.out hlt (fun h => h.1 (.inr rfl)) (fun h => h.1 (.inl rfl)) hown9 hgrow9; clear g0 g1 g2 g3 g4 g5 g6 fg; obtain ⟨g0, g1, g2, g3, g4, g5, g6, fg⟩ := cells7 hD9.gb)
      refine ⟨hR9, ?_⟩
      dsimp only
      rw [List.length_append, entryCells_snoc]
      exact hJ9
    case hd =>
      rintro W ⟨hDo, hrow, hs⟩ hDef
      clear g0 g1 g2 g3 g4 g5 g6 fg
      obtain ⟨g0, g1, g2, g3, g4, g5, g6, fg⟩ := cells7 hDo.gb
      obtain ⟨r0, r1, r2, r3, r4, r5, r6, fr⟩ := cells7 hDo.rb
      have HG9 := Lib.hid (show doSp ⟨id, fi, te, ht, hv, hc, l⟩ ⟨id, pk, pa, plen, pcap, pht, phv, phc, pi, pt, pm, ph⟩ pl = ⟨id, fi1, te1, ht1, hv1, hc1, X⟩ by rw [HDO.out]; unfold addG; dsimp only; rw [← HFL.out, ← HX.out])
      have hb7 := st7_block hDo.rb (.int .i64 id) (.int .i64 fi1) (.int .i64 te1) (.int .i64 ht1) (.int .i64 hv1) (.int .i64 hc1) (.slice (some ⟨wc.heap.size, 0, none⟩) X.length (K.length + M.length))
      have hF8 := st7_frame W (w.heap.size + 1 + 1) (.int .i64 id) (.int .i64 fi1) (.int .i64 te1) (.int .i64 ht1) (.int .i64 hv1) (.int .i64 hc1) (.slice (some ⟨wc.heap.size, 0, none⟩) X.length (K.length + M.length))
      have hown2 := own_frame hrow hF8 (fun k hk h => by omega)
      have hbel := hDo.bel.trans (hF8.toBelow hDo.bel.size (fun k h => by omega))
      have hDz := hF8.get hDef (by show ¬ (w7.heap.size = w.heap.size + 1 + 1); omega)
      clear hD7 hD6 hD5 hD4 hown7 hown6 hown5 hown4 hI7
      gi_wp2
      clear g0 g1 g2 g3 g4 g5 g6 fg r0 r1 r2 r3 r4 r5 r6 fr
      obtain ⟨e0, e1, e2, e3, e4, e5, e6, -⟩ := cells7 hb7
      replace e0 := cell_putObj (o' := .deferred none) e0 hDz rfl
      replace e1 := cell_putObj (o' := .deferred none) e1 hDz rfl
      replace e2 := cell_putObj (o' := .deferred none) e2 hDz rfl
      replace e3 := cell_putObj (o' := .deferred none) e3 hDz rfl
      replace e4 := cell_putObj (o' := .deferred none) e4 hDz rfl
      replace e5 := cell_putObj (o' := .deferred none) e5 hDz rfl
      replace e6 := cell_putObj (o' := .deferred none) e6 hDz rfl
      refine leave_one hDz (v := .agg #[.int .i64 id, .int .i64 fi1, .int .i64 te1, .int .i64 ht1, .int .i64 hv1, .int .i64 hc1, .slice (some ⟨wc.heap.size, 0, none⟩) X.length (K.length + M.length)]) (by simp [results, Try.results71, go_sem, e0, e1, e2, e3, e4, e5, e6]) ?_
      have hm9 : Moves w7.heap.size (fun _ => False) _ _ := Moves.putObj _ (.deferred none) (Nat.le_refl _) hDz rfl
      obtain ⟨va', vc', hx, -, hrv⟩ := rowV_own (Stab.ownsRow (B := w7.heap.size) (T := fun _ => False) (fun _ h => h.elim) _ _ hown2 hm9)
      cases hx
      rw [HG9.out]
      exact ⟨some ⟨wc.heap.size, 0, none⟩, K.length + M.length, rfl, ⟨by show X.length < 1000000; omega, hrv⟩, hXl, below_putObj hbel (Nat.le_refl _) hw7 _, fun k hk => by obtain ⟨_, _, e9, _, rfl⟩ := hk; cases e9; omega⟩

end Go.Proofs.Ytdncdlbhgaehmaa

/- sparse.Do where nothing is to be done; and at whatever group and part. -/
namespace Go.Proofs.Ytdncdlbhgaehmaa
open Go.RowKit Go.Shelf
set_option linter.unusedVariables false
attribute [local go_sem] Oper.semAt_some wide_fn wide_round_fn

set_option maxRecDepth 100000 in
set_option maxHeartbeats 4000000 in
theorem sdo_badA (id fi te ht hv hc : Int) (l : List EntryC) (a : Option Addr) (cap : Nat) (pg pk : Int) (pa : Option Addr) (plen pcap : Nat) (pht phv phc pi pt : Int) (pm ph : Bool) (pl : List EntryC) (w : World) (hg : HasG w a ⟨id, fi, te, ht, hv, hc, l⟩) (hgc : l.length ≤ cap) (hp : HasE w ⟨pg, pk, pa, plen, pcap, pht, phv, phc, pi, pt, pm, ph⟩ pl) (h30 : l.length ≤ 100000) (hI : isSp ⟨id, fi, te, ht, hv, hc, l⟩ = false) : Calls Try.prog 71 #[.agg #[.int .i64 id, .int .i64 fi, .int .i64 te, .int .i64 ht, .int .i64 hv, .int .i64 hc, .slice a l.length cap], .agg #[.int .i64 pg, .int .i64 pk, .slice pa plen pcap, .int .i64 pht, .int .i64 phv, .int .i64 phc, .int .i64 pi, .int .i64 pt, .bool pm, .bool ph]] w (SDoP w ⟨id, fi, te, ht, hv, hc, l⟩) := by
  have GI := Lib.hid (fun W (hB : Below w.heap.size w W) => (show Gives Try.prog 90 #[.agg #[.int .i64 id, .int .i64 fi, .int .i64 te, .int .i64 ht, .int .i64 hv, .int .i64 hc, .slice a l.length cap]] W (.bool false) from by have := sprIs_any id fi te ht hv hc l a cap W (hg.below hB); rwa [hI] at this))
  have HS := Lib.hid (DoW.start w #[.int .i64 id, .int .i64 fi, .int .i64 te, .int .i64 ht, .int .i64 hv, .int .i64 hc, .slice a l.length cap] #[.int .i64 pg, .int .i64 pk, .slice pa plen pcap, .int .i64 pht, .int .i64 phv, .int .i64 phc, .int .i64 pi, .int .i64 pt, .bool pm, .bool ph])
  have HG := Lib.hid hg
  have hm := hg.1
  dsimp only at hm
  clear hI
  clear hg hp
  refine (callsIn_wide (n := 9)).1 ?_
  refine callsIn_of_wp_marks Try.func71 rfl trivial ?_ rfl
  simp only [Try.ntmps71, List.size_toArray, List.length_cons, List.length_nil, Nat.reduceAdd, Nat.reduceSub, Array.replicate_succ, Array.replicate_zero, List.push_toArray, List.append_toArray, List.nil_append, List.cons_append]
  refine wpIn_wide.2 ?_
  go_upto_if 22 with (first
    | (go_at_call 90; ((with_reducible refine (GI.out _ HS.out.bel).mono ?_); rintro e w1 ⟨rfl, hB1⟩; have hD1 := HS.out.after hB1; obtain ⟨g0, g1, g2, g3, g4, g5, g6, fg⟩ := cells7 hD1.gb; obtain ⟨p1, p2, p3, p4, p5, p6, p7⟩ := cells10 hD1.pb; have p0 := cell_of_row _ _ 0 _ _ _ hD1.pb; have p8 := cell_of_row _ _ 8 _ _ _ hD1.pb; have p9 := cell_of_row _ _ 9 _ _ _ hD1.pb)))
  go_cut [5, 6] from 23 to 73 (fun s5 s6 wx => SprMid w a l.length cap id #[.int .i64 pg, .int .i64 pk, .slice pa plen pcap, .int .i64 pht, .int .i64 phv, .int .i64 phc, .int .i64 pi, .int .i64 pt, .bool pm, .bool ph] ⟨id, fi, te, ht, hv, hc, l⟩ s5 s6 wx)
  case first =>
    have hgr := HG.out.2
    dsimp only at hgr
    have hlK : ∀ k, inBlkE a l.length k → k < w.heap.size := fun k hk => inBlkE_lt hgr hk
    go_wp2
    go_meet
    exact ⟨fi, te, ht, hv, hc, a, cap, l, none, 0, [], rfl, rfl, hD1, hgr, hlK, Nat.le_refl _, RowV.nil _ _ _, Nat.le_refl _, by simp, fun j k hj hk => by simp at hk, (addG_nil _).symm⟩
  case rest =>
    clear g0 g1 g2 g3 g4 g5 g6 fg p0 p1 p2 p3 p4 p5 p6 p7 p8 p9 hD1 hB1
    obtain ⟨fi1, te1, ht1, hv1, hc1, ka, kc, K, ma, mc, M, rfl, rfl, hD, hK, hKlt, hKl, hM, hMc, hM6, hMr, hdo⟩ := hcut
    have HDO := Lib.hid hdo
    clear hdo
    have hMlt : ∀ k, inBlkE ma M.length k → k < w.heap.size := fun k hk => inBlkE_lt hM hk
    have GF := Lib.hid (fun W (hB : Below w.heap.size w W) => sfrom_any M ma mc fi1 W (by omega) hMc (hM.below hB) hMr)
    obtain ⟨FL, hFL⟩ : ∃ FL, FL = M.drop (fnd M fi1) := ⟨_, rfl⟩
    have hFl : FL.length ≤ M.length := by rw [hFL, List.length_drop]; omega
    rw [← hFL] at GF
    have HFL := Lib.hid hFL
    clear hFL
    obtain ⟨i0, hi9, hz0, hz1, hz2⟩ := info_parts infoEntry
    obtain ⟨g0, g1, g2, g3, g4, g5, g6, fg⟩ := cells7 hD.gb
    have hlt := hD.lt
    have hw0 : w.heap.size ≤ wc.heap.size := by omega
    refine (by assumption : ∀ (a : Act) (w : World), Code.wp _ _ _ a w → (_ : Prop)) _ _ ?_
    refine (wpIn_wide (n := 9)).1 ?_
    gi_wp2_with (first
      | (gi_at_make; (refine wpListIn_make_own _ rfl _ _ 37 rfl wc.heap.size 115 i0 (.agg #[.int .i64 0, .int .i64 0, .string ⟨#[]⟩]) 3 Try.underlying37 hi9 hz0 hz1 .i64 .i64 ((K.length : Int) + (M.length : Int)) (K.length + M.length) rfl rfl (by push_cast; rfl) (by rw [hz2]; omega) (by unfold maxLen; omega) (Nat.le_refl _) ?_; intro w4 hown4 hgrow4; have hD4 := hD.grown hgrow4 (fun k e => by cases e); have hlt4 : wc.heap.size < w4.heap.size := (by rcases hown4.2 with ⟨hv, _⟩ | ⟨g, _, _, hv, _, hgg, _⟩; (cases hv); (cases hv; exact heap_lt hgg)); have hD5 := hD4.set 6 (.slice (some ⟨wc.heap.size, 0, none⟩) 0 (K.length + M.length)); simp only [List.setIfInBounds_toArray, List.set_cons_succ, List.set_cons_zero] at hD5; have hown5 := own_frame hown4 (FrameT.setCell w4 w.heap.size 6 (.slice (some ⟨wc.heap.size, 0, none⟩) 0 (K.length + M.length))) (fun k hk h => by omega); clear g0 g1 g2 g3 g4 g5 g6 fg; obtain ⟨g0, g1, g2, g3, g4, g5, g6, fg⟩ := cells7 hD4.gb))
      | (gi_at_call 95; ((with_reducible refine (callsIn_wide.2 (GF.out _ hD5.bel)).mono ?_); rintro e w6 ⟨va, vc, rfl, hrF, hvc, hB6, hinF⟩; have hD6 := hD5.after hB6; have hown6 := ownsRow_below (n := 0) hown5 hB6))
      | (gi_at_call 94; (refine (callsIn_wide.2 (mrg_makes ka va kc vc K FL (by omega) (by omega) hvc (fun k => k = w.heap.size ∨ k = wc.heap.size) w6 (fun k hk => by have h1 := hD6.lt; have h2 := hB6.size; have h3 : wc.heap.size < w4.heap.size := hlt4; simp at h2; rcases hk with rfl | rfl <;> omega) (fun k hk h => by have h1 := hKlt k hk; rcases h with rfl | rfl <;> omega) (fun k hk h => by have h1 := hMlt k (hinF k hk); rcases h with rfl | rfl <;> omega) (hK.below hD6.bel) hrF)).mono ?_; rintro e w7 ⟨lb, rfl, hB7, hI7⟩; have hD7 := hD6.after hB7; have hown7 := ownsRow_below (n := 0) hown6 hB7)))
    obtain ⟨X, hX⟩ : ∃ X, X = mrg K FL := ⟨_, rfl⟩
    have hXl : X.length ≤ K.length + M.length := by rw [hX]; exact Nat.le_trans (mrg_len _ _) (by omega)
    rw [← hX] at hI7
    have HX := Lib.hid hX
    clear hX
    have hs7 : wc.heap.size + 1 ≤ w7.heap.size := by have h1 := hB6.size; have h2 := hB7.size; simp at h1; omega
    have hw7 : w.heap.size ≤ w7.heap.size := hD7.bel.size
    refine range_outerU rfl (enters_of Try.func114 (by kernel_rfl) rfl) hI7 (fun _ => rfl)
      (fun pre W => sJ w #[.int .i64 pg, .int .i64 pk, .slice pa plen pcap, .int .i64 pht, .int .i64 phv, .int .i64 phc, .int .i64 pi, .int .i64 pt, .bool pm, .bool ph] id fi1 te1 ht1 hv1 hc1 wc.heap.size (K.length + M.length) pre.length (entryCells pre) w7.heap.size W) (fun _ _ _ => False) (fun _ => sJ_stab hw7) (fun _ _ => Stab.pure _) ⟨hD7, hown7, Nat.le_refl _⟩ ?hr ?hd (fun _ _ _ _ _ _ h => h.elim)
    case hr =>
      rintro L0 pre x suf W hx hl' hi1 hrec
      dsimp only [EntryC.enc, EntryC.val]
      have hpl9 : pre.length < X.length := by have h1 := congrArg List.length hx; simp at h1; omega
      gi_wp2
      refine rdThen_mk (fun W' => sJ w #[.int .i64 pg, .int .i64 pk, .slice pa plen pcap, .int .i64 pht, .int .i64 phv, .int .i64 phc, .int .i64 pi, .int .i64 pt, .bool pm, .bool ph] id fi1 te1 ht1 hv1 hc1 wc.heap.size (K.length + M.length) pre.length (entryCells pre) w7.heap.size W' ∧ W'.heap[W.heap.size]? = some (.cells #[.int .i64 x.i, .int .i64 x.t, .string x.d] 115 (0, 0)))
        ((sJ_stab hw7).and (Stab.block (fun h => h) (.inr rfl))) ⟨sJ_stab hw7 _ _ hi1 (Moves.alloc _ _), World.alloc_heap_new W _⟩ ((Rd.refl _ _ _).alloc _) ?_
      clear hi1 hrec
      obtain ⟨Xb, hXb⟩ : ∃ Xb, Xb = W.heap.size := ⟨_, rfl⟩
      rw [← hXb]
      clear hXb W
      rintro W ⟨hJ, hblk⟩ hrec
      have hrow := hJ.2.1
      have HJ := Lib.hid hJ
      clear g0 g1 g2 g3 g4 g5 g6 fg
      obtain ⟨g0, g1, g2, g3, g4, g5, g6, fg⟩ := cells7 hJ.1.gb
      have d0 : W.cell? ⟨Xb, 0, none⟩ = some (.int .i64 x.i) := cell_of_row W Xb 0 _ _ _ hblk
      have d1 : W.cell? ⟨Xb, 1, none⟩ = some (.int .i64 x.t) := cell_of_row W Xb 1 _ _ _ hblk
      have d2 : W.cell? ⟨Xb, 2, none⟩ = some (.string x.d) := cell_of_row W Xb 2 _ _ _ hblk
      clear hJ hblk hD7 hD6 hD5 hD4 hown7 hown6 hown5 hown4 hI7
      gi_wp2_with (gi_at_builtin; refine wpListIn_append_fits _ rfl _ _ 37 rfl wc.heap.size 115 i0 3 Try.underlying37 hi9 hz1 wc.heap.size pre.length (K.length + M.length) (entryCells pre) rfl (hrow.alloc _) ⟨W.heap.size, 0, none⟩ 1 1 x.cells rfl rfl (news_new _ _ _) (by simp [Value.oneCell', EntryC.cells]) (by omega) ?_; intro w9 hown9 hgrow9; obtain ⟨hD9, hR9, hJ9⟩ := sJ_append (B := w7.heap.size) (S := fun k => ¬ (k = w.heap.size ∨ k = wc.heap.size) ∧ k ≠ L0) HJ.out hlt (fun h => h.1 (.inr rfl)) (fun h => h.1 (.inl rfl)) hown9 hgrow9; clear g0 g1 g2 g3 g4 g5 g6 fg; obtain ⟨g0, g1, g2, g3, g4, g5, g6, fg⟩ := cells7 hD9.gb)
      refine ⟨hR9, ?_⟩
      dsimp only
      rw [List.length_append, entryCells_snoc]
      exact hJ9
    case hd =>
      rintro W ⟨hDo, hrow, hs⟩ hDef
      clear g0 g1 g2 g3 g4 g5 g6 fg
      obtain ⟨g0, g1, g2, g3, g4, g5, g6, fg⟩ := cells7 hDo.gb
      obtain ⟨r0, r1, r2, r3, r4, r5, r6, fr⟩ := cells7 hDo.rb
      have HG9 := Lib.hid (show (⟨id, fi, te, ht, hv, hc, l⟩ : GM) = ⟨id, fi1, te1, ht1, hv1, hc1, X⟩ by rw [HDO.out]; unfold addG; dsimp only; rw [← HFL.out, ← HX.out])
      have hb7 := st7_block hDo.rb (.int .i64 id) (.int .i64 fi1) (.int .i64 te1) (.int .i64 ht1) (.int .i64 hv1) (.int .i64 hc1) (.slice (some ⟨wc.heap.size, 0, none⟩) X.length (K.length + M.length))
      have hF8 := st7_frame W (w.heap.size + 1 + 1) (.int .i64 id) (.int .i64 fi1) (.int .i64 te1) (.int .i64 ht1) (.int .i64 hv1) (.int .i64 hc1) (.slice (some ⟨wc.heap.size, 0, none⟩) X.length (K.length + M.length))
      have hown2 := own_frame hrow hF8 (fun k hk h => by omega)
      have hbel := hDo.bel.trans (hF8.toBelow hDo.bel.size (fun k h => by omega))
      have hDz := hF8.get hDef (by show ¬ (w7.heap.size = w.heap.size + 1 + 1); omega)
      clear hD7 hD6 hD5 hD4 hown7 hown6 hown5 hown4 hI7
      gi_wp2
      clear g0 g1 g2 g3 g4 g5 g6 fg r0 r1 r2 r3 r4 r5 r6 fr
      obtain ⟨e0, e1, e2, e3, e4, e5, e6, -⟩ := cells7 hb7
      replace e0 := cell_putObj (o' := .deferred none) e0 hDz rfl
      replace e1 := cell_putObj (o' := .deferred none) e1 hDz rfl
      replace e2 := cell_putObj (o' := .deferred none) e2 hDz rfl
      replace e3 := cell_putObj (o' := .deferred none) e3 hDz rfl
      replace e4 := cell_putObj (o' := .deferred none) e4 hDz rfl
      replace e5 := cell_putObj (o' := .deferred none) e5 hDz rfl
      replace e6 := cell_putObj (o' := .deferred none) e6 hDz rfl
      refine leave_one hDz (v := .agg #[.int .i64 id, .int .i64 fi1, .int .i64 te1, .int .i64 ht1, .int .i64 hv1, .int .i64 hc1, .slice (some ⟨wc.heap.size, 0, none⟩) X.length (K.length + M.length)]) (by simp [results, Try.results71, go_sem, e0, e1, e2, e3, e4, e5, e6]) ?_
      have hm9 : Moves w7.heap.size (fun _ => False) _ _ := Moves.putObj _ (.deferred none) (Nat.le_refl _) hDz rfl
      obtain ⟨va', vc', hx, -, hrv⟩ := rowV_own (Stab.ownsRow (B := w7.heap.size) (T := fun _ => False) (fun _ h => h.elim) _ _ hown2 hm9)
      cases hx
      rw [HG9.out]
      exact ⟨some ⟨wc.heap.size, 0, none⟩, K.length + M.length, rfl, ⟨by show X.length < 1000000; omega, hrv⟩, hXl, below_putObj hbel (Nat.le_refl _) hw7 _, fun k hk => by obtain ⟨_, _, e9, _, rfl⟩ := hk; cases e9; omega⟩

set_option maxRecDepth 100000 in
set_option maxHeartbeats 4000000 in
theorem sdo_badB (id fi te ht hv hc : Int) (l : List EntryC) (a : Option Addr) (cap : Nat) (pg pk : Int) (pa : Option Addr) (plen pcap : Nat) (pht phv phc pi pt : Int) (pm ph : Bool) (pl : List EntryC) (w : World) (hg : HasG w a ⟨id, fi, te, ht, hv, hc, l⟩) (hgc : l.length ≤ cap) (hp : HasE w ⟨pg, pk, pa, plen, pcap, pht, phv, phc, pi, pt, pm, ph⟩ pl) (h30 : l.length ≤ 100000) (hI : isSp ⟨id, fi, te, ht, hv, hc, l⟩ = true) (hBB : isB ⟨pg, pk, pa, plen, pcap, pht, phv, phc, pi, pt, pm, ph⟩ pl = false) : Calls Try.prog 71 #[.agg #[.int .i64 id, .int .i64 fi, .int .i64 te, .int .i64 ht, .int .i64 hv, .int .i64 hc, .slice a l.length cap], .agg #[.int .i64 pg, .int .i64 pk, .slice pa plen pcap, .int .i64 pht, .int .i64 phv, .int .i64 phc, .int .i64 pi, .int .i64 pt, .bool pm, .bool ph]] w (SDoP w ⟨id, fi, te, ht, hv, hc, l⟩) := by
  have GI := Lib.hid (fun W (hB : Below w.heap.size w W) => (show Gives Try.prog 90 #[.agg #[.int .i64 id, .int .i64 fi, .int .i64 te, .int .i64 ht, .int .i64 hv, .int .i64 hc, .slice a l.length cap]] W (.bool true) from by have := sprIs_any id fi te ht hv hc l a cap W (hg.below hB); rwa [hI] at this))
  have GP := Lib.hid (fun W (hB : Below w.heap.size w W) => (show Gives Try.prog 44 #[.agg #[.int .i64 pg, .int .i64 pk, .slice pa plen pcap, .int .i64 pht, .int .i64 phv, .int .i64 phc, .int .i64 pi, .int .i64 pt, .bool pm, .bool ph]] W (.bool false) from by have := is_any ⟨pg, pk, pa, plen, pcap, pht, phv, phc, pi, pt, pm, ph⟩ pl W (hp.below hB); rwa [hBB] at this))
  have HS := Lib.hid (DoW.start w #[.int .i64 id, .int .i64 fi, .int .i64 te, .int .i64 ht, .int .i64 hv, .int .i64 hc, .slice a l.length cap] #[.int .i64 pg, .int .i64 pk, .slice pa plen pcap, .int .i64 pht, .int .i64 phv, .int .i64 phc, .int .i64 pi, .int .i64 pt, .bool pm, .bool ph])
  have HG := Lib.hid hg
  have hm := hg.1
  dsimp only at hm
  clear hI hBB
  clear hg hp
  refine (callsIn_wide (n := 9)).1 ?_
  refine callsIn_of_wp_marks Try.func71 rfl trivial ?_ rfl
  simp only [Try.ntmps71, List.size_toArray, List.length_cons, List.length_nil, Nat.reduceAdd, Nat.reduceSub, Array.replicate_succ, Array.replicate_zero, List.push_toArray, List.append_toArray, List.nil_append, List.cons_append]
  refine wpIn_wide.2 ?_
  go_upto_if 22 with (first
    | (go_at_call 90; ((with_reducible refine (GI.out _ HS.out.bel).mono ?_); rintro e w1 ⟨rfl, hB1⟩; have hD1 := HS.out.after hB1; obtain ⟨g0, g1, g2, g3, g4, g5, g6, fg⟩ := cells7 hD1.gb; obtain ⟨p1, p2, p3, p4, p5, p6, p7⟩ := cells10 hD1.pb; have p0 := cell_of_row _ _ 0 _ _ _ hD1.pb; have p8 := cell_of_row _ _ 8 _ _ _ hD1.pb; have p9 := cell_of_row _ _ 9 _ _ _ hD1.pb))
    | (go_at_call 44; ((with_reducible refine (GP.out _ hD1.bel).mono ?_); rintro e w2 ⟨rfl, hB2⟩; have hD2 := hD1.after hB2; clear g0 g1 g2 g3 g4 g5 g6 fg p0 p1 p2 p3 p4 p5 p6 p7 p8 p9; obtain ⟨g0, g1, g2, g3, g4, g5, g6, fg⟩ := cells7 hD2.gb; obtain ⟨p1, p2, p3, p4, p5, p6, p7⟩ := cells10 hD2.pb; have p0 := cell_of_row _ _ 0 _ _ _ hD2.pb; have p8 := cell_of_row _ _ 8 _ _ _ hD2.pb; have p9 := cell_of_row _ _ 9 _ _ _ hD2.pb)))
  go_cut [5, 6] from 23 to 73 (fun s5 s6 wx => SprMid w a l.length cap id #[.int .i64 pg, .int .i64 pk, .slice pa plen pcap, .int .i64 pht, .int .i64 phv, .int .i64 phc, .int .i64 pi, .int .i64 pt, .bool pm, .bool ph] ⟨id, fi, te, ht, hv, hc, l⟩ s5 s6 wx)
  case first =>
    have hgr := HG.out.2
    dsimp only at hgr
    have hlK : ∀ k, inBlkE a l.length k → k < w.heap.size := fun k hk => inBlkE_lt hgr hk
    go_wp2
    go_meet
    exact ⟨fi, te, ht, hv, hc, a, cap, l, none, 0, [], rfl, rfl, hD2, hgr, hlK, Nat.le_refl _, RowV.nil _ _ _, Nat.le_refl _, by simp, fun j k hj hk => by simp at hk, (addG_nil _).symm⟩
  case rest =>
    clear g0 g1 g2 g3 g4 g5 g6 fg p0 p1 p2 p3 p4 p5 p6 p7 p8 p9 hD1 hD2 hB1 hB2
    obtain ⟨fi1, te1, ht1, hv1, hc1, ka, kc, K, ma, mc, M, rfl, rfl, hD, hK, hKlt, hKl, hM, hMc, hM6, hMr, hdo⟩ := hcut
    have HDO := Lib.hid hdo
    clear hdo
    have hMlt : ∀ k, inBlkE ma M.length k → k < w.heap.size := fun k hk => inBlkE_lt hM hk
    have GF := Lib.hid (fun W (hB : Below w.heap.size w W) => sfrom_any M ma mc fi1 W (by omega) hMc (hM.below hB) hMr)
    obtain ⟨FL, hFL⟩ : ∃ FL, FL = M.drop (fnd M fi1) := ⟨_, rfl⟩
    have hFl : FL.length ≤ M.length := by rw [hFL, List.length_drop]; omega
    rw [← hFL] at GF
    have HFL := Lib.hid hFL
    clear hFL
    obtain ⟨i0, hi9, hz0, hz1, hz2⟩ := info_parts infoEntry
    obtain ⟨g0, g1, g2, g3, g4, g5, g6, fg⟩ := cells7 hD.gb
    have hlt := hD.lt
    have hw0 : w.heap.size ≤ wc.heap.size := by omega
    refine (by assumption : ∀ (a : Act) (w : World), Code.wp _ _ _ a w → (_ : Prop)) _ _ ?_
    refine (wpIn_wide (n := 9)).1 ?_
    gi_wp2_with (first
      | (gi_at_make; (refine wpListIn_make_own _ rfl _ _ 37 rfl wc.heap.size 115 i0 (.agg #[.int .i64 0, .int .i64 0, .string ⟨#[]⟩]) 3 Try.underlying37 hi9 hz0 hz1 .i64 .i64 ((K.length : Int) + (M.length : Int)) (K.length + M.length) rfl rfl (by push_cast; rfl) (by rw [hz2]; omega) (by unfold maxLen; omega) (Nat.le_refl _) ?_; intro w4 hown4 hgrow4; have hD4 := hD.grown hgrow4 (fun k e => by cases e); have hlt4 : wc.heap.size < w4.heap.size := (by rcases hown4.2 with ⟨hv, _⟩ | ⟨g, _, _, hv, _, hgg, _⟩; (cases hv); (cases hv; exact heap_lt hgg)); have hD5 := hD4.set 6 (.slice (some ⟨wc.heap.size, 0, none⟩) 0 (K.length + M.length)); simp only [List.setIfInBounds_toArray, List.set_cons_succ, List.set_cons_zero] at hD5; have hown5 := own_frame hown4 (FrameT.setCell w4 w.heap.size 6 (.slice (some ⟨wc.heap.size, 0, none⟩) 0 (K.length + M.length))) (fun k hk h => by omega); clear g0 g1 g2 g3 g4 g5 g6 fg; obtain ⟨g0, g1, g2, g3, g4, g5, g6, fg⟩ := cells7 hD4.gb))
      | (gi_at_call 95; ((with_reducible refine (callsIn_wide.2 (GF.out _ hD5.bel)).mono ?_); rintro e w6 ⟨va, vc, rfl, hrF, hvc, hB6, hinF⟩; have hD6 := hD5.after hB6; have hown6 := ownsRow_below (n := 0) hown5 hB6))
      | (gi_at_call 94; (refine (callsIn_wide.2 (mrg_makes ka va kc vc K FL (by omega) (by omega) hvc (fun k => k = w.heap.size ∨ k = wc.heap.size) w6 (fun k hk => by have h1 := hD6.lt; have h2 := hB6.size; have h3 : wc.heap.size < w4.heap.size := hlt4; simp at h2; rcases hk with rfl | rfl <;> omega) (fun k hk h => by have h1 := hKlt k hk; rcases h with rfl | rfl <;> omega) (fun k hk h => by have h1 := hMlt k (hinF k hk); rcases h with rfl | rfl <;> omega) (hK.below hD6.bel) hrF)).mono ?_; rintro e w7 ⟨lb, rfl, hB7, hI7⟩; have hD7 := hD6.after hB7; have hown7 := ownsRow_below (n := 0) hown6 hB7)))
    obtain ⟨X, hX⟩ : ∃ X, X = mrg K FL := ⟨_, rfl⟩
    have hXl : X.length ≤ K.length + M.length := by rw [hX]; exact Nat.le_trans (mrg_len _ _) (by omega)
    rw [← hX] at hI7
    have HX := Lib.hid hX
    clear hX
    have hs7 : wc.heap.size + 1 ≤ w7.heap.size := by have h1 := hB6.size; have h2 := hB7.size; simp at h1; omega
    have hw7 : w.heap.size ≤ w7.heap.size := hD7.bel.size
    refine range_outerU rfl (enters_of Try.func114 (by kernel_rfl) rfl) hI7 (fun _ => rfl)
      (fun pre W => sJ w #[.int .i64 pg, .int .i64 pk, .slice pa plen pcap, .int .i64 pht, .int .i64 phv, .int .i64 phc, .int .i64 pi, .int .i64 pt, .bool pm, .bool ph] id fi1 te1 ht1 hv1 hc1 wc.heap.size (K.length + M.length) pre.length (entryCells pre) w7.heap.size W) (fun _ _ _ => False) (fun _ => sJ_stab hw7) (fun _ _ => Stab.pure _) ⟨hD7, hown7, Nat.le_refl _⟩ ?hr ?hd (fun _ _ _ _ _ _ h => h.elim)
    case hr =>
      rintro L0 pre x suf W hx hl' hi1 hrec
      dsimp only [EntryC.enc, EntryC.val]
      have hpl9 : pre.length < X.length := by have h1 := congrArg List.length hx; simp at h1; omega
      gi_wp2
      refine rdThen_mk (fun W' => sJ w #[.int .i64 pg, .int .i64 pk, .slice pa plen pcap, .int .i64 pht, .int .i64 phv, .int .i64 phc, .int .i64 pi, .int .i64 pt, .bool pm, .bool ph] id fi1 te1 ht1 hv1 hc1 wc.heap.size (K.length + M.length) pre.length (entryCells pre) w7.heap.size W' ∧ W'.heap[W.heap.size]? = some (.cells #[.int .i64 x.i, .int .i64 x.t, .string x.d] 115 (0, 0)))
        ((sJ_stab hw7).and (Stab.block (fun h => h) (.inr rfl))) ⟨sJ_stab hw7 _ _ hi1 (Moves.alloc _ _), World.alloc_heap_new W _⟩ ((Rd.refl _ _ _).alloc _) ?_
      clear hi1 hrec
      obtain ⟨Xb, hXb⟩ : ∃ Xb, Xb = W.heap.size := ⟨_, rfl⟩
      rw [← hXb]
      clear hXb W
      rintro W ⟨hJ, hblk⟩ hrec
      have hrow := hJ.2.1
      have HJ := Lib.hid hJ
      clear g0 g1 g2 g3 g4 g5 g6 fg
      obtain ⟨g0, g1, g2, g3, g4, g5, g6, fg⟩ := cells7 hJ.1.gb
      have d0 : W.cell? ⟨Xb, 0, none⟩ = some (.int .i64 x.i) := cell_of_row W Xb 0 _ _ _ hblk
      have d1 : W.cell? ⟨Xb, 1, none⟩ = some (.int .i64 x.t) := cell_of_row W Xb 1 _ _ _ hblk
      have d2 : W.cell? ⟨Xb, 2, none⟩ = some (.string x.d) := cell_of_row W Xb 2 _ _ _ hblk
      clear hJ hblk hD7 hD6 hD5 hD4 hown7 hown6 hown5 hown4 hI7
      gi_wp2_with (gi_at_builtin; refine wpListIn_append_fits _ rfl _ _ 37 rfl wc.heap.size 115 i0 3 Try.underlying37 hi9 hz1 wc.heap.size pre.length (K.length + M.length) (entryCells pre) rfl (hrow.alloc _) ⟨W.heap.size, 0, none⟩ 1 1 x.cells rfl rfl (news_new _ _ _) (by simp [Value.oneCell', EntryC.cells]) (by omega) ?_; intro w9 hown9 hgrow9; obtain ⟨hD9, hR9, hJ9⟩ := sJ_append (B := w7.heap.size) (S := fun k => ¬ (k = w.heap.size ∨ k = wc.heap.size) ∧ k ≠ L0) HJ.out hlt (fun h => h.1 (.inr rfl)) (fun h => h.1 (.inl rfl)) hown9 hgrow9; clear g0 g1 g2 g3 g4 g5 g6 fg; obtain ⟨g0, g1, g2, g3, g4, g5, g6, fg⟩ := cells7 hD9.gb)
      refine ⟨hR9, ?_⟩
      dsimp only
      rw [List.length_append, entryCells_snoc]
      exact hJ9
    case hd =>
      rintro W ⟨hDo, hrow, hs⟩ hDef
      clear g0 g1 g2 g3 g4 g5 g6 fg
      obtain ⟨g0, g1, g2, g3, g4, g5, g6, fg⟩ := cells7 hDo.gb
      obtain ⟨r0, r1, r2, r3, r4, r5, r6, fr⟩ := cells7 hDo.rb
      have HG9 := Lib.hid (show (⟨id, fi, te, ht, hv, hc, l⟩ : GM) = ⟨id, fi1, te1, ht1, hv1, hc1, X⟩ by rw [HDO.out]; unfold addG; dsimp only; rw [← HFL.out, ← HX.out])
      have hb7 := st7_block hDo.rb (.int .i64 id) (.int .i64 fi1) (.int .i64 te1) (.int .i64 ht1) (.int .i64 hv1) (.int .i64 hc1) (.slice (some ⟨wc.heap.size, 0, none⟩) X.length (K.length + M.length))
      have hF8 := st7_frame W (w.heap.size + 1 + 1) (.int .i64 id) (.int .i64 fi1) (.int .i64 te1) (.int .i64 ht1) (.int .i64 hv1) (.int .i64 hc1) (.slice (some ⟨wc.heap.size, 0, none⟩) X.length (K.length + M.length))
      have hown2 := own_frame hrow hF8 (fun k hk h => by omega)
      have hbel := hDo.bel.trans (hF8.toBelow hDo.bel.size (fun k h => by omega))
      have hDz := hF8.get hDef (by show ¬ (w7.heap.size = w.heap.size + 1 + 1); omega)
      clear hD7 hD6 hD5 hD4 hown7 hown6 hown5 hown4 hI7
      gi_wp2
      clear g0 g1 g2 g3 g4 g5 g6 fg r0 r1 r2 r3 r4 r5 r6 fr
      obtain ⟨e0, e1, e2, e3, e4, e5, e6, -⟩ := cells7 hb7
      replace e0 := cell_putObj (o' := .deferred none) e0 hDz rfl
      replace e1 := cell_putObj (o' := .deferred none) e1 hDz rfl
      replace e2 := cell_putObj (o' := .deferred none) e2 hDz rfl
      replace e3 := cell_putObj (o' := .deferred none) e3 hDz rfl
      replace e4 := cell_putObj (o' := .deferred none) e4 hDz rfl
      replace e5 := cell_putObj (o' := .deferred none) e5 hDz rfl
      replace e6 := cell_putObj (o' := .deferred none) e6 hDz rfl
      refine leave_one hDz (v := .agg #[.int .i64 id, .int .i64 fi1, .int .i64 te1, .int .i64 ht1, .int .i64 hv1, .int .i64 hc1, .slice (some ⟨wc.heap.size, 0, none⟩) X.length (K.length + M.length)]) (by simp [results, Try.results71, go_sem, e0, e1, e2, e3, e4, e5, e6]) ?_
      have hm9 : Moves w7.heap.size (fun _ => False) _ _ := Moves.putObj _ (.deferred none) (Nat.le_refl _) hDz rfl
      obtain ⟨va', vc', hx, -, hrv⟩ := rowV_own (Stab.ownsRow (B := w7.heap.size) (T := fun _ => False) (fun _ h => h.elim) _ _ hown2 hm9)
      cases hx
      rw [HG9.out]
      exact ⟨some ⟨wc.heap.size, 0, none⟩, K.length + M.length, rfl, ⟨by show X.length < 1000000; omega, hrv⟩, hXl, below_putObj hbel (Nat.le_refl _) hw7 _, fun k hk => by obtain ⟨_, _, e9, _, rfl⟩ := hk; cases e9; omega⟩

set_option maxRecDepth 100000 in
set_option maxHeartbeats 4000000 in
theorem sdo_badC (id fi te ht hv hc : Int) (l : List EntryC) (a : Option Addr) (cap : Nat) (pg pk : Int) (pa : Option Addr) (plen pcap : Nat) (pht phv phc pi pt : Int) (pm ph : Bool) (pl : List EntryC) (w : World) (hg : HasG w a ⟨id, fi, te, ht, hv, hc, l⟩) (hgc : l.length ≤ cap) (hp : HasE w ⟨pg, pk, pa, plen, pcap, pht, phv, phc, pi, pt, pm, ph⟩ pl) (h30 : l.length ≤ 100000) (hI : isSp ⟨id, fi, te, ht, hv, hc, l⟩ = true) (hBB : isB ⟨pg, pk, pa, plen, pcap, pht, phv, phc, pi, pt, pm, ph⟩ pl = true) (hne : pg ≠ id) : Calls Try.prog 71 #[.agg #[.int .i64 id, .int .i64 fi, .int .i64 te, .int .i64 ht, .int .i64 hv, .int .i64 hc, .slice a l.length cap], .agg #[.int .i64 pg, .int .i64 pk, .slice pa plen pcap, .int .i64 pht, .int .i64 phv, .int .i64 phc, .int .i64 pi, .int .i64 pt, .bool pm, .bool ph]] w (SDoP w ⟨id, fi, te, ht, hv, hc, l⟩) := by
  have GI := Lib.hid (fun W (hB : Below w.heap.size w W) => (show Gives Try.prog 90 #[.agg #[.int .i64 id, .int .i64 fi, .int .i64 te, .int .i64 ht, .int .i64 hv, .int .i64 hc, .slice a l.length cap]] W (.bool true) from by have := sprIs_any id fi te ht hv hc l a cap W (hg.below hB); rwa [hI] at this))
  have GP := Lib.hid (fun W (hB : Below w.heap.size w W) => (show Gives Try.prog 44 #[.agg #[.int .i64 pg, .int .i64 pk, .slice pa plen pcap, .int .i64 pht, .int .i64 phv, .int .i64 phc, .int .i64 pi, .int .i64 pt, .bool pm, .bool ph]] W (.bool true) from by have := is_any ⟨pg, pk, pa, plen, pcap, pht, phv, phc, pi, pt, pm, ph⟩ pl W (hp.below hB); rwa [hBB] at this))
  have HS := Lib.hid (DoW.start w #[.int .i64 id, .int .i64 fi, .int .i64 te, .int .i64 ht, .int .i64 hv, .int .i64 hc, .slice a l.length cap] #[.int .i64 pg, .int .i64 pk, .slice pa plen pcap, .int .i64 pht, .int .i64 phv, .int .i64 phc, .int .i64 pi, .int .i64 pt, .bool pm, .bool ph])
  have HG := Lib.hid hg
  have hm := hg.1
  dsimp only at hm
  have hn1 : (pg == id) = false := by rw [beq_eq_false_iff_ne]; exact hne
  clear hI hBB hne
  clear hg hp
  refine (callsIn_wide (n := 9)).1 ?_
  refine callsIn_of_wp_marks Try.func71 rfl trivial ?_ rfl
  simp only [Try.ntmps71, List.size_toArray, List.length_cons, List.length_nil, Nat.reduceAdd, Nat.reduceSub, Array.replicate_succ, Array.replicate_zero, List.push_toArray, List.append_toArray, List.nil_append, List.cons_append]
  refine wpIn_wide.2 ?_
  go_upto_if 22 with (first
    | (go_at_call 90; ((with_reducible refine (GI.out _ HS.out.bel).mono ?_); rintro e w1 ⟨rfl, hB1⟩; have hD1 := HS.out.after hB1; obtain ⟨g0, g1, g2, g3, g4, g5, g6, fg⟩ := cells7 hD1.gb; obtain ⟨p1, p2, p3, p4, p5, p6, p7⟩ := cells10 hD1.pb; have p0 := cell_of_row _ _ 0 _ _ _ hD1.pb; have p8 := cell_of_row _ _ 8 _ _ _ hD1.pb; have p9 := cell_of_row _ _ 9 _ _ _ hD1.pb))
    | (go_at_call 44; ((with_reducible refine (GP.out _ hD1.bel).mono ?_); rintro e w2 ⟨rfl, hB2⟩; have hD2 := hD1.after hB2; clear g0 g1 g2 g3 g4 g5 g6 fg p0 p1 p2 p3 p4 p5 p6 p7 p8 p9; obtain ⟨g0, g1, g2, g3, g4, g5, g6, fg⟩ := cells7 hD2.gb; obtain ⟨p1, p2, p3, p4, p5, p6, p7⟩ := cells10 hD2.pb; have p0 := cell_of_row _ _ 0 _ _ _ hD2.pb; have p8 := cell_of_row _ _ 8 _ _ _ hD2.pb; have p9 := cell_of_row _ _ 9 _ _ _ hD2.pb)))
  go_cut [5, 6] from 23 to 73 (fun s5 s6 wx => SprMid w a l.length cap id #[.int .i64 pg, .int .i64 pk, .slice pa plen pcap, .int .i64 pht, .int .i64 phv, .int .i64 phc, .int .i64 pi, .int .i64 pt, .bool pm, .bool ph] ⟨id, fi, te, ht, hv, hc, l⟩ s5 s6 wx)
  case first =>
    have hgr := HG.out.2
    dsimp only at hgr
    have hlK : ∀ k, inBlkE a l.length k → k < w.heap.size := fun k hk => inBlkE_lt hgr hk
    go_wp2
    go_meet
    exact ⟨fi, te, ht, hv, hc, a, cap, l, none, 0, [], rfl, rfl, hD2, hgr, hlK, Nat.le_refl _, RowV.nil _ _ _, Nat.le_refl _, by simp, fun j k hj hk => by simp at hk, (addG_nil _).symm⟩
  case rest =>
    clear g0 g1 g2 g3 g4 g5 g6 fg p0 p1 p2 p3 p4 p5 p6 p7 p8 p9 hD1 hD2 hB1 hB2
    obtain ⟨fi1, te1, ht1, hv1, hc1, ka, kc, K, ma, mc, M, rfl, rfl, hD, hK, hKlt, hKl, hM, hMc, hM6, hMr, hdo⟩ := hcut
    have HDO := Lib.hid hdo
    clear hdo
    have hMlt : ∀ k, inBlkE ma M.length k → k < w.heap.size := fun k hk => inBlkE_lt hM hk
    have GF := Lib.hid (fun W (hB : Below w.heap.size w W) => sfrom_any M ma mc fi1 W (by omega) hMc (hM.below hB) hMr)
    obtain ⟨FL, hFL⟩ : ∃ FL, FL = M.drop (fnd M fi1) := ⟨_, rfl⟩
    have hFl : FL.length ≤ M.length := by rw [hFL, List.length_drop]; omega
    rw [← hFL] at GF
    have HFL := Lib.hid hFL
    clear hFL
    obtain ⟨i0, hi9, hz0, hz1, hz2⟩ := info_parts infoEntry
    obtain ⟨g0, g1, g2, g3, g4, g5, g6, fg⟩ := cells7 hD.gb
    have hlt := hD.lt
    have hw0 : w.heap.size ≤ wc.heap.size := by omega
    refine (by assumption : ∀ (a : Act) (w : World), Code.wp _ _ _ a w → (_ : Prop)) _ _ ?_
    refine (wpIn_wide (n := 9)).1 ?_
    gi_wp2_with (first
      | (gi_at_make; (refine wpListIn_make_own _ rfl _ _ 37 rfl wc.heap.size 115 i0 (.agg #[.int .i64 0, .int .i64 0, .string ⟨#[]⟩]) 3 Try.underlying37 hi9 hz0 hz1 .i64 .i64 ((K.length : Int) + (M.length : Int)) (K.length + M.length) rfl rfl (by push_cast; rfl) (by rw [hz2]; omega) (by unfold maxLen; omega) (Nat.le_refl _) ?_; intro w4 hown4 hgrow4; have hD4 := hD.grown hgrow4 (fun k e => by cases e); have hlt4 : wc.heap.size < w4.heap.size := (by rcases hown4.2 with ⟨hv, _⟩ | ⟨g, _, _, hv, _, hgg, _⟩; (cases hv); (cases hv; exact heap_lt hgg)); have hD5 := hD4.set 6 (.slice (some ⟨wc.heap.size, 0, none⟩) 0 (K.length + M.length)); simp only [List.setIfInBounds_toArray, List.set_cons_succ, List.set_cons_zero] at hD5; have hown5 := own_frame hown4 (FrameT.setCell w4 w.heap.size 6 (.slice (some ⟨wc.heap.size, 0, none⟩) 0 (K.length + M.length))) (fun k hk h => by omega); clear g0 g1 g2 g3 g4 g5 g6 fg; obtain ⟨g0, g1, g2, g3, g4, g5, g6, fg⟩ := cells7 hD4.gb))
      | (gi_at_call 95; ((with_reducible refine (callsIn_wide.2 (GF.out _ hD5.bel)).mono ?_); rintro e w6 ⟨va, vc, rfl, hrF, hvc, hB6, hinF⟩; have hD6 := hD5.after hB6; have hown6 := ownsRow_below (n := 0) hown5 hB6))
      | (gi_at_call 94; (refine (callsIn_wide.2 (mrg_makes ka va kc vc K FL (by omega) (by omega) hvc (fun k => k = w.heap.size ∨ k = wc.heap.size) w6 (fun k hk => by have h1 := hD6.lt; have h2 := hB6.size; have h3 : wc.heap.size < w4.heap.size := hlt4; simp at h2; rcases hk with rfl | rfl <;> omega) (fun k hk h => by have h1 := hKlt k hk; rcases h with rfl | rfl <;> omega) (fun k hk h => by have h1 := hMlt k (hinF k hk); rcases h with rfl | rfl <;> omega) (hK.below hD6.bel) hrF)).mono ?_; rintro e w7 ⟨lb, rfl, hB7, hI7⟩; have hD7 := hD6.after hB7; have hown7 := ownsRow_below (n := 0) hown6 hB7)))
    obtain ⟨X, hX⟩ : ∃ X, X = mrg K FL := ⟨_, rfl⟩
    have hXl : X.length ≤ K.length + M.length := by rw [hX]; exact Nat.le_trans (mrg_len _ _) (by omega)
    rw [← hX] at hI7
    have HX := Lib.hid hX
    clear hX
    have hs7 : wc.heap.size + 1 ≤ w7.heap.size := by have h1 := hB6.size; have h2 := hB7.size; simp at h1; omega
    have hw7 : w.heap.size ≤ w7.heap.size := hD7.bel.size
    refine range_outerU rfl (enters_of Try.func114 (by kernel_rfl) rfl) hI7 (fun _ => rfl)
      (fun pre W => sJ w #[.int .i64 pg, .int .i64 pk, .slice pa plen pcap, .int .i64 pht, .int .i64 phv, .int .i64 phc, .int .i64 pi, .int .i64 pt, .bool pm, .bool ph] id fi1 te1 ht1 hv1 hc1 wc.heap.size (K.length + M.length) pre.length (entryCells pre) w7.heap.size W) (fun _ _ _ => False) (fun _ => sJ_stab hw7) (fun _ _ => Stab.pure _) ⟨hD7, hown7, Nat.le_refl _⟩ ?hr ?hd (fun _ _ _ _ _ _ h => h.elim)
    case hr =>
      rintro L0 pre x suf W hx hl' hi1 hrec
      dsimp only [EntryC.enc, EntryC.val]
      have hpl9 : pre.length < X.length := by have h1 := congrArg List.length hx; simp at h1; omega
      gi_wp2
      refine rdThen_mk (fun W' => sJ w #[.int .i64 pg, .int .i64 pk, .slice pa plen pcap, .int .i64 pht, .int .i64 phv, .int .i64 phc, .int .i64 pi, .int .i64 pt, .bool pm, .bool ph] id fi1 te1 ht1 hv1 hc1 wc.heap.size (K.length + M.length) pre.length (entryCells pre) w7.heap.size W' ∧ W'.heap[W.heap.size]? = some (.cells #[.int .i64 x.i, .int .i64 x.t, .string x.d] 115 (0, 0)))
        ((sJ_stab hw7).and (Stab.block (fun h => h) (.inr rfl))) ⟨sJ_stab hw7 _ _ hi1 (Moves.alloc _ _), World.alloc_heap_new W _⟩ ((Rd.refl _ _ _).alloc _) ?_
      clear hi1 hrec
      obtain ⟨Xb, hXb⟩ : ∃ Xb, Xb = W.heap.size := ⟨_, rfl⟩
      rw [← hXb]
      clear hXb W
      rintro W ⟨hJ, hblk⟩ hrec
      have hrow := hJ.2.1
      have HJ := Lib.hid hJ
      clear g0 g1 g2 g3 g4 g5 g6 fg
      obtain ⟨g0, g1, g2, g3, g4, g5, g6, fg⟩ := cells7 hJ.1.gb
      have d0 : W.cell? ⟨Xb, 0, none⟩ = some (.int .i64 x.i) := cell_of_row W Xb 0 _ _ _ hblk
      have d1 : W.cell? ⟨Xb, 1, none⟩ = some (.int .i64 x.t) := cell_of_row W Xb 1 _ _ _ hblk
      have d2 : W.cell? ⟨Xb, 2, none⟩ = some (.string x.d) := cell_of_row W Xb 2 _ _ _ hblk
      clear hJ hblk hD7 hD6 hD5 hD4 hown7 hown6 hown5 hown4 hI7
      gi_wp2_with (gi_at_builtin; refine wpListIn_append_fits _ rfl _ _ 37 rfl wc.heap.size 115 i0 3 Try.underlying37 hi9 hz1 wc.heap.size pre.length (K.length + M.length) (entryCells pre) rfl (hrow.alloc _) ⟨W.heap.size, 0, none⟩ 1 1 x.cells rfl rfl (news_new _ _ _) (by simp [Value.oneCell', EntryC.cells]) (by omega) ?_; intro w9 hown9 hgrow9; obtain ⟨hD9, hR9, hJ9⟩ := sJ_append (B := w7.heap.size) (S := fun k => ¬ (k = w.heap.size ∨ k = wc.heap.size) ∧ k ≠ L0) HJ.out hlt (fun h => h.1 (.inr rfl)) (fun h => h.1 (.inl rfl)) hown9 hgrow9; clear g0 g1 g2 g3 g4 g5 g6 fg; obtain ⟨g0, g1, g2, g3, g4, g5, g6, fg⟩ := cells7 hD9.gb)
      refine ⟨hR9, ?_⟩
      dsimp only
      rw [List.length_append, entryCells_snoc]
      exact hJ9
    case hd =>
      rintro W ⟨hDo, hrow, hs⟩ hDef
      clear g0 g1 g2 g3 g4 g5 g6 fg
      obtain ⟨g0, g1, g2, g3, g4, g5, g6, fg⟩ := cells7 hDo.gb
      obtain ⟨r0, r1, r2, r3, r4, r5, r6, fr⟩ := cells7 hDo.rb
      have HG9 := Lib.hid (show (⟨id, fi, te, ht, hv, hc, l⟩ : GM) = ⟨id, fi1, te1, ht1, hv1, hc1, X⟩ by rw [HDO.out]; unfold addG; dsimp only; rw [← HFL.out, ← HX.out])
      have hb7 := st7_block hDo.rb (.int .i64 id) (.int .i64 fi1) (.int .i64 te1) (.int .i64 ht1) (.int .i64 hv1) (.int .i64 hc1) (.slice (some ⟨wc.heap.size, 0, none⟩) X.length (K.length + M.length))
      have hF8 := st7_frame W (w.heap.size + 1 + 1) (.int .i64 id) (.int .i64 fi1) (.int .i64 te1) (.int .i64 ht1) (.int .i64 hv1) (.int .i64 hc1) (.slice (some ⟨wc.heap.size, 0, none⟩) X.length (K.length + M.length))
      have hown2 := own_frame hrow hF8 (fun k hk h => by omega)
      have hbel := hDo.bel.trans (hF8.toBelow hDo.bel.size (fun k h => by omega))
      have hDz := hF8.get hDef (by show ¬ (w7.heap.size = w.heap.size + 1 + 1); omega)
      clear hD7 hD6 hD5 hD4 hown7 hown6 hown5 hown4 hI7
      gi_wp2
      clear g0 g1 g2 g3 g4 g5 g6 fg r0 r1 r2 r3 r4 r5 r6 fr
      obtain ⟨e0, e1, e2, e3, e4, e5, e6, -⟩ := cells7 hb7
      replace e0 := cell_putObj (o' := .deferred none) e0 hDz rfl
      replace e1 := cell_putObj (o' := .deferred none) e1 hDz rfl
      replace e2 := cell_putObj (o' := .deferred none) e2 hDz rfl
      replace e3 := cell_putObj (o' := .deferred none) e3 hDz rfl
      replace e4 := cell_putObj (o' := .deferred none) e4 hDz rfl
      replace e5 := cell_putObj (o' := .deferred none) e5 hDz rfl
      replace e6 := cell_putObj (o' := .deferred none) e6 hDz rfl
      refine leave_one hDz (v := .agg #[.int .i64 id, .int .i64 fi1, .int .i64 te1, .int .i64 ht1, .int .i64 hv1, .int .i64 hc1, .slice (some ⟨wc.heap.size, 0, none⟩) X.length (K.length + M.length)]) (by simp [results, Try.results71, go_sem, e0, e1, e2, e3, e4, e5, e6]) ?_
      have hm9 : Moves w7.heap.size (fun _ => False) _ _ := Moves.putObj _ (.deferred none) (Nat.le_refl _) hDz rfl
      obtain ⟨va', vc', hx, -, hrv⟩ := rowV_own (Stab.ownsRow (B := w7.heap.size) (T := fun _ => False) (fun _ h => h.elim) _ _ hown2 hm9)
      cases hx
      rw [HG9.out]
      exact ⟨some ⟨wc.heap.size, 0, none⟩, K.length + M.length, rfl, ⟨by show X.length < 1000000; omega, hrv⟩, hXl, below_putObj hbel (Nat.le_refl _) hw7 _, fun k hk => by obtain ⟨_, _, e9, _, rfl⟩ := hk; cases e9; omega⟩

set_option maxRecDepth 100000 in
set_option maxHeartbeats 4000000 in
theorem sdo_any (id fi te ht hv hc : Int) (l : List EntryC) (a : Option Addr) (cap : Nat) (pg pk : Int) (pa : Option Addr) (plen pcap : Nat) (pht phv phc pi pt : Int) (pm ph : Bool) (pl : List EntryC) (w : World) (hg : HasG w a ⟨id, fi, te, ht, hv, hc, l⟩) (hgc : l.length ≤ cap) (hp : HasE w ⟨pg, pk, pa, plen, pcap, pht, phv, phc, pi, pt, pm, ph⟩ pl) (hpc : pl.length ≤ pcap) (h30 : l.length ≤ 100000) : Calls Try.prog 71 #[.agg #[.int .i64 id, .int .i64 fi, .int .i64 te, .int .i64 ht, .int .i64 hv, .int .i64 hc, .slice a l.length cap], .agg #[.int .i64 pg, .int .i64 pk, .slice pa plen pcap, .int .i64 pht, .int .i64 phv, .int .i64 phc, .int .i64 pi, .int .i64 pt, .bool pm, .bool ph]] w (SDoP w (doSp ⟨id, fi, te, ht, hv, hc, l⟩ ⟨pg, pk, pa, plen, pcap, pht, phv, phc, pi, pt, pm, ph⟩ pl)) := by
  by_cases hok : isSp ⟨id, fi, te, ht, hv, hc, l⟩ = true ∧ isB ⟨pg, pk, pa, plen, pcap, pht, phv, phc, pi, pt, pm, ph⟩ pl = true ∧ pg = id
  · obtain ⟨hI, hBB, rfl⟩ := hok
    exact sdo_valid pg fi te ht hv hc l a cap pk pa plen pcap pht phv phc pi pt pm ph pl w hg hgc hp hpc h30 hI hBB
  · have e : doSp ⟨id, fi, te, ht, hv, hc, l⟩ ⟨pg, pk, pa, plen, pcap, pht, phv, phc, pi, pt, pm, ph⟩ pl = ⟨id, fi, te, ht, hv, hc, l⟩ := if_neg hok
    rw [e]
    cases hI : isSp ⟨id, fi, te, ht, hv, hc, l⟩
    · exact sdo_badA id fi te ht hv hc l a cap pg pk pa plen pcap pht phv phc pi pt pm ph pl w hg hgc hp h30 hI
    · cases hBB : isB ⟨pg, pk, pa, plen, pcap, pht, phv, phc, pi, pt, pm, ph⟩ pl
      · exact sdo_badB id fi te ht hv hc l a cap pg pk pa plen pcap pht phv phc pi pt pm ph pl w hg hgc hp h30 hI hBB
      · exact sdo_badC id fi te ht hv hc l a cap pg pk pa plen pcap pht phv phc pi pt pm ph pl w hg hgc hp h30 hI hBB (fun h => hok ⟨hI, hBB, h⟩)

end Go.Proofs.Ytdncdlbhgaehmaa
