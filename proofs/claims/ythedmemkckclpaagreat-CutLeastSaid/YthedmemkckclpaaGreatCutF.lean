/- cut.Fits: the least number of lists behind which begun groups are just those that are handed in (which are any). -/
import Derived.Test.YthedmemkckclpaaGreatCut
namespace Go.Proofs.YthedmemkckclpaaGreat
open Go.RowKit Go.Shelf
set_option linter.unusedVariables false
attribute [local go_sem] Oper.semAt_some wide_fn wide_round_fn

/-- What Fits tells. -/
def fitP (L T : List GM) (M : List (List PL)) (n : Int) (b : Bool) : Prop := (b = true ∧ ∃ k : Nat, n = k ∧ k ≤ M.length ∧ cutL L M k = T ∧ ∀ i, i < k → cutL L M i ≠ T) ∨ (b = false ∧ n = -1 ∧ ∀ k, k ≤ M.length → cutL L M k ≠ T)
theorem belowW_stab {w W0 : World} {B : Nat} (h : w.heap.size ≤ B) : Stab B (fun k => B ≤ k) (Below w.heap.size w) := fun W W' hp hm => ⟨hm.os.trans hp.os, hm.tape.trans hp.tape, hm.output.trans hp.output, Nat.le_trans hp.size hm.size, fun k hk => by
    have h1 := hp.block k hk
    obtain ⟨o, ho⟩ : ∃ o, w.heap[k]? = some o := ⟨_, Array.getElem?_eq_some_iff.2 ⟨hk, rfl⟩⟩
    rw [ho] at h1 ⊢
    exact hm.block k o h1 (by omega) (.inl (by omega))⟩
theorem belowW_abides {w : World} {n B : Nat} (h : n ≤ B) : Abides B (Below n w) := fun W l r o' hl hp hr => by
  have hF := frame_putObj W l o'
  refine ⟨hF.os.trans hp.os, hF.tape.trans hp.tape, hF.output.trans hp.output, Nat.le_trans hp.size hF.size, fun k hk => ?_⟩
  rw [← hp.block k hk]
  exact World.putObj_heap_other (by omega)
theorem belowW_abides_d {w W : World} {D : Nat} {o o' : Obj} (h : Below w.heap.size w W) (hD : W.heap[D]? = some o) (hl : w.heap.size ≤ D) : Below w.heap.size w (W.putObj D o') := by
  have hF := frame_putObj W D o'
  refine ⟨hF.os.trans h.os, hF.tape.trans h.tape, hF.output.trans h.output, Nat.le_trans h.size hF.size, fun k hk => ?_⟩
  rw [← h.block k hk]
  exact World.putObj_heap_other (by omega)
set_option maxRecDepth 100000 in
set_option maxHeartbeats 8000000 in
theorem fits_any {wB W : World} {d N : Nat} {L T : List GM} {M : List LC} {la : Option Addr} {llen lcap : Nat} (hM : ListsAt W la llen M) (h : MS wB d L W) (hN : manOK N L) (hN5 : N + 36 * llen ≤ 100000)
    (ga : Option Addr) (glen gcap : Nat) (Gl : List GV) (hGl : Gl.length = glen) (hgm : glen ≤ 1000) (hrow : RowV W ga glen 7 (gvCells Gl)) (hg : ∀ x ∈ Gl, HasG W x.a x.g ∧ in64 x.g.id) (hT : ofL (Gl.map GV.g) = T) (hTk : manOK 100000 T) (hTg : ∀ x ∈ Gl, getZ GM.id T x.g.id = some x.g) :
    Calls Tryz.prog 7 #[.slice ga glen gcap, .pointer (some ⟨d, 0, none⟩), .slice la llen lcap] W fun e w' => ∃ n b, e = .returned (.tuple #[.int .i64 n, .bool b]) ∧ fitP L T (M.map LC.L) n b ∧ Below W.heap.size W w' := by
  have HML := Lib.hid (show (M.map LC.L).length = llen by rw [List.length_map]; exact hM.1)
  have hwB := h.bel
  have HN5 := Lib.hid hN5
  have HOK := Lib.hid (fun k hk => cutL_ok hN hM hN5 k hk)
  have GP := Lib.hid (fun W' (hB : Below W.heap.size W W') => beg_makes (lcap := lcap) W (fun k => False) hM (h.below hB) hB hN hN5 (fun k hk => hk.elim))
  have GO := Lib.hid (fun W' (hB : Below W.heap.size W W') => (show Calls Tryz.prog 10 #[.slice ga glen gcap] W' fun e w' => ∃ t, e = .returned (.pointer (some ⟨t, 0, none⟩)) ∧ W'.heap.size ≤ t ∧ MS W t T w' ∧ Below W'.heap.size W' w' from by
    have := ms_of (w := W) (W := W') hB ga glen gcap Gl hGl hgm (hrow.below hB) (fun x hx => ⟨(hg x hx).1.below hB, (hg x hx).2⟩)
    rwa [hT] at this))
  have HGR := Lib.hid hrow
  have HGG := Lib.hid hg
  have HGL := Lib.hid hGl
  have HTG := Lib.hid hTg
  have HTK := Lib.hid hTk
  have HBB := Lib.hid (bel_alloc (bel_alloc (Below.refl W.heap.size W) (.cells #[.int .i64 0] 3)) (.cells #[.bool false] 4))
  clear hM h hN hN5 hrow hg hGl hT hTk hTg
  refine (callsIn_wide (n := 9)).1 ?_
  refine callsIn_of_wp_marks Tryz.func7 rfl trivial ?_ rfl
  simp only [Tryz.ntmps7, List.size_toArray, List.length_cons, List.length_nil, Nat.reduceAdd, Nat.reduceSub, Array.replicate_succ, Array.replicate_zero, List.push_toArray, List.append_toArray, List.nil_append, List.cons_append]
  gi_wp2_with (gi_at_call 10; refine (callsIn_wide.2 (GO.out _ HBB.out)).mono ?_; rintro e w1 ⟨t, rfl, ht, hMt, hB1⟩)
  have hq0 := (hB1.block W.heap.size (by simp; omega)).trans (two_a W #[.int .i64 0] #[.bool false] 3 4)
  have hq1 := (hB1.block (W.heap.size + 1) (by simp; try omega)).trans (two_b W #[.int .i64 0] #[.bool false] 3 4)
  have hBt := bel_alloc (Below.refl w1.heap.size w1) (.cells #[.pointer (some ⟨t, 0, none⟩)] 23)
  have hqt := World.alloc_heap_new w1 (.cells #[.pointer (some ⟨t, 0, none⟩)] 23)
  have HQ0 := Lib.hid ((hBt.block _ (heap_lt hq0)).trans hq0)
  have HQ1 := Lib.hid ((hBt.block _ (heap_lt hq1)).trans hq1)
  have HMT := Lib.hid (hMt.below hBt)
  have HQT := Lib.hid hqt
  have HB2 := Lib.hid (bel2 (bel2 HBB.out hB1) hBt)
  have HT1 := Lib.hid (show W.heap.size + 1 < w1.heap.size by have := hB1.size; simp at this; omega)
  clear hq0 hq1 hqt hMt hBt hB1 ht
  obtain ⟨w2, hw2⟩ : ∃ w2, w2 = w1.alloc (.cells #[.pointer (some ⟨t, 0, none⟩)] 23) := ⟨_, rfl⟩
  rw [← hw2] at HQ0 HQ1 HMT HQT HB2 ⊢
  clear hw2
  obtain ⟨Tb, hTb⟩ : ∃ Tb, Tb = w1.heap.size := ⟨_, rfl⟩
  rw [← hTb] at HQT HT1 ⊢
  clear hTb
  gi_loopw [19] (fun q wr => ∃ k : Nat, k ≤ glen ∧ q = .int .i64 (k : Int) ∧ Below w2.heap.size w2 wr) (fun q _ => glen - (intOf q).toNat)
  case atStart => exact ⟨0, by omega, rfl, Below.refl _ _⟩
  case round =>
  obtain ⟨k, hk, rfl, hB⟩ := hrel
  by_cases hlt : k < glen
  · have hlt' : (k : Int) < (glen : Int) := by omega
    have hw9 : IntKind.i64.wrap ((k : Int) + 1) = ((k + 1 : Nat) : Int) := (IntWalk.i64_in _ (by omega)).trans (by push_cast; rfl)
    have hrw := HGR.out.below (HB2.out.trans (hB.mono HB2.out.size))
    obtain ⟨b, off, rfl, hb, hx⟩ := hrw.2.2 (by omega)
    have hkl : k < Gl.length := by rw [HGL.out]; exact hlt
    obtain ⟨c0, c1, c2, c3, c4, c5, c6⟩ := gv_at7 hb (Below.refl _ _) hx hkl
    have HGX := Lib.hid ((HGG.out Gl[k] (List.getElem_mem hkl)).1.below (HB2.out.trans (hB.mono HB2.out.size)))
    have hgi := (HGG.out Gl[k] (List.getElem_mem hkl)).2
    have htk := HTG.out Gl[k] (List.getElem_mem hkl)
    have hqt := (hB.block _ (heap_lt HQT.out)).trans HQT.out
    clear hx hrw
    generalize Gl[k] = x at *
    obtain ⟨⟨id, fi, te, ht, hv, hc, l⟩, xa, xc⟩ := x
    dsimp only [GV.id, GV.g, GV.a, GV.c] at *
    have hblk := World.alloc_heap_new wr (.cells #[.int .i64 id, .int .i64 fi, .int .i64 te, .int .i64 ht, .int .i64 hv, .int .i64 hc, .slice xa l.length xc] 39)
    have hBa := bel_alloc (Below.refl wr.heap.size wr) (.cells #[.int .i64 id, .int .i64 fi, .int .i64 te, .int .i64 ht, .int .i64 hv, .int .i64 hc, .slice xa l.length xc] 39)
    obtain ⟨x0, x1, x2, x3, x4, x5, x6, -⟩ := cells7 hblk
    have ct : (wr.alloc (.cells #[.int .i64 id, .int .i64 fi, .int .i64 te, .int .i64 ht, .int .i64 hv, .int .i64 hc, .slice xa l.length xc] 39)).cell? ⟨Tb, 0, none⟩ = some (.pointer (some ⟨t, 0, none⟩)) := cell_of_row _ _ 0 _ _ _ ((hBa.block _ (heap_lt hqt)).trans hqt)
    have GG := Lib.hid (show Calls Tryz.prog 11 #[.pointer (some ⟨t, 0, none⟩), .int .i64 id] (wr.alloc (.cells #[.int .i64 id, .int .i64 fi, .int .i64 te, .int .i64 ht, .int .i64 hv, .int .i64 hc, .slice xa l.length xc] 39)) fun e w' => ∃ a c, e = .returned (.tuple #[.agg #[.int .i64 id, .int .i64 fi, .int .i64 te, .int .i64 ht, .int .i64 hv, .int .i64 hc, .slice a l.length c], .bool true]) ∧ HasG w' a ⟨id, fi, te, ht, hv, hc, l⟩ ∧ Below (wr.alloc (.cells #[.int .i64 id, .int .i64 fi, .int .i64 te, .int .i64 ht, .int .i64 hv, .int .i64 hc, .slice xa l.length xc] 39)).heap.size (wr.alloc (.cells #[.int .i64 id, .int .i64 fi, .int .i64 te, .int .i64 ht, .int .i64 hv, .int .i64 hc, .slice xa l.length xc] 39)) w' from by
      have := ms_get ((HMT.out.below hB).below hBa) id hgi
      unfold getM at this
      rw [htk] at this
      exact this.mono fun e w' ⟨a, c, h1, h2, _, h3⟩ => ⟨a, c, h1, h2, h3⟩)
    have GS := Lib.hid (fun a c W' (h1 : HasG W' a ⟨id, fi, te, ht, hv, hc, l⟩) (h2 : HasG W' xa ⟨id, fi, te, ht, hv, hc, l⟩) => (show Gives Tryz.prog 12 #[.agg #[.int .i64 id, .int .i64 fi, .int .i64 te, .int .i64 ht, .int .i64 hv, .int .i64 hc, .slice a l.length c], .agg #[.int .i64 id, .int .i64 fi, .int .i64 te, .int .i64 ht, .int .i64 hv, .int .i64 hc, .slice xa l.length xc]] W' (.bool true) from by
      have := grpSame_any id fi te ht hv hc l a c id fi te ht hv hc l xa xc W' h1 h2
      simpa [sameG] using this))
    have HBK := Lib.hid hblk
    have HBa := Lib.hid hBa
    clear htk hgi hqt hBa hblk
    gi_wp2_with (first
      | (gi_at_call 11; refine (callsIn_wide.2 GG.out).mono ?_; rintro e w3 ⟨a3, c3, rfl, hG3, hB3⟩; have hA3 := bel_alloc (Below.refl w3.heap.size w3) (.cells #[.int .i64 id, .int .i64 fi, .int .i64 te, .int .i64 ht, .int .i64 hv, .int .i64 hc, .slice a3 l.length c3] 39); have hb3 := World.alloc_heap_new w3 (.cells #[.int .i64 id, .int .i64 fi, .int .i64 te, .int .i64 ht, .int .i64 hv, .int .i64 hc, .slice a3 l.length c3] 39); clear x0 x1 x2 x3 x4 x5 x6 ct; obtain ⟨y0, y1, y2, y3, y4, y5, y6, -⟩ := cells7 hb3; have hBX := bel2 HBa.out hB3; have hbx3 := (hA3.block _ (Nat.lt_of_lt_of_le (heap_lt HBK.out) hB3.size)).trans ((hB3.block _ (heap_lt HBK.out)).trans HBK.out); obtain ⟨x0, x1, x2, x3, x4, x5, x6, -⟩ := cells7 hbx3; have hG4 := hG3.below hA3; have hGX4 := HGX.out.below (bel2 hBX hA3); have HB4 := Lib.hid (hB.trans ((bel2 hBX hA3).mono hB.size)); clear hB3 hA3 hb3 hbx3 hBX hG3)
      | (gi_at_call 12; refine (callsIn_wide.2 (GS.out _ _ _ hG4 hGX4)).mono ?_; rintro e w5 ⟨rfl, hB5⟩; have HB5 := Lib.hid (HB4.out.trans (hB5.mono HB4.out.size))))
    go_roundw
    case rel => exact ⟨k + 1, by omega, by go_num, HB5.out⟩
    case measure => simp [intOf]; omega
  have hOk : k = glen := by omega
  subst k
  have hge : ¬ (glen : Int) < (glen : Int) := by omega
  have HBW := Lib.hid (HB2.out.trans (hB.mono HB2.out.size))
  have HBw := Lib.hid hB
  clear hB
  gi_wp2_with (gi_at_call 9; refine (callsIn_wide.2 (GP.out _ HBW.out)).mono ?_; rintro e w5 ⟨lb, rfl, hw5, hI5⟩; have HW5 := Lib.hid hw5; clear hw5; have HI5 := Lib.hid hI5; clear hI5)
  have hA5 := bel_alloc (bel_alloc (Below.refl wr.heap.size wr) (.cells #[.pointer (some ⟨d, 0, none⟩)] 23)) (.cells #[.slice la llen lcap] 25)
  rw [← HW5.out] at hA5
  have hB5 : Below W.heap.size W w5 := HBW.out.trans (hA5.mono HBW.out.size)
  have hB25 : Below w2.heap.size w2 w5 := HBw.out.trans (hA5.mono HBw.out.size)
  have q0 := (hB25.block _ (heap_lt HQ0.out)).trans HQ0.out
  have q1 := (hB25.block _ (heap_lt HQ1.out)).trans HQ1.out
  have qt := (hB25.block _ (heap_lt HQT.out)).trans HQT.out
  have hMT := HMT.out.below hB25
  have hlt1 := heap_lt q1
  have hs5 := hB5.size
  clear HW5 HBw HBW hA5 hB25
  refine range_outerW rfl (enters_of Tryz.func16 (by kernel_rfl) rfl) HI5.out (fun _ => rfl) ?hf
    (fun pre W' => (∀ i, i < pre.length → cutL L (M.map LC.L) i ≠ T) ∧ Below w5.heap.size w5 W')
    (fun c pre W' => c = .ret ∧ ∃ k : Nat, W'.heap[W.heap.size]? = some (.cells #[.int .i64 (k : Int)] 3 (0, 0)) ∧ W'.heap[W.heap.size + 1]? = some (.cells #[.bool true] 4 (0, 0)) ∧ fitP L T (M.map LC.L) (k : Int) true ∧ Below W.heap.size W W') (fun _ => (Stab.pure _).and (belowW_stab (w := w5) (W0 := w5) (Nat.le_refl _))) (fun _ _ => ?hix)
    ?hv ⟨(fun i hi => by cases hi), Below.refl _ _⟩ ?hr ?hd ?hs
  case hf => exact fun xs => Abides.ex fun c => (Abides.pure _).and ((Abides.pure _).and (MS.abides hs5))
  case hix => exact (Abides.pure _).and (Abides.ex fun k => Abides.cells.and (Abides.cells.and ((Abides.pure _).and (belowW_abides hs5))))
  case hv => exact fun s W1 hi k hk => hk.elim
  case hr =>
    rintro l0 pre x W1 hnx hl0 hi1 hrec
    obtain ⟨xk, xc⟩ := x
    obtain ⟨hx1, hx2, hx3, hxM⟩ := hnx
    dsimp only at hx1 hx2 hx3 hxM
    subst hx1
    have HNE := Lib.hid hi1.1
    have hBi := hi1.2
    clear hi1
    gi_wp2
    refine rdThenW_mk (fun W' => Below w5.heap.size w5 W' ∧ MS W xc (cutL L (M.map LC.L) pre.length) W') ((belowW_abides (Nat.le_refl _)).and (MS.abides hs5)) ⟨hBi, hxM⟩ (Rd.refl _ _ _) ?_
    clear hBi hxM hrec W1
    rintro W1 ⟨hB1, hMx⟩ hrec
    have ct : W1.cell? ⟨Tb, 0, none⟩ = some (.pointer (some ⟨t, 0, none⟩)) := cell_of_row _ _ 0 _ _ _ ((hB1.block _ (heap_lt qt)).trans qt)
    have GS := Lib.hid (ms_same hMx (hMT.below hB1) (manOK_mono (HOK.out pre.length (by have := HML.out; rw [List.length_map] at this; omega)) (by have := HML.out; have := HN5.out; rw [List.length_map] at *; omega)) HTK.out)
    unfold Gives at GS
    have HB1 := Lib.hid hB1
    clear hMx hB1
    by_cases he : cutL L (M.map LC.L) pre.length = T
    · rw [decide_eq_true he] at GS
      have HE := Lib.hid he
      clear he
      gi_wp2_with (gi_at_call 13; refine (callsIn_wide.2 GS.out).mono ?_; rintro e w6 ⟨rfl, hB6⟩; have hB56 := HB1.out.trans (hB6.mono HB1.out.size); have r0 := (hB56.block _ (heap_lt q0)).trans q0; have r1 := (hB56.block _ (heap_lt q1)).trans q1; have k0 : w6.cell? ⟨W.heap.size, 0, none⟩ = some (.int .i64 0) := cell_of_row _ _ 0 _ _ _ r0; have f0 := frozen_of_row _ W.heap.size 0 _ _ r0; have s0 := heap_setCell_same w6 W.heap.size 0 _ _ (.int .i64 (pre.length : Int)) r0; have s1 := (FrameT.setCell w6 W.heap.size 0 (.int .i64 (pre.length : Int))).get r1 (by omega); have k1 : (w6.setCell ⟨W.heap.size, 0, none⟩ (.int .i64 (pre.length : Int))).cell? ⟨W.heap.size + 1, 0, none⟩ = some (.bool false) := cell_of_row _ _ 0 _ _ _ s1; have f1 := frozen_of_row _ (W.heap.size + 1) 0 _ _ s1; have HS2 := Lib.hid (heap_setCell_same _ (W.heap.size + 1) 0 _ _ (.bool true) s1); have HS3 := Lib.hid ((FrameT.setCell (w6.setCell ⟨W.heap.size, 0, none⟩ (.int .i64 (pre.length : Int))) (W.heap.size + 1) 0 (.bool true)).get s0 (by omega)); have HRD := Lib.hid (show FrameT (fun k => k = W.heap.size ∨ k = W.heap.size + 1) W1 ((w6.setCell ⟨W.heap.size, 0, none⟩ (.int .i64 (pre.length : Int))).setCell ⟨W.heap.size + 1, 0, none⟩ (.bool true)) from (FrameT.below hB6).trans (((FrameT.setCell w6 W.heap.size 0 (.int .i64 (pre.length : Int))).mono (fun _ h => .inl h)).trans ((FrameT.setCell (w6.setCell ⟨W.heap.size, 0, none⟩ (.int .i64 (pre.length : Int))) (W.heap.size + 1) 0 (.bool true)).mono (fun _ h => .inr h)))); have HBz := Lib.hid (((hB5.trans (hB56.mono hs5)).setCell (p := ⟨W.heap.size, 0, none⟩) (Nat.le_refl _) (.int .i64 (pre.length : Int))).setCell (p := ⟨W.heap.size + 1, 0, none⟩) (by simp) (.bool true)); clear hB6 hB56 r0 r1 s0 s1)
      refine ⟨?_, rfl, pre.length, HS3.out, HS2.out, .inl ⟨rfl, pre.length, rfl, by have := HML.out; rw [List.length_map] at *; omega, HE.out, HNE.out⟩, HBz.out⟩
      exact ⟨HRD.out.os, HRD.out.tape, HRD.out.output, HRD.out.size, fun k o ho hc => HRD.out.get ho (by rcases hc with hc | hc; exact hc.elim; omega)⟩
    · rw [decide_eq_false he] at GS
      have HE := Lib.hid he
      clear he
      gi_wp2_with (gi_at_call 13; refine (callsIn_wide.2 GS.out).mono ?_; rintro e w6 ⟨rfl, hB6⟩; have HB6 := Lib.hid hB6; clear hB6)
      refine ⟨?_, fun i hi => ?_, HB1.out.trans (HB6.out.mono HB1.out.size)⟩
      · exact Rd.below (HB6.out)
      · rw [List.length_append, List.length_singleton] at hi
        by_cases e : i < pre.length
        · exact HNE.out i e
        · have : i = pre.length := by omega
          rw [this]; exact HE.out
  case hd =>
    rintro xs W1 ⟨c, rfl, hcC, hMc⟩ ⟨hne, hB1⟩ hD
    rw [List.length_map, List.length_range] at hne
    have HNE := Lib.hid (show ∀ k, k ≤ (M.map LC.L).length → cutL L (M.map LC.L) k ≠ T from fun k hk => hne k (by rw [List.length_map] at hk; omega))
    have r0 := (hB1.block _ (heap_lt q0)).trans q0
    have r1 := (hB1.block _ (heap_lt q1)).trans q1
    have k0 : W1.cell? ⟨W.heap.size, 0, none⟩ = some (.int .i64 0) := cell_of_row _ _ 0 _ _ _ r0
    have f0 := frozen_of_row _ W.heap.size 0 _ _ r0
    have s0 := heap_setCell_same W1 W.heap.size 0 _ _ (.int .i64 (-1)) r0
    have hF0 := FrameT.setCell W1 W.heap.size 0 (.int .i64 (-1))
    have s1 := hF0.get r1 (by omega)
    have k1 : (W1.setCell ⟨W.heap.size, 0, none⟩ (.int .i64 (-1))).cell? ⟨W.heap.size + 1, 0, none⟩ = some (.bool false) := cell_of_row _ _ 0 _ _ _ s1
    have f1 := frozen_of_row _ (W.heap.size + 1) 0 _ _ s1
    have hF1 := FrameT.setCell (W1.setCell ⟨W.heap.size, 0, none⟩ (.int .i64 (-1))) (W.heap.size + 1) 0 (.bool false)
    have HS2 := Lib.hid (heap_setCell_same _ (W.heap.size + 1) 0 _ _ (.bool false) s1)
    have HS3 := Lib.hid (hF1.get s0 (by omega))
    have HD3 := Lib.hid (hF1.get (hF0.get hD (by omega)) (by omega))
    have HBz := Lib.hid (((hB5.trans (hB1.mono hs5)).setCell (p := ⟨W.heap.size, 0, none⟩) (Nat.le_refl _) (.int .i64 (-1))).setCell (p := ⟨W.heap.size + 1, 0, none⟩) (by simp) (.bool false))
    clear hne hB1 hMc hD r0 r1 s0 s1 hF0 hF1
    gi_wp2
    refine leave_one HD3.out (v := .tuple #[.int .i64 (-1), .bool false]) ?_ ⟨_, _, rfl, .inr ⟨rfl, rfl, HNE.out⟩, belowW_abides_d HBz.out HD3.out hs5⟩
    have e0 := cell_putObj (o' := .deferred none) (cell_of_row _ _ 0 _ _ _ HS3.out) HD3.out rfl
    have e1 := cell_putObj (o' := .deferred none) (cell_of_row _ _ 0 _ _ _ HS2.out) HD3.out rfl
    simp [results, Tryz.results7, go_sem, e0, e1]
  case hs =>
    rintro c pre x W1 ⟨rfl, k, s0, s1, hfit, hBz⟩ hD
    have k0 : W1.cell? ⟨W.heap.size, 0, none⟩ = some (.int .i64 (k : Int)) := cell_of_row _ _ 0 _ _ _ s0
    have k1 : W1.cell? ⟨W.heap.size + 1, 0, none⟩ = some (.bool true) := cell_of_row _ _ 0 _ _ _ s1
    gi_wp2
    refine leave_one hD (v := .tuple #[.int .i64 (k : Int), .bool true]) ?_ ⟨_, _, rfl, hfit, belowW_abides_d hBz hD hs5⟩
    have e0 := cell_putObj (o' := .deferred none) k0 hD rfl
    have e1 := cell_putObj (o' := .deferred none) k1 hD rfl
    simp [results, Tryz.results7, go_sem, e0, e1]

end Go.Proofs.YthedmemkckclpaaGreat
