/- WrtW, WrtW2, WrtW3, WrtW4, WrtW5, WrtW6: in one text. -/
import Derived.Test.YtoieacmipejfeaaGreatDoorWrt
import Derived.Stop.RegionWithIn
/- Package writer: Write. Printed by gen_wrtw.py. -/
namespace Go.Proofs.YtoieacmipejfeaaGreatDoor
open Go.RowKit Go.Shelf
set_option linter.unusedVariables false
attribute [local go_sem] Oper.semAt_some wide_fn wide_round_fn

set_option maxRecDepth 100000 in
set_option maxHeartbeats 8000000 in
theorem wwrite_no {w W W0 : World} {d p n : Nat} {X : Nat → Prop} {M : WM} {D : PD} (h : WrX w d p X W0 M D W) (b : ByteArray) (hb : b.size = 0 ∨ 2084 < b.size) :
    Calls Tryz.prog 13 #[.pointer (some ⟨p, 0, none⟩), .string b] W fun e w' => e = .returned (.tuple #[.agg #[.int .i64 (wrtR M D b).2.2.1.1, .int .i64 (wrtR M D b).2.2.1.2], .int .i64 (wrtR M D b).2.2.2]) ∧ WrX w d p X W0 (wrtR M D b).1 (wrtR M D b).2.1 w' := by
  have hB1 := bel_alloc (Below.refl W.heap.size W) (.cells #[.int .i64 0, .int .i64 0] 40)
  have hX1 : WrX w d p (fun k => X k ∨ k = W.heap.size) (W.alloc (.cells #[.int .i64 0, .int .i64 0] 40)) M D (W.alloc (.cells #[.int .i64 0, .int .i64 0] 40)) := h.more hB1 ⟨Nat.le_refl _, by simp⟩
  have hq1 : (W.alloc (.cells #[.int .i64 0, .int .i64 0] 40)).heap[W.heap.size]? = some (.cells #[.int .i64 0, .int .i64 0] 40 (0, 0)) := World.alloc_heap_new W _
  have hwq : w.heap.size ≤ W.heap.size := h.toO.one.bel.size
  have hpq : p < W.heap.size := by obtain ⟨v, -, h2, -⟩ := h; exact (Array.getElem?_eq_some_iff.1 h2).1
  have HK := Lib.hid (fun (M' : WM) (D' : PD) (w' w'' : World) (h' : WrX w d p (fun k => X k ∨ k = W.heap.size) (W.alloc (.cells #[.int .i64 0, .int .i64 0] 40)) M' D' w') (hF : FrameT (fun k => k = W.heap.size) w' w'') => (h'.frame hF (.inr rfl) hwq (fun k hk => ⟨.inl hk, fun e => by have := h.lt hk; omega⟩) (fun k hk => (hB1.block k (h.lt hk)).trans (h.same hk)) : WrX w d p X W0 M' D' w''))
  have HQ := Lib.hid (fun (M' : WM) (D' : PD) (w' : World) (h' : WrX w d p (fun k => X k ∨ k = W.heap.size) (W.alloc (.cells #[.int .i64 0, .int .i64 0] 40)) M' D' w') => (h'.same (.inr rfl)).trans hq1)
  unfold wrtR
  rw [if_pos hb]
  have HX1 := Lib.hid hX1
  have HQ1 := Lib.hid hq1
  clear h hB1 hX1 hq1 hwq
  rcases hb with hb | hb
  · have hbe : b = ⟨#[]⟩ := ByteArray.ext (Array.eq_empty_of_size_eq_zero hb)
    subst hbe
    clear hb
    go_enter Tryz.func13, Tryz.ntmps13
    go_wp2
    have e0 := cell_of_row _ _ 0 _ _ _ HQ1.out
    have e1 := cell_of_row _ _ 1 _ _ _ HQ1.out
    refine bodyPost_ret (v := .tuple #[.agg #[.int .i64 0, .int .i64 0], .int .i64 11]) (by simp [results, Tryz.results13, go_sem, e0, e1]) rfl ⟨rfl, HK.out _ _ _ _ HX1.out ⟨rfl, rfl, rfl, Nat.le_refl _, fun _ _ _ => rfl⟩⟩
  · have hbn : (2084 : Int) < (b.size : Int) := by omega
    have hbe := nonE (show 0 < b.size by omega)
    clear hb
    go_enter Tryz.func13, Tryz.ntmps13
    go_wp2
    have e0 := cell_of_row _ _ 0 _ _ _ HQ1.out
    have e1 := cell_of_row _ _ 1 _ _ _ HQ1.out
    refine bodyPost_ret (v := .tuple #[.agg #[.int .i64 0, .int .i64 0], .int .i64 11]) (by simp [results, Tryz.results13, go_sem, e0, e1]) rfl ⟨rfl, HK.out _ _ _ _ HX1.out ⟨rfl, rfl, rfl, Nat.le_refl _, fun _ _ _ => rfl⟩⟩
set_option maxRecDepth 100000 in
set_option maxHeartbeats 8000000 in
theorem wwrite_D1 {w W W0 : World} {d p n : Nat} {X : Nat → Prop} {M : WM} {D : PD} (h : WrX w d p X W0 M D W) (b : ByteArray) (hf : Fit D n) (hn : n ≤ 600000) (hl : 0 < M.segs.length ∧ M.segs.length ≤ 1000) (hw : ∀ z ∈ M.segs ++ [lastW M + 1], (Lit.int .i64 z).wf = true) (hr : lastW M ≤ 99999999 ∧ 0 ≤ lastW M) (hz : 0 ≤ M.size ∧ M.size ≤ 1000000) (hb : 0 < b.size ∧ b.size ≤ 2084) (g1 : ¬ M.lim < M.size + b.size) (h1 : appendE D (nmW (lastW M)) b = 0) :
    Calls Tryz.prog 13 #[.pointer (some ⟨p, 0, none⟩), .string b] W fun e w' => e = .returned (.tuple #[.agg #[.int .i64 (wrtR M D b).2.2.1.1, .int .i64 (wrtR M D b).2.2.1.2], .int .i64 (wrtR M D b).2.2.2]) ∧ WrX w d p X W0 (wrtR M D b).1 (wrtR M D b).2.1 w' := by
  have hB1 := bel_alloc (Below.refl W.heap.size W) (.cells #[.int .i64 0, .int .i64 0] 40)
  have hX1 : WrX w d p (fun k => X k ∨ k = W.heap.size) (W.alloc (.cells #[.int .i64 0, .int .i64 0] 40)) M D (W.alloc (.cells #[.int .i64 0, .int .i64 0] 40)) := h.more hB1 ⟨Nat.le_refl _, by simp⟩
  have hq1 : (W.alloc (.cells #[.int .i64 0, .int .i64 0] 40)).heap[W.heap.size]? = some (.cells #[.int .i64 0, .int .i64 0] 40 (0, 0)) := World.alloc_heap_new W _
  have hwq : w.heap.size ≤ W.heap.size := h.toO.one.bel.size
  have hpq : p < W.heap.size := by obtain ⟨v, -, h2, -⟩ := h; exact (Array.getElem?_eq_some_iff.1 h2).1
  have HK := Lib.hid (fun (M' : WM) (D' : PD) (w' w'' : World) (h' : WrX w d p (fun k => X k ∨ k = W.heap.size) (W.alloc (.cells #[.int .i64 0, .int .i64 0] 40)) M' D' w') (hF : FrameT (fun k => k = W.heap.size) w' w'') => (h'.frame hF (.inr rfl) hwq (fun k hk => ⟨.inl hk, fun e => by have := h.lt hk; omega⟩) (fun k hk => (hB1.block k (h.lt hk)).trans (h.same hk)) : WrX w d p X W0 M' D' w''))
  have HQ := Lib.hid (fun (M' : WM) (D' : PD) (w' : World) (h' : WrX w d p (fun k => X k ∨ k = W.heap.size) (W.alloc (.cells #[.int .i64 0, .int .i64 0] 40)) M' D' w') => (h'.same (.inr rfl)).trans hq1)
  have hR : wrtR M D b = ({ M with size := M.size + b.size }, appendD D (nmW (lastW M)) b, (lastW M, M.size), 0) := by
    unfold wrtR
    simp only [if_neg (show ¬ (b.size = 0 ∨ 2084 < b.size) by omega), if_neg (show ¬ (M.lim < M.size + b.size ∧ 16 < M.size) from fun h => g1 h.1), h1, ne_eq, not_true_eq_false, if_false]
  rw [hR]
  clear hR
  obtain ⟨c0, c1, c3, f3⟩ := hX1.cells
  have c0d : (W.alloc (.cells #[.int .i64 0, .int .i64 0] 40)).drew.cell? ⟨p, 0, none⟩ = _ := c0
  have c1d : (W.alloc (.cells #[.int .i64 0, .int .i64 0] 40)).drew.cell? ⟨p, 1, none⟩ = _ := c1
  have c3d : (W.alloc (.cells #[.int .i64 0, .int .i64 0] 40)).drew.cell? ⟨p, 3, none⟩ = _ := c3
  have hbi : ¬ (2084 : Int) < (b.size : Int) := by omega
  have hbe := nonE (show 0 < b.size by omega)
  have HT := Lib.hid (show IntKind.i64.wrap (M.size + (b.size : Int)) = M.size + (b.size : Int) from IntWalk.i64_in _ (by omega))
  have HX1 := Lib.hid hX1
  have hl1 : 0 < M.segs.length ∧ M.segs.length < 1000000 := by omega
  have hz1 := hz
  have hf1 := hf
  have HT1 := Lib.hid (show IntKind.i64.wrap (M.size + (b.size : Int)) = M.size + (b.size : Int) from IntWalk.i64_in _ (by omega))
  have GF := Lib.hid (fun W' (h' : WrX w d p (fun k => X k ∨ k = W.heap.size) (W.alloc (.cells #[.int .i64 0, .int .i64 0] 40)) M D W') => wfile_any h'.toO hl1)
  have GA := Lib.hid (fun W' (h' : WrX w d p (fun k => X k ∨ k = W.heap.size) (W.alloc (.cells #[.int .i64 0, .int .i64 0] 40)) M D W') => wappendX h' hf1 (by omega) (nmW (lastW M)) b (nmW_size _) (by omega))
  have GC := Lib.hid (fun (D' : PD) W' (h' : WrX w d p (fun k => X k ∨ k = W.heap.size) (W.alloc (.cells #[.int .i64 0, .int .i64 0] 40)) M D' W') => (show Calls Tryz.prog 38 #[.pointer (some ⟨p, 0, none⟩)] W' fun e w' => e = .returned (.int .i64 (lastW M)) ∧ Below W'.heap.size W' w' from wactive_any h'.toO hl1))
  rw [h1] at GA
  clear h hB1 hX1 hq1 hwq hf hf1 hw hl1 hz1 hr h1
  generalize lastW M = lw at *
  generalize appendD D (nmW lw) b = D2 at *
  obtain ⟨T, hTT⟩ : ∃ T, M.size + (b.size : Int) = T := ⟨_, rfl⟩
  have hz9 : IntKind.i64.wrap (M.size + (b.size : Int)) = T := by rw [← hTT]; exact HT.out
  rw [hTT] at g1
  rw [hTT]
  have HZ8 := Lib.hid hz9
  have g3 : decide (M.lim < T) = false := decide_eq_false g1
  clear hTT g1
  go_enter Tryz.func13, Tryz.ntmps13
  go_wp2
  generalize (W.alloc (.cells #[.int .i64 0, .int .i64 0] 40)) = w1 at *
  go_quiet (fail)
  have HX2 := Lib.hid (HX1.out.below (hbel_drewN (Below.refl w1.heap.size w1) nq))
  clear c0 c1 c3 f3 c0d c1d c3d hz9 g3
  generalize w1.drewN nq = w2 at *
  obtain ⟨c0, -, -, -⟩ := HX2.out.cells
  have c0d : w2.drew.cell? ⟨p, 0, none⟩ = _ := c0
  have HX2d := Lib.hid (HX2.out.below (Below.refl w2.heap.size w2).drew)
  have GF2 := Lib.hid (GF.out _ HX2d.out)
  unfold Gives at GF2
  go_wp2
  go_region_with (first
    | (go_at_call 37; ((with_reducible refine GF2.out.mono ?_); rintro e w3 ⟨rfl, hB3⟩; have HX3 := Lib.hid (HX2d.out.below hB3); obtain ⟨k0, -, -, -⟩ := HX3.out.cells; clear hB3))
    | (go_at_call 30; ((with_reducible refine (GA.out _ HX3.out).mono ?_); rintro e w4 ⟨rfl, hX4⟩; have HX4 := Lib.hid hX4; clear hX4)))
  all_goals
    clear c0 c0d
    go_wp2
    have hz9 := HZ8.out
    obtain ⟨-, -, c3, f3⟩ := HX4.out.cells
    have hpr : p ≠ w4.heap.size := fun e => by have := HX4.out.toO.plt; omega
    have hpr2 : w4.heap.size ≠ p := fun e => hpr e.symm
    go_region_held3 (fun W' => W'.cell? ⟨p, 3, none⟩ = some (.int .i64 M.size)) (go_keep) (first
      | (go_at_call 38; ((with_reducible refine (GC.out D2 _ ?hh).mono ?_); (case hh => first | exact HX4.out.below (Below.refl _ _).drew | exact HX4.out.below (bel_alloc (Below.refl _ _) _).drew | exact HX4.out.below (bel_alloc (Below.refl _ _).drew _) | exact HX4.out.below (bel_alloc (Below.refl _ _) _)); rintro e w5 ⟨rfl, hB5⟩; have hX5 : Below w4.heap.size w4 w5 := (by first | exact bel2 (Below.refl _ _).drew hB5 | exact bel2 (bel_alloc (Below.refl _ _) _) hB5 | exact bel2 (bel_alloc (Below.refl _ _) _).drew hB5 | exact bel2 (bel_alloc (Below.refl _ _).drew _) hB5); have HX5 := Lib.hid (HX4.out.below hX5); obtain ⟨-, -, c35, f35⟩ := HX5.out.cells; try (have r0 : w5.heap[w4.heap.size]? = some (.cells #[.int .i64 0, .int .i64 0] 40 (0, 0)) := (by first | exact (hB5.block _ (by simp)).trans (World.alloc_heap_new w4 _) | exact (hB5.block _ (by simp)).trans (World.alloc_heap_new w4.drew _)); have e0 := cell_of_row _ _ 0 _ _ _ r0; have e1 := cell_of_row _ _ 1 _ _ _ r0; have q0 := frozen_of_row _ _ 0 _ _ r0; have q1 := frozen_of_row _ _ 1 _ _ r0))))
    all_goals first
      | (change Exit.then _ _ _ _ (w5.alloc (.cells #[.int .i64 lw, .int .i64 M.size] 40))
         have hBz : Below w4.heap.size w4 (w5.alloc (.cells #[.int .i64 lw, .int .i64 M.size] 40)) := hX5.alloc hX5.size _
         have hrz := World.alloc_heap_new w5 (.cells #[.int .i64 lw, .int .i64 M.size] 40)
         have hrl : w4.heap.size ≤ w5.heap.size := hX5.size
         generalize w5.alloc (.cells #[.int .i64 lw, .int .i64 M.size] 40) = wz at *
         generalize w5.heap.size = r at *)
      | (change Exit.then _ _ _ _ ((w5.setCell ⟨w4.heap.size, 0, none⟩ (.int .i64 lw)).setCell ⟨w4.heap.size, 1, none⟩ (.int .i64 M.size))
         have hFz : FrameT (fun k => k = w4.heap.size) w5 ((w5.setCell ⟨w4.heap.size, 0, none⟩ (.int .i64 lw)).setCell ⟨w4.heap.size, 1, none⟩ (.int .i64 M.size)) := (FrameT.setCell w5 w4.heap.size 0 (.int .i64 lw)).trans (FrameT.setCell _ w4.heap.size 1 (.int .i64 M.size))
         have hBz : Below w4.heap.size w4 ((w5.setCell ⟨w4.heap.size, 0, none⟩ (.int .i64 lw)).setCell ⟨w4.heap.size, 1, none⟩ (.int .i64 M.size)) := hX5.trans (hFz.toBelow hX5.size (fun k hk => by rw [hk]; exact Nat.le_refl _))
         have hrz := heap_setCell_same _ _ 1 _ _ (.int .i64 M.size) (heap_setCell_same _ _ 0 _ _ (.int .i64 lw) r0)
         have hrl : w4.heap.size ≤ w4.heap.size := Nat.le_refl _
         generalize (w5.setCell ⟨w4.heap.size, 0, none⟩ (.int .i64 lw)).setCell ⟨w4.heap.size, 1, none⟩ (.int .i64 M.size) = wz at *
         clear hFz r0 e0 e1 q0 q1
         obtain ⟨r, hre⟩ : ∃ r, r = w4.heap.size := ⟨_, rfl⟩
         rw [← hre] at hrz ⊢
         replace hrl : w4.heap.size ≤ r := by omega
         clear hre)
    all_goals
      have HXz := Lib.hid (HX4.out.below hBz)
      clear hX5 hBz hB5 c3 f3 c35 f35
      obtain ⟨-, -, c3, f3⟩ := HXz.out.cells
      have HXy := Lib.hid (HXz.out.sized T)
      have hrp : r ≠ p := fun e => by have := HX4.out.toO.plt; omega
      have hry := (heap_setCell_other wz ⟨p, 3, none⟩ r (.int .i64 T) hrp).trans hrz
      have a0 := cell_of_row _ _ 0 _ _ _ hry
      have a1 := cell_of_row _ _ 1 _ _ _ hry
      have hqy := HQ.out _ _ _ HXy.out
      have b0 := cell_of_row _ _ 0 _ _ _ hqy
      have b1 := cell_of_row _ _ 1 _ _ _ hqy
      have fb0 := frozen_of_row _ _ 0 _ _ hqy
      have fb1 := frozen_of_row _ _ 1 _ _ hqy
      have HQX := Lib.hid (heap_setCell_same _ _ 1 _ _ (.int .i64 M.size) (heap_setCell_same _ _ 0 _ _ (.int .i64 lw) hqy))
      clear hry hqy hrz
      go_wp2
      have v0 := cell_of_row _ _ 0 _ _ _ HQX.out
      have v1 := cell_of_row _ _ 1 _ _ _ HQX.out
      refine bodyPost_ret (v := .tuple #[.agg #[.int .i64 lw, .int .i64 M.size], .int .i64 0]) (by simp [results, Tryz.results13, go_sem, v0, v1]) rfl ⟨rfl, HK.out _ _ _ _ HXy.out ((FrameT.setCell _ W.heap.size 0 _).trans (FrameT.setCell _ W.heap.size 1 _))⟩

end Go.Proofs.YtoieacmipejfeaaGreatDoor

/- Package writer: Write. Printed by gen_wrtw.py. -/
namespace Go.Proofs.YtoieacmipejfeaaGreatDoor
open Go.RowKit Go.Shelf
set_option linter.unusedVariables false
attribute [local go_sem] Oper.semAt_some wide_fn wide_round_fn

set_option maxRecDepth 100000 in
set_option maxHeartbeats 8000000 in
theorem wwrite_D2 {w W W0 : World} {d p n : Nat} {X : Nat → Prop} {M : WM} {D : PD} (h : WrX w d p X W0 M D W) (b : ByteArray) (hf : Fit D n) (hn : n ≤ 600000) (hl : 0 < M.segs.length ∧ M.segs.length ≤ 1000) (hw : ∀ z ∈ M.segs ++ [lastW M + 1], (Lit.int .i64 z).wf = true) (hr : lastW M ≤ 99999999 ∧ 0 ≤ lastW M) (hz : 0 ≤ M.size ∧ M.size ≤ 1000000) (hb : 0 < b.size ∧ b.size ≤ 2084) (g1 : M.lim < M.size + b.size) (g2 : ¬ 16 < M.size) (h1 : appendE D (nmW (lastW M)) b = 0) :
    Calls Tryz.prog 13 #[.pointer (some ⟨p, 0, none⟩), .string b] W fun e w' => e = .returned (.tuple #[.agg #[.int .i64 (wrtR M D b).2.2.1.1, .int .i64 (wrtR M D b).2.2.1.2], .int .i64 (wrtR M D b).2.2.2]) ∧ WrX w d p X W0 (wrtR M D b).1 (wrtR M D b).2.1 w' := by
  have hB1 := bel_alloc (Below.refl W.heap.size W) (.cells #[.int .i64 0, .int .i64 0] 40)
  have hX1 : WrX w d p (fun k => X k ∨ k = W.heap.size) (W.alloc (.cells #[.int .i64 0, .int .i64 0] 40)) M D (W.alloc (.cells #[.int .i64 0, .int .i64 0] 40)) := h.more hB1 ⟨Nat.le_refl _, by simp⟩
  have hq1 : (W.alloc (.cells #[.int .i64 0, .int .i64 0] 40)).heap[W.heap.size]? = some (.cells #[.int .i64 0, .int .i64 0] 40 (0, 0)) := World.alloc_heap_new W _
  have hwq : w.heap.size ≤ W.heap.size := h.toO.one.bel.size
  have hpq : p < W.heap.size := by obtain ⟨v, -, h2, -⟩ := h; exact (Array.getElem?_eq_some_iff.1 h2).1
  have HK := Lib.hid (fun (M' : WM) (D' : PD) (w' w'' : World) (h' : WrX w d p (fun k => X k ∨ k = W.heap.size) (W.alloc (.cells #[.int .i64 0, .int .i64 0] 40)) M' D' w') (hF : FrameT (fun k => k = W.heap.size) w' w'') => (h'.frame hF (.inr rfl) hwq (fun k hk => ⟨.inl hk, fun e => by have := h.lt hk; omega⟩) (fun k hk => (hB1.block k (h.lt hk)).trans (h.same hk)) : WrX w d p X W0 M' D' w''))
  have HQ := Lib.hid (fun (M' : WM) (D' : PD) (w' : World) (h' : WrX w d p (fun k => X k ∨ k = W.heap.size) (W.alloc (.cells #[.int .i64 0, .int .i64 0] 40)) M' D' w') => (h'.same (.inr rfl)).trans hq1)
  have hR : wrtR M D b = ({ M with size := M.size + b.size }, appendD D (nmW (lastW M)) b, (lastW M, M.size), 0) := by
    unfold wrtR
    simp only [if_neg (show ¬ (b.size = 0 ∨ 2084 < b.size) by omega), if_neg (show ¬ (M.lim < M.size + b.size ∧ 16 < M.size) from fun h => g2 h.2), h1, ne_eq, not_true_eq_false, if_false]
  rw [hR]
  clear hR
  obtain ⟨c0, c1, c3, f3⟩ := hX1.cells
  have c0d : (W.alloc (.cells #[.int .i64 0, .int .i64 0] 40)).drew.cell? ⟨p, 0, none⟩ = _ := c0
  have c1d : (W.alloc (.cells #[.int .i64 0, .int .i64 0] 40)).drew.cell? ⟨p, 1, none⟩ = _ := c1
  have c3d : (W.alloc (.cells #[.int .i64 0, .int .i64 0] 40)).drew.cell? ⟨p, 3, none⟩ = _ := c3
  have hbi : ¬ (2084 : Int) < (b.size : Int) := by omega
  have hbe := nonE (show 0 < b.size by omega)
  have HT := Lib.hid (show IntKind.i64.wrap (M.size + (b.size : Int)) = M.size + (b.size : Int) from IntWalk.i64_in _ (by omega))
  have HX1 := Lib.hid hX1
  have hl1 : 0 < M.segs.length ∧ M.segs.length < 1000000 := by omega
  have hz1 := hz
  have hf1 := hf
  have HT1 := Lib.hid (show IntKind.i64.wrap (M.size + (b.size : Int)) = M.size + (b.size : Int) from IntWalk.i64_in _ (by omega))
  have GF := Lib.hid (fun W' (h' : WrX w d p (fun k => X k ∨ k = W.heap.size) (W.alloc (.cells #[.int .i64 0, .int .i64 0] 40)) M D W') => wfile_any h'.toO hl1)
  have GA := Lib.hid (fun W' (h' : WrX w d p (fun k => X k ∨ k = W.heap.size) (W.alloc (.cells #[.int .i64 0, .int .i64 0] 40)) M D W') => wappendX h' hf1 (by omega) (nmW (lastW M)) b (nmW_size _) (by omega))
  have GC := Lib.hid (fun (D' : PD) W' (h' : WrX w d p (fun k => X k ∨ k = W.heap.size) (W.alloc (.cells #[.int .i64 0, .int .i64 0] 40)) M D' W') => (show Calls Tryz.prog 38 #[.pointer (some ⟨p, 0, none⟩)] W' fun e w' => e = .returned (.int .i64 (lastW M)) ∧ Below W'.heap.size W' w' from wactive_any h'.toO hl1))
  rw [h1] at GA
  clear h hB1 hX1 hq1 hwq hf hf1 hw hl1 hz1 hr h1
  generalize lastW M = lw at *
  generalize appendD D (nmW lw) b = D2 at *
  obtain ⟨T, hTT⟩ : ∃ T, M.size + (b.size : Int) = T := ⟨_, rfl⟩
  have hz9 : IntKind.i64.wrap (M.size + (b.size : Int)) = T := by rw [← hTT]; exact HT.out
  rw [hTT] at g1
  rw [hTT]
  have HZ8 := Lib.hid hz9
  have g3 : decide (M.lim < T) = true := decide_eq_true g1
  have g4 : decide (16 < M.size) = false := decide_eq_false g2
  clear hTT g1 g2
  go_enter Tryz.func13, Tryz.ntmps13
  go_wp2
  generalize (W.alloc (.cells #[.int .i64 0, .int .i64 0] 40)) = w1 at *
  go_quiet (fail)
  have HX2 := Lib.hid (HX1.out.below (hbel_drewN (Below.refl w1.heap.size w1) nq))
  clear c0 c1 c3 f3 c0d c1d c3d hz9 g3 g4
  generalize w1.drewN nq = w2 at *
  obtain ⟨c0, -, -, -⟩ := HX2.out.cells
  have c0d : w2.drew.cell? ⟨p, 0, none⟩ = _ := c0
  have HX2d := Lib.hid (HX2.out.below (Below.refl w2.heap.size w2).drew)
  have GF2 := Lib.hid (GF.out _ HX2d.out)
  unfold Gives at GF2
  go_wp2
  go_region_with (first
    | (go_at_call 37; ((with_reducible refine GF2.out.mono ?_); rintro e w3 ⟨rfl, hB3⟩; have HX3 := Lib.hid (HX2d.out.below hB3); obtain ⟨k0, -, -, -⟩ := HX3.out.cells; clear hB3))
    | (go_at_call 30; ((with_reducible refine (GA.out _ HX3.out).mono ?_); rintro e w4 ⟨rfl, hX4⟩; have HX4 := Lib.hid hX4; clear hX4)))
  all_goals
    clear c0 c0d
    go_wp2
    have hz9 := HZ8.out
    obtain ⟨-, -, c3, f3⟩ := HX4.out.cells
    have hpr : p ≠ w4.heap.size := fun e => by have := HX4.out.toO.plt; omega
    have hpr2 : w4.heap.size ≠ p := fun e => hpr e.symm
    go_region_held3 (fun W' => W'.cell? ⟨p, 3, none⟩ = some (.int .i64 M.size)) (go_keep) (first
      | (go_at_call 38; ((with_reducible refine (GC.out D2 _ ?hh).mono ?_); (case hh => first | exact HX4.out.below (Below.refl _ _).drew | exact HX4.out.below (bel_alloc (Below.refl _ _) _).drew | exact HX4.out.below (bel_alloc (Below.refl _ _).drew _) | exact HX4.out.below (bel_alloc (Below.refl _ _) _)); rintro e w5 ⟨rfl, hB5⟩; have hX5 : Below w4.heap.size w4 w5 := (by first | exact bel2 (Below.refl _ _).drew hB5 | exact bel2 (bel_alloc (Below.refl _ _) _) hB5 | exact bel2 (bel_alloc (Below.refl _ _) _).drew hB5 | exact bel2 (bel_alloc (Below.refl _ _).drew _) hB5); have HX5 := Lib.hid (HX4.out.below hX5); obtain ⟨-, -, c35, f35⟩ := HX5.out.cells; try (have r0 : w5.heap[w4.heap.size]? = some (.cells #[.int .i64 0, .int .i64 0] 40 (0, 0)) := (by first | exact (hB5.block _ (by simp)).trans (World.alloc_heap_new w4 _) | exact (hB5.block _ (by simp)).trans (World.alloc_heap_new w4.drew _)); have e0 := cell_of_row _ _ 0 _ _ _ r0; have e1 := cell_of_row _ _ 1 _ _ _ r0; have q0 := frozen_of_row _ _ 0 _ _ r0; have q1 := frozen_of_row _ _ 1 _ _ r0))))
    all_goals first
      | (change Exit.then _ _ _ _ (w5.alloc (.cells #[.int .i64 lw, .int .i64 M.size] 40))
         have hBz : Below w4.heap.size w4 (w5.alloc (.cells #[.int .i64 lw, .int .i64 M.size] 40)) := hX5.alloc hX5.size _
         have hrz := World.alloc_heap_new w5 (.cells #[.int .i64 lw, .int .i64 M.size] 40)
         have hrl : w4.heap.size ≤ w5.heap.size := hX5.size
         generalize w5.alloc (.cells #[.int .i64 lw, .int .i64 M.size] 40) = wz at *
         generalize w5.heap.size = r at *)
      | (change Exit.then _ _ _ _ ((w5.setCell ⟨w4.heap.size, 0, none⟩ (.int .i64 lw)).setCell ⟨w4.heap.size, 1, none⟩ (.int .i64 M.size))
         have hFz : FrameT (fun k => k = w4.heap.size) w5 ((w5.setCell ⟨w4.heap.size, 0, none⟩ (.int .i64 lw)).setCell ⟨w4.heap.size, 1, none⟩ (.int .i64 M.size)) := (FrameT.setCell w5 w4.heap.size 0 (.int .i64 lw)).trans (FrameT.setCell _ w4.heap.size 1 (.int .i64 M.size))
         have hBz : Below w4.heap.size w4 ((w5.setCell ⟨w4.heap.size, 0, none⟩ (.int .i64 lw)).setCell ⟨w4.heap.size, 1, none⟩ (.int .i64 M.size)) := hX5.trans (hFz.toBelow hX5.size (fun k hk => by rw [hk]; exact Nat.le_refl _))
         have hrz := heap_setCell_same _ _ 1 _ _ (.int .i64 M.size) (heap_setCell_same _ _ 0 _ _ (.int .i64 lw) r0)
         have hrl : w4.heap.size ≤ w4.heap.size := Nat.le_refl _
         generalize (w5.setCell ⟨w4.heap.size, 0, none⟩ (.int .i64 lw)).setCell ⟨w4.heap.size, 1, none⟩ (.int .i64 M.size) = wz at *
         clear hFz r0 e0 e1 q0 q1
         obtain ⟨r, hre⟩ : ∃ r, r = w4.heap.size := ⟨_, rfl⟩
         rw [← hre] at hrz ⊢
         replace hrl : w4.heap.size ≤ r := by omega
         clear hre)
    all_goals
      have HXz := Lib.hid (HX4.out.below hBz)
      clear hX5 hBz hB5 c3 f3 c35 f35
      obtain ⟨-, -, c3, f3⟩ := HXz.out.cells
      have HXy := Lib.hid (HXz.out.sized T)
      have hrp : r ≠ p := fun e => by have := HX4.out.toO.plt; omega
      have hry := (heap_setCell_other wz ⟨p, 3, none⟩ r (.int .i64 T) hrp).trans hrz
      have a0 := cell_of_row _ _ 0 _ _ _ hry
      have a1 := cell_of_row _ _ 1 _ _ _ hry
      have hqy := HQ.out _ _ _ HXy.out
      have b0 := cell_of_row _ _ 0 _ _ _ hqy
      have b1 := cell_of_row _ _ 1 _ _ _ hqy
      have fb0 := frozen_of_row _ _ 0 _ _ hqy
      have fb1 := frozen_of_row _ _ 1 _ _ hqy
      have HQX := Lib.hid (heap_setCell_same _ _ 1 _ _ (.int .i64 M.size) (heap_setCell_same _ _ 0 _ _ (.int .i64 lw) hqy))
      clear hry hqy hrz
      go_wp2
      have v0 := cell_of_row _ _ 0 _ _ _ HQX.out
      have v1 := cell_of_row _ _ 1 _ _ _ HQX.out
      refine bodyPost_ret (v := .tuple #[.agg #[.int .i64 lw, .int .i64 M.size], .int .i64 0]) (by simp [results, Tryz.results13, go_sem, v0, v1]) rfl ⟨rfl, HK.out _ _ _ _ HXy.out ((FrameT.setCell _ W.heap.size 0 _).trans (FrameT.setCell _ W.heap.size 1 _))⟩

end Go.Proofs.YtoieacmipejfeaaGreatDoor

/- Package writer: Write. Printed by gen_wrtw.py. -/
namespace Go.Proofs.YtoieacmipejfeaaGreatDoor
open Go.RowKit Go.Shelf
set_option linter.unusedVariables false
attribute [local go_sem] Oper.semAt_some wide_fn wide_round_fn

set_option maxRecDepth 100000 in
set_option maxHeartbeats 8000000 in
theorem wwrite_D3 {w W W0 : World} {d p n : Nat} {X : Nat → Prop} {M : WM} {D : PD} (h : WrX w d p X W0 M D W) (b : ByteArray) (hf : Fit D n) (hn : n ≤ 600000) (hl : 0 < M.segs.length ∧ M.segs.length ≤ 1000) (hw : ∀ z ∈ M.segs ++ [lastW M + 1], (Lit.int .i64 z).wf = true) (hr : lastW M ≤ 99999999 ∧ 0 ≤ lastW M) (hz : 0 ≤ M.size ∧ M.size ≤ 1000000) (hb : 0 < b.size ∧ b.size ≤ 2084) (g1 : M.lim < M.size + b.size) (g2 : 16 < M.size) (M1 : WM) (D1 : PD) (e9 : Int) (hN : nextR M D = (M1, D1, e9)) (h9 : e9 = 0) (h1 : appendE D1 (nmW (lastW M1)) b = 0) :
    Calls Tryz.prog 13 #[.pointer (some ⟨p, 0, none⟩), .string b] W fun e w' => e = .returned (.tuple #[.agg #[.int .i64 (wrtR M D b).2.2.1.1, .int .i64 (wrtR M D b).2.2.1.2], .int .i64 (wrtR M D b).2.2.2]) ∧ WrX w d p X W0 (wrtR M D b).1 (wrtR M D b).2.1 w' := by
  have hB1 := bel_alloc (Below.refl W.heap.size W) (.cells #[.int .i64 0, .int .i64 0] 40)
  have hX1 : WrX w d p (fun k => X k ∨ k = W.heap.size) (W.alloc (.cells #[.int .i64 0, .int .i64 0] 40)) M D (W.alloc (.cells #[.int .i64 0, .int .i64 0] 40)) := h.more hB1 ⟨Nat.le_refl _, by simp⟩
  have hq1 : (W.alloc (.cells #[.int .i64 0, .int .i64 0] 40)).heap[W.heap.size]? = some (.cells #[.int .i64 0, .int .i64 0] 40 (0, 0)) := World.alloc_heap_new W _
  have hwq : w.heap.size ≤ W.heap.size := h.toO.one.bel.size
  have hpq : p < W.heap.size := by obtain ⟨v, -, h2, -⟩ := h; exact (Array.getElem?_eq_some_iff.1 h2).1
  have HK := Lib.hid (fun (M' : WM) (D' : PD) (w' w'' : World) (h' : WrX w d p (fun k => X k ∨ k = W.heap.size) (W.alloc (.cells #[.int .i64 0, .int .i64 0] 40)) M' D' w') (hF : FrameT (fun k => k = W.heap.size) w' w'') => (h'.frame hF (.inr rfl) hwq (fun k hk => ⟨.inl hk, fun e => by have := h.lt hk; omega⟩) (fun k hk => (hB1.block k (h.lt hk)).trans (h.same hk)) : WrX w d p X W0 M' D' w''))
  have HQ := Lib.hid (fun (M' : WM) (D' : PD) (w' : World) (h' : WrX w d p (fun k => X k ∨ k = W.heap.size) (W.alloc (.cells #[.int .i64 0, .int .i64 0] 40)) M' D' w') => (h'.same (.inr rfl)).trans hq1)
  subst h9
  have hR : wrtR M D b = ({ M1 with size := M1.size + b.size }, appendD D1 (nmW (lastW M1)) b, (lastW M1, M1.size), 0) := by
    unfold wrtR
    simp only [if_neg (show ¬ (b.size = 0 ∨ 2084 < b.size) by omega), if_pos (show M.lim < M.size + b.size ∧ 16 < M.size from ⟨g1, g2⟩), hN, h1, ne_eq, not_true_eq_false, if_false]
  rw [hR]
  clear hR
  obtain ⟨c0, c1, c3, f3⟩ := hX1.cells
  have c0d : (W.alloc (.cells #[.int .i64 0, .int .i64 0] 40)).drew.cell? ⟨p, 0, none⟩ = _ := c0
  have c1d : (W.alloc (.cells #[.int .i64 0, .int .i64 0] 40)).drew.cell? ⟨p, 1, none⟩ = _ := c1
  have c3d : (W.alloc (.cells #[.int .i64 0, .int .i64 0] 40)).drew.cell? ⟨p, 3, none⟩ = _ := c3
  have hbi : ¬ (2084 : Int) < (b.size : Int) := by omega
  have hbe := nonE (show 0 < b.size by omega)
  have HT := Lib.hid (show IntKind.i64.wrap (M.size + (b.size : Int)) = M.size + (b.size : Int) from IntWalk.i64_in _ (by omega))
  have HX1 := Lib.hid hX1
  have GX := Lib.hid (fun W' (h' : WrX w d p (fun k => X k ∨ k = W.heap.size) (W.alloc (.cells #[.int .i64 0, .int .i64 0] 40)) M D W') => wnext_any h' hf (by omega) hl hw hr)
  have hl1 : 0 < M1.segs.length ∧ M1.segs.length < 1000000 := by
    rcases next_cases M D with e | e
    · rw [hN] at e; dsimp only at e; rw [e]; omega
    · rw [hN] at e; dsimp only at e; rw [e]; simp; omega
  have hz1 : 0 ≤ M1.size ∧ M1.size ≤ 1000000 := by
    rcases next_cases M D with e | e
    · rw [hN] at e; dsimp only at e; rw [e]; omega
    · rw [hN] at e; dsimp only at e; rw [e]; dsimp only; omega
  have hf1 : Fit D1 (n + 11) := by have := fit_next hf (ris_names h.toO.ris) M; rwa [hN] at this
  rw [hN] at GX
  have HT1 := Lib.hid (show IntKind.i64.wrap (M1.size + (b.size : Int)) = M1.size + (b.size : Int) from IntWalk.i64_in _ (by omega))
  have GF := Lib.hid (fun W' (h' : WrX w d p (fun k => X k ∨ k = W.heap.size) (W.alloc (.cells #[.int .i64 0, .int .i64 0] 40)) M1 D1 W') => wfile_any h'.toO hl1)
  have GA := Lib.hid (fun W' (h' : WrX w d p (fun k => X k ∨ k = W.heap.size) (W.alloc (.cells #[.int .i64 0, .int .i64 0] 40)) M1 D1 W') => wappendX h' hf1 (by omega) (nmW (lastW M1)) b (nmW_size _) (by omega))
  have GC := Lib.hid (fun (D' : PD) W' (h' : WrX w d p (fun k => X k ∨ k = W.heap.size) (W.alloc (.cells #[.int .i64 0, .int .i64 0] 40)) M1 D' W') => (show Calls Tryz.prog 38 #[.pointer (some ⟨p, 0, none⟩)] W' fun e w' => e = .returned (.int .i64 (lastW M1)) ∧ Below W'.heap.size W' w' from wactive_any h'.toO hl1))
  rw [h1] at GA
  clear h hB1 hX1 hq1 hwq hf hf1 hw hl1 hz1 hN hr h1
  generalize lastW M1 = lw at *
  generalize appendD D1 (nmW lw) b = D2 at *
  obtain ⟨T, hTT⟩ : ∃ T, M.size + (b.size : Int) = T := ⟨_, rfl⟩
  have hz9 : IntKind.i64.wrap (M.size + (b.size : Int)) = T := by rw [← hTT]; exact HT.out
  rw [hTT] at g1
  obtain ⟨T1, hTT1⟩ : ∃ T, M1.size + (b.size : Int) = T := ⟨_, rfl⟩
  have hz8 : IntKind.i64.wrap (M1.size + (b.size : Int)) = T1 := by rw [← hTT1]; exact HT1.out
  rw [hTT1]
  have HZ8 := Lib.hid hz8
  clear hz8 hTT1
  have g3 : decide (M.lim < T) = true := decide_eq_true g1
  have g4 : decide (16 < M.size) = true := decide_eq_true g2
  clear hTT g1 g2
  go_enter Tryz.func13, Tryz.ntmps13
  go_wp2
  generalize (W.alloc (.cells #[.int .i64 0, .int .i64 0] 40)) = w1 at *
  go_quiet (fail)
  have HX2a := Lib.hid (HX1.out.below (hbel_drewN (Below.refl w1.heap.size w1) nq))
  clear c0 c1 c3 f3 c0d c1d c3d hz9 g3 g4
  generalize w1.drewN nq = w2a at *
  go_wp2_with (go_at_call 36; ((with_reducible refine (GX.out _ HX2a.out).mono ?_); rintro e w2 ⟨rfl, hX2⟩; have HX2 := Lib.hid hX2; clear hX2))
  clear HX2a
  obtain ⟨c0, -, -, -⟩ := HX2.out.cells
  have c0d : w2.drew.cell? ⟨p, 0, none⟩ = _ := c0
  have HX2d := Lib.hid (HX2.out.below (Below.refl w2.heap.size w2).drew)
  have GF2 := Lib.hid (GF.out _ HX2d.out)
  unfold Gives at GF2
  go_wp2
  go_region_with (first
    | (go_at_call 37; ((with_reducible refine GF2.out.mono ?_); rintro e w3 ⟨rfl, hB3⟩; have HX3 := Lib.hid (HX2d.out.below hB3); obtain ⟨k0, -, -, -⟩ := HX3.out.cells; clear hB3))
    | (go_at_call 30; ((with_reducible refine (GA.out _ HX3.out).mono ?_); rintro e w4 ⟨rfl, hX4⟩; have HX4 := Lib.hid hX4; clear hX4)))
  all_goals
    clear c0 c0d
    go_wp2
    have hz9 := HZ8.out
    obtain ⟨-, -, c3, f3⟩ := HX4.out.cells
    have hpr : p ≠ w4.heap.size := fun e => by have := HX4.out.toO.plt; omega
    have hpr2 : w4.heap.size ≠ p := fun e => hpr e.symm
    go_region_held3 (fun W' => W'.cell? ⟨p, 3, none⟩ = some (.int .i64 M1.size)) (go_keep) (first
      | (go_at_call 38; ((with_reducible refine (GC.out D2 _ ?hh).mono ?_); (case hh => first | exact HX4.out.below (Below.refl _ _).drew | exact HX4.out.below (bel_alloc (Below.refl _ _) _).drew | exact HX4.out.below (bel_alloc (Below.refl _ _).drew _) | exact HX4.out.below (bel_alloc (Below.refl _ _) _)); rintro e w5 ⟨rfl, hB5⟩; have hX5 : Below w4.heap.size w4 w5 := (by first | exact bel2 (Below.refl _ _).drew hB5 | exact bel2 (bel_alloc (Below.refl _ _) _) hB5 | exact bel2 (bel_alloc (Below.refl _ _) _).drew hB5 | exact bel2 (bel_alloc (Below.refl _ _).drew _) hB5); have HX5 := Lib.hid (HX4.out.below hX5); obtain ⟨-, -, c35, f35⟩ := HX5.out.cells; try (have r0 : w5.heap[w4.heap.size]? = some (.cells #[.int .i64 0, .int .i64 0] 40 (0, 0)) := (by first | exact (hB5.block _ (by simp)).trans (World.alloc_heap_new w4 _) | exact (hB5.block _ (by simp)).trans (World.alloc_heap_new w4.drew _)); have e0 := cell_of_row _ _ 0 _ _ _ r0; have e1 := cell_of_row _ _ 1 _ _ _ r0; have q0 := frozen_of_row _ _ 0 _ _ r0; have q1 := frozen_of_row _ _ 1 _ _ r0))))
    all_goals first
      | (change Exit.then _ _ _ _ (w5.alloc (.cells #[.int .i64 lw, .int .i64 M1.size] 40))
         have hBz : Below w4.heap.size w4 (w5.alloc (.cells #[.int .i64 lw, .int .i64 M1.size] 40)) := hX5.alloc hX5.size _
         have hrz := World.alloc_heap_new w5 (.cells #[.int .i64 lw, .int .i64 M1.size] 40)
         have hrl : w4.heap.size ≤ w5.heap.size := hX5.size
         generalize w5.alloc (.cells #[.int .i64 lw, .int .i64 M1.size] 40) = wz at *
         generalize w5.heap.size = r at *)
      | (change Exit.then _ _ _ _ ((w5.setCell ⟨w4.heap.size, 0, none⟩ (.int .i64 lw)).setCell ⟨w4.heap.size, 1, none⟩ (.int .i64 M1.size))
         have hFz : FrameT (fun k => k = w4.heap.size) w5 ((w5.setCell ⟨w4.heap.size, 0, none⟩ (.int .i64 lw)).setCell ⟨w4.heap.size, 1, none⟩ (.int .i64 M1.size)) := (FrameT.setCell w5 w4.heap.size 0 (.int .i64 lw)).trans (FrameT.setCell _ w4.heap.size 1 (.int .i64 M1.size))
         have hBz : Below w4.heap.size w4 ((w5.setCell ⟨w4.heap.size, 0, none⟩ (.int .i64 lw)).setCell ⟨w4.heap.size, 1, none⟩ (.int .i64 M1.size)) := hX5.trans (hFz.toBelow hX5.size (fun k hk => by rw [hk]; exact Nat.le_refl _))
         have hrz := heap_setCell_same _ _ 1 _ _ (.int .i64 M1.size) (heap_setCell_same _ _ 0 _ _ (.int .i64 lw) r0)
         have hrl : w4.heap.size ≤ w4.heap.size := Nat.le_refl _
         generalize (w5.setCell ⟨w4.heap.size, 0, none⟩ (.int .i64 lw)).setCell ⟨w4.heap.size, 1, none⟩ (.int .i64 M1.size) = wz at *
         clear hFz r0 e0 e1 q0 q1
         obtain ⟨r, hre⟩ : ∃ r, r = w4.heap.size := ⟨_, rfl⟩
         rw [← hre] at hrz ⊢
         replace hrl : w4.heap.size ≤ r := by omega
         clear hre)
    all_goals
      have HXz := Lib.hid (HX4.out.below hBz)
      clear hX5 hBz hB5 c3 f3 c35 f35
      obtain ⟨-, -, c3, f3⟩ := HXz.out.cells
      have HXy := Lib.hid (HXz.out.sized T1)
      have hrp : r ≠ p := fun e => by have := HX4.out.toO.plt; omega
      have hry := (heap_setCell_other wz ⟨p, 3, none⟩ r (.int .i64 T1) hrp).trans hrz
      have a0 := cell_of_row _ _ 0 _ _ _ hry
      have a1 := cell_of_row _ _ 1 _ _ _ hry
      have hqy := HQ.out _ _ _ HXy.out
      have b0 := cell_of_row _ _ 0 _ _ _ hqy
      have b1 := cell_of_row _ _ 1 _ _ _ hqy
      have fb0 := frozen_of_row _ _ 0 _ _ hqy
      have fb1 := frozen_of_row _ _ 1 _ _ hqy
      have HQX := Lib.hid (heap_setCell_same _ _ 1 _ _ (.int .i64 M1.size) (heap_setCell_same _ _ 0 _ _ (.int .i64 lw) hqy))
      clear hry hqy hrz
      go_wp2
      have v0 := cell_of_row _ _ 0 _ _ _ HQX.out
      have v1 := cell_of_row _ _ 1 _ _ _ HQX.out
      refine bodyPost_ret (v := .tuple #[.agg #[.int .i64 lw, .int .i64 M1.size], .int .i64 0]) (by simp [results, Tryz.results13, go_sem, v0, v1]) rfl ⟨rfl, HK.out _ _ _ _ HXy.out ((FrameT.setCell _ W.heap.size 0 _).trans (FrameT.setCell _ W.heap.size 1 _))⟩

end Go.Proofs.YtoieacmipejfeaaGreatDoor

/- Package writer: Write. Printed by gen_wrtw.py. -/
namespace Go.Proofs.YtoieacmipejfeaaGreatDoor
open Go.RowKit Go.Shelf
set_option linter.unusedVariables false
attribute [local go_sem] Oper.semAt_some wide_fn wide_round_fn

set_option maxRecDepth 100000 in
set_option maxHeartbeats 8000000 in
theorem wwrite_C1 {w W W0 : World} {d p n : Nat} {X : Nat → Prop} {M : WM} {D : PD} (h : WrX w d p X W0 M D W) (b : ByteArray) (hf : Fit D n) (hn : n ≤ 600000) (hl : 0 < M.segs.length ∧ M.segs.length ≤ 1000) (hw : ∀ z ∈ M.segs ++ [lastW M + 1], (Lit.int .i64 z).wf = true) (hr : lastW M ≤ 99999999 ∧ 0 ≤ lastW M) (hz : 0 ≤ M.size ∧ M.size ≤ 1000000) (hb : 0 < b.size ∧ b.size ≤ 2084) (g1 : ¬ M.lim < M.size + b.size) (h1 : ¬ appendE D (nmW (lastW M)) b = 0) :
    Calls Tryz.prog 13 #[.pointer (some ⟨p, 0, none⟩), .string b] W fun e w' => e = .returned (.tuple #[.agg #[.int .i64 (wrtR M D b).2.2.1.1, .int .i64 (wrtR M D b).2.2.1.2], .int .i64 (wrtR M D b).2.2.2]) ∧ WrX w d p X W0 (wrtR M D b).1 (wrtR M D b).2.1 w' := by
  have hB1 := bel_alloc (Below.refl W.heap.size W) (.cells #[.int .i64 0, .int .i64 0] 40)
  have hX1 : WrX w d p (fun k => X k ∨ k = W.heap.size) (W.alloc (.cells #[.int .i64 0, .int .i64 0] 40)) M D (W.alloc (.cells #[.int .i64 0, .int .i64 0] 40)) := h.more hB1 ⟨Nat.le_refl _, by simp⟩
  have hq1 : (W.alloc (.cells #[.int .i64 0, .int .i64 0] 40)).heap[W.heap.size]? = some (.cells #[.int .i64 0, .int .i64 0] 40 (0, 0)) := World.alloc_heap_new W _
  have hwq : w.heap.size ≤ W.heap.size := h.toO.one.bel.size
  have hpq : p < W.heap.size := by obtain ⟨v, -, h2, -⟩ := h; exact (Array.getElem?_eq_some_iff.1 h2).1
  have HK := Lib.hid (fun (M' : WM) (D' : PD) (w' w'' : World) (h' : WrX w d p (fun k => X k ∨ k = W.heap.size) (W.alloc (.cells #[.int .i64 0, .int .i64 0] 40)) M' D' w') (hF : FrameT (fun k => k = W.heap.size) w' w'') => (h'.frame hF (.inr rfl) hwq (fun k hk => ⟨.inl hk, fun e => by have := h.lt hk; omega⟩) (fun k hk => (hB1.block k (h.lt hk)).trans (h.same hk)) : WrX w d p X W0 M' D' w''))
  have HQ := Lib.hid (fun (M' : WM) (D' : PD) (w' : World) (h' : WrX w d p (fun k => X k ∨ k = W.heap.size) (W.alloc (.cells #[.int .i64 0, .int .i64 0] 40)) M' D' w') => (h'.same (.inr rfl)).trans hq1)
  have hR : wrtR M D b = (M, appendD D (nmW (lastW M)) b, (0, 0), appendE D (nmW (lastW M)) b) := by
    unfold wrtR
    simp only [if_neg (show ¬ (b.size = 0 ∨ 2084 < b.size) by omega), if_neg (show ¬ (M.lim < M.size + b.size ∧ 16 < M.size) from fun h => g1 h.1), ne_eq, h1, not_true_eq_false, if_false, not_false_eq_true, if_true]
  rw [hR]
  clear hR
  obtain ⟨c0, c1, c3, f3⟩ := hX1.cells
  have c0d : (W.alloc (.cells #[.int .i64 0, .int .i64 0] 40)).drew.cell? ⟨p, 0, none⟩ = _ := c0
  have c1d : (W.alloc (.cells #[.int .i64 0, .int .i64 0] 40)).drew.cell? ⟨p, 1, none⟩ = _ := c1
  have c3d : (W.alloc (.cells #[.int .i64 0, .int .i64 0] 40)).drew.cell? ⟨p, 3, none⟩ = _ := c3
  have hbi : ¬ (2084 : Int) < (b.size : Int) := by omega
  have hbe := nonE (show 0 < b.size by omega)
  have HT := Lib.hid (show IntKind.i64.wrap (M.size + (b.size : Int)) = M.size + (b.size : Int) from IntWalk.i64_in _ (by omega))
  have HX1 := Lib.hid hX1
  have hl1 : 0 < M.segs.length ∧ M.segs.length < 1000000 := by omega
  have hz1 := hz
  have hf1 := hf
  have HT1 := Lib.hid (show IntKind.i64.wrap (M.size + (b.size : Int)) = M.size + (b.size : Int) from IntWalk.i64_in _ (by omega))
  have GF := Lib.hid (fun W' (h' : WrX w d p (fun k => X k ∨ k = W.heap.size) (W.alloc (.cells #[.int .i64 0, .int .i64 0] 40)) M D W') => wfile_any h'.toO hl1)
  have GA := Lib.hid (fun W' (h' : WrX w d p (fun k => X k ∨ k = W.heap.size) (W.alloc (.cells #[.int .i64 0, .int .i64 0] 40)) M D W') => wappendX h' hf1 (by omega) (nmW (lastW M)) b (nmW_size _) (by omega))
  have H1 := Lib.hid h1
  clear h hB1 hX1 hq1 hwq hf hf1 hw hl1 hz1 hr h1
  generalize lastW M = lw at *
  generalize appendD D (nmW lw) b = D2 at *
  generalize appendE D (nmW lw) b = e1 at *
  obtain ⟨T, hTT⟩ : ∃ T, M.size + (b.size : Int) = T := ⟨_, rfl⟩
  have hz9 : IntKind.i64.wrap (M.size + (b.size : Int)) = T := by rw [← hTT]; exact HT.out
  rw [hTT] at g1
  have g3 : decide (M.lim < T) = false := decide_eq_false g1
  clear hTT g1
  go_enter Tryz.func13, Tryz.ntmps13
  go_wp2
  generalize (W.alloc (.cells #[.int .i64 0, .int .i64 0] 40)) = w1 at *
  go_quiet (fail)
  have HX2 := Lib.hid (HX1.out.below (hbel_drewN (Below.refl w1.heap.size w1) nq))
  clear c0 c1 c3 f3 c0d c1d c3d hz9 g3
  generalize w1.drewN nq = w2 at *
  obtain ⟨c0, -, -, -⟩ := HX2.out.cells
  have c0d : w2.drew.cell? ⟨p, 0, none⟩ = _ := c0
  have HX2d := Lib.hid (HX2.out.below (Below.refl w2.heap.size w2).drew)
  have GF2 := Lib.hid (GF.out _ HX2d.out)
  unfold Gives at GF2
  go_wp2
  go_region_with (first
    | (go_at_call 37; ((with_reducible refine GF2.out.mono ?_); rintro e w3 ⟨rfl, hB3⟩; have HX3 := Lib.hid (HX2d.out.below hB3); obtain ⟨k0, -, -, -⟩ := HX3.out.cells; clear hB3))
    | (go_at_call 30; ((with_reducible refine (GA.out _ HX3.out).mono ?_); rintro e w4 ⟨rfl, hX4⟩; have HX4 := Lib.hid hX4; clear hX4)))
  all_goals
    clear c0 c0d
    have h1 := H1.out
    have hqy := HQ.out _ _ _ HX4.out
    have b0 := cell_of_row _ _ 0 _ _ _ hqy
    have b1 := cell_of_row _ _ 1 _ _ _ hqy
    have fb0 := frozen_of_row _ _ 0 _ _ hqy
    have fb1 := frozen_of_row _ _ 1 _ _ hqy
    have HQX := Lib.hid (heap_setCell_same _ _ 1 _ _ (.int .i64 0) (heap_setCell_same _ _ 0 _ _ (.int .i64 0) hqy))
    clear hqy
    go_wp2
    have v0 := cell_of_row _ _ 0 _ _ _ HQX.out
    have v1 := cell_of_row _ _ 1 _ _ _ HQX.out
    refine bodyPost_ret (v := .tuple #[.agg #[.int .i64 0, .int .i64 0], .int .i64 e1]) (by simp [results, Tryz.results13, go_sem, v0, v1]) rfl ⟨rfl, HK.out _ _ _ _ HX4.out ((FrameT.setCell _ W.heap.size 0 _).trans (FrameT.setCell _ W.heap.size 1 _))⟩
set_option maxRecDepth 100000 in
set_option maxHeartbeats 8000000 in
theorem wwrite_C2 {w W W0 : World} {d p n : Nat} {X : Nat → Prop} {M : WM} {D : PD} (h : WrX w d p X W0 M D W) (b : ByteArray) (hf : Fit D n) (hn : n ≤ 600000) (hl : 0 < M.segs.length ∧ M.segs.length ≤ 1000) (hw : ∀ z ∈ M.segs ++ [lastW M + 1], (Lit.int .i64 z).wf = true) (hr : lastW M ≤ 99999999 ∧ 0 ≤ lastW M) (hz : 0 ≤ M.size ∧ M.size ≤ 1000000) (hb : 0 < b.size ∧ b.size ≤ 2084) (g1 : M.lim < M.size + b.size) (g2 : ¬ 16 < M.size) (h1 : ¬ appendE D (nmW (lastW M)) b = 0) :
    Calls Tryz.prog 13 #[.pointer (some ⟨p, 0, none⟩), .string b] W fun e w' => e = .returned (.tuple #[.agg #[.int .i64 (wrtR M D b).2.2.1.1, .int .i64 (wrtR M D b).2.2.1.2], .int .i64 (wrtR M D b).2.2.2]) ∧ WrX w d p X W0 (wrtR M D b).1 (wrtR M D b).2.1 w' := by
  have hB1 := bel_alloc (Below.refl W.heap.size W) (.cells #[.int .i64 0, .int .i64 0] 40)
  have hX1 : WrX w d p (fun k => X k ∨ k = W.heap.size) (W.alloc (.cells #[.int .i64 0, .int .i64 0] 40)) M D (W.alloc (.cells #[.int .i64 0, .int .i64 0] 40)) := h.more hB1 ⟨Nat.le_refl _, by simp⟩
  have hq1 : (W.alloc (.cells #[.int .i64 0, .int .i64 0] 40)).heap[W.heap.size]? = some (.cells #[.int .i64 0, .int .i64 0] 40 (0, 0)) := World.alloc_heap_new W _
  have hwq : w.heap.size ≤ W.heap.size := h.toO.one.bel.size
  have hpq : p < W.heap.size := by obtain ⟨v, -, h2, -⟩ := h; exact (Array.getElem?_eq_some_iff.1 h2).1
  have HK := Lib.hid (fun (M' : WM) (D' : PD) (w' w'' : World) (h' : WrX w d p (fun k => X k ∨ k = W.heap.size) (W.alloc (.cells #[.int .i64 0, .int .i64 0] 40)) M' D' w') (hF : FrameT (fun k => k = W.heap.size) w' w'') => (h'.frame hF (.inr rfl) hwq (fun k hk => ⟨.inl hk, fun e => by have := h.lt hk; omega⟩) (fun k hk => (hB1.block k (h.lt hk)).trans (h.same hk)) : WrX w d p X W0 M' D' w''))
  have HQ := Lib.hid (fun (M' : WM) (D' : PD) (w' : World) (h' : WrX w d p (fun k => X k ∨ k = W.heap.size) (W.alloc (.cells #[.int .i64 0, .int .i64 0] 40)) M' D' w') => (h'.same (.inr rfl)).trans hq1)
  have hR : wrtR M D b = (M, appendD D (nmW (lastW M)) b, (0, 0), appendE D (nmW (lastW M)) b) := by
    unfold wrtR
    simp only [if_neg (show ¬ (b.size = 0 ∨ 2084 < b.size) by omega), if_neg (show ¬ (M.lim < M.size + b.size ∧ 16 < M.size) from fun h => g2 h.2), ne_eq, h1, not_true_eq_false, if_false, not_false_eq_true, if_true]
  rw [hR]
  clear hR
  obtain ⟨c0, c1, c3, f3⟩ := hX1.cells
  have c0d : (W.alloc (.cells #[.int .i64 0, .int .i64 0] 40)).drew.cell? ⟨p, 0, none⟩ = _ := c0
  have c1d : (W.alloc (.cells #[.int .i64 0, .int .i64 0] 40)).drew.cell? ⟨p, 1, none⟩ = _ := c1
  have c3d : (W.alloc (.cells #[.int .i64 0, .int .i64 0] 40)).drew.cell? ⟨p, 3, none⟩ = _ := c3
  have hbi : ¬ (2084 : Int) < (b.size : Int) := by omega
  have hbe := nonE (show 0 < b.size by omega)
  have HT := Lib.hid (show IntKind.i64.wrap (M.size + (b.size : Int)) = M.size + (b.size : Int) from IntWalk.i64_in _ (by omega))
  have HX1 := Lib.hid hX1
  have hl1 : 0 < M.segs.length ∧ M.segs.length < 1000000 := by omega
  have hz1 := hz
  have hf1 := hf
  have HT1 := Lib.hid (show IntKind.i64.wrap (M.size + (b.size : Int)) = M.size + (b.size : Int) from IntWalk.i64_in _ (by omega))
  have GF := Lib.hid (fun W' (h' : WrX w d p (fun k => X k ∨ k = W.heap.size) (W.alloc (.cells #[.int .i64 0, .int .i64 0] 40)) M D W') => wfile_any h'.toO hl1)
  have GA := Lib.hid (fun W' (h' : WrX w d p (fun k => X k ∨ k = W.heap.size) (W.alloc (.cells #[.int .i64 0, .int .i64 0] 40)) M D W') => wappendX h' hf1 (by omega) (nmW (lastW M)) b (nmW_size _) (by omega))
  have H1 := Lib.hid h1
  clear h hB1 hX1 hq1 hwq hf hf1 hw hl1 hz1 hr h1
  generalize lastW M = lw at *
  generalize appendD D (nmW lw) b = D2 at *
  generalize appendE D (nmW lw) b = e1 at *
  obtain ⟨T, hTT⟩ : ∃ T, M.size + (b.size : Int) = T := ⟨_, rfl⟩
  have hz9 : IntKind.i64.wrap (M.size + (b.size : Int)) = T := by rw [← hTT]; exact HT.out
  rw [hTT] at g1
  have g3 : decide (M.lim < T) = true := decide_eq_true g1
  have g4 : decide (16 < M.size) = false := decide_eq_false g2
  clear hTT g1 g2
  go_enter Tryz.func13, Tryz.ntmps13
  go_wp2
  generalize (W.alloc (.cells #[.int .i64 0, .int .i64 0] 40)) = w1 at *
  go_quiet (fail)
  have HX2 := Lib.hid (HX1.out.below (hbel_drewN (Below.refl w1.heap.size w1) nq))
  clear c0 c1 c3 f3 c0d c1d c3d hz9 g3 g4
  generalize w1.drewN nq = w2 at *
  obtain ⟨c0, -, -, -⟩ := HX2.out.cells
  have c0d : w2.drew.cell? ⟨p, 0, none⟩ = _ := c0
  have HX2d := Lib.hid (HX2.out.below (Below.refl w2.heap.size w2).drew)
  have GF2 := Lib.hid (GF.out _ HX2d.out)
  unfold Gives at GF2
  go_wp2
  go_region_with (first
    | (go_at_call 37; ((with_reducible refine GF2.out.mono ?_); rintro e w3 ⟨rfl, hB3⟩; have HX3 := Lib.hid (HX2d.out.below hB3); obtain ⟨k0, -, -, -⟩ := HX3.out.cells; clear hB3))
    | (go_at_call 30; ((with_reducible refine (GA.out _ HX3.out).mono ?_); rintro e w4 ⟨rfl, hX4⟩; have HX4 := Lib.hid hX4; clear hX4)))
  all_goals
    clear c0 c0d
    have h1 := H1.out
    have hqy := HQ.out _ _ _ HX4.out
    have b0 := cell_of_row _ _ 0 _ _ _ hqy
    have b1 := cell_of_row _ _ 1 _ _ _ hqy
    have fb0 := frozen_of_row _ _ 0 _ _ hqy
    have fb1 := frozen_of_row _ _ 1 _ _ hqy
    have HQX := Lib.hid (heap_setCell_same _ _ 1 _ _ (.int .i64 0) (heap_setCell_same _ _ 0 _ _ (.int .i64 0) hqy))
    clear hqy
    go_wp2
    have v0 := cell_of_row _ _ 0 _ _ _ HQX.out
    have v1 := cell_of_row _ _ 1 _ _ _ HQX.out
    refine bodyPost_ret (v := .tuple #[.agg #[.int .i64 0, .int .i64 0], .int .i64 e1]) (by simp [results, Tryz.results13, go_sem, v0, v1]) rfl ⟨rfl, HK.out _ _ _ _ HX4.out ((FrameT.setCell _ W.heap.size 0 _).trans (FrameT.setCell _ W.heap.size 1 _))⟩

end Go.Proofs.YtoieacmipejfeaaGreatDoor

/- Package writer: Write. Printed by gen_wrtw.py. -/
namespace Go.Proofs.YtoieacmipejfeaaGreatDoor
open Go.RowKit Go.Shelf
set_option linter.unusedVariables false
attribute [local go_sem] Oper.semAt_some wide_fn wide_round_fn

set_option maxRecDepth 100000 in
set_option maxHeartbeats 8000000 in
theorem wwrite_C3 {w W W0 : World} {d p n : Nat} {X : Nat → Prop} {M : WM} {D : PD} (h : WrX w d p X W0 M D W) (b : ByteArray) (hf : Fit D n) (hn : n ≤ 600000) (hl : 0 < M.segs.length ∧ M.segs.length ≤ 1000) (hw : ∀ z ∈ M.segs ++ [lastW M + 1], (Lit.int .i64 z).wf = true) (hr : lastW M ≤ 99999999 ∧ 0 ≤ lastW M) (hz : 0 ≤ M.size ∧ M.size ≤ 1000000) (hb : 0 < b.size ∧ b.size ≤ 2084) (g1 : M.lim < M.size + b.size) (g2 : 16 < M.size) (M1 : WM) (D1 : PD) (e9 : Int) (hN : nextR M D = (M1, D1, e9)) (h9 : e9 = 0) (h1 : ¬ appendE D1 (nmW (lastW M1)) b = 0) :
    Calls Tryz.prog 13 #[.pointer (some ⟨p, 0, none⟩), .string b] W fun e w' => e = .returned (.tuple #[.agg #[.int .i64 (wrtR M D b).2.2.1.1, .int .i64 (wrtR M D b).2.2.1.2], .int .i64 (wrtR M D b).2.2.2]) ∧ WrX w d p X W0 (wrtR M D b).1 (wrtR M D b).2.1 w' := by
  have hB1 := bel_alloc (Below.refl W.heap.size W) (.cells #[.int .i64 0, .int .i64 0] 40)
  have hX1 : WrX w d p (fun k => X k ∨ k = W.heap.size) (W.alloc (.cells #[.int .i64 0, .int .i64 0] 40)) M D (W.alloc (.cells #[.int .i64 0, .int .i64 0] 40)) := h.more hB1 ⟨Nat.le_refl _, by simp⟩
  have hq1 : (W.alloc (.cells #[.int .i64 0, .int .i64 0] 40)).heap[W.heap.size]? = some (.cells #[.int .i64 0, .int .i64 0] 40 (0, 0)) := World.alloc_heap_new W _
  have hwq : w.heap.size ≤ W.heap.size := h.toO.one.bel.size
  have hpq : p < W.heap.size := by obtain ⟨v, -, h2, -⟩ := h; exact (Array.getElem?_eq_some_iff.1 h2).1
  have HK := Lib.hid (fun (M' : WM) (D' : PD) (w' w'' : World) (h' : WrX w d p (fun k => X k ∨ k = W.heap.size) (W.alloc (.cells #[.int .i64 0, .int .i64 0] 40)) M' D' w') (hF : FrameT (fun k => k = W.heap.size) w' w'') => (h'.frame hF (.inr rfl) hwq (fun k hk => ⟨.inl hk, fun e => by have := h.lt hk; omega⟩) (fun k hk => (hB1.block k (h.lt hk)).trans (h.same hk)) : WrX w d p X W0 M' D' w''))
  have HQ := Lib.hid (fun (M' : WM) (D' : PD) (w' : World) (h' : WrX w d p (fun k => X k ∨ k = W.heap.size) (W.alloc (.cells #[.int .i64 0, .int .i64 0] 40)) M' D' w') => (h'.same (.inr rfl)).trans hq1)
  subst h9
  have hR : wrtR M D b = (M1, appendD D1 (nmW (lastW M1)) b, (0, 0), appendE D1 (nmW (lastW M1)) b) := by
    unfold wrtR
    simp only [if_neg (show ¬ (b.size = 0 ∨ 2084 < b.size) by omega), if_pos (show M.lim < M.size + b.size ∧ 16 < M.size from ⟨g1, g2⟩), hN, ne_eq, h1, not_true_eq_false, if_false, not_false_eq_true, if_true]
  rw [hR]
  clear hR
  obtain ⟨c0, c1, c3, f3⟩ := hX1.cells
  have c0d : (W.alloc (.cells #[.int .i64 0, .int .i64 0] 40)).drew.cell? ⟨p, 0, none⟩ = _ := c0
  have c1d : (W.alloc (.cells #[.int .i64 0, .int .i64 0] 40)).drew.cell? ⟨p, 1, none⟩ = _ := c1
  have c3d : (W.alloc (.cells #[.int .i64 0, .int .i64 0] 40)).drew.cell? ⟨p, 3, none⟩ = _ := c3
  have hbi : ¬ (2084 : Int) < (b.size : Int) := by omega
  have hbe := nonE (show 0 < b.size by omega)
  have HT := Lib.hid (show IntKind.i64.wrap (M.size + (b.size : Int)) = M.size + (b.size : Int) from IntWalk.i64_in _ (by omega))
  have HX1 := Lib.hid hX1
  have GX := Lib.hid (fun W' (h' : WrX w d p (fun k => X k ∨ k = W.heap.size) (W.alloc (.cells #[.int .i64 0, .int .i64 0] 40)) M D W') => wnext_any h' hf (by omega) hl hw hr)
  have hl1 : 0 < M1.segs.length ∧ M1.segs.length < 1000000 := by
    rcases next_cases M D with e | e
    · rw [hN] at e; dsimp only at e; rw [e]; omega
    · rw [hN] at e; dsimp only at e; rw [e]; simp; omega
  have hz1 : 0 ≤ M1.size ∧ M1.size ≤ 1000000 := by
    rcases next_cases M D with e | e
    · rw [hN] at e; dsimp only at e; rw [e]; omega
    · rw [hN] at e; dsimp only at e; rw [e]; dsimp only; omega
  have hf1 : Fit D1 (n + 11) := by have := fit_next hf (ris_names h.toO.ris) M; rwa [hN] at this
  rw [hN] at GX
  have HT1 := Lib.hid (show IntKind.i64.wrap (M1.size + (b.size : Int)) = M1.size + (b.size : Int) from IntWalk.i64_in _ (by omega))
  have GF := Lib.hid (fun W' (h' : WrX w d p (fun k => X k ∨ k = W.heap.size) (W.alloc (.cells #[.int .i64 0, .int .i64 0] 40)) M1 D1 W') => wfile_any h'.toO hl1)
  have GA := Lib.hid (fun W' (h' : WrX w d p (fun k => X k ∨ k = W.heap.size) (W.alloc (.cells #[.int .i64 0, .int .i64 0] 40)) M1 D1 W') => wappendX h' hf1 (by omega) (nmW (lastW M1)) b (nmW_size _) (by omega))
  have H1 := Lib.hid h1
  clear h hB1 hX1 hq1 hwq hf hf1 hw hl1 hz1 hN hr h1
  generalize lastW M1 = lw at *
  generalize appendD D1 (nmW lw) b = D2 at *
  generalize appendE D1 (nmW lw) b = e1 at *
  obtain ⟨T, hTT⟩ : ∃ T, M.size + (b.size : Int) = T := ⟨_, rfl⟩
  have hz9 : IntKind.i64.wrap (M.size + (b.size : Int)) = T := by rw [← hTT]; exact HT.out
  rw [hTT] at g1
  have g3 : decide (M.lim < T) = true := decide_eq_true g1
  have g4 : decide (16 < M.size) = true := decide_eq_true g2
  clear hTT g1 g2
  go_enter Tryz.func13, Tryz.ntmps13
  go_wp2
  generalize (W.alloc (.cells #[.int .i64 0, .int .i64 0] 40)) = w1 at *
  go_quiet (fail)
  have HX2a := Lib.hid (HX1.out.below (hbel_drewN (Below.refl w1.heap.size w1) nq))
  clear c0 c1 c3 f3 c0d c1d c3d hz9 g3 g4
  generalize w1.drewN nq = w2a at *
  go_wp2_with (go_at_call 36; ((with_reducible refine (GX.out _ HX2a.out).mono ?_); rintro e w2 ⟨rfl, hX2⟩; have HX2 := Lib.hid hX2; clear hX2))
  clear HX2a
  obtain ⟨c0, -, -, -⟩ := HX2.out.cells
  have c0d : w2.drew.cell? ⟨p, 0, none⟩ = _ := c0
  have HX2d := Lib.hid (HX2.out.below (Below.refl w2.heap.size w2).drew)
  have GF2 := Lib.hid (GF.out _ HX2d.out)
  unfold Gives at GF2
  go_wp2
  go_region_with (first
    | (go_at_call 37; ((with_reducible refine GF2.out.mono ?_); rintro e w3 ⟨rfl, hB3⟩; have HX3 := Lib.hid (HX2d.out.below hB3); obtain ⟨k0, -, -, -⟩ := HX3.out.cells; clear hB3))
    | (go_at_call 30; ((with_reducible refine (GA.out _ HX3.out).mono ?_); rintro e w4 ⟨rfl, hX4⟩; have HX4 := Lib.hid hX4; clear hX4)))
  all_goals
    clear c0 c0d
    have h1 := H1.out
    have hqy := HQ.out _ _ _ HX4.out
    have b0 := cell_of_row _ _ 0 _ _ _ hqy
    have b1 := cell_of_row _ _ 1 _ _ _ hqy
    have fb0 := frozen_of_row _ _ 0 _ _ hqy
    have fb1 := frozen_of_row _ _ 1 _ _ hqy
    have HQX := Lib.hid (heap_setCell_same _ _ 1 _ _ (.int .i64 0) (heap_setCell_same _ _ 0 _ _ (.int .i64 0) hqy))
    clear hqy
    go_wp2
    have v0 := cell_of_row _ _ 0 _ _ _ HQX.out
    have v1 := cell_of_row _ _ 1 _ _ _ HQX.out
    refine bodyPost_ret (v := .tuple #[.agg #[.int .i64 0, .int .i64 0], .int .i64 e1]) (by simp [results, Tryz.results13, go_sem, v0, v1]) rfl ⟨rfl, HK.out _ _ _ _ HX4.out ((FrameT.setCell _ W.heap.size 0 _).trans (FrameT.setCell _ W.heap.size 1 _))⟩
set_option maxRecDepth 100000 in
set_option maxHeartbeats 8000000 in
theorem wwrite_B {w W W0 : World} {d p n : Nat} {X : Nat → Prop} {M : WM} {D : PD} (h : WrX w d p X W0 M D W) (b : ByteArray) (hf : Fit D n) (hn : n ≤ 600000) (hl : 0 < M.segs.length ∧ M.segs.length ≤ 1000) (hw : ∀ z ∈ M.segs ++ [lastW M + 1], (Lit.int .i64 z).wf = true) (hr : lastW M ≤ 99999999 ∧ 0 ≤ lastW M) (hz : 0 ≤ M.size ∧ M.size ≤ 1000000) (hb : 0 < b.size ∧ b.size ≤ 2084) (g1 : M.lim < M.size + b.size) (g2 : 16 < M.size) (M1 : WM) (D1 : PD) (e9 : Int) (hN : nextR M D = (M1, D1, e9)) (h9 : ¬ e9 = 0) :
    Calls Tryz.prog 13 #[.pointer (some ⟨p, 0, none⟩), .string b] W fun e w' => e = .returned (.tuple #[.agg #[.int .i64 (wrtR M D b).2.2.1.1, .int .i64 (wrtR M D b).2.2.1.2], .int .i64 (wrtR M D b).2.2.2]) ∧ WrX w d p X W0 (wrtR M D b).1 (wrtR M D b).2.1 w' := by
  have hB1 := bel_alloc (Below.refl W.heap.size W) (.cells #[.int .i64 0, .int .i64 0] 40)
  have hX1 : WrX w d p (fun k => X k ∨ k = W.heap.size) (W.alloc (.cells #[.int .i64 0, .int .i64 0] 40)) M D (W.alloc (.cells #[.int .i64 0, .int .i64 0] 40)) := h.more hB1 ⟨Nat.le_refl _, by simp⟩
  have hq1 : (W.alloc (.cells #[.int .i64 0, .int .i64 0] 40)).heap[W.heap.size]? = some (.cells #[.int .i64 0, .int .i64 0] 40 (0, 0)) := World.alloc_heap_new W _
  have hwq : w.heap.size ≤ W.heap.size := h.toO.one.bel.size
  have hpq : p < W.heap.size := by obtain ⟨v, -, h2, -⟩ := h; exact (Array.getElem?_eq_some_iff.1 h2).1
  have HK := Lib.hid (fun (M' : WM) (D' : PD) (w' w'' : World) (h' : WrX w d p (fun k => X k ∨ k = W.heap.size) (W.alloc (.cells #[.int .i64 0, .int .i64 0] 40)) M' D' w') (hF : FrameT (fun k => k = W.heap.size) w' w'') => (h'.frame hF (.inr rfl) hwq (fun k hk => ⟨.inl hk, fun e => by have := h.lt hk; omega⟩) (fun k hk => (hB1.block k (h.lt hk)).trans (h.same hk)) : WrX w d p X W0 M' D' w''))
  have HQ := Lib.hid (fun (M' : WM) (D' : PD) (w' : World) (h' : WrX w d p (fun k => X k ∨ k = W.heap.size) (W.alloc (.cells #[.int .i64 0, .int .i64 0] 40)) M' D' w') => (h'.same (.inr rfl)).trans hq1)
  have hR : wrtR M D b = (M1, D1, (0, 0), e9) := by
    unfold wrtR
    simp only [if_neg (show ¬ (b.size = 0 ∨ 2084 < b.size) by omega), if_pos (show M.lim < M.size + b.size ∧ 16 < M.size from ⟨g1, g2⟩), hN, ne_eq, h9, not_false_eq_true, if_true]
  rw [hR]
  clear hR
  obtain ⟨c0, c1, c3, f3⟩ := hX1.cells
  have c0d : (W.alloc (.cells #[.int .i64 0, .int .i64 0] 40)).drew.cell? ⟨p, 0, none⟩ = _ := c0
  have c1d : (W.alloc (.cells #[.int .i64 0, .int .i64 0] 40)).drew.cell? ⟨p, 1, none⟩ = _ := c1
  have c3d : (W.alloc (.cells #[.int .i64 0, .int .i64 0] 40)).drew.cell? ⟨p, 3, none⟩ = _ := c3
  have hbi : ¬ (2084 : Int) < (b.size : Int) := by omega
  have hbe := nonE (show 0 < b.size by omega)
  have HT := Lib.hid (show IntKind.i64.wrap (M.size + (b.size : Int)) = M.size + (b.size : Int) from IntWalk.i64_in _ (by omega))
  have HX1 := Lib.hid hX1
  have GX := Lib.hid (fun W' (h' : WrX w d p (fun k => X k ∨ k = W.heap.size) (W.alloc (.cells #[.int .i64 0, .int .i64 0] 40)) M D W') => wnext_any h' hf (by omega) hl hw hr)
  have hl1 : 0 < M1.segs.length ∧ M1.segs.length < 1000000 := by
    rcases next_cases M D with e | e
    · rw [hN] at e; dsimp only at e; rw [e]; omega
    · rw [hN] at e; dsimp only at e; rw [e]; simp; omega
  have hz1 : 0 ≤ M1.size ∧ M1.size ≤ 1000000 := by
    rcases next_cases M D with e | e
    · rw [hN] at e; dsimp only at e; rw [e]; omega
    · rw [hN] at e; dsimp only at e; rw [e]; dsimp only; omega
  have hf1 : Fit D1 (n + 11) := by have := fit_next hf (ris_names h.toO.ris) M; rwa [hN] at this
  rw [hN] at GX
  clear h hB1 hX1 hq1 hwq hf hf1 hw hl1 hz1 hN hr
  obtain ⟨T, hTT⟩ : ∃ T, M.size + (b.size : Int) = T := ⟨_, rfl⟩
  have hz9 : IntKind.i64.wrap (M.size + (b.size : Int)) = T := by rw [← hTT]; exact HT.out
  rw [hTT] at g1
  have g3 : decide (M.lim < T) = true := decide_eq_true g1
  have g4 : decide (16 < M.size) = true := decide_eq_true g2
  clear hTT g1 g2
  go_enter Tryz.func13, Tryz.ntmps13
  go_wp2
  generalize (W.alloc (.cells #[.int .i64 0, .int .i64 0] 40)) = w1 at *
  go_quiet (fail)
  have HX2 := Lib.hid (HX1.out.below (hbel_drewN (Below.refl w1.heap.size w1) nq))
  clear c0 c1 c3 f3 c0d c1d c3d hz9 g3 g4
  generalize w1.drewN nq = w2 at *
  go_wp2_with (go_at_call 36; ((with_reducible refine (GX.out _ HX2.out).mono ?_); rintro e w3 ⟨rfl, hX3⟩; have HX3 := Lib.hid hX3; have hqy := HQ.out _ _ _ hX3; have b0 := cell_of_row _ _ 0 _ _ _ hqy; have b1 := cell_of_row _ _ 1 _ _ _ hqy; have fb0 := frozen_of_row _ _ 0 _ _ hqy; have fb1 := frozen_of_row _ _ 1 _ _ hqy; have HQX := Lib.hid (heap_setCell_same _ _ 1 _ _ (.int .i64 0) (heap_setCell_same _ _ 0 _ _ (.int .i64 0) hqy)); clear hX3 hqy))
  have v0 := cell_of_row _ _ 0 _ _ _ HQX.out
  have v1 := cell_of_row _ _ 1 _ _ _ HQX.out
  refine bodyPost_ret (v := .tuple #[.agg #[.int .i64 0, .int .i64 0], .int .i64 e9]) (by simp [results, Tryz.results13, go_sem, v0, v1]) rfl ⟨rfl, HK.out _ _ _ _ HX3.out ((FrameT.setCell _ W.heap.size 0 _).trans (FrameT.setCell _ W.heap.size 1 _))⟩

end Go.Proofs.YtoieacmipejfeaaGreatDoor

/- Package writer: Write. Printed by gen_wrtw.py. -/
namespace Go.Proofs.YtoieacmipejfeaaGreatDoor
open Go.RowKit Go.Shelf
set_option linter.unusedVariables false
attribute [local go_sem] Oper.semAt_some wide_fn wide_round_fn

theorem wwrite_any {w W W0 : World} {d p n : Nat} {X : Nat → Prop} {M : WM} {D : PD} (h : WrX w d p X W0 M D W) (b : ByteArray) (hf : Fit D n) (hn : n ≤ 600000) (hl : 0 < M.segs.length ∧ M.segs.length ≤ 1000) (hw : ∀ z ∈ M.segs ++ [lastW M + 1], (Lit.int .i64 z).wf = true) (hr : lastW M ≤ 99999999 ∧ 0 ≤ lastW M) (hz : 0 ≤ M.size ∧ M.size ≤ 1000000) :
    Calls Tryz.prog 13 #[.pointer (some ⟨p, 0, none⟩), .string b] W fun e w' => e = .returned (.tuple #[.agg #[.int .i64 (wrtR M D b).2.2.1.1, .int .i64 (wrtR M D b).2.2.1.2], .int .i64 (wrtR M D b).2.2.2]) ∧ WrX w d p X W0 (wrtR M D b).1 (wrtR M D b).2.1 w' := by
  by_cases hb : 0 < b.size ∧ b.size ≤ 2084
  · by_cases g1 : M.lim < M.size + b.size
    · by_cases g2 : 16 < M.size
      · obtain ⟨⟨M1, D1, e9⟩, hN⟩ : ∃ y, nextR M D = y := ⟨_, rfl⟩
        by_cases h9 : e9 = 0
        · by_cases h1 : appendE D1 (nmW (lastW M1)) b = 0
          · exact wwrite_D3 h b hf hn hl hw hr hz hb g1 g2 M1 D1 e9 hN h9 h1
          · exact wwrite_C3 h b hf hn hl hw hr hz hb g1 g2 M1 D1 e9 hN h9 h1
        · exact wwrite_B h b hf hn hl hw hr hz hb g1 g2 M1 D1 e9 hN h9
      · by_cases h1 : appendE D (nmW (lastW M)) b = 0
        · exact wwrite_D2 h b hf hn hl hw hr hz hb g1 g2 h1
        · exact wwrite_C2 h b hf hn hl hw hr hz hb g1 g2 h1
    · by_cases h1 : appendE D (nmW (lastW M)) b = 0
      · exact wwrite_D1 h b hf hn hl hw hr hz hb g1 h1
      · exact wwrite_C1 h b hf hn hl hw hr hz hb g1 h1
  · exact wwrite_no (n := n) h b (by omega)

end Go.Proofs.YtoieacmipejfeaaGreatDoor
