/- The contracts of package part's reader: number, numberTo, text, hard. -/
import Derived.Test.YtflaanffjjidaaaReadM
import Derived.Test.YtflaanffjjidaaaIterK
import Derived.Deep.RegionHeld3
import Derived.Lib.SmallJoins
import Derived.Deep.QuietTactic
import Derived.BigQuiet
namespace Go.Proofs.Ytflaanffjjidaaa
open Go.RowKit Go.Shelf
set_option linter.unusedVariables false
attribute [local go_sem] Oper.semAt_some wide_fn wide_round_fn

abbrev rdArr (s : ByteArray) (st : RSt) : Array Value := #[.string s, .int .i64 st.at_, .int .i64 st.e]
/-- The reader at b. -/
def RdAt (b : Nat) (s : ByteArray) (st : RSt) (w : World) : Prop := w.heap[b]? = some (.cells (rdArr s st) 199 (0, 0))
theorem RdAt.cells {b : Nat} {s : ByteArray} {st : RSt} {w : World} (h : RdAt b s st w) : w.cell? ⟨b, 0, none⟩ = some (.string s) ∧ w.cell? ⟨b, 1, none⟩ = some (.int .i64 st.at_) ∧ w.cell? ⟨b, 2, none⟩ = some (.int .i64 st.e) ∧ w.frozen? ⟨b, 1, none⟩ = false ∧ w.frozen? ⟨b, 2, none⟩ = false :=
  ⟨cell_of_row _ _ 0 _ _ _ h, cell_of_row _ _ 1 _ _ _ h, cell_of_row _ _ 2 _ _ _ h, frozen_of_row _ _ 1 _ _ h, frozen_of_row _ _ 2 _ _ h⟩
theorem RdAt.lt {b : Nat} {s : ByteArray} {st : RSt} {w : World} (h : RdAt b s st w) : b < w.heap.size := (Array.getElem?_eq_some_iff.1 (show w.heap[b]? = some _ from h)).1
theorem RdAt.below {b : Nat} {s : ByteArray} {st : RSt} {w w' : World} (h : RdAt b s st w) (hB : Below w.heap.size w w') : RdAt b s st w' :=
  (hB.block b (Array.getElem?_eq_some_iff.1 h).1).trans h
theorem RdAt.put {b : Nat} {s : ByteArray} {st : RSt} {w : World} (h : RdAt b s st w) (k e : Nat) : RdAt b s ⟨k, e⟩ ((w.setCell ⟨b, 1, none⟩ (.int .i64 k)).setCell ⟨b, 2, none⟩ (.int .i64 e)) := by
  have h2 := Go.Joins.block_setCell (Go.Joins.block_setCell h (.int .i64 k) (i := 1)) (.int .i64 e) (i := 2)
  simp only [List.setIfInBounds_toArray, List.set_cons_succ, List.set_cons_zero] at h2
  exact h2
theorem RdAt.putI {b : Nat} {s : ByteArray} {st : RSt} {w : World} (h : RdAt b s st w) {k e : Nat} {K E : Int} (hk : K = (k : Int)) (he : E = (e : Int)) : RdAt b s ⟨k, e⟩ ((w.setCell ⟨b, 1, none⟩ (.int .i64 K)).setCell ⟨b, 2, none⟩ (.int .i64 E)) := by
  subst hk; subst he; exact h.put k e
theorem put_frame (w : World) (b : Nat) (u v : Value) : FrameT (fun k => k = b) w ((w.setCell ⟨b, 1, none⟩ u).setCell ⟨b, 2, none⟩ v) := (FrameT.setCell w b 1 u).trans (FrameT.setCell _ b 2 v)
theorem RdAt.err {b : Nat} {s : ByteArray} {st : RSt} {w : World} (h : RdAt b s st w) (e : Nat) : RdAt b s ⟨st.at_, e⟩ (w.setCell ⟨b, 2, none⟩ (.int .i64 e)) := by
  have h2 := Go.Joins.block_setCell h (.int .i64 e) (i := 2)
  simp only [List.setIfInBounds_toArray, List.set_cons_succ, List.set_cons_zero] at h2
  exact h2
/-- A call that reads: it hands back v, and the reader has gone on to st. -/
abbrev Reads (f : FuncId) (args : Array Value) (b : Nat) (s : ByteArray) (w : World) (v : Value) (st : RSt) : Prop :=
  Calls Try.prog f args w fun e w' => e = .returned v ∧ RdAt b s st w' ∧ FrameT (fun k => k = b) w w'

set_option maxRecDepth 100000 in
set_option maxHeartbeats 1000000 in
theorem number_any (b : Nat) (s : ByteArray) (hs : s.size < 4611686018427387904) (st : RSt) (hok : st.ok s) (w : World) (h : RdAt b s st w) :
    Reads 134 #[.pointer (some ⟨b, 0, none⟩)] b s w (.int .i64 (numM s st).1) (numM s st).2 := by
  obtain ⟨c0, c1, c2, f1, f2⟩ := h.cells
  obtain ⟨k, e⟩ := st
  obtain ⟨hk, he⟩ := hok
  dsimp only at *
  unfold Reads
  by_cases h0 : e = 0
  · subst h0
    have hsz := restB_size s k hk
    have G := Lib.hid (fun W => get_any (restB s k) (by omega) W)
    have hb := getL_bound (s.data.toList.drop k)
    have HV := Lib.hid (show numM s ⟨k, 0⟩ = ((getL (s.data.toList.drop k)).1, ⟨k + (getL (s.data.toList.drop k)).2.1, (getL (s.data.toList.drop k)).2.2⟩) from by simp [numM])
    rw [HV.out]
    simp only [restB_list] at G
    unfold restB at G
    have hdl : (s.data.toList.drop k).length = s.size - k := by rw [List.length_drop]; simp
    rw [hdl] at hb
    clear hdl hsz HV
    have HB := Lib.hid hb
    generalize getL (s.data.toList.drop k) = R at *
    obtain ⟨n, j, x⟩ := R
    dsimp only at *
    have hj : j ≤ 9 := hb.2.1
    have hkz : k ≤ 4611686018427387904 := by omega
    have hk0 : (0 : Int) ≤ (k : Int) := by omega
    have hk1 : (k : Int) ≤ (s.size : Int) := by omega
    clear hb hk
    have hbw : b < w.drew.heap.size := (Array.getElem?_eq_some_iff.1 h).1
    go_enter Try.func134, Try.ntmps134
    go_wp2
    go_region_held3 (fun W' => W'.cell? ⟨b, 0, none⟩ = some (.string s) ∧ W'.cell? ⟨b, 1, none⟩ = some (.int .i64 k)) (go_keep) (first | (go_at_call 102; ((with_reducible refine (G.out _).mono ?_); rintro e w1 ⟨rfl, hB1⟩; have z0 := (hB1.cell (p := ⟨b, 0, none⟩) hbw).trans c0; have z1 := (hB1.cell (p := ⟨b, 1, none⟩) hbw).trans c1)))
    have h1 : RdAt b s ⟨k, 0⟩ w1 := RdAt.below (show RdAt b s ⟨k, 0⟩ w.drew from h) hB1
    obtain ⟨d0, d1, d2, g1, g2⟩ := h1.cells
    dsimp only at d0 d1 d2
    go_wp2
    go_ret
    exact ⟨rfl, h1.putI (by push_cast; rfl) rfl, ((FrameT.refl _ _).drew.trans (FrameT.below hB1)).trans (put_frame _ _ _ _)⟩
  · have h0' : ¬ ((e : Int) = 0) := by omega
    have HV := Lib.hid (show numM s ⟨k, e⟩ = (0, ⟨k, e⟩) from by simp [numM, h0])
    rw [HV.out]
    have h1 : (0 : Int) < e := by omega
    go_enter Try.func134, Try.ntmps134
    go_wp2
    go_ret
    exact ⟨rfl, h, FrameT.refl _ _⟩

set_option maxRecDepth 100000 in
set_option maxHeartbeats 1000000 in
theorem text_read (b : Nat) (s : ByteArray) (hs : s.size < 4611686018427387904) (st : RSt) (hok : st.ok s) (w : World) (h : RdAt b s st w) :
    Reads 146 #[.pointer (some ⟨b, 0, none⟩)] b s w (.string (txtM s st).1) (txtM s st).2 := by
  obtain ⟨c0, c1, c2, f1, f2⟩ := h.cells
  obtain ⟨k, e⟩ := st
  obtain ⟨hk, he⟩ := hok
  dsimp only at *
  unfold Reads
  by_cases h0 : e = 0
  · subst h0
    have hsz := restB_size s k hk
    have G := Lib.hid (fun W => texts_any (restB s k) (by omega) 40 W)
    have hb := textsB_bound (restB s k) 40
    have HV := Lib.hid (show txtM s ⟨k, 0⟩ = ((textsB (restB s k) 40).1, ⟨k + (textsB (restB s k) 40).2.1, (textsB (restB s k) 40).2.2⟩) from by simp [txtM])
    rw [HV.out]
    rw [hsz] at hb
    clear hsz HV
    generalize textsB (restB s k) 40 = R at *
    unfold restB at G
    obtain ⟨n, j, x⟩ := R
    dsimp only at *
    have hj : j ≤ 4611686018427387904 := by omega
    have hkz : k ≤ 4611686018427387904 := by omega
    have hk0 : (0 : Int) ≤ (k : Int) := by omega
    have hk1 : (k : Int) ≤ (s.size : Int) := by omega
    have hkj : (k : Int) + (j : Int) ≤ 4611686018427387904 := by omega
    clear hb hk
    have hbw : b < w.drew.heap.size := (Array.getElem?_eq_some_iff.1 h).1
    go_enter Try.func146, Try.ntmps146
    go_wp2
    go_region_held3 (fun W' => W'.cell? ⟨b, 0, none⟩ = some (.string s) ∧ W'.cell? ⟨b, 1, none⟩ = some (.int .i64 k)) (go_keep) (first | (go_at_call 148; ((with_reducible refine (G.out _).mono ?_); rintro e w1 ⟨rfl, hB1⟩; have z0 := (hB1.cell (p := ⟨b, 0, none⟩) hbw).trans c0; have z1 := (hB1.cell (p := ⟨b, 1, none⟩) hbw).trans c1)))
    have h1 : RdAt b s ⟨k, 0⟩ w1 := RdAt.below (show RdAt b s ⟨k, 0⟩ w.drew from h) hB1
    obtain ⟨d0, d1, d2, g1, g2⟩ := h1.cells
    dsimp only at d0 d1 d2
    go_wp2
    go_ret
    exact ⟨rfl, h1.putI (by push_cast; rfl) rfl, ((FrameT.refl _ _).drew.trans (FrameT.below hB1)).trans (put_frame _ _ _ _)⟩
  · have h0' : ¬ ((e : Int) = 0) := by omega
    have HV := Lib.hid (show txtM s ⟨k, e⟩ = (⟨#[]⟩, ⟨k, e⟩) from by simp [txtM, h0])
    rw [HV.out]
    have h1 : (0 : Int) < e := by omega
    go_enter Try.func146, Try.ntmps146
    go_wp2
    go_ret
    exact ⟨rfl, h, FrameT.refl _ _⟩

set_option maxRecDepth 100000 in
set_option maxHeartbeats 1000000 in
theorem numberTo_any (b : Nat) (s : ByteArray) (hs : s.size < 4611686018427387904) (most : Nat) (st : RSt) (hok : st.ok s) (w : World) (h : RdAt b s st w) :
    Reads 135 #[.pointer (some ⟨b, 0, none⟩), .int .i64 most] b s w (.int .i64 (numTo s most st).1) (numTo s most st).2 := by
  have G := Lib.hid (number_any b s hs st hok w h)
  unfold Reads
  by_cases hm : most < (numM s st).1
  · have HV := Lib.hid (show numTo s most st = (0, ⟨(numM s st).2.at_, 11⟩) from by simp [numTo, hm])
    rw [HV.out]
    clear HV
    generalize numM s st = R at *
    obtain ⟨n, st1⟩ := R
    dsimp only at *
    go_enter Try.func135, Try.ntmps135
    go_wp2_with (go_at_call 134; ((with_reducible refine (G.out).mono ?_); rintro e w1 ⟨rfl, h1, hF⟩; obtain ⟨d0, d1, d2, g1, g2⟩ := h1.cells))
    go_ret
    exact ⟨rfl, h1.err 11, hF.trans (FrameT.setCell _ _ _ _)⟩
  · have HV := Lib.hid (show numTo s most st = numM s st from by simp [numTo, hm])
    rw [HV.out]
    clear HV
    generalize numM s st = R at *
    obtain ⟨n, st1⟩ := R
    dsimp only at *
    go_enter Try.func135, Try.ntmps135
    go_wp2_with (go_at_call 134; ((with_reducible refine (G.out).mono ?_); rintro e w1 ⟨rfl, h1, hF⟩))
    go_ret
    exact ⟨rfl, h1, hF⟩

set_option maxRecDepth 100000 in
set_option maxHeartbeats 1000000 in
theorem hard_read (b : Nat) (s : ByteArray) (hs : s.size < 4611686018427387904) (st : RSt) (hok : st.ok s) (w : World) (h : RdAt b s st w) :
    Reads 139 #[.pointer (some ⟨b, 0, none⟩)] b s w (.agg #[.int .i64 (hardM s st).1.1, .int .i64 (hardM s st).1.2.1, .int .i64 (hardM s st).1.2.2]) (hardM s st).2 := by
  have G1 := Lib.hid (fun W (hW : RdAt b s st W) => number_any b s hs st hok W hW)
  have G2 := Lib.hid (fun W (hW : RdAt b s (numM s st).2 W) => number_any b s hs (numM s st).2 (numM_ok hok) W hW)
  have G3 := Lib.hid (fun W (hW : RdAt b s (numM s (numM s st).2).2 W) => number_any b s hs (numM s (numM s st).2).2 (numM_ok (numM_ok hok)) W hW)
  unfold Reads hardM
  dsimp only
  generalize numM s (numM s (numM s st).2).2 = R3 at *
  generalize numM s (numM s st).2 = R2 at *
  generalize numM s st = R1 at *
  obtain ⟨n1, s1⟩ := R1
  obtain ⟨n2, s2⟩ := R2
  obtain ⟨n3, s3⟩ := R3
  dsimp only at *
  have hbw : b < w.heap.size := (Array.getElem?_eq_some_iff.1 h).1
  have H0 : RdAt b s st (w.alloc (.cells #[.int .i64 0, .int .i64 0, .int .i64 0] 55)) := h.below (bel_alloc (Below.refl _ _) _)
  have hF0 : FrameT (fun k => k = b) w (w.alloc (.cells #[.int .i64 0, .int .i64 0, .int .i64 0] 55)) := FrameT.below (bel_alloc (Below.refl _ _) _)
  have hb0 : (w.alloc (.cells #[.int .i64 0, .int .i64 0, .int .i64 0] 55)).heap[w.heap.size]? = some (.cells #[.int .i64 0, .int .i64 0, .int .i64 0] 55 (0, 0)) := World.alloc_heap_new _ _
  have hne : w.heap.size ≠ b := by omega
  go_enter Try.func139, Try.ntmps139
  go_wp2_with (first
    | (go_at_call 134; ((with_reducible refine (G1.out _ H0).mono ?_); rintro e w1 ⟨rfl, H1, hF⟩; have hF1 := hF0.trans hF; have hb1 := hF.get hb0 hne; clear hF; have hs1 : w.heap.size < w1.heap.size := (Array.getElem?_eq_some_iff.1 hb1).1; have hA1 := bel_alloc (Below.refl w1.heap.size w1) (.cells #[.int .i64 n1, .int .i64 0, .int .i64 0] 55); have H1a : RdAt b s s1 (w1.alloc (.cells #[.int .i64 n1, .int .i64 0, .int .i64 0] 55)) := H1.below hA1; have hb1a := (hA1.block _ hs1).trans hb1; have hv1 := World.alloc_heap_new w1 (.cells #[.int .i64 n1, .int .i64 0, .int .i64 0] 55); have hF1a := hF1.trans (FrameT.below hA1)))
    | (go_at_call 134; ((with_reducible refine (G2.out _ H1a).mono ?_); rintro e w2 ⟨rfl, H2, hF⟩; have hF2 := hF1a.trans hF; have hb2 := hF.get hb1a hne; have hv2 := hF.get hv1 (by omega); have hbv := H1.lt; clear hF; have fv := frozen_of_row _ _ 1 _ _ hv2; have k1 : w2.cell? ⟨w1.heap.size, 1, none⟩ = some (.int .i64 0) := cell_of_row _ _ 1 _ _ _ hv2; have hv2a := Go.Joins.block_setCell hv2 (.int .i64 n2) (i := 1); simp only [List.setIfInBounds_toArray, List.set_cons_succ, List.set_cons_zero] at hv2a; have H2a : RdAt b s s2 (w2.setCell ⟨w1.heap.size, 1, none⟩ (.int .i64 n2)) := (heap_setCell_other w2 ⟨w1.heap.size, 1, none⟩ b (.int .i64 n2) (show b ≠ w1.heap.size by omega)).trans H2))
    | (go_at_call 134; ((with_reducible refine (G3.out _ H2a).mono ?_); rintro e w3 ⟨rfl, H3, hF⟩; have hF2a := hF2.mono (U := fun k => k = b ∨ k = w1.heap.size) (fun _ h => .inl h); have hF3 := (hF2a.trans ((FrameT.setCell w2 w1.heap.size 1 (.int .i64 n2)).mono (fun _ h => .inr h))).trans (hF.mono (fun _ h => .inl h)); have hb3 := hF.get ((heap_setCell_other w2 ⟨w1.heap.size, 1, none⟩ w.heap.size (.int .i64 n2) (show w.heap.size ≠ w1.heap.size by omega)).trans hb2) hne; have hv3 := hF.get hv2a (by omega); clear hF; have fv3 := frozen_of_row _ _ 2 _ _ hv3; have d0 : w3.cell? ⟨w1.heap.size, 0, none⟩ = some (.int .i64 n1) := cell_of_row _ _ 0 _ _ _ hv3; have d1 : w3.cell? ⟨w1.heap.size, 1, none⟩ = some (.int .i64 n2) := cell_of_row _ _ 1 _ _ _ hv3; have d2 : w3.cell? ⟨w1.heap.size, 2, none⟩ = some (.int .i64 0) := cell_of_row _ _ 2 _ _ _ hv3; have e0 := frozen_of_row _ _ 0 _ _ hb3; have e1 := frozen_of_row _ _ 1 _ _ hb3; have e2 := frozen_of_row _ _ 2 _ _ hb3; have q0 : w3.cell? ⟨w.heap.size, 0, none⟩ = some (.int .i64 0) := cell_of_row _ _ 0 _ _ _ hb3; have q1 : w3.cell? ⟨w.heap.size, 1, none⟩ = some (.int .i64 0) := cell_of_row _ _ 1 _ _ _ hb3; have q2 : w3.cell? ⟨w.heap.size, 2, none⟩ = some (.int .i64 0) := cell_of_row _ _ 2 _ _ _ hb3)))
  have hbv := H1.lt
  have hX3 : w1.heap.size ≠ w.heap.size := by omega
  have hb4 := Go.Joins.block_setCell (Go.Joins.block_setCell (Go.Joins.block_setCell ((heap_setCell_other w3 ⟨w1.heap.size, 2, none⟩ w.heap.size (.int .i64 n3) (show w.heap.size ≠ w1.heap.size by omega)).trans hb3) (.int .i64 n1) (i := 0)) (.int .i64 n2) (i := 1)) (.int .i64 n3) (i := 2)
  simp only [List.setIfInBounds_toArray, List.set_cons_succ, List.set_cons_zero] at hb4
  refine bodyPost_ret (v := .agg #[.int .i64 n1, .int .i64 n2, .int .i64 n3]) (by have c0 := cell_of_row _ _ 0 _ _ _ hb4; have c1 := cell_of_row _ _ 1 _ _ _ hb4; have c2 := cell_of_row _ _ 2 _ _ _ hb4; simp only [List.getElem?_toArray, List.getElem?_cons_zero, List.getElem?_cons_succ] at c0 c1 c2; simp [results, Try.results139, go_sem, c0, c1, c2]) rfl ⟨rfl, ?_, ?_⟩
  · exact (heap_setCell_other _ ⟨w.heap.size, 2, none⟩ b _ (show b ≠ w.heap.size by omega)).trans ((heap_setCell_other _ ⟨w.heap.size, 1, none⟩ b _ (show b ≠ w.heap.size by omega)).trans ((heap_setCell_other _ ⟨w.heap.size, 0, none⟩ b _ (show b ≠ w.heap.size by omega)).trans ((heap_setCell_other w3 ⟨w1.heap.size, 2, none⟩ b _ (show b ≠ w1.heap.size by omega)).trans H3)))
  · have hU : FrameT (fun k => k = b ∨ w.heap.size ≤ k) w ((((w3.setCell ⟨w1.heap.size, 2, none⟩ (.int .i64 n3)).setCell ⟨w.heap.size, 0, none⟩ (.int .i64 n1)).setCell ⟨w.heap.size, 1, none⟩ (.int .i64 n2)).setCell ⟨w.heap.size, 2, none⟩ (.int .i64 n3)) :=
      ((((hF3.mono (fun _ h => h.imp id (fun h => by omega))).trans ((FrameT.setCell w3 w1.heap.size 2 (.int .i64 n3)).mono (fun _ h => .inr (by omega)))).trans ((FrameT.setCell _ w.heap.size 0 (.int .i64 n1)).mono (fun _ h => .inr (by omega)))).trans ((FrameT.setCell _ w.heap.size 1 (.int .i64 n2)).mono (fun _ h => .inr (by omega)))).trans ((FrameT.setCell _ w.heap.size 2 (.int .i64 n3)).mono (fun _ h => .inr (by omega)))
    exact ⟨hU.os, hU.tape, hU.output, hU.size, fun k hk hT => hU.block k hk (fun h => h.elim hT (fun h => by omega))⟩

end Go.Proofs.Ytflaanffjjidaaa
