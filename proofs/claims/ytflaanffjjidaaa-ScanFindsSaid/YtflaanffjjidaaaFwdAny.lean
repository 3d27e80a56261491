/- The contract of part's reader.forward. -/
import Derived.Test.YtflaanffjjidaaaReadP
import Derived.Test.YtflaanffjjidaaaEntries
import Derived.Deep.RegionHeld3
namespace Go.Proofs.Ytflaanffjjidaaa
open Go.RowKit Go.Shelf
set_option linter.unusedVariables false
attribute [local go_sem] Oper.semAt_some wide_fn wide_round_fn

theorem cell_st1 {W : World} {X j c : Nat} {u v : Value} (h : W.cell? ⟨c, 0, none⟩ = some v) (hcX : c ≠ X) : (W.setCell ⟨X, j, none⟩ u).cell? ⟨c, 0, none⟩ = some v := (FrameT.setCell W X j u).cell h hcX
def FwdPost (b X : Nat) (s : ByteArray) (g : Int) (st0 : RSt) (w : World) (e : Ending) (w' : World) : Prop :=
  e = .returned (.tuple #[]) ∧ RdAt b s (fwdM s g st0).2 w' ∧ (∃ a cap, w'.heap[X]? = some (.cells ((fwdM s g st0).1.part a cap).arr 70 (0, 0)) ∧ RowV w' a (fwdM s g st0).1.l.length 3 (entryCells (fwdM s g st0).1.l) ∧ ∀ k, inBlkE a (fwdM s g st0).1.l.length k → w.heap.size ≤ k) ∧ FrameT (fun k => k = b ∨ k = X) w w'

set_option maxRecDepth 100000 in
set_option maxHeartbeats 4000000 in
theorem forward0_any (b X : Nat) (s : ByteArray) (hs : s.size < 4611686018427387904) (st0 : RSt) (hok0 : st0.ok s) (hf : (numTo s 3 st0).1 = 0) (g : Int) (hXb : X ≠ b) (w : World) (hb : RdAt b s st0 w)
    (hp : w.heap[X]? = some (.cells #[.int .i64 g, .int .i64 6, .slice none 0 0, .int .i64 0, .int .i64 0, .int .i64 0, .int .i64 0, .int .i64 0, .bool false, .bool false] 70 (0, 0))) :
    Calls Try.prog 140 #[.pointer (some ⟨b, 0, none⟩), .pointer (some ⟨X, 0, none⟩)] w (FwdPost b X s g st0 w) := by
  have ok1 := numTo_ok (most := 3) hok0
  have ok5 := numTo_ok (most := 6) ok1
  have hm6 := numTo_le s 6 (numTo s 3 st0).2
  have G1 := Lib.hid (fun W (hW : RdAt b s st0 W) => numberTo_any b s hs 3 st0 hok0 W hW)
  rw [hf] at G1
  replace G1 := Lib.hid (fun W (hW : RdAt b s st0 W) => (show Reads 135 #[.pointer (some ⟨b, 0, none⟩), .int .i64 3] b s W (.int .i64 0) (numTo s 3 st0).2 from G1.out W hW))
  have G5 := Lib.hid (fun W (hW : RdAt b s (numTo s 3 st0).2 W) => (show Reads 135 #[.pointer (some ⟨b, 0, none⟩), .int .i64 6] b s W (.int .i64 (numTo s 6 (numTo s 3 st0).2).1) (numTo s 6 (numTo s 3 st0).2).2 from numberTo_any b s hs 6 _ ok1 W hW))
  have hxl : (entM s (idxRead s) (numTo s 6 (numTo s 3 st0).2).1 0 (numTo s 6 (numTo s 3 st0).2).2).1.length ≤ 6 := Nat.le_trans (entM_len _ _ _) hm6
  have GE := Lib.hid (fun W (hW : RdAt b s (numTo s 6 (numTo s 3 st0).2).2 W) c (hc : W.cell? ⟨c, 0, none⟩ = some (.pointer (some ⟨b, 0, none⟩))) (hcb : c ≠ b) => entRead_makes b c (numTo s 6 (numTo s 3 st0).2).1 s hs hm6 (numTo s 6 (numTo s 3 st0).2).2 ok5 hcb W hW hc)
  have HQ := Lib.hid (show fwdM s g st0 = (⟨g, 6, (entM s (idxRead s) (numTo s 6 (numTo s 3 st0).2).1 0 (numTo s 6 (numTo s 3 st0).2).2).1, 0, 0, 0, 0, 0, false, false⟩, (entM s (idxRead s) (numTo s 6 (numTo s 3 st0).2).1 0 (numTo s 6 (numTo s 3 st0).2).2).2) from by simp [fwdM, hf])
  have hb1 : bits .and .i64 0 1 = 0 := by decide
  have hb2 : bits .and .i64 0 2 = 0 := by decide
  have eg : Enters Try.prog 145 := enters_of Try.func145 (by kernel_rfl) rfl
  unfold FwdPost
  rw [HQ.out]
  clear HQ hf hm6 ok1 ok5
  generalize (entM s (idxRead s) (numTo s 6 (numTo s 3 st0).2).1 0 (numTo s 6 (numTo s 3 st0).2).2) = R6 at *
  generalize numTo s 6 (numTo s 3 st0).2 = R5 at *
  generalize numTo s 3 st0 = R1 at *
  obtain ⟨m1, s1⟩ := R1
  obtain ⟨m5, s5⟩ := R5
  obtain ⟨xs, s6⟩ := R6
  dsimp only at *
  have hA0 := bel_alloc (Below.refl w.heap.size w) (.cells #[.pointer (some ⟨b, 0, none⟩)] 197)
  have H0a : RdAt b s st0 (w.alloc (.cells #[.pointer (some ⟨b, 0, none⟩)] 197)) := hb.below hA0
  have hp0a := (hA0.block X (heap_ltP hp)).trans hp
  have hc0a := (Boxed.new w 197 (.pointer (some ⟨b, 0, none⟩))).cell
  have hF0a : FrameT (fun k => k = b ∨ k = X) w (w.alloc (.cells #[.pointer (some ⟨b, 0, none⟩)] 197)) := FrameT.below hA0
  have hcX : w.heap.size ≠ X := by have := heap_ltP hp; omega
  have hXc : X ≠ w.heap.size := Ne.symm hcX
  have hcb : w.heap.size ≠ b := by have := hb.lt; omega
  have hbc : b ≠ w.heap.size := Ne.symm hcb
  have hbX : b ≠ X := Ne.symm hXb
  have hXw := heap_ltP hp
  clear hA0
  simp only [ReadC.part]
  go_enter Try.func140, Try.ntmps140
  go_wp2_with (first
    | (go_at_call 135; ((with_reducible refine (G1.out _ H0a).mono ?_); rintro e w1 ⟨rfl, Hw1, hF⟩; have hpw1 := hF.get hp0a hXb; have hcw1 := hF.cell hc0a hcb; have hFw1 := hF0a.trans (hF.mono (fun _ h => .inl h)); clear hF; have qw1f8 := frozen_of_row _ _ 8 _ _ hpw1; have qw1k8 : w1.cell? ⟨X, 8, none⟩ = some (.bool false) := cell_of_row _ _ 8 _ _ _ hpw1; have qw1f9 := frozen_of_row _ _ 9 _ _ hpw1; have qw1k9 : w1.cell? ⟨X, 9, none⟩ = some (.bool false) := cell_of_row _ _ 9 _ _ _ hpw1; have hpw1a := Go.Joins.block_setCell (Go.Joins.block_setCell (hpw1) (.bool false) (i := 8)) (.bool false) (i := 9); simp only [List.setIfInBounds_toArray, List.set_cons_succ, List.set_cons_zero] at hpw1a; have Hw1a := ((Hw1).st (i := 8) (v := .bool false) (Ne.symm hXb)).st (i := 9) (v := .bool false) (Ne.symm hXb); have hFw1a := ((hFw1).trans ((FrameT.setCell _ X 8 (.bool false)).mono (fun _ h => .inr h))).trans ((FrameT.setCell _ X 9 (.bool false)).mono (fun _ h => .inr h)); have hcw1a : ((w1.setCell ⟨X, 8, none⟩ (.bool false)).setCell ⟨X, 9, none⟩ (.bool false)).cell? ⟨w.heap.size, 0, none⟩ = some (.pointer (some ⟨b, 0, none⟩)) := cell_st1 (cell_st1 (hcw1) hcX) hcX; skip))
    | (go_at_call 135; ((with_reducible refine (G5.out _ Hw1a).mono ?_); rintro e w5 ⟨rfl, Hw5, hF⟩; have hpw5 := hF.get hpw1a hXb; have hcw5 := hF.cell hcw1a hcb; have hFw5 := hFw1a.trans (hF.mono (fun _ h => .inl h)); clear hF; have hpw5a := hpw5; have Hw5a := Hw5; have hFw5a := hFw5; have hcw5a := hcw5; have hXw5 := heap_ltP hpw5; skip))
    | (go_at_call 137; ((with_reducible refine (GE.out _ Hw5 _ hcw5 hcb).mono ?_); rintro e w6 ⟨lb, rfl, hE6, hI6⟩; have Hw6 := Hw5.below hE6; have hpw6 := (hE6.block _ (heap_ltP hpw5)).trans hpw5; have hcw6 := (hE6.cell (p := ⟨w.heap.size, 0, none⟩) (by have := hFw5.size; have := heap_ltP hpw5; obtain ⟨o, ho, _⟩ := isCells_of_cell hcw5; exact (Array.getElem?_eq_some_iff.1 ho).1)).trans hcw5; have hFw6 := hFw5.trans (FrameT.below hE6); have hXs6 := heap_ltP hpw6; have HI6 := Lib.hid hI6; clear hI6 hE6))
    | (go_at_call 136; ((with_reducible refine (collect_any b 145 lb xs _ _ w6 HI6.out eg (fun _ h => h) Hw6.lt (Stab.block id (.inr rfl)) (by omega)).mono ?_); rintro e w7 ⟨v, rfl, hown, Hw7, hF⟩; obtain ⟨xa, xc, rfl, hrow, hoff⟩ := own_ent hown; have hpw7 := hF.get hpw6 hXb; have hcw7 := hF.cell hcw6 hcb; have hs6 := hFw6.size; have hFw7 := hFw6.trans (hF.mono (fun _ h => .inl h)); clear hF hown; have qw7f2 := frozen_of_row _ _ 2 _ _ hpw7; have qw7k2 : w7.cell? ⟨X, 2, none⟩ = some (.slice none 0 0) := cell_of_row _ _ 2 _ _ _ hpw7; have hpw7a := Go.Joins.block_setCell (hpw7) (.slice xa xs.length xc) (i := 2); simp only [List.setIfInBounds_toArray, List.set_cons_succ, List.set_cons_zero] at hpw7a; have Hw7a := (Hw7).st (i := 2) (v := .slice xa xs.length xc) (Ne.symm hXb); have hFw7a := (hFw7).trans ((FrameT.setCell _ X 2 (.slice xa xs.length xc)).mono (fun _ h => .inr h)); have hcw7a : (w7.setCell ⟨X, 2, none⟩ (.slice xa xs.length xc)).cell? ⟨w.heap.size, 0, none⟩ = some (.pointer (some ⟨b, 0, none⟩)) := cell_st1 (hcw7) hcX; skip)))
  go_end0
  refine ⟨rfl, Hw7a, ⟨xa, xc, hpw7a, ?_, fun k hk => Nat.le_trans hs6 (hoff k hk)⟩, hFw7a⟩
  have hent : HasE (w7.setCell ⟨X, 2, none⟩ (.slice xa xs.length xc)) (⟨g, 6, xa, xs.length, xc, 0, 0, 0, 0, 0, false, false⟩ : PartC) xs := HasE.off (R := X) (W := w7) ⟨rfl, (by dsimp only; omega), hrow⟩ (fun k hk => by have := hoff k hk; omega) (fun k hk => heap_setCell_other _ ⟨X, 2, none⟩ _ _ hk) (by simp)
  exact hent.2.2

set_option maxRecDepth 100000 in
set_option maxHeartbeats 4000000 in
theorem forward1_any (b X : Nat) (s : ByteArray) (hs : s.size < 4611686018427387904) (st0 : RSt) (hok0 : st0.ok s) (hf : (numTo s 3 st0).1 = 1) (g : Int) (hXb : X ≠ b) (w : World) (hb : RdAt b s st0 w)
    (hp : w.heap[X]? = some (.cells #[.int .i64 g, .int .i64 6, .slice none 0 0, .int .i64 0, .int .i64 0, .int .i64 0, .int .i64 0, .int .i64 0, .bool false, .bool false] 70 (0, 0))) :
    Calls Try.prog 140 #[.pointer (some ⟨b, 0, none⟩), .pointer (some ⟨X, 0, none⟩)] w (FwdPost b X s g st0 w) := by
  have ok1 := numTo_ok (most := 3) hok0
  have ok2 := numM_ok ok1
  have ok3 := numM_ok ok2
  have ok5 := numTo_ok (most := 6) ok3
  have hm6 := numTo_le s 6 (numM s (numM s (numTo s 3 st0).2).2).2
  have G1 := Lib.hid (fun W (hW : RdAt b s st0 W) => numberTo_any b s hs 3 st0 hok0 W hW)
  rw [hf] at G1
  replace G1 := Lib.hid (fun W (hW : RdAt b s st0 W) => (show Reads 135 #[.pointer (some ⟨b, 0, none⟩), .int .i64 3] b s W (.int .i64 1) (numTo s 3 st0).2 from G1.out W hW))
  have G2 := Lib.hid (fun W (hW : RdAt b s (numTo s 3 st0).2 W) => number_any b s hs _ ok1 W hW)
  have G3 := Lib.hid (fun W (hW : RdAt b s (numM s (numTo s 3 st0).2).2 W) => number_any b s hs _ ok2 W hW)
  have G5 := Lib.hid (fun W (hW : RdAt b s (numM s (numM s (numTo s 3 st0).2).2).2 W) => (show Reads 135 #[.pointer (some ⟨b, 0, none⟩), .int .i64 6] b s W (.int .i64 (numTo s 6 (numM s (numM s (numTo s 3 st0).2).2).2).1) (numTo s 6 (numM s (numM s (numTo s 3 st0).2).2).2).2 from numberTo_any b s hs 6 _ ok3 W hW))
  have hxl : (entM s (idxRead s) (numTo s 6 (numM s (numM s (numTo s 3 st0).2).2).2).1 0 (numTo s 6 (numM s (numM s (numTo s 3 st0).2).2).2).2).1.length ≤ 6 := Nat.le_trans (entM_len _ _ _) hm6
  have GE := Lib.hid (fun W (hW : RdAt b s (numTo s 6 (numM s (numM s (numTo s 3 st0).2).2).2).2 W) c (hc : W.cell? ⟨c, 0, none⟩ = some (.pointer (some ⟨b, 0, none⟩))) (hcb : c ≠ b) => entRead_makes b c (numTo s 6 (numM s (numM s (numTo s 3 st0).2).2).2).1 s hs hm6 (numTo s 6 (numM s (numM s (numTo s 3 st0).2).2).2).2 ok5 hcb W hW hc)
  have HQ := Lib.hid (show fwdM s g st0 = (⟨g, 6, (entM s (idxRead s) (numTo s 6 (numM s (numM s (numTo s 3 st0).2).2).2).1 0 (numTo s 6 (numM s (numM s (numTo s 3 st0).2).2).2).2).1, 0, 0, 0, ((numM s (numTo s 3 st0).2).1 : Int), ((numM s (numM s (numTo s 3 st0).2).2).1 : Int), true, false⟩, (entM s (idxRead s) (numTo s 6 (numM s (numM s (numTo s 3 st0).2).2).2).1 0 (numTo s 6 (numM s (numM s (numTo s 3 st0).2).2).2).2).2) from by simp [fwdM, hf])
  have hb1 : bits .and .i64 1 1 = 1 := by decide
  have hb2 : bits .and .i64 1 2 = 0 := by decide
  have eg : Enters Try.prog 145 := enters_of Try.func145 (by kernel_rfl) rfl
  unfold FwdPost
  rw [HQ.out]
  clear HQ hf hm6 ok1 ok2 ok3 ok5
  generalize (entM s (idxRead s) (numTo s 6 (numM s (numM s (numTo s 3 st0).2).2).2).1 0 (numTo s 6 (numM s (numM s (numTo s 3 st0).2).2).2).2) = R6 at *
  generalize numTo s 6 (numM s (numM s (numTo s 3 st0).2).2).2 = R5 at *
  generalize numM s (numM s (numTo s 3 st0).2).2 = R3 at *
  generalize numM s (numTo s 3 st0).2 = R2 at *
  generalize numTo s 3 st0 = R1 at *
  obtain ⟨m1, s1⟩ := R1
  obtain ⟨i, s2⟩ := R2
  obtain ⟨t, s3⟩ := R3
  obtain ⟨m5, s5⟩ := R5
  obtain ⟨xs, s6⟩ := R6
  dsimp only at *
  have hA0 := bel_alloc (Below.refl w.heap.size w) (.cells #[.pointer (some ⟨b, 0, none⟩)] 197)
  have H0a : RdAt b s st0 (w.alloc (.cells #[.pointer (some ⟨b, 0, none⟩)] 197)) := hb.below hA0
  have hp0a := (hA0.block X (heap_ltP hp)).trans hp
  have hc0a := (Boxed.new w 197 (.pointer (some ⟨b, 0, none⟩))).cell
  have hF0a : FrameT (fun k => k = b ∨ k = X) w (w.alloc (.cells #[.pointer (some ⟨b, 0, none⟩)] 197)) := FrameT.below hA0
  have hcX : w.heap.size ≠ X := by have := heap_ltP hp; omega
  have hXc : X ≠ w.heap.size := Ne.symm hcX
  have hcb : w.heap.size ≠ b := by have := hb.lt; omega
  have hbc : b ≠ w.heap.size := Ne.symm hcb
  have hbX : b ≠ X := Ne.symm hXb
  have hXw := heap_ltP hp
  clear hA0
  simp only [ReadC.part]
  go_enter Try.func140, Try.ntmps140
  go_wp2_with (first
    | (go_at_call 135; ((with_reducible refine (G1.out _ H0a).mono ?_); rintro e w1 ⟨rfl, Hw1, hF⟩; have hpw1 := hF.get hp0a hXb; have hcw1 := hF.cell hc0a hcb; have hFw1 := hF0a.trans (hF.mono (fun _ h => .inl h)); clear hF; have qw1f8 := frozen_of_row _ _ 8 _ _ hpw1; have qw1k8 : w1.cell? ⟨X, 8, none⟩ = some (.bool false) := cell_of_row _ _ 8 _ _ _ hpw1; have hpw1a := Go.Joins.block_setCell (hpw1) (.bool true) (i := 8); simp only [List.setIfInBounds_toArray, List.set_cons_succ, List.set_cons_zero] at hpw1a; have Hw1a := (Hw1).st (i := 8) (v := .bool true) (Ne.symm hXb); have hFw1a := (hFw1).trans ((FrameT.setCell _ X 8 (.bool true)).mono (fun _ h => .inr h)); have hcw1a : (w1.setCell ⟨X, 8, none⟩ (.bool true)).cell? ⟨w.heap.size, 0, none⟩ = some (.pointer (some ⟨b, 0, none⟩)) := cell_st1 (hcw1) hcX; skip)))
  have Hda : RdAt b s _ ((w1.setCell ⟨X, 8, none⟩ (.bool true))).drew := Hw1a
  have hpda : ((w1.setCell ⟨X, 8, none⟩ (.bool true))).drew.heap[X]? = _ := hpw1a
  have hcda : ((w1.setCell ⟨X, 8, none⟩ (.bool true))).drew.cell? ⟨w.heap.size, 0, none⟩ = _ := hcw1a
  have hFda := hFw1a.drew
  go_region_held3 (fun W' => W'.cell? ⟨w.heap.size, 0, none⟩ = some (.pointer (some ⟨b, 0, none⟩))) (go_keep) (first
    | (go_at_call 134; ((with_reducible refine (G2.out _ Hda).mono ?_); rintro e w2 ⟨rfl, Hw2, hF⟩; have hpw2 := hF.get hpda hXb; have hcw2 := hF.cell hcda hcb; have hFw2 := hFda.trans (hF.mono (fun _ h => .inl h)); clear hF; have hpw2a := hpw2; have Hw2a := Hw2; have hFw2a := hFw2; have hcw2a := hcw2; skip))
    | (go_at_call 134; ((with_reducible refine (G3.out _ Hw2a).mono ?_); rintro e w3 ⟨rfl, Hw3, hF⟩; have hpw3 := hF.get hpw2a hXb; have hcw3 := hF.cell hcw2a hcb; have hFw3 := hFw2a.trans (hF.mono (fun _ h => .inl h)); clear hF; have qw3f6 := frozen_of_row _ _ 6 _ _ hpw3; have qw3k6 : w3.cell? ⟨X, 6, none⟩ = some (.int .i64 0) := cell_of_row _ _ 6 _ _ _ hpw3; have qw3f7 := frozen_of_row _ _ 7 _ _ hpw3; have qw3k7 : w3.cell? ⟨X, 7, none⟩ = some (.int .i64 0) := cell_of_row _ _ 7 _ _ _ hpw3; have qw3f9 := frozen_of_row _ _ 9 _ _ hpw3; have qw3k9 : w3.cell? ⟨X, 9, none⟩ = some (.bool false) := cell_of_row _ _ 9 _ _ _ hpw3; have hpw3a := Go.Joins.block_setCell (Go.Joins.block_setCell (Go.Joins.block_setCell (hpw3) (.int .i64 i) (i := 6)) (.int .i64 t) (i := 7)) (.bool false) (i := 9); simp only [List.setIfInBounds_toArray, List.set_cons_succ, List.set_cons_zero] at hpw3a; have Hw3a := (((Hw3).st (i := 6) (v := .int .i64 i) (Ne.symm hXb)).st (i := 7) (v := .int .i64 t) (Ne.symm hXb)).st (i := 9) (v := .bool false) (Ne.symm hXb); have hFw3a := (((hFw3).trans ((FrameT.setCell _ X 6 (.int .i64 i)).mono (fun _ h => .inr h))).trans ((FrameT.setCell _ X 7 (.int .i64 t)).mono (fun _ h => .inr h))).trans ((FrameT.setCell _ X 9 (.bool false)).mono (fun _ h => .inr h)); have hcw3a : (((w3.setCell ⟨X, 6, none⟩ (.int .i64 i)).setCell ⟨X, 7, none⟩ (.int .i64 t)).setCell ⟨X, 9, none⟩ (.bool false)).cell? ⟨w.heap.size, 0, none⟩ = some (.pointer (some ⟨b, 0, none⟩)) := cell_st1 (cell_st1 (cell_st1 (hcw3) hcX) hcX) hcX; skip)))
  go_wp2_with (first
    | (go_at_call 135; ((with_reducible refine (G5.out _ Hw3a).mono ?_); rintro e w5 ⟨rfl, Hw5, hF⟩; have hpw5 := hF.get hpw3a hXb; have hcw5 := hF.cell hcw3a hcb; have hFw5 := hFw3a.trans (hF.mono (fun _ h => .inl h)); clear hF; have hpw5a := hpw5; have Hw5a := Hw5; have hFw5a := hFw5; have hcw5a := hcw5; have hXw5 := heap_ltP hpw5; skip))
    | (go_at_call 137; ((with_reducible refine (GE.out _ Hw5 _ hcw5 hcb).mono ?_); rintro e w6 ⟨lb, rfl, hE6, hI6⟩; have Hw6 := Hw5.below hE6; have hpw6 := (hE6.block _ (heap_ltP hpw5)).trans hpw5; have hcw6 := (hE6.cell (p := ⟨w.heap.size, 0, none⟩) (by have := hFw5.size; have := heap_ltP hpw5; obtain ⟨o, ho, _⟩ := isCells_of_cell hcw5; exact (Array.getElem?_eq_some_iff.1 ho).1)).trans hcw5; have hFw6 := hFw5.trans (FrameT.below hE6); have hXs6 := heap_ltP hpw6; have HI6 := Lib.hid hI6; clear hI6 hE6))
    | (go_at_call 136; ((with_reducible refine (collect_any b 145 lb xs _ _ w6 HI6.out eg (fun _ h => h) Hw6.lt (Stab.block id (.inr rfl)) (by omega)).mono ?_); rintro e w7 ⟨v, rfl, hown, Hw7, hF⟩; obtain ⟨xa, xc, rfl, hrow, hoff⟩ := own_ent hown; have hpw7 := hF.get hpw6 hXb; have hcw7 := hF.cell hcw6 hcb; have hs6 := hFw6.size; have hFw7 := hFw6.trans (hF.mono (fun _ h => .inl h)); clear hF hown; have qw7f2 := frozen_of_row _ _ 2 _ _ hpw7; have qw7k2 : w7.cell? ⟨X, 2, none⟩ = some (.slice none 0 0) := cell_of_row _ _ 2 _ _ _ hpw7; have hpw7a := Go.Joins.block_setCell (hpw7) (.slice xa xs.length xc) (i := 2); simp only [List.setIfInBounds_toArray, List.set_cons_succ, List.set_cons_zero] at hpw7a; have Hw7a := (Hw7).st (i := 2) (v := .slice xa xs.length xc) (Ne.symm hXb); have hFw7a := (hFw7).trans ((FrameT.setCell _ X 2 (.slice xa xs.length xc)).mono (fun _ h => .inr h)); have hcw7a : (w7.setCell ⟨X, 2, none⟩ (.slice xa xs.length xc)).cell? ⟨w.heap.size, 0, none⟩ = some (.pointer (some ⟨b, 0, none⟩)) := cell_st1 (hcw7) hcX; skip)))
  go_end0
  refine ⟨rfl, Hw7a, ⟨xa, xc, hpw7a, ?_, fun k hk => Nat.le_trans hs6 (hoff k hk)⟩, hFw7a⟩
  have hent : HasE (w7.setCell ⟨X, 2, none⟩ (.slice xa xs.length xc)) (⟨g, 6, xa, xs.length, xc, 0, 0, 0, i, t, true, false⟩ : PartC) xs := HasE.off (R := X) (W := w7) ⟨rfl, (by dsimp only; omega), hrow⟩ (fun k hk => by have := hoff k hk; omega) (fun k hk => heap_setCell_other _ ⟨X, 2, none⟩ _ _ hk) (by simp)
  exact hent.2.2

set_option maxRecDepth 100000 in
set_option maxHeartbeats 4000000 in
theorem forward2_any (b X : Nat) (s : ByteArray) (hs : s.size < 4611686018427387904) (st0 : RSt) (hok0 : st0.ok s) (hf : (numTo s 3 st0).1 = 2) (g : Int) (hXb : X ≠ b) (w : World) (hb : RdAt b s st0 w)
    (hp : w.heap[X]? = some (.cells #[.int .i64 g, .int .i64 6, .slice none 0 0, .int .i64 0, .int .i64 0, .int .i64 0, .int .i64 0, .int .i64 0, .bool false, .bool false] 70 (0, 0))) :
    Calls Try.prog 140 #[.pointer (some ⟨b, 0, none⟩), .pointer (some ⟨X, 0, none⟩)] w (FwdPost b X s g st0 w) := by
  have ok1 := numTo_ok (most := 3) hok0
  have ok4 := hardM_ok ok1
  have ok5 := numTo_ok (most := 6) ok4
  have hm6 := numTo_le s 6 (hardM s (numTo s 3 st0).2).2
  have G1 := Lib.hid (fun W (hW : RdAt b s st0 W) => numberTo_any b s hs 3 st0 hok0 W hW)
  rw [hf] at G1
  replace G1 := Lib.hid (fun W (hW : RdAt b s st0 W) => (show Reads 135 #[.pointer (some ⟨b, 0, none⟩), .int .i64 3] b s W (.int .i64 2) (numTo s 3 st0).2 from G1.out W hW))
  have G4 := Lib.hid (fun W (hW : RdAt b s (numTo s 3 st0).2 W) => hard_read b s hs _ ok1 W hW)
  have G5 := Lib.hid (fun W (hW : RdAt b s (hardM s (numTo s 3 st0).2).2 W) => (show Reads 135 #[.pointer (some ⟨b, 0, none⟩), .int .i64 6] b s W (.int .i64 (numTo s 6 (hardM s (numTo s 3 st0).2).2).1) (numTo s 6 (hardM s (numTo s 3 st0).2).2).2 from numberTo_any b s hs 6 _ ok4 W hW))
  have hxl : (entM s (idxRead s) (numTo s 6 (hardM s (numTo s 3 st0).2).2).1 0 (numTo s 6 (hardM s (numTo s 3 st0).2).2).2).1.length ≤ 6 := Nat.le_trans (entM_len _ _ _) hm6
  have GE := Lib.hid (fun W (hW : RdAt b s (numTo s 6 (hardM s (numTo s 3 st0).2).2).2 W) c (hc : W.cell? ⟨c, 0, none⟩ = some (.pointer (some ⟨b, 0, none⟩))) (hcb : c ≠ b) => entRead_makes b c (numTo s 6 (hardM s (numTo s 3 st0).2).2).1 s hs hm6 (numTo s 6 (hardM s (numTo s 3 st0).2).2).2 ok5 hcb W hW hc)
  have HQ := Lib.hid (show fwdM s g st0 = (⟨g, 6, (entM s (idxRead s) (numTo s 6 (hardM s (numTo s 3 st0).2).2).1 0 (numTo s 6 (hardM s (numTo s 3 st0).2).2).2).1, ((hardM s (numTo s 3 st0).2).1.1 : Int), ((hardM s (numTo s 3 st0).2).1.2.1 : Int), ((hardM s (numTo s 3 st0).2).1.2.2 : Int), 0, 0, false, true⟩, (entM s (idxRead s) (numTo s 6 (hardM s (numTo s 3 st0).2).2).1 0 (numTo s 6 (hardM s (numTo s 3 st0).2).2).2).2) from by simp [fwdM, hf])
  have hb1 : bits .and .i64 2 1 = 0 := by decide
  have hb2 : bits .and .i64 2 2 = 2 := by decide
  have eg : Enters Try.prog 145 := enters_of Try.func145 (by kernel_rfl) rfl
  unfold FwdPost
  rw [HQ.out]
  clear HQ hf hm6 ok1 ok4 ok5
  generalize (entM s (idxRead s) (numTo s 6 (hardM s (numTo s 3 st0).2).2).1 0 (numTo s 6 (hardM s (numTo s 3 st0).2).2).2) = R6 at *
  generalize numTo s 6 (hardM s (numTo s 3 st0).2).2 = R5 at *
  generalize hardM s (numTo s 3 st0).2 = R4 at *
  generalize numTo s 3 st0 = R1 at *
  obtain ⟨m1, s1⟩ := R1
  obtain ⟨⟨x1, x2, x3⟩, s4⟩ := R4
  obtain ⟨m5, s5⟩ := R5
  obtain ⟨xs, s6⟩ := R6
  dsimp only at *
  have hA0 := bel_alloc (Below.refl w.heap.size w) (.cells #[.pointer (some ⟨b, 0, none⟩)] 197)
  have H0a : RdAt b s st0 (w.alloc (.cells #[.pointer (some ⟨b, 0, none⟩)] 197)) := hb.below hA0
  have hp0a := (hA0.block X (heap_ltP hp)).trans hp
  have hc0a := (Boxed.new w 197 (.pointer (some ⟨b, 0, none⟩))).cell
  have hF0a : FrameT (fun k => k = b ∨ k = X) w (w.alloc (.cells #[.pointer (some ⟨b, 0, none⟩)] 197)) := FrameT.below hA0
  have hcX : w.heap.size ≠ X := by have := heap_ltP hp; omega
  have hXc : X ≠ w.heap.size := Ne.symm hcX
  have hcb : w.heap.size ≠ b := by have := hb.lt; omega
  have hbc : b ≠ w.heap.size := Ne.symm hcb
  have hbX : b ≠ X := Ne.symm hXb
  have hXw := heap_ltP hp
  clear hA0
  simp only [ReadC.part]
  go_enter Try.func140, Try.ntmps140
  go_wp2_with (first
    | (go_at_call 135; ((with_reducible refine (G1.out _ H0a).mono ?_); rintro e w1 ⟨rfl, Hw1, hF⟩; have hpw1 := hF.get hp0a hXb; have hcw1 := hF.cell hc0a hcb; have hFw1 := hF0a.trans (hF.mono (fun _ h => .inl h)); clear hF; have qw1f8 := frozen_of_row _ _ 8 _ _ hpw1; have qw1k8 : w1.cell? ⟨X, 8, none⟩ = some (.bool false) := cell_of_row _ _ 8 _ _ _ hpw1; have qw1f9 := frozen_of_row _ _ 9 _ _ hpw1; have qw1k9 : w1.cell? ⟨X, 9, none⟩ = some (.bool false) := cell_of_row _ _ 9 _ _ _ hpw1; have hpw1a := Go.Joins.block_setCell (Go.Joins.block_setCell (hpw1) (.bool false) (i := 8)) (.bool true) (i := 9); simp only [List.setIfInBounds_toArray, List.set_cons_succ, List.set_cons_zero] at hpw1a; have Hw1a := ((Hw1).st (i := 8) (v := .bool false) (Ne.symm hXb)).st (i := 9) (v := .bool true) (Ne.symm hXb); have hFw1a := ((hFw1).trans ((FrameT.setCell _ X 8 (.bool false)).mono (fun _ h => .inr h))).trans ((FrameT.setCell _ X 9 (.bool true)).mono (fun _ h => .inr h)); have hcw1a : ((w1.setCell ⟨X, 8, none⟩ (.bool false)).setCell ⟨X, 9, none⟩ (.bool true)).cell? ⟨w.heap.size, 0, none⟩ = some (.pointer (some ⟨b, 0, none⟩)) := cell_st1 (cell_st1 (hcw1) hcX) hcX; skip))
    | (go_at_call 139; ((with_reducible refine (G4.out _ Hw1a).mono ?_); rintro e w4 ⟨rfl, Hw4, hF⟩; have hpw4 := hF.get hpw1a hXb; have hcw4 := hF.cell hcw1a hcb; have hFw4 := hFw1a.trans (hF.mono (fun _ h => .inl h)); clear hF; have qw4f3 := frozen_of_row _ _ 3 _ _ hpw4; have qw4k3 : w4.cell? ⟨X, 3, none⟩ = some (.int .i64 0) := cell_of_row _ _ 3 _ _ _ hpw4; have qw4f4 := frozen_of_row _ _ 4 _ _ hpw4; have qw4k4 : w4.cell? ⟨X, 4, none⟩ = some (.int .i64 0) := cell_of_row _ _ 4 _ _ _ hpw4; have qw4f5 := frozen_of_row _ _ 5 _ _ hpw4; have qw4k5 : w4.cell? ⟨X, 5, none⟩ = some (.int .i64 0) := cell_of_row _ _ 5 _ _ _ hpw4; have hpw4a := Go.Joins.block_setCell (Go.Joins.block_setCell (Go.Joins.block_setCell (hpw4) (.int .i64 x1) (i := 3)) (.int .i64 x2) (i := 4)) (.int .i64 x3) (i := 5); simp only [List.setIfInBounds_toArray, List.set_cons_succ, List.set_cons_zero] at hpw4a; have Hw4a := (((Hw4).st (i := 3) (v := .int .i64 x1) (Ne.symm hXb)).st (i := 4) (v := .int .i64 x2) (Ne.symm hXb)).st (i := 5) (v := .int .i64 x3) (Ne.symm hXb); have hFw4a := (((hFw4).trans ((FrameT.setCell _ X 3 (.int .i64 x1)).mono (fun _ h => .inr h))).trans ((FrameT.setCell _ X 4 (.int .i64 x2)).mono (fun _ h => .inr h))).trans ((FrameT.setCell _ X 5 (.int .i64 x3)).mono (fun _ h => .inr h)); have hcw4a : (((w4.setCell ⟨X, 3, none⟩ (.int .i64 x1)).setCell ⟨X, 4, none⟩ (.int .i64 x2)).setCell ⟨X, 5, none⟩ (.int .i64 x3)).cell? ⟨w.heap.size, 0, none⟩ = some (.pointer (some ⟨b, 0, none⟩)) := cell_st1 (cell_st1 (cell_st1 (hcw4) hcX) hcX) hcX; skip))
    | (go_at_call 135; ((with_reducible refine (G5.out _ Hw4a).mono ?_); rintro e w5 ⟨rfl, Hw5, hF⟩; have hpw5 := hF.get hpw4a hXb; have hcw5 := hF.cell hcw4a hcb; have hFw5 := hFw4a.trans (hF.mono (fun _ h => .inl h)); clear hF; have hpw5a := hpw5; have Hw5a := Hw5; have hFw5a := hFw5; have hcw5a := hcw5; have hXw5 := heap_ltP hpw5; skip))
    | (go_at_call 137; ((with_reducible refine (GE.out _ Hw5 _ hcw5 hcb).mono ?_); rintro e w6 ⟨lb, rfl, hE6, hI6⟩; have Hw6 := Hw5.below hE6; have hpw6 := (hE6.block _ (heap_ltP hpw5)).trans hpw5; have hcw6 := (hE6.cell (p := ⟨w.heap.size, 0, none⟩) (by have := hFw5.size; have := heap_ltP hpw5; obtain ⟨o, ho, _⟩ := isCells_of_cell hcw5; exact (Array.getElem?_eq_some_iff.1 ho).1)).trans hcw5; have hFw6 := hFw5.trans (FrameT.below hE6); have hXs6 := heap_ltP hpw6; have HI6 := Lib.hid hI6; clear hI6 hE6))
    | (go_at_call 136; ((with_reducible refine (collect_any b 145 lb xs _ _ w6 HI6.out eg (fun _ h => h) Hw6.lt (Stab.block id (.inr rfl)) (by omega)).mono ?_); rintro e w7 ⟨v, rfl, hown, Hw7, hF⟩; obtain ⟨xa, xc, rfl, hrow, hoff⟩ := own_ent hown; have hpw7 := hF.get hpw6 hXb; have hcw7 := hF.cell hcw6 hcb; have hs6 := hFw6.size; have hFw7 := hFw6.trans (hF.mono (fun _ h => .inl h)); clear hF hown; have qw7f2 := frozen_of_row _ _ 2 _ _ hpw7; have qw7k2 : w7.cell? ⟨X, 2, none⟩ = some (.slice none 0 0) := cell_of_row _ _ 2 _ _ _ hpw7; have hpw7a := Go.Joins.block_setCell (hpw7) (.slice xa xs.length xc) (i := 2); simp only [List.setIfInBounds_toArray, List.set_cons_succ, List.set_cons_zero] at hpw7a; have Hw7a := (Hw7).st (i := 2) (v := .slice xa xs.length xc) (Ne.symm hXb); have hFw7a := (hFw7).trans ((FrameT.setCell _ X 2 (.slice xa xs.length xc)).mono (fun _ h => .inr h)); have hcw7a : (w7.setCell ⟨X, 2, none⟩ (.slice xa xs.length xc)).cell? ⟨w.heap.size, 0, none⟩ = some (.pointer (some ⟨b, 0, none⟩)) := cell_st1 (hcw7) hcX; skip)))
  go_end0
  refine ⟨rfl, Hw7a, ⟨xa, xc, hpw7a, ?_, fun k hk => Nat.le_trans hs6 (hoff k hk)⟩, hFw7a⟩
  have hent : HasE (w7.setCell ⟨X, 2, none⟩ (.slice xa xs.length xc)) (⟨g, 6, xa, xs.length, xc, x1, x2, x3, 0, 0, false, true⟩ : PartC) xs := HasE.off (R := X) (W := w7) ⟨rfl, (by dsimp only; omega), hrow⟩ (fun k hk => by have := hoff k hk; omega) (fun k hk => heap_setCell_other _ ⟨X, 2, none⟩ _ _ hk) (by simp)
  exact hent.2.2

set_option maxRecDepth 100000 in
set_option maxHeartbeats 4000000 in
theorem forward3_any (b X : Nat) (s : ByteArray) (hs : s.size < 4611686018427387904) (st0 : RSt) (hok0 : st0.ok s) (hf : (numTo s 3 st0).1 = 3) (g : Int) (hXb : X ≠ b) (w : World) (hb : RdAt b s st0 w)
    (hp : w.heap[X]? = some (.cells #[.int .i64 g, .int .i64 6, .slice none 0 0, .int .i64 0, .int .i64 0, .int .i64 0, .int .i64 0, .int .i64 0, .bool false, .bool false] 70 (0, 0))) :
    Calls Try.prog 140 #[.pointer (some ⟨b, 0, none⟩), .pointer (some ⟨X, 0, none⟩)] w (FwdPost b X s g st0 w) := by
  have ok1 := numTo_ok (most := 3) hok0
  have ok2 := numM_ok ok1
  have ok3 := numM_ok ok2
  have ok4 := hardM_ok ok3
  have ok5 := numTo_ok (most := 6) ok4
  have hm6 := numTo_le s 6 (hardM s (numM s (numM s (numTo s 3 st0).2).2).2).2
  have G1 := Lib.hid (fun W (hW : RdAt b s st0 W) => numberTo_any b s hs 3 st0 hok0 W hW)
  rw [hf] at G1
  replace G1 := Lib.hid (fun W (hW : RdAt b s st0 W) => (show Reads 135 #[.pointer (some ⟨b, 0, none⟩), .int .i64 3] b s W (.int .i64 3) (numTo s 3 st0).2 from G1.out W hW))
  have G2 := Lib.hid (fun W (hW : RdAt b s (numTo s 3 st0).2 W) => number_any b s hs _ ok1 W hW)
  have G3 := Lib.hid (fun W (hW : RdAt b s (numM s (numTo s 3 st0).2).2 W) => number_any b s hs _ ok2 W hW)
  have G4 := Lib.hid (fun W (hW : RdAt b s (numM s (numM s (numTo s 3 st0).2).2).2 W) => hard_read b s hs _ ok3 W hW)
  have G5 := Lib.hid (fun W (hW : RdAt b s (hardM s (numM s (numM s (numTo s 3 st0).2).2).2).2 W) => (show Reads 135 #[.pointer (some ⟨b, 0, none⟩), .int .i64 6] b s W (.int .i64 (numTo s 6 (hardM s (numM s (numM s (numTo s 3 st0).2).2).2).2).1) (numTo s 6 (hardM s (numM s (numM s (numTo s 3 st0).2).2).2).2).2 from numberTo_any b s hs 6 _ ok4 W hW))
  have hxl : (entM s (idxRead s) (numTo s 6 (hardM s (numM s (numM s (numTo s 3 st0).2).2).2).2).1 0 (numTo s 6 (hardM s (numM s (numM s (numTo s 3 st0).2).2).2).2).2).1.length ≤ 6 := Nat.le_trans (entM_len _ _ _) hm6
  have GE := Lib.hid (fun W (hW : RdAt b s (numTo s 6 (hardM s (numM s (numM s (numTo s 3 st0).2).2).2).2).2 W) c (hc : W.cell? ⟨c, 0, none⟩ = some (.pointer (some ⟨b, 0, none⟩))) (hcb : c ≠ b) => entRead_makes b c (numTo s 6 (hardM s (numM s (numM s (numTo s 3 st0).2).2).2).2).1 s hs hm6 (numTo s 6 (hardM s (numM s (numM s (numTo s 3 st0).2).2).2).2).2 ok5 hcb W hW hc)
  have HQ := Lib.hid (show fwdM s g st0 = (⟨g, 6, (entM s (idxRead s) (numTo s 6 (hardM s (numM s (numM s (numTo s 3 st0).2).2).2).2).1 0 (numTo s 6 (hardM s (numM s (numM s (numTo s 3 st0).2).2).2).2).2).1, ((hardM s (numM s (numM s (numTo s 3 st0).2).2).2).1.1 : Int), ((hardM s (numM s (numM s (numTo s 3 st0).2).2).2).1.2.1 : Int), ((hardM s (numM s (numM s (numTo s 3 st0).2).2).2).1.2.2 : Int), ((numM s (numTo s 3 st0).2).1 : Int), ((numM s (numM s (numTo s 3 st0).2).2).1 : Int), true, true⟩, (entM s (idxRead s) (numTo s 6 (hardM s (numM s (numM s (numTo s 3 st0).2).2).2).2).1 0 (numTo s 6 (hardM s (numM s (numM s (numTo s 3 st0).2).2).2).2).2).2) from by simp [fwdM, hf])
  have hb1 : bits .and .i64 3 1 = 1 := by decide
  have hb2 : bits .and .i64 3 2 = 2 := by decide
  have eg : Enters Try.prog 145 := enters_of Try.func145 (by kernel_rfl) rfl
  unfold FwdPost
  rw [HQ.out]
  clear HQ hf hm6 ok1 ok2 ok3 ok4 ok5
  generalize (entM s (idxRead s) (numTo s 6 (hardM s (numM s (numM s (numTo s 3 st0).2).2).2).2).1 0 (numTo s 6 (hardM s (numM s (numM s (numTo s 3 st0).2).2).2).2).2) = R6 at *
  generalize numTo s 6 (hardM s (numM s (numM s (numTo s 3 st0).2).2).2).2 = R5 at *
  generalize hardM s (numM s (numM s (numTo s 3 st0).2).2).2 = R4 at *
  generalize numM s (numM s (numTo s 3 st0).2).2 = R3 at *
  generalize numM s (numTo s 3 st0).2 = R2 at *
  generalize numTo s 3 st0 = R1 at *
  obtain ⟨m1, s1⟩ := R1
  obtain ⟨i, s2⟩ := R2
  obtain ⟨t, s3⟩ := R3
  obtain ⟨⟨x1, x2, x3⟩, s4⟩ := R4
  obtain ⟨m5, s5⟩ := R5
  obtain ⟨xs, s6⟩ := R6
  dsimp only at *
  have hA0 := bel_alloc (Below.refl w.heap.size w) (.cells #[.pointer (some ⟨b, 0, none⟩)] 197)
  have H0a : RdAt b s st0 (w.alloc (.cells #[.pointer (some ⟨b, 0, none⟩)] 197)) := hb.below hA0
  have hp0a := (hA0.block X (heap_ltP hp)).trans hp
  have hc0a := (Boxed.new w 197 (.pointer (some ⟨b, 0, none⟩))).cell
  have hF0a : FrameT (fun k => k = b ∨ k = X) w (w.alloc (.cells #[.pointer (some ⟨b, 0, none⟩)] 197)) := FrameT.below hA0
  have hcX : w.heap.size ≠ X := by have := heap_ltP hp; omega
  have hXc : X ≠ w.heap.size := Ne.symm hcX
  have hcb : w.heap.size ≠ b := by have := hb.lt; omega
  have hbc : b ≠ w.heap.size := Ne.symm hcb
  have hbX : b ≠ X := Ne.symm hXb
  have hXw := heap_ltP hp
  clear hA0
  simp only [ReadC.part]
  go_enter Try.func140, Try.ntmps140
  go_wp2_with (first
    | (go_at_call 135; ((with_reducible refine (G1.out _ H0a).mono ?_); rintro e w1 ⟨rfl, Hw1, hF⟩; have hpw1 := hF.get hp0a hXb; have hcw1 := hF.cell hc0a hcb; have hFw1 := hF0a.trans (hF.mono (fun _ h => .inl h)); clear hF; have qw1f8 := frozen_of_row _ _ 8 _ _ hpw1; have qw1k8 : w1.cell? ⟨X, 8, none⟩ = some (.bool false) := cell_of_row _ _ 8 _ _ _ hpw1; have hpw1a := Go.Joins.block_setCell (hpw1) (.bool true) (i := 8); simp only [List.setIfInBounds_toArray, List.set_cons_succ, List.set_cons_zero] at hpw1a; have Hw1a := (Hw1).st (i := 8) (v := .bool true) (Ne.symm hXb); have hFw1a := (hFw1).trans ((FrameT.setCell _ X 8 (.bool true)).mono (fun _ h => .inr h)); have hcw1a : (w1.setCell ⟨X, 8, none⟩ (.bool true)).cell? ⟨w.heap.size, 0, none⟩ = some (.pointer (some ⟨b, 0, none⟩)) := cell_st1 (hcw1) hcX; skip)))
  have Hda : RdAt b s _ ((w1.setCell ⟨X, 8, none⟩ (.bool true))).drew := Hw1a
  have hpda : ((w1.setCell ⟨X, 8, none⟩ (.bool true))).drew.heap[X]? = _ := hpw1a
  have hcda : ((w1.setCell ⟨X, 8, none⟩ (.bool true))).drew.cell? ⟨w.heap.size, 0, none⟩ = _ := hcw1a
  have hFda := hFw1a.drew
  go_region_held3 (fun W' => W'.cell? ⟨w.heap.size, 0, none⟩ = some (.pointer (some ⟨b, 0, none⟩))) (go_keep) (first
    | (go_at_call 134; ((with_reducible refine (G2.out _ Hda).mono ?_); rintro e w2 ⟨rfl, Hw2, hF⟩; have hpw2 := hF.get hpda hXb; have hcw2 := hF.cell hcda hcb; have hFw2 := hFda.trans (hF.mono (fun _ h => .inl h)); clear hF; have hpw2a := hpw2; have Hw2a := Hw2; have hFw2a := hFw2; have hcw2a := hcw2; skip))
    | (go_at_call 134; ((with_reducible refine (G3.out _ Hw2a).mono ?_); rintro e w3 ⟨rfl, Hw3, hF⟩; have hpw3 := hF.get hpw2a hXb; have hcw3 := hF.cell hcw2a hcb; have hFw3 := hFw2a.trans (hF.mono (fun _ h => .inl h)); clear hF; have qw3f6 := frozen_of_row _ _ 6 _ _ hpw3; have qw3k6 : w3.cell? ⟨X, 6, none⟩ = some (.int .i64 0) := cell_of_row _ _ 6 _ _ _ hpw3; have qw3f7 := frozen_of_row _ _ 7 _ _ hpw3; have qw3k7 : w3.cell? ⟨X, 7, none⟩ = some (.int .i64 0) := cell_of_row _ _ 7 _ _ _ hpw3; have qw3f9 := frozen_of_row _ _ 9 _ _ hpw3; have qw3k9 : w3.cell? ⟨X, 9, none⟩ = some (.bool false) := cell_of_row _ _ 9 _ _ _ hpw3; have hpw3a := Go.Joins.block_setCell (Go.Joins.block_setCell (Go.Joins.block_setCell (hpw3) (.int .i64 i) (i := 6)) (.int .i64 t) (i := 7)) (.bool true) (i := 9); simp only [List.setIfInBounds_toArray, List.set_cons_succ, List.set_cons_zero] at hpw3a; have Hw3a := (((Hw3).st (i := 6) (v := .int .i64 i) (Ne.symm hXb)).st (i := 7) (v := .int .i64 t) (Ne.symm hXb)).st (i := 9) (v := .bool true) (Ne.symm hXb); have hFw3a := (((hFw3).trans ((FrameT.setCell _ X 6 (.int .i64 i)).mono (fun _ h => .inr h))).trans ((FrameT.setCell _ X 7 (.int .i64 t)).mono (fun _ h => .inr h))).trans ((FrameT.setCell _ X 9 (.bool true)).mono (fun _ h => .inr h)); have hcw3a : (((w3.setCell ⟨X, 6, none⟩ (.int .i64 i)).setCell ⟨X, 7, none⟩ (.int .i64 t)).setCell ⟨X, 9, none⟩ (.bool true)).cell? ⟨w.heap.size, 0, none⟩ = some (.pointer (some ⟨b, 0, none⟩)) := cell_st1 (cell_st1 (cell_st1 (hcw3) hcX) hcX) hcX; skip)))
  go_wp2_with (first
    | (go_at_call 139; ((with_reducible refine (G4.out _ Hw3a).mono ?_); rintro e w4 ⟨rfl, Hw4, hF⟩; have hpw4 := hF.get hpw3a hXb; have hcw4 := hF.cell hcw3a hcb; have hFw4 := hFw3a.trans (hF.mono (fun _ h => .inl h)); clear hF; have qw4f3 := frozen_of_row _ _ 3 _ _ hpw4; have qw4k3 : w4.cell? ⟨X, 3, none⟩ = some (.int .i64 0) := cell_of_row _ _ 3 _ _ _ hpw4; have qw4f4 := frozen_of_row _ _ 4 _ _ hpw4; have qw4k4 : w4.cell? ⟨X, 4, none⟩ = some (.int .i64 0) := cell_of_row _ _ 4 _ _ _ hpw4; have qw4f5 := frozen_of_row _ _ 5 _ _ hpw4; have qw4k5 : w4.cell? ⟨X, 5, none⟩ = some (.int .i64 0) := cell_of_row _ _ 5 _ _ _ hpw4; have hpw4a := Go.Joins.block_setCell (Go.Joins.block_setCell (Go.Joins.block_setCell (hpw4) (.int .i64 x1) (i := 3)) (.int .i64 x2) (i := 4)) (.int .i64 x3) (i := 5); simp only [List.setIfInBounds_toArray, List.set_cons_succ, List.set_cons_zero] at hpw4a; have Hw4a := (((Hw4).st (i := 3) (v := .int .i64 x1) (Ne.symm hXb)).st (i := 4) (v := .int .i64 x2) (Ne.symm hXb)).st (i := 5) (v := .int .i64 x3) (Ne.symm hXb); have hFw4a := (((hFw4).trans ((FrameT.setCell _ X 3 (.int .i64 x1)).mono (fun _ h => .inr h))).trans ((FrameT.setCell _ X 4 (.int .i64 x2)).mono (fun _ h => .inr h))).trans ((FrameT.setCell _ X 5 (.int .i64 x3)).mono (fun _ h => .inr h)); have hcw4a : (((w4.setCell ⟨X, 3, none⟩ (.int .i64 x1)).setCell ⟨X, 4, none⟩ (.int .i64 x2)).setCell ⟨X, 5, none⟩ (.int .i64 x3)).cell? ⟨w.heap.size, 0, none⟩ = some (.pointer (some ⟨b, 0, none⟩)) := cell_st1 (cell_st1 (cell_st1 (hcw4) hcX) hcX) hcX; skip))
    | (go_at_call 135; ((with_reducible refine (G5.out _ Hw4a).mono ?_); rintro e w5 ⟨rfl, Hw5, hF⟩; have hpw5 := hF.get hpw4a hXb; have hcw5 := hF.cell hcw4a hcb; have hFw5 := hFw4a.trans (hF.mono (fun _ h => .inl h)); clear hF; have hpw5a := hpw5; have Hw5a := Hw5; have hFw5a := hFw5; have hcw5a := hcw5; have hXw5 := heap_ltP hpw5; skip))
    | (go_at_call 137; ((with_reducible refine (GE.out _ Hw5 _ hcw5 hcb).mono ?_); rintro e w6 ⟨lb, rfl, hE6, hI6⟩; have Hw6 := Hw5.below hE6; have hpw6 := (hE6.block _ (heap_ltP hpw5)).trans hpw5; have hcw6 := (hE6.cell (p := ⟨w.heap.size, 0, none⟩) (by have := hFw5.size; have := heap_ltP hpw5; obtain ⟨o, ho, _⟩ := isCells_of_cell hcw5; exact (Array.getElem?_eq_some_iff.1 ho).1)).trans hcw5; have hFw6 := hFw5.trans (FrameT.below hE6); have hXs6 := heap_ltP hpw6; have HI6 := Lib.hid hI6; clear hI6 hE6))
    | (go_at_call 136; ((with_reducible refine (collect_any b 145 lb xs _ _ w6 HI6.out eg (fun _ h => h) Hw6.lt (Stab.block id (.inr rfl)) (by omega)).mono ?_); rintro e w7 ⟨v, rfl, hown, Hw7, hF⟩; obtain ⟨xa, xc, rfl, hrow, hoff⟩ := own_ent hown; have hpw7 := hF.get hpw6 hXb; have hcw7 := hF.cell hcw6 hcb; have hs6 := hFw6.size; have hFw7 := hFw6.trans (hF.mono (fun _ h => .inl h)); clear hF hown; have qw7f2 := frozen_of_row _ _ 2 _ _ hpw7; have qw7k2 : w7.cell? ⟨X, 2, none⟩ = some (.slice none 0 0) := cell_of_row _ _ 2 _ _ _ hpw7; have hpw7a := Go.Joins.block_setCell (hpw7) (.slice xa xs.length xc) (i := 2); simp only [List.setIfInBounds_toArray, List.set_cons_succ, List.set_cons_zero] at hpw7a; have Hw7a := (Hw7).st (i := 2) (v := .slice xa xs.length xc) (Ne.symm hXb); have hFw7a := (hFw7).trans ((FrameT.setCell _ X 2 (.slice xa xs.length xc)).mono (fun _ h => .inr h)); have hcw7a : (w7.setCell ⟨X, 2, none⟩ (.slice xa xs.length xc)).cell? ⟨w.heap.size, 0, none⟩ = some (.pointer (some ⟨b, 0, none⟩)) := cell_st1 (hcw7) hcX; skip)))
  go_end0
  refine ⟨rfl, Hw7a, ⟨xa, xc, hpw7a, ?_, fun k hk => Nat.le_trans hs6 (hoff k hk)⟩, hFw7a⟩
  have hent : HasE (w7.setCell ⟨X, 2, none⟩ (.slice xa xs.length xc)) (⟨g, 6, xa, xs.length, xc, x1, x2, x3, i, t, true, true⟩ : PartC) xs := HasE.off (R := X) (W := w7) ⟨rfl, (by dsimp only; omega), hrow⟩ (fun k hk => by have := hoff k hk; omega) (fun k hk => heap_setCell_other _ ⟨X, 2, none⟩ _ _ hk) (by simp)
  exact hent.2.2

theorem forward_any (b X : Nat) (s : ByteArray) (hs : s.size < 4611686018427387904) (st0 : RSt) (hok0 : st0.ok s) (g : Int) (hXb : X ≠ b) (w : World) (hb : RdAt b s st0 w)
    (hp : w.heap[X]? = some (.cells #[.int .i64 g, .int .i64 6, .slice none 0 0, .int .i64 0, .int .i64 0, .int .i64 0, .int .i64 0, .int .i64 0, .bool false, .bool false] 70 (0, 0))) :
    Calls Try.prog 140 #[.pointer (some ⟨b, 0, none⟩), .pointer (some ⟨X, 0, none⟩)] w (FwdPost b X s g st0 w) := by
  have h3 := numTo_le s 3 st0
  rcases (by omega : (numTo s 3 st0).1 = 0 ∨ (numTo s 3 st0).1 = 1 ∨ (numTo s 3 st0).1 = 2 ∨ (numTo s 3 st0).1 = 3) with h | h | h | h
  · exact forward0_any b X s hs st0 hok0 h g hXb w hb hp
  · exact forward1_any b X s hs st0 hok0 h g hXb w hb hp
  · exact forward2_any b X s hs st0 hok0 h g hXb w hb hp
  · exact forward3_any b X s hs st0 hok0 h g hXb w hb hp
theorem fwdM_len (s : ByteArray) (g : Int) (st : RSt) : (fwdM s g st).1.l.length ≤ 6 := by
  unfold fwdM
  exact Nat.le_trans (entM_len _ _ _) (numTo_le _ _ _)
theorem fwdM_kind (s : ByteArray) (g : Int) (st : RSt) : (fwdM s g st).1.k = 6 ∧ (fwdM s g st).1.g = g := ⟨rfl, rfl⟩


end Go.Proofs.Ytflaanffjjidaaa
