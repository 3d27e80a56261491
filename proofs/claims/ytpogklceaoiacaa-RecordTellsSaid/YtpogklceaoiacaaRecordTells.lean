/- Law RecordTells: for every input the call answers true; its arguments read as they did. No condition. -/
import Derived.Test.YtpogklceaoiacaaLaw
import Derived.Test.YtpogklceaoiacaaRecs
import Derived.Test.YtpogklceaoiacaaRecRefs
namespace Go.Proofs.Ytpogklceaoiacaa.recordTells
open Go.ChangeShapes Go.WideShapes Go.ChangeAt Go.RowKit Go.Shelf
open Go.ChangeMaps (open_string shut_string)
set_option linter.unusedVariables false
attribute [local go_sem] Oper.semAt_some wide_fn wide_round_fn

theorem goodP_below {w W : World} {x : PL} (h : GoodP w x) (hB : Below w.heap.size w W) : GoodP W x := ⟨h.1, h.2.1, h.2.2.1.below hB, h.2.2.2⟩

set_option maxRecDepth 100000 in
set_option maxHeartbeats 8000000 in
theorem tells_few1 (w : World) (s1 : Int) (a1 : Option Addr) (len1 cap1 : Nat) (L1 : List PL) (hl1 : L1.length = len1) (hr1 : RowV w a1 len1 10 (partCells L1)) (hg1 : ∀ x ∈ L1, GoodP w x) (s2 : Int) (a2 : Option Addr) (len2 cap2 : Nat) (L2 : List PL) (hl2 : L2.length = len2) (hr2 : RowV w a2 len2 10 (partCells L2)) (hg2 : ∀ x ∈ L2, GoodP w x) (hf1 : fewPs L1 = false) : Calls Try.prog 10 #[.agg #[.int .i64 s1, .slice a1 len1 cap1], .agg #[.int .i64 s2, .slice a2 len2 cap2]] w fun e w' => e = .returned (.bool true) ∧ Below w.heap.size w w' := by
  have GK := Lib.hid rec_known
  have GF1 := Lib.hid (fun W (hB : Below w.heap.size w W) => fewPs_any a1 len1 cap1 L1 W hl1 (hr1.below hB) (fun x hx => goodP_below (hg1 x hx) hB))
  rw [hf1] at GF1
  have hp := two_a w #[.int .i64 s1, .slice a1 len1 cap1] #[.int .i64 s2, .slice a2 len2 cap2] 53 53
  have hq := two_b w #[.int .i64 s1, .slice a1 len1 cap1] #[.int .i64 s2, .slice a2 len2 cap2] 53 53
  have hC : Below w.heap.size w ((w.alloc (.cells #[.int .i64 s1, .slice a1 len1 cap1] 53)).alloc (.cells #[.int .i64 s2, .slice a2 len2 cap2] 53)) := bel_alloc (bel_alloc (Below.refl _ _) _) _
  have p0 : ((w.alloc (.cells #[.int .i64 s1, .slice a1 len1 cap1] 53)).alloc (.cells #[.int .i64 s2, .slice a2 len2 cap2] 53)).cell? ⟨w.heap.size, 0, none⟩ = some (.int .i64 s1) := cell_of_row _ _ 0 _ _ _ hp; have p1 : ((w.alloc (.cells #[.int .i64 s1, .slice a1 len1 cap1] 53)).alloc (.cells #[.int .i64 s2, .slice a2 len2 cap2] 53)).cell? ⟨w.heap.size, 1, none⟩ = some (.slice a1 len1 cap1) := cell_of_row _ _ 1 _ _ _ hp; have q0 : ((w.alloc (.cells #[.int .i64 s1, .slice a1 len1 cap1] 53)).alloc (.cells #[.int .i64 s2, .slice a2 len2 cap2] 53)).cell? ⟨w.heap.size + 1, 0, none⟩ = some (.int .i64 s2) := cell_of_row _ _ 0 _ _ _ hq; have q1 : ((w.alloc (.cells #[.int .i64 s1, .slice a1 len1 cap1] 53)).alloc (.cells #[.int .i64 s2, .slice a2 len2 cap2] 53)).cell? ⟨w.heap.size + 1, 1, none⟩ = some (.slice a2 len2 cap2) := cell_of_row _ _ 1 _ _ _ hq
  go_enter Try.func10, Try.ntmps10
  go_wp2_with (first
    | (go_at_call 27; ((with_reducible refine (GK.out _).mono ?_); rintro e w1 ⟨rfl, hB⟩; replace hC := bel2 hC hB; replace hp := (hB.block _ (heap_lt hp)).trans hp; replace hq := (hB.block _ (heap_lt hq)).trans hq; clear p0 p1 q0 q1; have p0 : w1.cell? ⟨w.heap.size, 0, none⟩ = some (.int .i64 s1) := cell_of_row _ _ 0 _ _ _ hp; have p1 : w1.cell? ⟨w.heap.size, 1, none⟩ = some (.slice a1 len1 cap1) := cell_of_row _ _ 1 _ _ _ hp; have q0 : w1.cell? ⟨w.heap.size + 1, 0, none⟩ = some (.int .i64 s2) := cell_of_row _ _ 0 _ _ _ hq; have q1 : w1.cell? ⟨w.heap.size + 1, 1, none⟩ = some (.slice a2 len2 cap2) := cell_of_row _ _ 1 _ _ _ hq; clear hB))
    | (go_at_call 28; ((with_reducible refine (GF1.out _ hC).mono ?_); rintro e w2 ⟨rfl, hB⟩; replace hC := bel2 hC hB; replace hp := (hB.block _ (heap_lt hp)).trans hp; replace hq := (hB.block _ (heap_lt hq)).trans hq; clear p0 p1 q0 q1; have p0 : w2.cell? ⟨w.heap.size, 0, none⟩ = some (.int .i64 s1) := cell_of_row _ _ 0 _ _ _ hp; have p1 : w2.cell? ⟨w.heap.size, 1, none⟩ = some (.slice a1 len1 cap1) := cell_of_row _ _ 1 _ _ _ hp; have q0 : w2.cell? ⟨w.heap.size + 1, 0, none⟩ = some (.int .i64 s2) := cell_of_row _ _ 0 _ _ _ hq; have q1 : w2.cell? ⟨w.heap.size + 1, 1, none⟩ = some (.slice a2 len2 cap2) := cell_of_row _ _ 1 _ _ _ hq; clear hB)))
  go_ret
  exact ⟨by simp, hC⟩

set_option maxRecDepth 100000 in
set_option maxHeartbeats 8000000 in
theorem tells_few2 (w : World) (s1 : Int) (a1 : Option Addr) (len1 cap1 : Nat) (L1 : List PL) (hl1 : L1.length = len1) (hr1 : RowV w a1 len1 10 (partCells L1)) (hg1 : ∀ x ∈ L1, GoodP w x) (s2 : Int) (a2 : Option Addr) (len2 cap2 : Nat) (L2 : List PL) (hl2 : L2.length = len2) (hr2 : RowV w a2 len2 10 (partCells L2)) (hg2 : ∀ x ∈ L2, GoodP w x) (hf1 : fewPs L1 = true) (hf2 : fewPs L2 = false) : Calls Try.prog 10 #[.agg #[.int .i64 s1, .slice a1 len1 cap1], .agg #[.int .i64 s2, .slice a2 len2 cap2]] w fun e w' => e = .returned (.bool true) ∧ Below w.heap.size w w' := by
  have GK := Lib.hid rec_known
  have GF1 := Lib.hid (fun W (hB : Below w.heap.size w W) => fewPs_any a1 len1 cap1 L1 W hl1 (hr1.below hB) (fun x hx => goodP_below (hg1 x hx) hB))
  rw [hf1] at GF1
  have GF2 := Lib.hid (fun W (hB : Below w.heap.size w W) => fewPs_any a2 len2 cap2 L2 W hl2 (hr2.below hB) (fun x hx => goodP_below (hg2 x hx) hB))
  rw [hf2] at GF2
  have hp := two_a w #[.int .i64 s1, .slice a1 len1 cap1] #[.int .i64 s2, .slice a2 len2 cap2] 53 53
  have hq := two_b w #[.int .i64 s1, .slice a1 len1 cap1] #[.int .i64 s2, .slice a2 len2 cap2] 53 53
  have hC : Below w.heap.size w ((w.alloc (.cells #[.int .i64 s1, .slice a1 len1 cap1] 53)).alloc (.cells #[.int .i64 s2, .slice a2 len2 cap2] 53)) := bel_alloc (bel_alloc (Below.refl _ _) _) _
  have p0 : ((w.alloc (.cells #[.int .i64 s1, .slice a1 len1 cap1] 53)).alloc (.cells #[.int .i64 s2, .slice a2 len2 cap2] 53)).cell? ⟨w.heap.size, 0, none⟩ = some (.int .i64 s1) := cell_of_row _ _ 0 _ _ _ hp; have p1 : ((w.alloc (.cells #[.int .i64 s1, .slice a1 len1 cap1] 53)).alloc (.cells #[.int .i64 s2, .slice a2 len2 cap2] 53)).cell? ⟨w.heap.size, 1, none⟩ = some (.slice a1 len1 cap1) := cell_of_row _ _ 1 _ _ _ hp; have q0 : ((w.alloc (.cells #[.int .i64 s1, .slice a1 len1 cap1] 53)).alloc (.cells #[.int .i64 s2, .slice a2 len2 cap2] 53)).cell? ⟨w.heap.size + 1, 0, none⟩ = some (.int .i64 s2) := cell_of_row _ _ 0 _ _ _ hq; have q1 : ((w.alloc (.cells #[.int .i64 s1, .slice a1 len1 cap1] 53)).alloc (.cells #[.int .i64 s2, .slice a2 len2 cap2] 53)).cell? ⟨w.heap.size + 1, 1, none⟩ = some (.slice a2 len2 cap2) := cell_of_row _ _ 1 _ _ _ hq
  go_enter Try.func10, Try.ntmps10
  go_wp2_with (first
    | (go_at_call 27; ((with_reducible refine (GK.out _).mono ?_); rintro e w1 ⟨rfl, hB⟩; replace hC := bel2 hC hB; replace hp := (hB.block _ (heap_lt hp)).trans hp; replace hq := (hB.block _ (heap_lt hq)).trans hq; clear p0 p1 q0 q1; have p0 : w1.cell? ⟨w.heap.size, 0, none⟩ = some (.int .i64 s1) := cell_of_row _ _ 0 _ _ _ hp; have p1 : w1.cell? ⟨w.heap.size, 1, none⟩ = some (.slice a1 len1 cap1) := cell_of_row _ _ 1 _ _ _ hp; have q0 : w1.cell? ⟨w.heap.size + 1, 0, none⟩ = some (.int .i64 s2) := cell_of_row _ _ 0 _ _ _ hq; have q1 : w1.cell? ⟨w.heap.size + 1, 1, none⟩ = some (.slice a2 len2 cap2) := cell_of_row _ _ 1 _ _ _ hq; clear hB))
    | (go_at_call 28; ((with_reducible refine (GF1.out _ hC).mono ?_); rintro e w2 ⟨rfl, hB⟩; replace hC := bel2 hC hB; replace hp := (hB.block _ (heap_lt hp)).trans hp; replace hq := (hB.block _ (heap_lt hq)).trans hq; clear p0 p1 q0 q1; have p0 : w2.cell? ⟨w.heap.size, 0, none⟩ = some (.int .i64 s1) := cell_of_row _ _ 0 _ _ _ hp; have p1 : w2.cell? ⟨w.heap.size, 1, none⟩ = some (.slice a1 len1 cap1) := cell_of_row _ _ 1 _ _ _ hp; have q0 : w2.cell? ⟨w.heap.size + 1, 0, none⟩ = some (.int .i64 s2) := cell_of_row _ _ 0 _ _ _ hq; have q1 : w2.cell? ⟨w.heap.size + 1, 1, none⟩ = some (.slice a2 len2 cap2) := cell_of_row _ _ 1 _ _ _ hq; clear hB))
    | (go_at_call 28; ((with_reducible refine (GF2.out _ hC).mono ?_); rintro e w3 ⟨rfl, hB⟩; replace hC := bel2 hC hB; replace hp := (hB.block _ (heap_lt hp)).trans hp; replace hq := (hB.block _ (heap_lt hq)).trans hq; clear p0 p1 q0 q1; have p0 : w3.cell? ⟨w.heap.size, 0, none⟩ = some (.int .i64 s1) := cell_of_row _ _ 0 _ _ _ hp; have p1 : w3.cell? ⟨w.heap.size, 1, none⟩ = some (.slice a1 len1 cap1) := cell_of_row _ _ 1 _ _ _ hp; have q0 : w3.cell? ⟨w.heap.size + 1, 0, none⟩ = some (.int .i64 s2) := cell_of_row _ _ 0 _ _ _ hq; have q1 : w3.cell? ⟨w.heap.size + 1, 1, none⟩ = some (.slice a2 len2 cap2) := cell_of_row _ _ 1 _ _ _ hq; clear hB)))
  go_ret
  exact ⟨by simp, hC⟩

attribute [local irreducible] wpQuiet
set_option maxRecDepth 100000 in
set_option maxHeartbeats 8000000 in
theorem tells_full (w : World) (s1 : Int) (a1 : Option Addr) (len1 cap1 : Nat) (L1 : List PL) (hl1 : L1.length = len1) (hr1 : RowV w a1 len1 10 (partCells L1)) (hg1 : ∀ x ∈ L1, GoodP w x) (s2 : Int) (a2 : Option Addr) (len2 cap2 : Nat) (L2 : List PL) (hl2 : L2.length = len2) (hr2 : RowV w a2 len2 10 (partCells L2)) (hg2 : ∀ x ∈ L2, GoodP w x) (hf1 : fewPs L1 = true) (hf2 : fewPs L2 = true) : Calls Try.prog 10 #[.agg #[.int .i64 s1, .slice a1 len1 cap1], .agg #[.int .i64 s2, .slice a2 len2 cap2]] w fun e w' => e = .returned (.bool true) ∧ Below w.heap.size w w' := by
  have GK := Lib.hid rec_known
  have GF1 := Lib.hid (fun W (hB : Below w.heap.size w W) => fewPs_any a1 len1 cap1 L1 W hl1 (hr1.below hB) (fun x hx => goodP_below (hg1 x hx) hB))
  rw [hf1] at GF1
  have GF2 := Lib.hid (fun W (hB : Below w.heap.size w W) => fewPs_any a2 len2 cap2 L2 W hl2 (hr2.below hB) (fun x hx => goodP_below (hg2 x hx) hB))
  rw [hf2] at GF2
  have H1 : HasP w a1 len1 L1 := fewPs_has hl1 hr1 hg1 hf1
  have hlen1 : ∀ x ∈ L1, x.2.length = x.1.len := fun x hx => (H1.2.2.2 x hx).1
  have H2 : HasP w a2 len2 L2 := fewPs_has hl2 hr2 hg2 hf2
  have hlen2 : ∀ x ∈ L2, x.2.length = x.1.len := fun x hx => (H2.2.2.2 x hx).1
  have GB := Lib.hid (fun W (hB : Below w.heap.size w W) => recBytes_any s1 a1 len1 cap1 L1 W (H1.below hB))
  have GRB := Lib.hid (fun W (hB : Below w.heap.size w W) => refRecBytes_any s1 a1 len1 cap1 L1 W (H1.below hB))
  have GI := Lib.hid (fun W (hB : Below w.heap.size w W) => recIs_any s1 a1 len1 cap1 L1 W (H1.below hB))
  have GRI := Lib.hid (fun W (hB : Below w.heap.size w W) => refIsRec_any s1 a1 len1 cap1 L1 W (H1.below hB))
  have GS := Lib.hid (fun W (hB : Below w.heap.size w W) => recSame_any s1 s2 a1 a2 len1 len2 cap1 cap2 L1 L2 W (H1.below hB) (H2.below hB))
  have GRS := Lib.hid (fun W (hB : Below w.heap.size w W) => refSameR_any s1 s2 a1 a2 len1 len2 cap1 cap2 L1 L2 W (H1.below hB) (H2.below hB))
  have GZ := Lib.hid (fun W (hB : Below w.heap.size w W) => recSize_any s1 a1 len1 cap1 L1 W (H1.below hB))
  generalize recS s1 L1 = S at *
  generalize recE s1 L1 = E at *
  generalize recB s1 L1 = bI at *
  generalize sameR s1 s2 L1 L2 = bS at *
  clear H1 H2 hlen1 hlen2 hf1 hf2 hg1 hg2 hr1 hr2 hl1 hl2
  have hp := two_a w #[.int .i64 s1, .slice a1 len1 cap1] #[.int .i64 s2, .slice a2 len2 cap2] 53 53
  have hq := two_b w #[.int .i64 s1, .slice a1 len1 cap1] #[.int .i64 s2, .slice a2 len2 cap2] 53 53
  have hC : Below w.heap.size w ((w.alloc (.cells #[.int .i64 s1, .slice a1 len1 cap1] 53)).alloc (.cells #[.int .i64 s2, .slice a2 len2 cap2] 53)) := bel_alloc (bel_alloc (Below.refl _ _) _) _
  have p0 : ((w.alloc (.cells #[.int .i64 s1, .slice a1 len1 cap1] 53)).alloc (.cells #[.int .i64 s2, .slice a2 len2 cap2] 53)).cell? ⟨w.heap.size, 0, none⟩ = some (.int .i64 s1) := cell_of_row _ _ 0 _ _ _ hp; have p1 : ((w.alloc (.cells #[.int .i64 s1, .slice a1 len1 cap1] 53)).alloc (.cells #[.int .i64 s2, .slice a2 len2 cap2] 53)).cell? ⟨w.heap.size, 1, none⟩ = some (.slice a1 len1 cap1) := cell_of_row _ _ 1 _ _ _ hp; have q0 : ((w.alloc (.cells #[.int .i64 s1, .slice a1 len1 cap1] 53)).alloc (.cells #[.int .i64 s2, .slice a2 len2 cap2] 53)).cell? ⟨w.heap.size + 1, 0, none⟩ = some (.int .i64 s2) := cell_of_row _ _ 0 _ _ _ hq; have q1 : ((w.alloc (.cells #[.int .i64 s1, .slice a1 len1 cap1] 53)).alloc (.cells #[.int .i64 s2, .slice a2 len2 cap2] 53)).cell? ⟨w.heap.size + 1, 1, none⟩ = some (.slice a2 len2 cap2) := cell_of_row _ _ 1 _ _ _ hq
  go_enter Try.func10, Try.ntmps10
  go_wp2_with (first
    | (go_at_call 27; ((with_reducible refine (GK.out _).mono ?_); rintro e w1 ⟨rfl, hB⟩; replace hC := bel2 hC hB; replace hp := (hB.block _ (heap_lt hp)).trans hp; replace hq := (hB.block _ (heap_lt hq)).trans hq; clear p0 p1 q0 q1; have p0 : w1.cell? ⟨w.heap.size, 0, none⟩ = some (.int .i64 s1) := cell_of_row _ _ 0 _ _ _ hp; have p1 : w1.cell? ⟨w.heap.size, 1, none⟩ = some (.slice a1 len1 cap1) := cell_of_row _ _ 1 _ _ _ hp; have q0 : w1.cell? ⟨w.heap.size + 1, 0, none⟩ = some (.int .i64 s2) := cell_of_row _ _ 0 _ _ _ hq; have q1 : w1.cell? ⟨w.heap.size + 1, 1, none⟩ = some (.slice a2 len2 cap2) := cell_of_row _ _ 1 _ _ _ hq; clear hB))
    | (go_at_call 28; ((with_reducible refine (GF1.out _ hC).mono ?_); rintro e w2 ⟨rfl, hB⟩; replace hC := bel2 hC hB; replace hp := (hB.block _ (heap_lt hp)).trans hp; replace hq := (hB.block _ (heap_lt hq)).trans hq; clear p0 p1 q0 q1; have p0 : w2.cell? ⟨w.heap.size, 0, none⟩ = some (.int .i64 s1) := cell_of_row _ _ 0 _ _ _ hp; have p1 : w2.cell? ⟨w.heap.size, 1, none⟩ = some (.slice a1 len1 cap1) := cell_of_row _ _ 1 _ _ _ hp; have q0 : w2.cell? ⟨w.heap.size + 1, 0, none⟩ = some (.int .i64 s2) := cell_of_row _ _ 0 _ _ _ hq; have q1 : w2.cell? ⟨w.heap.size + 1, 1, none⟩ = some (.slice a2 len2 cap2) := cell_of_row _ _ 1 _ _ _ hq; clear hB))
    | (go_at_call 28; ((with_reducible refine (GF2.out _ hC).mono ?_); rintro e w3 ⟨rfl, hB⟩; replace hC := bel2 hC hB; replace hp := (hB.block _ (heap_lt hp)).trans hp; replace hq := (hB.block _ (heap_lt hq)).trans hq; clear p0 p1 q0 q1; have p0 : w3.cell? ⟨w.heap.size, 0, none⟩ = some (.int .i64 s1) := cell_of_row _ _ 0 _ _ _ hp; have p1 : w3.cell? ⟨w.heap.size, 1, none⟩ = some (.slice a1 len1 cap1) := cell_of_row _ _ 1 _ _ _ hp; have q0 : w3.cell? ⟨w.heap.size + 1, 0, none⟩ = some (.int .i64 s2) := cell_of_row _ _ 0 _ _ _ hq; have q1 : w3.cell? ⟨w.heap.size + 1, 1, none⟩ = some (.slice a2 len2 cap2) := cell_of_row _ _ 1 _ _ _ hq; clear hB))
    | (go_at_call 29; ((with_reducible refine (GB.out _ hC).mono ?_); rintro e w4 ⟨rfl, hB⟩; replace hC := bel2 hC hB; replace hp := (hB.block _ (heap_lt hp)).trans hp; replace hq := (hB.block _ (heap_lt hq)).trans hq; clear p0 p1 q0 q1; have p0 : w4.cell? ⟨w.heap.size, 0, none⟩ = some (.int .i64 s1) := cell_of_row _ _ 0 _ _ _ hp; have p1 : w4.cell? ⟨w.heap.size, 1, none⟩ = some (.slice a1 len1 cap1) := cell_of_row _ _ 1 _ _ _ hp; have q0 : w4.cell? ⟨w.heap.size + 1, 0, none⟩ = some (.int .i64 s2) := cell_of_row _ _ 0 _ _ _ hq; have q1 : w4.cell? ⟨w.heap.size + 1, 1, none⟩ = some (.slice a2 len2 cap2) := cell_of_row _ _ 1 _ _ _ hq; clear hB))
    | (go_at_call 30; ((with_reducible refine (GRB.out _ hC).mono ?_); rintro e w5 ⟨rfl, hB⟩; replace hC := bel2 hC hB; replace hp := (hB.block _ (heap_lt hp)).trans hp; replace hq := (hB.block _ (heap_lt hq)).trans hq; clear p0 p1 q0 q1; have p0 : w5.cell? ⟨w.heap.size, 0, none⟩ = some (.int .i64 s1) := cell_of_row _ _ 0 _ _ _ hp; have p1 : w5.cell? ⟨w.heap.size, 1, none⟩ = some (.slice a1 len1 cap1) := cell_of_row _ _ 1 _ _ _ hp; have q0 : w5.cell? ⟨w.heap.size + 1, 0, none⟩ = some (.int .i64 s2) := cell_of_row _ _ 0 _ _ _ hq; have q1 : w5.cell? ⟨w.heap.size + 1, 1, none⟩ = some (.slice a2 len2 cap2) := cell_of_row _ _ 1 _ _ _ hq; clear hB)))
  have HS := Lib.hid (fun W (hW : Above w5 W) => And.intro ((Below.cell hW (p := ⟨w.heap.size, 0, none⟩) (heap_lt hp)).trans p0) (And.intro ((Below.cell hW (p := ⟨w.heap.size, 1, none⟩) (heap_lt hp)).trans p1) (And.intro ((Below.cell hW (p := ⟨w.heap.size + 1, 0, none⟩) (heap_lt hq)).trans q0) ((Below.cell hW (p := ⟨w.heap.size + 1, 1, none⟩) (heap_lt hq)).trans q1))))
  refine wp_region_below (by kernel_rfl) (by kernel_rfl) ?_
  repeat (first
    | (refine BigFrame.wpQuiet_skip (by rfl) ?_; (try simp only [Act.put, List.setIfInBounds_toArray, List.set_cons_zero, List.set_cons_succ]))
    | (refine BigFrame.wpQuiet_want (by rfl) (fun K hK => ?_); apply Exists.intro; refine ⟨fun W hW => ?_, hK _ ?_⟩; (focus (have hWB : Below _ _ W := hW; obtain ⟨z0, z1, z2, z3⟩ := HS.out _ hW; go_simp; (first | done | with_reducible rfl | (first | (go_at_call 31; with_reducible exact gives_above hW (GI.out _ (bel2 hC hWB))) | (go_at_call 32; with_reducible exact gives_above hW (GRI.out _ (bel2 hC hWB))) | (go_at_call 33; with_reducible exact gives_above hW (GS.out _ (bel2 hC hWB))) | (go_at_call 34; with_reducible exact gives_above hW (GRS.out _ (bel2 hC hWB))) | (go_at_call 35; with_reducible exact gives_above hW (GZ.out _ (bel2 hC hWB)))) | (rw [if_neg (by omega)]; go_simp; (first | done | with_reducible rfl))))); clear hK K; (try simp only [Act.put, List.setIfInBounds_toArray, List.set_cons_zero, List.set_cons_succ])))
  refine wpQuiet_nil ?_
  intro w9 hB9
  replace hB9 : Below _ _ w9 := hB9
  replace hC := bel2 hC hB9
  clear HS hp hq p0 p1 q0 q1
  go_wp2
  go_ret
  exact ⟨by simp, hC⟩

theorem walk (w : World) (p1 : RecC) (L1 : List PL) (g1 : GoodR w p1 L1) (p2 : RecC) (L2 : List PL) (g2 : GoodR w p2 L2) : Calls Try.prog 10 #[p1.val, p2.val] w fun e w' => e = .returned (.bool true) ∧ Below w.heap.size w w' := by
  obtain ⟨s1, a1, len1, cap1⟩ := p1
  obtain ⟨s2, a2, len2, cap2⟩ := p2
  obtain ⟨_, hl1, _, hr1, hg1⟩ := g1
  obtain ⟨_, hl2, _, hr2, hg2⟩ := g2
  cases hf1 : fewPs L1
  · exact tells_few1 w s1 a1 len1 cap1 L1 hl1 hr1 hg1 s2 a2 len2 cap2 L2 hl2 hr2 hg2 hf1
  · cases hf2 : fewPs L2
    · exact tells_few2 w s1 a1 len1 cap1 L1 hl1 hr1 hg1 s2 a2 len2 cap2 L2 hl2 hr2 hg2 hf1 hf2
    · exact tells_full w s1 a1 len1 cap1 L1 hl1 hr1 hg1 s2 a2 len2 cap2 L2 hl2 hr2 hg2 hf1 hf2

set_option maxRecDepth 100000 in
theorem lifted (os : Os) (started : os.Started) (H : Type) (enc : TypeId × Value → H) :
    ReturnsInHanded {} Try.checked os 10 .any (Rows.recordTellsSpec.pre6 enc Try.prog Try.f10 Rows.recordTellsRow.domain false) (Rows.recordTellsSpec.post enc Try.prog Try.f10 false true false false) := by
  refine returnsInHanded_of_change (C := Try.checked) Try.own started (by kernel_rfl) Try.func10
    (ChangeSpec.witness6 (enc := enc) (C := Try.checked) false ⟨#[], #[.agg #[.int .i64 0, .slice none 0 0], .agg #[.int .i64 0, .slice none 0 0]], []⟩ 8 (by kernel_rfl) (by kernel_rfl) (by kernel_rfl) (by kernel_rfl)) ?_
  intro W base args ds gs before hval hW _ _
  refine law_contract (T := 4) (n := 2) Try.laid Try.underlying4 rfl rfl ⟨rfl, fun H ds h => by match ds, h with | [_, _], _ => rfl⟩ (of_all (by kernel_rfl)) hW ?_
  intro ps hA
  rw [Try.params10] at hA hval
  obtain ⟨v0, vs0, d0, ds0, p0, q0, hargs, rfl, rfl, h0, r0⟩ := trodAll_cons hA
  obtain ⟨v1, vs1, d1, ds1, p1, q1, rfl, rfl, rfl, h1, r1⟩ := trodAll_cons r0
  obtain ⟨rfl, rfl, rfl⟩ := trodAll_nil r1
  obtain rfl : args = #[v0, v1] := by cases args; simp_all
  obtain ⟨p0, l0, rfl, g0⟩ := open_record (hval 0 53 v0 rfl rfl) h0
  obtain ⟨p1, l1, rfl, g1⟩ := open_record (hval 1 53 v1 rfl rfl) h1
  exact walk W p0 l0 g0 p1 l1 g1

theorem holds : Rows.RecordTellsSaid :=
  OpenClaim.holds_of_wide 10 Try.f10 rfl rfl rfl rfl rfl rfl rfl ⟨rfl, rfl, rfl, rfl, rfl⟩ rfl rfl rfl rfl rfl (by kernel_rfl) Try.func10 (by kernel_rfl)
    (of_decide_eq_true (by kernel_rfl)) (by unfold Func.isWrapper; first | (rw [if_pos (by decide +kernel)]; kernel_rfl) | (rw [if_neg (by decide +kernel)]; exact ⟨rfl, rfl⟩))
    (fun os started H enc _ => lifted os started H enc)

end Go.Proofs.Ytpogklceaoiacaa.recordTells
