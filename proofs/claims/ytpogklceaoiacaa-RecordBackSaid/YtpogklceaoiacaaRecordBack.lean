/- Law RecordBack: for every input the call answers true; its arguments read as they did. No condition. -/
import Derived.Test.YtpogklceaoiacaaLaw
import Derived.Test.YtpogklceaoiacaaRecs
import Derived.Test.YtpogklceaoiacaaRecRefs
namespace Go.Proofs.Ytpogklceaoiacaa.recordBack
open Go.ChangeShapes Go.WideShapes Go.ChangeAt Go.RowKit Go.Shelf
open Go.ChangeMaps (open_string shut_string)
set_option linter.unusedVariables false
attribute [local go_sem] Oper.semAt_some wide_fn wide_round_fn

theorem goodP_below {w W : World} {x : PL} (h : GoodP w x) (hB : Below w.heap.size w W) : GoodP W x := ⟨h.1, h.2.1, h.2.2.1.below hB, h.2.2.2⟩

set_option maxRecDepth 100000 in
set_option maxHeartbeats 8000000 in
theorem back_few1 (w : World) (s1 : Int) (a1 : Option Addr) (len1 cap1 : Nat) (L1 : List PL) (hl1 : L1.length = len1) (hr1 : RowV w a1 len1 10 (partCells L1)) (hg1 : ∀ x ∈ L1, GoodP w x) (s2 : Int) (a2 : Option Addr) (len2 cap2 : Nat) (L2 : List PL) (hl2 : L2.length = len2) (hr2 : RowV w a2 len2 10 (partCells L2)) (hg2 : ∀ x ∈ L2, GoodP w x) (tail : ByteArray) (cut : Nat) (hcut : cut < 65536) (hf1 : fewPs L1 = false) : Calls Try.prog 11 #[.agg #[.int .i64 s1, .slice a1 len1 cap1], .agg #[.int .i64 s2, .slice a2 len2 cap2], .string tail, .int .u16 cut] w fun e w' => e = .returned (.bool true) ∧ Below w.heap.size w w' := by
  have GK := Lib.hid rec_known
  have GF1 := Lib.hid (fun W (hB : Below w.heap.size w W) => fewPs_any a1 len1 cap1 L1 W hl1 (hr1.below hB) (fun x hx => goodP_below (hg1 x hx) hB))
  rw [hf1] at GF1
  have hp := two_a w #[.int .i64 s1, .slice a1 len1 cap1] #[.int .i64 s2, .slice a2 len2 cap2] 53 53
  have hq := two_b w #[.int .i64 s1, .slice a1 len1 cap1] #[.int .i64 s2, .slice a2 len2 cap2] 53 53
  have hC : Below w.heap.size w ((w.alloc (.cells #[.int .i64 s1, .slice a1 len1 cap1] 53)).alloc (.cells #[.int .i64 s2, .slice a2 len2 cap2] 53)) := bel_alloc (bel_alloc (Below.refl _ _) _) _
  have p0 : ((w.alloc (.cells #[.int .i64 s1, .slice a1 len1 cap1] 53)).alloc (.cells #[.int .i64 s2, .slice a2 len2 cap2] 53)).cell? ⟨w.heap.size, 0, none⟩ = some (.int .i64 s1) := cell_of_row _ _ 0 _ _ _ hp; have p1 : ((w.alloc (.cells #[.int .i64 s1, .slice a1 len1 cap1] 53)).alloc (.cells #[.int .i64 s2, .slice a2 len2 cap2] 53)).cell? ⟨w.heap.size, 1, none⟩ = some (.slice a1 len1 cap1) := cell_of_row _ _ 1 _ _ _ hp; have q0 : ((w.alloc (.cells #[.int .i64 s1, .slice a1 len1 cap1] 53)).alloc (.cells #[.int .i64 s2, .slice a2 len2 cap2] 53)).cell? ⟨w.heap.size + 1, 0, none⟩ = some (.int .i64 s2) := cell_of_row _ _ 0 _ _ _ hq; have q1 : ((w.alloc (.cells #[.int .i64 s1, .slice a1 len1 cap1] 53)).alloc (.cells #[.int .i64 s2, .slice a2 len2 cap2] 53)).cell? ⟨w.heap.size + 1, 1, none⟩ = some (.slice a2 len2 cap2) := cell_of_row _ _ 1 _ _ _ hq
  go_enter Try.func11, Try.ntmps11
  go_wp2_with (first
    | (go_at_call 27; ((with_reducible refine (GK.out _).mono ?_); rintro e w1 ⟨rfl, hB⟩; replace hC := bel2 hC hB; replace hp := (hB.block _ (heap_lt hp)).trans hp; replace hq := (hB.block _ (heap_lt hq)).trans hq; clear p0 p1 q0 q1; have p0 : w1.cell? ⟨w.heap.size, 0, none⟩ = some (.int .i64 s1) := cell_of_row _ _ 0 _ _ _ hp; have p1 : w1.cell? ⟨w.heap.size, 1, none⟩ = some (.slice a1 len1 cap1) := cell_of_row _ _ 1 _ _ _ hp; have q0 : w1.cell? ⟨w.heap.size + 1, 0, none⟩ = some (.int .i64 s2) := cell_of_row _ _ 0 _ _ _ hq; have q1 : w1.cell? ⟨w.heap.size + 1, 1, none⟩ = some (.slice a2 len2 cap2) := cell_of_row _ _ 1 _ _ _ hq; clear hB))
    | (go_at_call 28; ((with_reducible refine (GF1.out _ hC).mono ?_); rintro e w2 ⟨rfl, hB⟩; replace hC := bel2 hC hB; replace hp := (hB.block _ (heap_lt hp)).trans hp; replace hq := (hB.block _ (heap_lt hq)).trans hq; clear p0 p1 q0 q1; have p0 : w2.cell? ⟨w.heap.size, 0, none⟩ = some (.int .i64 s1) := cell_of_row _ _ 0 _ _ _ hp; have p1 : w2.cell? ⟨w.heap.size, 1, none⟩ = some (.slice a1 len1 cap1) := cell_of_row _ _ 1 _ _ _ hp; have q0 : w2.cell? ⟨w.heap.size + 1, 0, none⟩ = some (.int .i64 s2) := cell_of_row _ _ 0 _ _ _ hq; have q1 : w2.cell? ⟨w.heap.size + 1, 1, none⟩ = some (.slice a2 len2 cap2) := cell_of_row _ _ 1 _ _ _ hq; clear hB)))
  go_ret
  exact ⟨by simp, hC⟩

set_option maxRecDepth 100000 in
set_option maxHeartbeats 8000000 in
theorem back_few2 (w : World) (s1 : Int) (a1 : Option Addr) (len1 cap1 : Nat) (L1 : List PL) (hl1 : L1.length = len1) (hr1 : RowV w a1 len1 10 (partCells L1)) (hg1 : ∀ x ∈ L1, GoodP w x) (s2 : Int) (a2 : Option Addr) (len2 cap2 : Nat) (L2 : List PL) (hl2 : L2.length = len2) (hr2 : RowV w a2 len2 10 (partCells L2)) (hg2 : ∀ x ∈ L2, GoodP w x) (tail : ByteArray) (cut : Nat) (hcut : cut < 65536) (hf1 : fewPs L1 = true) (hf2 : fewPs L2 = false) : Calls Try.prog 11 #[.agg #[.int .i64 s1, .slice a1 len1 cap1], .agg #[.int .i64 s2, .slice a2 len2 cap2], .string tail, .int .u16 cut] w fun e w' => e = .returned (.bool true) ∧ Below w.heap.size w w' := by
  have GK := Lib.hid rec_known
  have GF1 := Lib.hid (fun W (hB : Below w.heap.size w W) => fewPs_any a1 len1 cap1 L1 W hl1 (hr1.below hB) (fun x hx => goodP_below (hg1 x hx) hB))
  rw [hf1] at GF1
  have GF2 := Lib.hid (fun W (hB : Below w.heap.size w W) => fewPs_any a2 len2 cap2 L2 W hl2 (hr2.below hB) (fun x hx => goodP_below (hg2 x hx) hB))
  rw [hf2] at GF2
  have hp := two_a w #[.int .i64 s1, .slice a1 len1 cap1] #[.int .i64 s2, .slice a2 len2 cap2] 53 53
  have hq := two_b w #[.int .i64 s1, .slice a1 len1 cap1] #[.int .i64 s2, .slice a2 len2 cap2] 53 53
  have hC : Below w.heap.size w ((w.alloc (.cells #[.int .i64 s1, .slice a1 len1 cap1] 53)).alloc (.cells #[.int .i64 s2, .slice a2 len2 cap2] 53)) := bel_alloc (bel_alloc (Below.refl _ _) _) _
  have p0 : ((w.alloc (.cells #[.int .i64 s1, .slice a1 len1 cap1] 53)).alloc (.cells #[.int .i64 s2, .slice a2 len2 cap2] 53)).cell? ⟨w.heap.size, 0, none⟩ = some (.int .i64 s1) := cell_of_row _ _ 0 _ _ _ hp; have p1 : ((w.alloc (.cells #[.int .i64 s1, .slice a1 len1 cap1] 53)).alloc (.cells #[.int .i64 s2, .slice a2 len2 cap2] 53)).cell? ⟨w.heap.size, 1, none⟩ = some (.slice a1 len1 cap1) := cell_of_row _ _ 1 _ _ _ hp; have q0 : ((w.alloc (.cells #[.int .i64 s1, .slice a1 len1 cap1] 53)).alloc (.cells #[.int .i64 s2, .slice a2 len2 cap2] 53)).cell? ⟨w.heap.size + 1, 0, none⟩ = some (.int .i64 s2) := cell_of_row _ _ 0 _ _ _ hq; have q1 : ((w.alloc (.cells #[.int .i64 s1, .slice a1 len1 cap1] 53)).alloc (.cells #[.int .i64 s2, .slice a2 len2 cap2] 53)).cell? ⟨w.heap.size + 1, 1, none⟩ = some (.slice a2 len2 cap2) := cell_of_row _ _ 1 _ _ _ hq
  go_enter Try.func11, Try.ntmps11
  go_wp2_with (first
    | (go_at_call 27; ((with_reducible refine (GK.out _).mono ?_); rintro e w1 ⟨rfl, hB⟩; replace hC := bel2 hC hB; replace hp := (hB.block _ (heap_lt hp)).trans hp; replace hq := (hB.block _ (heap_lt hq)).trans hq; clear p0 p1 q0 q1; have p0 : w1.cell? ⟨w.heap.size, 0, none⟩ = some (.int .i64 s1) := cell_of_row _ _ 0 _ _ _ hp; have p1 : w1.cell? ⟨w.heap.size, 1, none⟩ = some (.slice a1 len1 cap1) := cell_of_row _ _ 1 _ _ _ hp; have q0 : w1.cell? ⟨w.heap.size + 1, 0, none⟩ = some (.int .i64 s2) := cell_of_row _ _ 0 _ _ _ hq; have q1 : w1.cell? ⟨w.heap.size + 1, 1, none⟩ = some (.slice a2 len2 cap2) := cell_of_row _ _ 1 _ _ _ hq; clear hB))
    | (go_at_call 28; ((with_reducible refine (GF1.out _ hC).mono ?_); rintro e w2 ⟨rfl, hB⟩; replace hC := bel2 hC hB; replace hp := (hB.block _ (heap_lt hp)).trans hp; replace hq := (hB.block _ (heap_lt hq)).trans hq; clear p0 p1 q0 q1; have p0 : w2.cell? ⟨w.heap.size, 0, none⟩ = some (.int .i64 s1) := cell_of_row _ _ 0 _ _ _ hp; have p1 : w2.cell? ⟨w.heap.size, 1, none⟩ = some (.slice a1 len1 cap1) := cell_of_row _ _ 1 _ _ _ hp; have q0 : w2.cell? ⟨w.heap.size + 1, 0, none⟩ = some (.int .i64 s2) := cell_of_row _ _ 0 _ _ _ hq; have q1 : w2.cell? ⟨w.heap.size + 1, 1, none⟩ = some (.slice a2 len2 cap2) := cell_of_row _ _ 1 _ _ _ hq; clear hB))
    | (go_at_call 28; ((with_reducible refine (GF2.out _ hC).mono ?_); rintro e w3 ⟨rfl, hB⟩; replace hC := bel2 hC hB; replace hp := (hB.block _ (heap_lt hp)).trans hp; replace hq := (hB.block _ (heap_lt hq)).trans hq; clear p0 p1 q0 q1; have p0 : w3.cell? ⟨w.heap.size, 0, none⟩ = some (.int .i64 s1) := cell_of_row _ _ 0 _ _ _ hp; have p1 : w3.cell? ⟨w.heap.size, 1, none⟩ = some (.slice a1 len1 cap1) := cell_of_row _ _ 1 _ _ _ hp; have q0 : w3.cell? ⟨w.heap.size + 1, 0, none⟩ = some (.int .i64 s2) := cell_of_row _ _ 0 _ _ _ hq; have q1 : w3.cell? ⟨w.heap.size + 1, 1, none⟩ = some (.slice a2 len2 cap2) := cell_of_row _ _ 1 _ _ _ hq; clear hB)))
  go_ret
  exact ⟨by simp, hC⟩

set_option maxRecDepth 100000 in
set_option maxHeartbeats 8000000 in
theorem back_long (w : World) (s1 : Int) (a1 : Option Addr) (len1 cap1 : Nat) (L1 : List PL) (hl1 : L1.length = len1) (hr1 : RowV w a1 len1 10 (partCells L1)) (hg1 : ∀ x ∈ L1, GoodP w x) (s2 : Int) (a2 : Option Addr) (len2 cap2 : Nat) (L2 : List PL) (hl2 : L2.length = len2) (hr2 : RowV w a2 len2 10 (partCells L2)) (hg2 : ∀ x ∈ L2, GoodP w x) (tail : ByteArray) (cut : Nat) (hcut : cut < 65536) (hf1 : fewPs L1 = true) (hf2 : fewPs L2 = true) (hz : 100 < tail.size) : Calls Try.prog 11 #[.agg #[.int .i64 s1, .slice a1 len1 cap1], .agg #[.int .i64 s2, .slice a2 len2 cap2], .string tail, .int .u16 cut] w fun e w' => e = .returned (.bool true) ∧ Below w.heap.size w w' := by
  have GK := Lib.hid rec_known
  have GF1 := Lib.hid (fun W (hB : Below w.heap.size w W) => fewPs_any a1 len1 cap1 L1 W hl1 (hr1.below hB) (fun x hx => goodP_below (hg1 x hx) hB))
  rw [hf1] at GF1
  have GF2 := Lib.hid (fun W (hB : Below w.heap.size w W) => fewPs_any a2 len2 cap2 L2 W hl2 (hr2.below hB) (fun x hx => goodP_below (hg2 x hx) hB))
  rw [hf2] at GF2
  have hp := two_a w #[.int .i64 s1, .slice a1 len1 cap1] #[.int .i64 s2, .slice a2 len2 cap2] 53 53
  have hq := two_b w #[.int .i64 s1, .slice a1 len1 cap1] #[.int .i64 s2, .slice a2 len2 cap2] 53 53
  have hC : Below w.heap.size w ((w.alloc (.cells #[.int .i64 s1, .slice a1 len1 cap1] 53)).alloc (.cells #[.int .i64 s2, .slice a2 len2 cap2] 53)) := bel_alloc (bel_alloc (Below.refl _ _) _) _
  have p0 : ((w.alloc (.cells #[.int .i64 s1, .slice a1 len1 cap1] 53)).alloc (.cells #[.int .i64 s2, .slice a2 len2 cap2] 53)).cell? ⟨w.heap.size, 0, none⟩ = some (.int .i64 s1) := cell_of_row _ _ 0 _ _ _ hp; have p1 : ((w.alloc (.cells #[.int .i64 s1, .slice a1 len1 cap1] 53)).alloc (.cells #[.int .i64 s2, .slice a2 len2 cap2] 53)).cell? ⟨w.heap.size, 1, none⟩ = some (.slice a1 len1 cap1) := cell_of_row _ _ 1 _ _ _ hp; have q0 : ((w.alloc (.cells #[.int .i64 s1, .slice a1 len1 cap1] 53)).alloc (.cells #[.int .i64 s2, .slice a2 len2 cap2] 53)).cell? ⟨w.heap.size + 1, 0, none⟩ = some (.int .i64 s2) := cell_of_row _ _ 0 _ _ _ hq; have q1 : ((w.alloc (.cells #[.int .i64 s1, .slice a1 len1 cap1] 53)).alloc (.cells #[.int .i64 s2, .slice a2 len2 cap2] 53)).cell? ⟨w.heap.size + 1, 1, none⟩ = some (.slice a2 len2 cap2) := cell_of_row _ _ 1 _ _ _ hq
  go_enter Try.func11, Try.ntmps11
  go_wp2_with (first
    | (go_at_call 27; ((with_reducible refine (GK.out _).mono ?_); rintro e w1 ⟨rfl, hB⟩; replace hC := bel2 hC hB; replace hp := (hB.block _ (heap_lt hp)).trans hp; replace hq := (hB.block _ (heap_lt hq)).trans hq; clear p0 p1 q0 q1; have p0 : w1.cell? ⟨w.heap.size, 0, none⟩ = some (.int .i64 s1) := cell_of_row _ _ 0 _ _ _ hp; have p1 : w1.cell? ⟨w.heap.size, 1, none⟩ = some (.slice a1 len1 cap1) := cell_of_row _ _ 1 _ _ _ hp; have q0 : w1.cell? ⟨w.heap.size + 1, 0, none⟩ = some (.int .i64 s2) := cell_of_row _ _ 0 _ _ _ hq; have q1 : w1.cell? ⟨w.heap.size + 1, 1, none⟩ = some (.slice a2 len2 cap2) := cell_of_row _ _ 1 _ _ _ hq; clear hB))
    | (go_at_call 28; ((with_reducible refine (GF1.out _ hC).mono ?_); rintro e w2 ⟨rfl, hB⟩; replace hC := bel2 hC hB; replace hp := (hB.block _ (heap_lt hp)).trans hp; replace hq := (hB.block _ (heap_lt hq)).trans hq; clear p0 p1 q0 q1; have p0 : w2.cell? ⟨w.heap.size, 0, none⟩ = some (.int .i64 s1) := cell_of_row _ _ 0 _ _ _ hp; have p1 : w2.cell? ⟨w.heap.size, 1, none⟩ = some (.slice a1 len1 cap1) := cell_of_row _ _ 1 _ _ _ hp; have q0 : w2.cell? ⟨w.heap.size + 1, 0, none⟩ = some (.int .i64 s2) := cell_of_row _ _ 0 _ _ _ hq; have q1 : w2.cell? ⟨w.heap.size + 1, 1, none⟩ = some (.slice a2 len2 cap2) := cell_of_row _ _ 1 _ _ _ hq; clear hB))
    | (go_at_call 28; ((with_reducible refine (GF2.out _ hC).mono ?_); rintro e w3 ⟨rfl, hB⟩; replace hC := bel2 hC hB; replace hp := (hB.block _ (heap_lt hp)).trans hp; replace hq := (hB.block _ (heap_lt hq)).trans hq; clear p0 p1 q0 q1; have p0 : w3.cell? ⟨w.heap.size, 0, none⟩ = some (.int .i64 s1) := cell_of_row _ _ 0 _ _ _ hp; have p1 : w3.cell? ⟨w.heap.size, 1, none⟩ = some (.slice a1 len1 cap1) := cell_of_row _ _ 1 _ _ _ hp; have q0 : w3.cell? ⟨w.heap.size + 1, 0, none⟩ = some (.int .i64 s2) := cell_of_row _ _ 0 _ _ _ hq; have q1 : w3.cell? ⟨w.heap.size + 1, 1, none⟩ = some (.slice a2 len2 cap2) := cell_of_row _ _ 1 _ _ _ hq; clear hB)))
  go_ret
  exact ⟨by simp, hC⟩

set_option maxRecDepth 100000 in
set_option maxHeartbeats 8000000 in
theorem back_none (w : World) (s1 : Int) (a1 : Option Addr) (len1 cap1 : Nat) (L1 : List PL) (hl1 : L1.length = len1) (hr1 : RowV w a1 len1 10 (partCells L1)) (hg1 : ∀ x ∈ L1, GoodP w x) (s2 : Int) (a2 : Option Addr) (len2 cap2 : Nat) (L2 : List PL) (hl2 : L2.length = len2) (hr2 : RowV w a2 len2 10 (partCells L2)) (hg2 : ∀ x ∈ L2, GoodP w x) (tail : ByteArray) (cut : Nat) (hcut : cut < 65536) (hf1 : fewPs L1 = true) (hf2 : fewPs L2 = true) (hz : tail.size ≤ 100) (hok : recB s1 L1 = false) : Calls Try.prog 11 #[.agg #[.int .i64 s1, .slice a1 len1 cap1], .agg #[.int .i64 s2, .slice a2 len2 cap2], .string tail, .int .u16 cut] w fun e w' => e = .returned (.bool true) ∧ Below w.heap.size w w' := by
  have GK := Lib.hid rec_known
  have GF1 := Lib.hid (fun W (hB : Below w.heap.size w W) => fewPs_any a1 len1 cap1 L1 W hl1 (hr1.below hB) (fun x hx => goodP_below (hg1 x hx) hB))
  rw [hf1] at GF1
  have GF2 := Lib.hid (fun W (hB : Below w.heap.size w W) => fewPs_any a2 len2 cap2 L2 W hl2 (hr2.below hB) (fun x hx => goodP_below (hg2 x hx) hB))
  rw [hf2] at GF2
  have H1 : HasP w a1 len1 L1 := fewPs_has hl1 hr1 hg1 hf1
  have hlen1 : ∀ x ∈ L1, x.2.length = x.1.len := fun x hx => (H1.2.2.2 x hx).1
  have H2 : HasP w a2 len2 L2 := fewPs_has hl2 hr2 hg2 hf2
  have hlen2 : ∀ x ∈ L2, x.2.length = x.1.len := fun x hx => (H2.2.2.2 x hx).1
  have GB := Lib.hid (fun W (hB : Below w.heap.size w W) => (show Gives Try.prog 29 #[.agg #[.int .i64 s1, .slice a1 len1 cap1]] W (.tuple #[.string ⟨#[]⟩, .int .i64 11]) from by have := recBytes_any s1 a1 len1 cap1 L1 W (H1.below hB); rwa [recS_no hok, recE_no hok] at this))
  have GZ := Lib.hid (fun W (hB : Below w.heap.size w W) => (show Gives Try.prog 35 #[.agg #[.int .i64 s1, .slice a1 len1 cap1]] W (.int .i64 0) from by have := recSize_any s1 a1 len1 cap1 L1 W (H1.below hB); rwa [recS_no hok] at this))
  clear H1 H2 hlen1 hlen2 hok
  have hp := two_a w #[.int .i64 s1, .slice a1 len1 cap1] #[.int .i64 s2, .slice a2 len2 cap2] 53 53
  have hq := two_b w #[.int .i64 s1, .slice a1 len1 cap1] #[.int .i64 s2, .slice a2 len2 cap2] 53 53
  have hC : Below w.heap.size w ((w.alloc (.cells #[.int .i64 s1, .slice a1 len1 cap1] 53)).alloc (.cells #[.int .i64 s2, .slice a2 len2 cap2] 53)) := bel_alloc (bel_alloc (Below.refl _ _) _) _
  have p0 : ((w.alloc (.cells #[.int .i64 s1, .slice a1 len1 cap1] 53)).alloc (.cells #[.int .i64 s2, .slice a2 len2 cap2] 53)).cell? ⟨w.heap.size, 0, none⟩ = some (.int .i64 s1) := cell_of_row _ _ 0 _ _ _ hp; have p1 : ((w.alloc (.cells #[.int .i64 s1, .slice a1 len1 cap1] 53)).alloc (.cells #[.int .i64 s2, .slice a2 len2 cap2] 53)).cell? ⟨w.heap.size, 1, none⟩ = some (.slice a1 len1 cap1) := cell_of_row _ _ 1 _ _ _ hp; have q0 : ((w.alloc (.cells #[.int .i64 s1, .slice a1 len1 cap1] 53)).alloc (.cells #[.int .i64 s2, .slice a2 len2 cap2] 53)).cell? ⟨w.heap.size + 1, 0, none⟩ = some (.int .i64 s2) := cell_of_row _ _ 0 _ _ _ hq; have q1 : ((w.alloc (.cells #[.int .i64 s1, .slice a1 len1 cap1] 53)).alloc (.cells #[.int .i64 s2, .slice a2 len2 cap2] 53)).cell? ⟨w.heap.size + 1, 1, none⟩ = some (.slice a2 len2 cap2) := cell_of_row _ _ 1 _ _ _ hq
  go_enter Try.func11, Try.ntmps11
  go_wp2_with (first
    | (go_at_call 27; ((with_reducible refine (GK.out _).mono ?_); rintro e w1 ⟨rfl, hB⟩; replace hC := bel2 hC hB; replace hp := (hB.block _ (heap_lt hp)).trans hp; replace hq := (hB.block _ (heap_lt hq)).trans hq; clear p0 p1 q0 q1; have p0 : w1.cell? ⟨w.heap.size, 0, none⟩ = some (.int .i64 s1) := cell_of_row _ _ 0 _ _ _ hp; have p1 : w1.cell? ⟨w.heap.size, 1, none⟩ = some (.slice a1 len1 cap1) := cell_of_row _ _ 1 _ _ _ hp; have q0 : w1.cell? ⟨w.heap.size + 1, 0, none⟩ = some (.int .i64 s2) := cell_of_row _ _ 0 _ _ _ hq; have q1 : w1.cell? ⟨w.heap.size + 1, 1, none⟩ = some (.slice a2 len2 cap2) := cell_of_row _ _ 1 _ _ _ hq; clear hB))
    | (go_at_call 28; ((with_reducible refine (GF1.out _ hC).mono ?_); rintro e w2 ⟨rfl, hB⟩; replace hC := bel2 hC hB; replace hp := (hB.block _ (heap_lt hp)).trans hp; replace hq := (hB.block _ (heap_lt hq)).trans hq; clear p0 p1 q0 q1; have p0 : w2.cell? ⟨w.heap.size, 0, none⟩ = some (.int .i64 s1) := cell_of_row _ _ 0 _ _ _ hp; have p1 : w2.cell? ⟨w.heap.size, 1, none⟩ = some (.slice a1 len1 cap1) := cell_of_row _ _ 1 _ _ _ hp; have q0 : w2.cell? ⟨w.heap.size + 1, 0, none⟩ = some (.int .i64 s2) := cell_of_row _ _ 0 _ _ _ hq; have q1 : w2.cell? ⟨w.heap.size + 1, 1, none⟩ = some (.slice a2 len2 cap2) := cell_of_row _ _ 1 _ _ _ hq; clear hB))
    | (go_at_call 28; ((with_reducible refine (GF2.out _ hC).mono ?_); rintro e w3 ⟨rfl, hB⟩; replace hC := bel2 hC hB; replace hp := (hB.block _ (heap_lt hp)).trans hp; replace hq := (hB.block _ (heap_lt hq)).trans hq; clear p0 p1 q0 q1; have p0 : w3.cell? ⟨w.heap.size, 0, none⟩ = some (.int .i64 s1) := cell_of_row _ _ 0 _ _ _ hp; have p1 : w3.cell? ⟨w.heap.size, 1, none⟩ = some (.slice a1 len1 cap1) := cell_of_row _ _ 1 _ _ _ hp; have q0 : w3.cell? ⟨w.heap.size + 1, 0, none⟩ = some (.int .i64 s2) := cell_of_row _ _ 0 _ _ _ hq; have q1 : w3.cell? ⟨w.heap.size + 1, 1, none⟩ = some (.slice a2 len2 cap2) := cell_of_row _ _ 1 _ _ _ hq; clear hB))
    | (go_at_call 29; ((with_reducible refine (GB.out _ hC).mono ?_); rintro e w4 ⟨rfl, hB⟩; replace hC := bel2 hC hB; replace hp := (hB.block _ (heap_lt hp)).trans hp; replace hq := (hB.block _ (heap_lt hq)).trans hq; clear p0 p1 q0 q1; have p0 : w4.cell? ⟨w.heap.size, 0, none⟩ = some (.int .i64 s1) := cell_of_row _ _ 0 _ _ _ hp; have p1 : w4.cell? ⟨w.heap.size, 1, none⟩ = some (.slice a1 len1 cap1) := cell_of_row _ _ 1 _ _ _ hp; have q0 : w4.cell? ⟨w.heap.size + 1, 0, none⟩ = some (.int .i64 s2) := cell_of_row _ _ 0 _ _ _ hq; have q1 : w4.cell? ⟨w.heap.size + 1, 1, none⟩ = some (.slice a2 len2 cap2) := cell_of_row _ _ 1 _ _ _ hq; clear hB))
    | (go_at_call 35; ((with_reducible refine (GZ.out _ hC).mono ?_); rintro e w5 ⟨rfl, hB⟩; replace hC := bel2 hC hB; replace hp := (hB.block _ (heap_lt hp)).trans hp; replace hq := (hB.block _ (heap_lt hq)).trans hq; clear p0 p1 q0 q1; have p0 : w5.cell? ⟨w.heap.size, 0, none⟩ = some (.int .i64 s1) := cell_of_row _ _ 0 _ _ _ hp; have p1 : w5.cell? ⟨w.heap.size, 1, none⟩ = some (.slice a1 len1 cap1) := cell_of_row _ _ 1 _ _ _ hp; have q0 : w5.cell? ⟨w.heap.size + 1, 0, none⟩ = some (.int .i64 s2) := cell_of_row _ _ 0 _ _ _ hq; have q1 : w5.cell? ⟨w.heap.size + 1, 1, none⟩ = some (.slice a2 len2 cap2) := cell_of_row _ _ 1 _ _ _ hq; clear hB)))
  go_ret
  exact ⟨by simp, hC⟩

set_option maxRecDepth 100000 in
set_option maxHeartbeats 8000000 in
theorem back_00 (w : World) (s1 : Int) (a1 : Option Addr) (len1 cap1 : Nat) (L1 : List PL) (hl1 : L1.length = len1) (hr1 : RowV w a1 len1 10 (partCells L1)) (hg1 : ∀ x ∈ L1, GoodP w x) (s2 : Int) (a2 : Option Addr) (len2 cap2 : Nat) (L2 : List PL) (hl2 : L2.length = len2) (hr2 : RowV w a2 len2 10 (partCells L2)) (hg2 : ∀ x ∈ L2, GoodP w x) (tail : ByteArray) (cut : Nat) (hcut : cut < 65536) (hf1 : fewPs L1 = true) (hf2 : fewPs L2 = true) (hz : tail.size ≤ 100) (hok : recB s1 L1 = true) (hcz : cut % (recS s1 L1).size = 0) (hE : recE s2 L2 = 0) : Calls Try.prog 11 #[.agg #[.int .i64 s1, .slice a1 len1 cap1], .agg #[.int .i64 s2, .slice a2 len2 cap2], .string tail, .int .u16 cut] w fun e w' => e = .returned (.bool true) ∧ Below w.heap.size w w' := by
  have GK := Lib.hid rec_known
  have GF1 := Lib.hid (fun W (hB : Below w.heap.size w W) => fewPs_any a1 len1 cap1 L1 W hl1 (hr1.below hB) (fun x hx => goodP_below (hg1 x hx) hB))
  rw [hf1] at GF1
  have GF2 := Lib.hid (fun W (hB : Below w.heap.size w W) => fewPs_any a2 len2 cap2 L2 W hl2 (hr2.below hB) (fun x hx => goodP_below (hg2 x hx) hB))
  rw [hf2] at GF2
  have H1 : HasP w a1 len1 L1 := fewPs_has hl1 hr1 hg1 hf1
  have hlen1 : ∀ x ∈ L1, x.2.length = x.1.len := fun x hx => (H1.2.2.2 x hx).1
  have H2 : HasP w a2 len2 L2 := fewPs_has hl2 hr2 hg2 hf2
  have hlen2 : ∀ x ∈ L2, x.2.length = x.1.len := fun x hx => (H2.2.2.2 x hx).1
  have hzz := recS_len hlen1 hok
  have hzn := recS_min hok
  have hmc := recM_back hlen1 hok tail
  have hcc := recM_cut hlen1 hok
  have GB := Lib.hid (fun W (hB : Below w.heap.size w W) => (show Gives Try.prog 29 #[.agg #[.int .i64 s1, .slice a1 len1 cap1]] W (.tuple #[.string (recS s1 L1), .int .i64 0]) from by have := recBytes_any s1 a1 len1 cap1 L1 W (H1.below hB); rwa [recE_ok hok] at this))
  have GB2 := Lib.hid (fun W (hB : Below w.heap.size w W) => recBytes_any s2 a2 len2 cap2 L2 W (H2.below hB))
  have hsb : recE s2 L2 = 0 → decide (recS s1 L1 = recS s2 L2) = sameR s1 s2 L1 L2 := fun h => by
    by_cases hk : recB s2 L2 = true
    · rw [Bool.eq_iff_iff, decide_eq_true_iff]; exact recS_same hlen1 hlen2 hok hk
    · rw [recE_no (Bool.eq_false_iff.2 hk)] at h; cases h
  have GS := Lib.hid (fun W (hB : Below w.heap.size w W) => refSameR_any s1 s2 a1 a2 len1 len2 cap1 cap2 L1 L2 W (H1.below hB) (H2.below hB))
  have GX := Lib.hid (fun W (hB : Below w.heap.size w W) a len cap L (hP : HasP W a len L) (hL : L.map core = L1.map core) => (show Gives Try.prog 34 #[.agg #[.int .i64 s1, .slice a len cap], .agg #[.int .i64 s1, .slice a1 len1 cap1]] W (.bool true) from by have := refSameR_any s1 s1 a a1 len len1 cap cap1 L L1 W hP (H1.below hB); rwa [sameR_iff.2 ⟨rfl, hL⟩] at this))
  have hE2 : recE s2 L2 = 0 ∨ recE s2 L2 = 11 := by unfold recE; split <;> simp
  generalize recS s2 L2 = Z at *
  generalize recE s2 L2 = E at *
  generalize sameR s1 s2 L1 L2 = bS at *
  generalize recS s1 L1 = S at *
  have GR := Lib.hid (fun W => recRead_at (S ++ tail) s1 (L1.map core) S.size 1 (by rw [ByteArray.size_append]; omega) hmc W)
  obtain ⟨m, hm⟩ : ∃ m, m = cut % S.size := ⟨_, rfl⟩
  have hml : m < S.size := by rw [hm]; exact Nat.mod_lt _ (by omega)
  have hmi : (cut : Int) % (S.size : Int) = (m : Int) := by rw [hm]; omega
  have hm2 : (m : Int) ≤ (S.size : Int) := by omega
  have hz15 : 14 < S.size := by omega
  have hzm : S.size ≤ 1962 := by omega
  have hXp : 0 < S.size := by omega
  have hcat : (S.size : Int) + (tail.size : Int) ≤ 9223372036854775807 := by omega
  have hm0 : m < 1 := by rw [hm, hcz]; decide
  have GC := Lib.hid (fun W => recRead_at (S.extract 0 m) 0 [] 0 2 (by rw [ByteArray.size_extract]; omega) (recM_end (by rw [ByteArray.size_extract]; omega)) W)
  have t1 : ((m : Int) == 0) = true := by rw [beq_iff_eq]; omega
  obtain rfl : E = 0 := hE
  have hsx := hsb rfl
  have HSX := Lib.hid hsx
  have hzt : (S.toList == Z.toList) = bS := by rw [← hsx, Bool.eq_iff_iff]; simp [listEq]
  clear hsx hsb hE2
  clear hm hcc hmc hzz hzn hok H1 H2 hlen1 hlen2 hf1 hf2 hg1 hg2 hr1 hr2 hl1 hl2
  have hp := two_a w #[.int .i64 s1, .slice a1 len1 cap1] #[.int .i64 s2, .slice a2 len2 cap2] 53 53
  have hq := two_b w #[.int .i64 s1, .slice a1 len1 cap1] #[.int .i64 s2, .slice a2 len2 cap2] 53 53
  have hC : Below w.heap.size w ((w.alloc (.cells #[.int .i64 s1, .slice a1 len1 cap1] 53)).alloc (.cells #[.int .i64 s2, .slice a2 len2 cap2] 53)) := bel_alloc (bel_alloc (Below.refl _ _) _) _
  have p0 : ((w.alloc (.cells #[.int .i64 s1, .slice a1 len1 cap1] 53)).alloc (.cells #[.int .i64 s2, .slice a2 len2 cap2] 53)).cell? ⟨w.heap.size, 0, none⟩ = some (.int .i64 s1) := cell_of_row _ _ 0 _ _ _ hp; have p1 : ((w.alloc (.cells #[.int .i64 s1, .slice a1 len1 cap1] 53)).alloc (.cells #[.int .i64 s2, .slice a2 len2 cap2] 53)).cell? ⟨w.heap.size, 1, none⟩ = some (.slice a1 len1 cap1) := cell_of_row _ _ 1 _ _ _ hp; have q0 : ((w.alloc (.cells #[.int .i64 s1, .slice a1 len1 cap1] 53)).alloc (.cells #[.int .i64 s2, .slice a2 len2 cap2] 53)).cell? ⟨w.heap.size + 1, 0, none⟩ = some (.int .i64 s2) := cell_of_row _ _ 0 _ _ _ hq; have q1 : ((w.alloc (.cells #[.int .i64 s1, .slice a1 len1 cap1] 53)).alloc (.cells #[.int .i64 s2, .slice a2 len2 cap2] 53)).cell? ⟨w.heap.size + 1, 1, none⟩ = some (.slice a2 len2 cap2) := cell_of_row _ _ 1 _ _ _ hq
  go_enter Try.func11, Try.ntmps11
  go_wp2_with (first
    | (go_at_call 27; ((with_reducible refine (GK.out _).mono ?_); rintro e w1 ⟨rfl, hB⟩; replace hC := bel2 hC hB; replace hp := (hB.block _ (heap_lt hp)).trans hp; replace hq := (hB.block _ (heap_lt hq)).trans hq; clear p0 p1 q0 q1; have p0 : w1.cell? ⟨w.heap.size, 0, none⟩ = some (.int .i64 s1) := cell_of_row _ _ 0 _ _ _ hp; have p1 : w1.cell? ⟨w.heap.size, 1, none⟩ = some (.slice a1 len1 cap1) := cell_of_row _ _ 1 _ _ _ hp; have q0 : w1.cell? ⟨w.heap.size + 1, 0, none⟩ = some (.int .i64 s2) := cell_of_row _ _ 0 _ _ _ hq; have q1 : w1.cell? ⟨w.heap.size + 1, 1, none⟩ = some (.slice a2 len2 cap2) := cell_of_row _ _ 1 _ _ _ hq; clear hB))
    | (go_at_call 28; ((with_reducible refine (GF1.out _ hC).mono ?_); rintro e w2 ⟨rfl, hB⟩; replace hC := bel2 hC hB; replace hp := (hB.block _ (heap_lt hp)).trans hp; replace hq := (hB.block _ (heap_lt hq)).trans hq; clear p0 p1 q0 q1; have p0 : w2.cell? ⟨w.heap.size, 0, none⟩ = some (.int .i64 s1) := cell_of_row _ _ 0 _ _ _ hp; have p1 : w2.cell? ⟨w.heap.size, 1, none⟩ = some (.slice a1 len1 cap1) := cell_of_row _ _ 1 _ _ _ hp; have q0 : w2.cell? ⟨w.heap.size + 1, 0, none⟩ = some (.int .i64 s2) := cell_of_row _ _ 0 _ _ _ hq; have q1 : w2.cell? ⟨w.heap.size + 1, 1, none⟩ = some (.slice a2 len2 cap2) := cell_of_row _ _ 1 _ _ _ hq; clear hB))
    | (go_at_call 28; ((with_reducible refine (GF2.out _ hC).mono ?_); rintro e w3 ⟨rfl, hB⟩; replace hC := bel2 hC hB; replace hp := (hB.block _ (heap_lt hp)).trans hp; replace hq := (hB.block _ (heap_lt hq)).trans hq; clear p0 p1 q0 q1; have p0 : w3.cell? ⟨w.heap.size, 0, none⟩ = some (.int .i64 s1) := cell_of_row _ _ 0 _ _ _ hp; have p1 : w3.cell? ⟨w.heap.size, 1, none⟩ = some (.slice a1 len1 cap1) := cell_of_row _ _ 1 _ _ _ hp; have q0 : w3.cell? ⟨w.heap.size + 1, 0, none⟩ = some (.int .i64 s2) := cell_of_row _ _ 0 _ _ _ hq; have q1 : w3.cell? ⟨w.heap.size + 1, 1, none⟩ = some (.slice a2 len2 cap2) := cell_of_row _ _ 1 _ _ _ hq; clear hB))
    | (go_at_call 29; ((with_reducible refine (GB.out _ hC).mono ?_); rintro e w4 ⟨rfl, hB⟩; replace hC := bel2 hC hB; replace hp := (hB.block _ (heap_lt hp)).trans hp; replace hq := (hB.block _ (heap_lt hq)).trans hq; clear p0 p1 q0 q1; have p0 : w4.cell? ⟨w.heap.size, 0, none⟩ = some (.int .i64 s1) := cell_of_row _ _ 0 _ _ _ hp; have p1 : w4.cell? ⟨w.heap.size, 1, none⟩ = some (.slice a1 len1 cap1) := cell_of_row _ _ 1 _ _ _ hp; have q0 : w4.cell? ⟨w.heap.size + 1, 0, none⟩ = some (.int .i64 s2) := cell_of_row _ _ 0 _ _ _ hq; have q1 : w4.cell? ⟨w.heap.size + 1, 1, none⟩ = some (.slice a2 len2 cap2) := cell_of_row _ _ 1 _ _ _ hq; clear hB))
    | (go_at_call 29; ((with_reducible refine (GB2.out _ hC).mono ?_); rintro e w5 ⟨rfl, hB⟩; replace hC := bel2 hC hB; replace hp := (hB.block _ (heap_lt hp)).trans hp; replace hq := (hB.block _ (heap_lt hq)).trans hq; clear p0 p1 q0 q1; have p0 : w5.cell? ⟨w.heap.size, 0, none⟩ = some (.int .i64 s1) := cell_of_row _ _ 0 _ _ _ hp; have p1 : w5.cell? ⟨w.heap.size, 1, none⟩ = some (.slice a1 len1 cap1) := cell_of_row _ _ 1 _ _ _ hp; have q0 : w5.cell? ⟨w.heap.size + 1, 0, none⟩ = some (.int .i64 s2) := cell_of_row _ _ 0 _ _ _ hq; have q1 : w5.cell? ⟨w.heap.size + 1, 1, none⟩ = some (.slice a2 len2 cap2) := cell_of_row _ _ 1 _ _ _ hq; clear hB))
    | (go_at_call 36; ((with_reducible refine (GR.out _).mono ?_); rintro e w6 ⟨a, len, cap, L, rfl, hP, hL, hB⟩; replace hB := bel2 hB (bel_alloc (Below.refl w6.heap.size w6) (.cells #[.int .i64 s1, .slice a len cap] 53)); have HPx := Lib.hid (hP.below (bel_alloc (Below.refl w6.heap.size w6) (.cells #[.int .i64 s1, .slice a len cap] 53))); have HL := Lib.hid hL; have hx := World.alloc_heap_new w6 (.cells #[.int .i64 s1, .slice a len cap] 53); have x0 : (w6.alloc (.cells #[.int .i64 s1, .slice a len cap] 53)).cell? ⟨w6.heap.size, 0, none⟩ = some (.int .i64 s1) := cell_of_row _ _ 0 _ _ _ hx; have x1 : (w6.alloc (.cells #[.int .i64 s1, .slice a len cap] 53)).cell? ⟨w6.heap.size, 1, none⟩ = some (.slice a len cap) := cell_of_row _ _ 1 _ _ _ hx; replace hC := bel2 hC hB; replace hp := (hB.block _ (heap_lt hp)).trans hp; replace hq := (hB.block _ (heap_lt hq)).trans hq; clear p0 p1 q0 q1; have p0 : (w6.alloc (.cells #[.int .i64 s1, .slice a len cap] 53)).cell? ⟨w.heap.size, 0, none⟩ = some (.int .i64 s1) := cell_of_row _ _ 0 _ _ _ hp; have p1 : (w6.alloc (.cells #[.int .i64 s1, .slice a len cap] 53)).cell? ⟨w.heap.size, 1, none⟩ = some (.slice a1 len1 cap1) := cell_of_row _ _ 1 _ _ _ hp; have q0 : (w6.alloc (.cells #[.int .i64 s1, .slice a len cap] 53)).cell? ⟨w.heap.size + 1, 0, none⟩ = some (.int .i64 s2) := cell_of_row _ _ 0 _ _ _ hq; have q1 : (w6.alloc (.cells #[.int .i64 s1, .slice a len cap] 53)).cell? ⟨w.heap.size + 1, 1, none⟩ = some (.slice a2 len2 cap2) := cell_of_row _ _ 1 _ _ _ hq; clear hB hP hL))
    | (go_at_call 34; ((refine (GX.out _ hC a len cap L HPx.out HL.out).mono ?_); rintro e w7 ⟨rfl, hB⟩; replace hC := bel2 hC hB; replace hp := (hB.block _ (heap_lt hp)).trans hp; replace hq := (hB.block _ (heap_lt hq)).trans hq; clear p0 p1 q0 q1; have p0 : w7.cell? ⟨w.heap.size, 0, none⟩ = some (.int .i64 s1) := cell_of_row _ _ 0 _ _ _ hp; have p1 : w7.cell? ⟨w.heap.size, 1, none⟩ = some (.slice a1 len1 cap1) := cell_of_row _ _ 1 _ _ _ hp; have q0 : w7.cell? ⟨w.heap.size + 1, 0, none⟩ = some (.int .i64 s2) := cell_of_row _ _ 0 _ _ _ hq; have q1 : w7.cell? ⟨w.heap.size + 1, 1, none⟩ = some (.slice a2 len2 cap2) := cell_of_row _ _ 1 _ _ _ hq; clear hB))
    | (go_at_call 34; ((with_reducible refine (GS.out _ hC).mono ?_); rintro e w8 ⟨rfl, hB⟩; replace hC := bel2 hC hB; replace hp := (hB.block _ (heap_lt hp)).trans hp; replace hq := (hB.block _ (heap_lt hq)).trans hq; clear p0 p1 q0 q1; have p0 : w8.cell? ⟨w.heap.size, 0, none⟩ = some (.int .i64 s1) := cell_of_row _ _ 0 _ _ _ hp; have p1 : w8.cell? ⟨w.heap.size, 1, none⟩ = some (.slice a1 len1 cap1) := cell_of_row _ _ 1 _ _ _ hp; have q0 : w8.cell? ⟨w.heap.size + 1, 0, none⟩ = some (.int .i64 s2) := cell_of_row _ _ 0 _ _ _ hq; have q1 : w8.cell? ⟨w.heap.size + 1, 1, none⟩ = some (.slice a2 len2 cap2) := cell_of_row _ _ 1 _ _ _ hq; clear hB))
    | (go_at_call 36; ((with_reducible refine (GC.out _).mono ?_); rintro e w9 ⟨a3, len3, cap3, L3, rfl, _, _, hB⟩; replace hC := bel2 hC (bel2 hB (bel_alloc (Below.refl w9.heap.size w9) (.cells #[.int .i64 0, .slice a3 len3 cap3] 53))); clear hB)))
  go_ret
  exact ⟨by simp, hC⟩

set_option maxRecDepth 100000 in
set_option maxHeartbeats 8000000 in
theorem back_01 (w : World) (s1 : Int) (a1 : Option Addr) (len1 cap1 : Nat) (L1 : List PL) (hl1 : L1.length = len1) (hr1 : RowV w a1 len1 10 (partCells L1)) (hg1 : ∀ x ∈ L1, GoodP w x) (s2 : Int) (a2 : Option Addr) (len2 cap2 : Nat) (L2 : List PL) (hl2 : L2.length = len2) (hr2 : RowV w a2 len2 10 (partCells L2)) (hg2 : ∀ x ∈ L2, GoodP w x) (tail : ByteArray) (cut : Nat) (hcut : cut < 65536) (hf1 : fewPs L1 = true) (hf2 : fewPs L2 = true) (hz : tail.size ≤ 100) (hok : recB s1 L1 = true) (hcz : cut % (recS s1 L1).size = 0) (hE : recE s2 L2 = 11) : Calls Try.prog 11 #[.agg #[.int .i64 s1, .slice a1 len1 cap1], .agg #[.int .i64 s2, .slice a2 len2 cap2], .string tail, .int .u16 cut] w fun e w' => e = .returned (.bool true) ∧ Below w.heap.size w w' := by
  have GK := Lib.hid rec_known
  have GF1 := Lib.hid (fun W (hB : Below w.heap.size w W) => fewPs_any a1 len1 cap1 L1 W hl1 (hr1.below hB) (fun x hx => goodP_below (hg1 x hx) hB))
  rw [hf1] at GF1
  have GF2 := Lib.hid (fun W (hB : Below w.heap.size w W) => fewPs_any a2 len2 cap2 L2 W hl2 (hr2.below hB) (fun x hx => goodP_below (hg2 x hx) hB))
  rw [hf2] at GF2
  have H1 : HasP w a1 len1 L1 := fewPs_has hl1 hr1 hg1 hf1
  have hlen1 : ∀ x ∈ L1, x.2.length = x.1.len := fun x hx => (H1.2.2.2 x hx).1
  have H2 : HasP w a2 len2 L2 := fewPs_has hl2 hr2 hg2 hf2
  have hlen2 : ∀ x ∈ L2, x.2.length = x.1.len := fun x hx => (H2.2.2.2 x hx).1
  have hzz := recS_len hlen1 hok
  have hzn := recS_min hok
  have hmc := recM_back hlen1 hok tail
  have hcc := recM_cut hlen1 hok
  have GB := Lib.hid (fun W (hB : Below w.heap.size w W) => (show Gives Try.prog 29 #[.agg #[.int .i64 s1, .slice a1 len1 cap1]] W (.tuple #[.string (recS s1 L1), .int .i64 0]) from by have := recBytes_any s1 a1 len1 cap1 L1 W (H1.below hB); rwa [recE_ok hok] at this))
  have GB2 := Lib.hid (fun W (hB : Below w.heap.size w W) => recBytes_any s2 a2 len2 cap2 L2 W (H2.below hB))
  have hsb : recE s2 L2 = 0 → decide (recS s1 L1 = recS s2 L2) = sameR s1 s2 L1 L2 := fun h => by
    by_cases hk : recB s2 L2 = true
    · rw [Bool.eq_iff_iff, decide_eq_true_iff]; exact recS_same hlen1 hlen2 hok hk
    · rw [recE_no (Bool.eq_false_iff.2 hk)] at h; cases h
  have GS := Lib.hid (fun W (hB : Below w.heap.size w W) => refSameR_any s1 s2 a1 a2 len1 len2 cap1 cap2 L1 L2 W (H1.below hB) (H2.below hB))
  have GX := Lib.hid (fun W (hB : Below w.heap.size w W) a len cap L (hP : HasP W a len L) (hL : L.map core = L1.map core) => (show Gives Try.prog 34 #[.agg #[.int .i64 s1, .slice a len cap], .agg #[.int .i64 s1, .slice a1 len1 cap1]] W (.bool true) from by have := refSameR_any s1 s1 a a1 len len1 cap cap1 L L1 W hP (H1.below hB); rwa [sameR_iff.2 ⟨rfl, hL⟩] at this))
  have hE2 : recE s2 L2 = 0 ∨ recE s2 L2 = 11 := by unfold recE; split <;> simp
  generalize recS s2 L2 = Z at *
  generalize recE s2 L2 = E at *
  generalize sameR s1 s2 L1 L2 = bS at *
  generalize recS s1 L1 = S at *
  have GR := Lib.hid (fun W => recRead_at (S ++ tail) s1 (L1.map core) S.size 1 (by rw [ByteArray.size_append]; omega) hmc W)
  obtain ⟨m, hm⟩ : ∃ m, m = cut % S.size := ⟨_, rfl⟩
  have hml : m < S.size := by rw [hm]; exact Nat.mod_lt _ (by omega)
  have hmi : (cut : Int) % (S.size : Int) = (m : Int) := by rw [hm]; omega
  have hm2 : (m : Int) ≤ (S.size : Int) := by omega
  have hz15 : 14 < S.size := by omega
  have hzm : S.size ≤ 1962 := by omega
  have hXp : 0 < S.size := by omega
  have hcat : (S.size : Int) + (tail.size : Int) ≤ 9223372036854775807 := by omega
  have hm0 : m < 1 := by rw [hm, hcz]; decide
  have GC := Lib.hid (fun W => recRead_at (S.extract 0 m) 0 [] 0 2 (by rw [ByteArray.size_extract]; omega) (recM_end (by rw [ByteArray.size_extract]; omega)) W)
  have t1 : ((m : Int) == 0) = true := by rw [beq_iff_eq]; omega
  obtain rfl : E = 11 := hE
  clear hsb hE2
  clear hm hcc hmc hzz hzn hok H1 H2 hlen1 hlen2 hf1 hf2 hg1 hg2 hr1 hr2 hl1 hl2
  have hp := two_a w #[.int .i64 s1, .slice a1 len1 cap1] #[.int .i64 s2, .slice a2 len2 cap2] 53 53
  have hq := two_b w #[.int .i64 s1, .slice a1 len1 cap1] #[.int .i64 s2, .slice a2 len2 cap2] 53 53
  have hC : Below w.heap.size w ((w.alloc (.cells #[.int .i64 s1, .slice a1 len1 cap1] 53)).alloc (.cells #[.int .i64 s2, .slice a2 len2 cap2] 53)) := bel_alloc (bel_alloc (Below.refl _ _) _) _
  have p0 : ((w.alloc (.cells #[.int .i64 s1, .slice a1 len1 cap1] 53)).alloc (.cells #[.int .i64 s2, .slice a2 len2 cap2] 53)).cell? ⟨w.heap.size, 0, none⟩ = some (.int .i64 s1) := cell_of_row _ _ 0 _ _ _ hp; have p1 : ((w.alloc (.cells #[.int .i64 s1, .slice a1 len1 cap1] 53)).alloc (.cells #[.int .i64 s2, .slice a2 len2 cap2] 53)).cell? ⟨w.heap.size, 1, none⟩ = some (.slice a1 len1 cap1) := cell_of_row _ _ 1 _ _ _ hp; have q0 : ((w.alloc (.cells #[.int .i64 s1, .slice a1 len1 cap1] 53)).alloc (.cells #[.int .i64 s2, .slice a2 len2 cap2] 53)).cell? ⟨w.heap.size + 1, 0, none⟩ = some (.int .i64 s2) := cell_of_row _ _ 0 _ _ _ hq; have q1 : ((w.alloc (.cells #[.int .i64 s1, .slice a1 len1 cap1] 53)).alloc (.cells #[.int .i64 s2, .slice a2 len2 cap2] 53)).cell? ⟨w.heap.size + 1, 1, none⟩ = some (.slice a2 len2 cap2) := cell_of_row _ _ 1 _ _ _ hq
  go_enter Try.func11, Try.ntmps11
  go_wp2_with (first
    | (go_at_call 27; ((with_reducible refine (GK.out _).mono ?_); rintro e w1 ⟨rfl, hB⟩; replace hC := bel2 hC hB; replace hp := (hB.block _ (heap_lt hp)).trans hp; replace hq := (hB.block _ (heap_lt hq)).trans hq; clear p0 p1 q0 q1; have p0 : w1.cell? ⟨w.heap.size, 0, none⟩ = some (.int .i64 s1) := cell_of_row _ _ 0 _ _ _ hp; have p1 : w1.cell? ⟨w.heap.size, 1, none⟩ = some (.slice a1 len1 cap1) := cell_of_row _ _ 1 _ _ _ hp; have q0 : w1.cell? ⟨w.heap.size + 1, 0, none⟩ = some (.int .i64 s2) := cell_of_row _ _ 0 _ _ _ hq; have q1 : w1.cell? ⟨w.heap.size + 1, 1, none⟩ = some (.slice a2 len2 cap2) := cell_of_row _ _ 1 _ _ _ hq; clear hB))
    | (go_at_call 28; ((with_reducible refine (GF1.out _ hC).mono ?_); rintro e w2 ⟨rfl, hB⟩; replace hC := bel2 hC hB; replace hp := (hB.block _ (heap_lt hp)).trans hp; replace hq := (hB.block _ (heap_lt hq)).trans hq; clear p0 p1 q0 q1; have p0 : w2.cell? ⟨w.heap.size, 0, none⟩ = some (.int .i64 s1) := cell_of_row _ _ 0 _ _ _ hp; have p1 : w2.cell? ⟨w.heap.size, 1, none⟩ = some (.slice a1 len1 cap1) := cell_of_row _ _ 1 _ _ _ hp; have q0 : w2.cell? ⟨w.heap.size + 1, 0, none⟩ = some (.int .i64 s2) := cell_of_row _ _ 0 _ _ _ hq; have q1 : w2.cell? ⟨w.heap.size + 1, 1, none⟩ = some (.slice a2 len2 cap2) := cell_of_row _ _ 1 _ _ _ hq; clear hB))
    | (go_at_call 28; ((with_reducible refine (GF2.out _ hC).mono ?_); rintro e w3 ⟨rfl, hB⟩; replace hC := bel2 hC hB; replace hp := (hB.block _ (heap_lt hp)).trans hp; replace hq := (hB.block _ (heap_lt hq)).trans hq; clear p0 p1 q0 q1; have p0 : w3.cell? ⟨w.heap.size, 0, none⟩ = some (.int .i64 s1) := cell_of_row _ _ 0 _ _ _ hp; have p1 : w3.cell? ⟨w.heap.size, 1, none⟩ = some (.slice a1 len1 cap1) := cell_of_row _ _ 1 _ _ _ hp; have q0 : w3.cell? ⟨w.heap.size + 1, 0, none⟩ = some (.int .i64 s2) := cell_of_row _ _ 0 _ _ _ hq; have q1 : w3.cell? ⟨w.heap.size + 1, 1, none⟩ = some (.slice a2 len2 cap2) := cell_of_row _ _ 1 _ _ _ hq; clear hB))
    | (go_at_call 29; ((with_reducible refine (GB.out _ hC).mono ?_); rintro e w4 ⟨rfl, hB⟩; replace hC := bel2 hC hB; replace hp := (hB.block _ (heap_lt hp)).trans hp; replace hq := (hB.block _ (heap_lt hq)).trans hq; clear p0 p1 q0 q1; have p0 : w4.cell? ⟨w.heap.size, 0, none⟩ = some (.int .i64 s1) := cell_of_row _ _ 0 _ _ _ hp; have p1 : w4.cell? ⟨w.heap.size, 1, none⟩ = some (.slice a1 len1 cap1) := cell_of_row _ _ 1 _ _ _ hp; have q0 : w4.cell? ⟨w.heap.size + 1, 0, none⟩ = some (.int .i64 s2) := cell_of_row _ _ 0 _ _ _ hq; have q1 : w4.cell? ⟨w.heap.size + 1, 1, none⟩ = some (.slice a2 len2 cap2) := cell_of_row _ _ 1 _ _ _ hq; clear hB))
    | (go_at_call 29; ((with_reducible refine (GB2.out _ hC).mono ?_); rintro e w5 ⟨rfl, hB⟩; replace hC := bel2 hC hB; replace hp := (hB.block _ (heap_lt hp)).trans hp; replace hq := (hB.block _ (heap_lt hq)).trans hq; clear p0 p1 q0 q1; have p0 : w5.cell? ⟨w.heap.size, 0, none⟩ = some (.int .i64 s1) := cell_of_row _ _ 0 _ _ _ hp; have p1 : w5.cell? ⟨w.heap.size, 1, none⟩ = some (.slice a1 len1 cap1) := cell_of_row _ _ 1 _ _ _ hp; have q0 : w5.cell? ⟨w.heap.size + 1, 0, none⟩ = some (.int .i64 s2) := cell_of_row _ _ 0 _ _ _ hq; have q1 : w5.cell? ⟨w.heap.size + 1, 1, none⟩ = some (.slice a2 len2 cap2) := cell_of_row _ _ 1 _ _ _ hq; clear hB))
    | (go_at_call 36; ((with_reducible refine (GR.out _).mono ?_); rintro e w6 ⟨a, len, cap, L, rfl, hP, hL, hB⟩; replace hB := bel2 hB (bel_alloc (Below.refl w6.heap.size w6) (.cells #[.int .i64 s1, .slice a len cap] 53)); have HPx := Lib.hid (hP.below (bel_alloc (Below.refl w6.heap.size w6) (.cells #[.int .i64 s1, .slice a len cap] 53))); have HL := Lib.hid hL; have hx := World.alloc_heap_new w6 (.cells #[.int .i64 s1, .slice a len cap] 53); have x0 : (w6.alloc (.cells #[.int .i64 s1, .slice a len cap] 53)).cell? ⟨w6.heap.size, 0, none⟩ = some (.int .i64 s1) := cell_of_row _ _ 0 _ _ _ hx; have x1 : (w6.alloc (.cells #[.int .i64 s1, .slice a len cap] 53)).cell? ⟨w6.heap.size, 1, none⟩ = some (.slice a len cap) := cell_of_row _ _ 1 _ _ _ hx; replace hC := bel2 hC hB; replace hp := (hB.block _ (heap_lt hp)).trans hp; replace hq := (hB.block _ (heap_lt hq)).trans hq; clear p0 p1 q0 q1; have p0 : (w6.alloc (.cells #[.int .i64 s1, .slice a len cap] 53)).cell? ⟨w.heap.size, 0, none⟩ = some (.int .i64 s1) := cell_of_row _ _ 0 _ _ _ hp; have p1 : (w6.alloc (.cells #[.int .i64 s1, .slice a len cap] 53)).cell? ⟨w.heap.size, 1, none⟩ = some (.slice a1 len1 cap1) := cell_of_row _ _ 1 _ _ _ hp; have q0 : (w6.alloc (.cells #[.int .i64 s1, .slice a len cap] 53)).cell? ⟨w.heap.size + 1, 0, none⟩ = some (.int .i64 s2) := cell_of_row _ _ 0 _ _ _ hq; have q1 : (w6.alloc (.cells #[.int .i64 s1, .slice a len cap] 53)).cell? ⟨w.heap.size + 1, 1, none⟩ = some (.slice a2 len2 cap2) := cell_of_row _ _ 1 _ _ _ hq; clear hB hP hL))
    | (go_at_call 34; ((refine (GX.out _ hC a len cap L HPx.out HL.out).mono ?_); rintro e w7 ⟨rfl, hB⟩; replace hC := bel2 hC hB; replace hp := (hB.block _ (heap_lt hp)).trans hp; replace hq := (hB.block _ (heap_lt hq)).trans hq; clear p0 p1 q0 q1; have p0 : w7.cell? ⟨w.heap.size, 0, none⟩ = some (.int .i64 s1) := cell_of_row _ _ 0 _ _ _ hp; have p1 : w7.cell? ⟨w.heap.size, 1, none⟩ = some (.slice a1 len1 cap1) := cell_of_row _ _ 1 _ _ _ hp; have q0 : w7.cell? ⟨w.heap.size + 1, 0, none⟩ = some (.int .i64 s2) := cell_of_row _ _ 0 _ _ _ hq; have q1 : w7.cell? ⟨w.heap.size + 1, 1, none⟩ = some (.slice a2 len2 cap2) := cell_of_row _ _ 1 _ _ _ hq; clear hB))
    | (go_at_call 34; ((with_reducible refine (GS.out _ hC).mono ?_); rintro e w8 ⟨rfl, hB⟩; replace hC := bel2 hC hB; replace hp := (hB.block _ (heap_lt hp)).trans hp; replace hq := (hB.block _ (heap_lt hq)).trans hq; clear p0 p1 q0 q1; have p0 : w8.cell? ⟨w.heap.size, 0, none⟩ = some (.int .i64 s1) := cell_of_row _ _ 0 _ _ _ hp; have p1 : w8.cell? ⟨w.heap.size, 1, none⟩ = some (.slice a1 len1 cap1) := cell_of_row _ _ 1 _ _ _ hp; have q0 : w8.cell? ⟨w.heap.size + 1, 0, none⟩ = some (.int .i64 s2) := cell_of_row _ _ 0 _ _ _ hq; have q1 : w8.cell? ⟨w.heap.size + 1, 1, none⟩ = some (.slice a2 len2 cap2) := cell_of_row _ _ 1 _ _ _ hq; clear hB))
    | (go_at_call 36; ((with_reducible refine (GC.out _).mono ?_); rintro e w9 ⟨a3, len3, cap3, L3, rfl, _, _, hB⟩; replace hC := bel2 hC (bel2 hB (bel_alloc (Below.refl w9.heap.size w9) (.cells #[.int .i64 0, .slice a3 len3 cap3] 53))); clear hB)))
  go_ret
  exact ⟨by simp, hC⟩

set_option maxRecDepth 100000 in
set_option maxHeartbeats 8000000 in
theorem back_10 (w : World) (s1 : Int) (a1 : Option Addr) (len1 cap1 : Nat) (L1 : List PL) (hl1 : L1.length = len1) (hr1 : RowV w a1 len1 10 (partCells L1)) (hg1 : ∀ x ∈ L1, GoodP w x) (s2 : Int) (a2 : Option Addr) (len2 cap2 : Nat) (L2 : List PL) (hl2 : L2.length = len2) (hr2 : RowV w a2 len2 10 (partCells L2)) (hg2 : ∀ x ∈ L2, GoodP w x) (tail : ByteArray) (cut : Nat) (hcut : cut < 65536) (hf1 : fewPs L1 = true) (hf2 : fewPs L2 = true) (hz : tail.size ≤ 100) (hok : recB s1 L1 = true) (hcz : 0 < cut % (recS s1 L1).size) (hE : recE s2 L2 = 0) : Calls Try.prog 11 #[.agg #[.int .i64 s1, .slice a1 len1 cap1], .agg #[.int .i64 s2, .slice a2 len2 cap2], .string tail, .int .u16 cut] w fun e w' => e = .returned (.bool true) ∧ Below w.heap.size w w' := by
  have GK := Lib.hid rec_known
  have GF1 := Lib.hid (fun W (hB : Below w.heap.size w W) => fewPs_any a1 len1 cap1 L1 W hl1 (hr1.below hB) (fun x hx => goodP_below (hg1 x hx) hB))
  rw [hf1] at GF1
  have GF2 := Lib.hid (fun W (hB : Below w.heap.size w W) => fewPs_any a2 len2 cap2 L2 W hl2 (hr2.below hB) (fun x hx => goodP_below (hg2 x hx) hB))
  rw [hf2] at GF2
  have H1 : HasP w a1 len1 L1 := fewPs_has hl1 hr1 hg1 hf1
  have hlen1 : ∀ x ∈ L1, x.2.length = x.1.len := fun x hx => (H1.2.2.2 x hx).1
  have H2 : HasP w a2 len2 L2 := fewPs_has hl2 hr2 hg2 hf2
  have hlen2 : ∀ x ∈ L2, x.2.length = x.1.len := fun x hx => (H2.2.2.2 x hx).1
  have hzz := recS_len hlen1 hok
  have hzn := recS_min hok
  have hmc := recM_back hlen1 hok tail
  have hcc := recM_cut hlen1 hok
  have GB := Lib.hid (fun W (hB : Below w.heap.size w W) => (show Gives Try.prog 29 #[.agg #[.int .i64 s1, .slice a1 len1 cap1]] W (.tuple #[.string (recS s1 L1), .int .i64 0]) from by have := recBytes_any s1 a1 len1 cap1 L1 W (H1.below hB); rwa [recE_ok hok] at this))
  have GB2 := Lib.hid (fun W (hB : Below w.heap.size w W) => recBytes_any s2 a2 len2 cap2 L2 W (H2.below hB))
  have hsb : recE s2 L2 = 0 → decide (recS s1 L1 = recS s2 L2) = sameR s1 s2 L1 L2 := fun h => by
    by_cases hk : recB s2 L2 = true
    · rw [Bool.eq_iff_iff, decide_eq_true_iff]; exact recS_same hlen1 hlen2 hok hk
    · rw [recE_no (Bool.eq_false_iff.2 hk)] at h; cases h
  have GS := Lib.hid (fun W (hB : Below w.heap.size w W) => refSameR_any s1 s2 a1 a2 len1 len2 cap1 cap2 L1 L2 W (H1.below hB) (H2.below hB))
  have GX := Lib.hid (fun W (hB : Below w.heap.size w W) a len cap L (hP : HasP W a len L) (hL : L.map core = L1.map core) => (show Gives Try.prog 34 #[.agg #[.int .i64 s1, .slice a len cap], .agg #[.int .i64 s1, .slice a1 len1 cap1]] W (.bool true) from by have := refSameR_any s1 s1 a a1 len len1 cap cap1 L L1 W hP (H1.below hB); rwa [sameR_iff.2 ⟨rfl, hL⟩] at this))
  have hE2 : recE s2 L2 = 0 ∨ recE s2 L2 = 11 := by unfold recE; split <;> simp
  generalize recS s2 L2 = Z at *
  generalize recE s2 L2 = E at *
  generalize sameR s1 s2 L1 L2 = bS at *
  generalize recS s1 L1 = S at *
  have GR := Lib.hid (fun W => recRead_at (S ++ tail) s1 (L1.map core) S.size 1 (by rw [ByteArray.size_append]; omega) hmc W)
  obtain ⟨m, hm⟩ : ∃ m, m = cut % S.size := ⟨_, rfl⟩
  have hml : m < S.size := by rw [hm]; exact Nat.mod_lt _ (by omega)
  have hmi : (cut : Int) % (S.size : Int) = (m : Int) := by rw [hm]; omega
  have hm2 : (m : Int) ≤ (S.size : Int) := by omega
  have hz15 : 14 < S.size := by omega
  have hzm : S.size ≤ 1962 := by omega
  have hXp : 0 < S.size := by omega
  have hcat : (S.size : Int) + (tail.size : Int) ≤ 9223372036854775807 := by omega
  have GC := Lib.hid (fun W => recRead_at (S.extract 0 m) 0 [] 0 3 (by rw [ByteArray.size_extract]; omega) (hcc m (by rw [hm]; omega) hml) W)
  have hm0 : 0 < m := by rw [hm]; omega
  obtain rfl : E = 0 := hE
  have hsx := hsb rfl
  have HSX := Lib.hid hsx
  have hzt : (S.toList == Z.toList) = bS := by rw [← hsx, Bool.eq_iff_iff]; simp [listEq]
  clear hsx hsb hE2
  clear hm hcc hmc hzz hzn hok H1 H2 hlen1 hlen2 hf1 hf2 hg1 hg2 hr1 hr2 hl1 hl2
  have hp := two_a w #[.int .i64 s1, .slice a1 len1 cap1] #[.int .i64 s2, .slice a2 len2 cap2] 53 53
  have hq := two_b w #[.int .i64 s1, .slice a1 len1 cap1] #[.int .i64 s2, .slice a2 len2 cap2] 53 53
  have hC : Below w.heap.size w ((w.alloc (.cells #[.int .i64 s1, .slice a1 len1 cap1] 53)).alloc (.cells #[.int .i64 s2, .slice a2 len2 cap2] 53)) := bel_alloc (bel_alloc (Below.refl _ _) _) _
  have p0 : ((w.alloc (.cells #[.int .i64 s1, .slice a1 len1 cap1] 53)).alloc (.cells #[.int .i64 s2, .slice a2 len2 cap2] 53)).cell? ⟨w.heap.size, 0, none⟩ = some (.int .i64 s1) := cell_of_row _ _ 0 _ _ _ hp; have p1 : ((w.alloc (.cells #[.int .i64 s1, .slice a1 len1 cap1] 53)).alloc (.cells #[.int .i64 s2, .slice a2 len2 cap2] 53)).cell? ⟨w.heap.size, 1, none⟩ = some (.slice a1 len1 cap1) := cell_of_row _ _ 1 _ _ _ hp; have q0 : ((w.alloc (.cells #[.int .i64 s1, .slice a1 len1 cap1] 53)).alloc (.cells #[.int .i64 s2, .slice a2 len2 cap2] 53)).cell? ⟨w.heap.size + 1, 0, none⟩ = some (.int .i64 s2) := cell_of_row _ _ 0 _ _ _ hq; have q1 : ((w.alloc (.cells #[.int .i64 s1, .slice a1 len1 cap1] 53)).alloc (.cells #[.int .i64 s2, .slice a2 len2 cap2] 53)).cell? ⟨w.heap.size + 1, 1, none⟩ = some (.slice a2 len2 cap2) := cell_of_row _ _ 1 _ _ _ hq
  go_enter Try.func11, Try.ntmps11
  go_wp2_with (first
    | (go_at_call 27; ((with_reducible refine (GK.out _).mono ?_); rintro e w1 ⟨rfl, hB⟩; replace hC := bel2 hC hB; replace hp := (hB.block _ (heap_lt hp)).trans hp; replace hq := (hB.block _ (heap_lt hq)).trans hq; clear p0 p1 q0 q1; have p0 : w1.cell? ⟨w.heap.size, 0, none⟩ = some (.int .i64 s1) := cell_of_row _ _ 0 _ _ _ hp; have p1 : w1.cell? ⟨w.heap.size, 1, none⟩ = some (.slice a1 len1 cap1) := cell_of_row _ _ 1 _ _ _ hp; have q0 : w1.cell? ⟨w.heap.size + 1, 0, none⟩ = some (.int .i64 s2) := cell_of_row _ _ 0 _ _ _ hq; have q1 : w1.cell? ⟨w.heap.size + 1, 1, none⟩ = some (.slice a2 len2 cap2) := cell_of_row _ _ 1 _ _ _ hq; clear hB))
    | (go_at_call 28; ((with_reducible refine (GF1.out _ hC).mono ?_); rintro e w2 ⟨rfl, hB⟩; replace hC := bel2 hC hB; replace hp := (hB.block _ (heap_lt hp)).trans hp; replace hq := (hB.block _ (heap_lt hq)).trans hq; clear p0 p1 q0 q1; have p0 : w2.cell? ⟨w.heap.size, 0, none⟩ = some (.int .i64 s1) := cell_of_row _ _ 0 _ _ _ hp; have p1 : w2.cell? ⟨w.heap.size, 1, none⟩ = some (.slice a1 len1 cap1) := cell_of_row _ _ 1 _ _ _ hp; have q0 : w2.cell? ⟨w.heap.size + 1, 0, none⟩ = some (.int .i64 s2) := cell_of_row _ _ 0 _ _ _ hq; have q1 : w2.cell? ⟨w.heap.size + 1, 1, none⟩ = some (.slice a2 len2 cap2) := cell_of_row _ _ 1 _ _ _ hq; clear hB))
    | (go_at_call 28; ((with_reducible refine (GF2.out _ hC).mono ?_); rintro e w3 ⟨rfl, hB⟩; replace hC := bel2 hC hB; replace hp := (hB.block _ (heap_lt hp)).trans hp; replace hq := (hB.block _ (heap_lt hq)).trans hq; clear p0 p1 q0 q1; have p0 : w3.cell? ⟨w.heap.size, 0, none⟩ = some (.int .i64 s1) := cell_of_row _ _ 0 _ _ _ hp; have p1 : w3.cell? ⟨w.heap.size, 1, none⟩ = some (.slice a1 len1 cap1) := cell_of_row _ _ 1 _ _ _ hp; have q0 : w3.cell? ⟨w.heap.size + 1, 0, none⟩ = some (.int .i64 s2) := cell_of_row _ _ 0 _ _ _ hq; have q1 : w3.cell? ⟨w.heap.size + 1, 1, none⟩ = some (.slice a2 len2 cap2) := cell_of_row _ _ 1 _ _ _ hq; clear hB))
    | (go_at_call 29; ((with_reducible refine (GB.out _ hC).mono ?_); rintro e w4 ⟨rfl, hB⟩; replace hC := bel2 hC hB; replace hp := (hB.block _ (heap_lt hp)).trans hp; replace hq := (hB.block _ (heap_lt hq)).trans hq; clear p0 p1 q0 q1; have p0 : w4.cell? ⟨w.heap.size, 0, none⟩ = some (.int .i64 s1) := cell_of_row _ _ 0 _ _ _ hp; have p1 : w4.cell? ⟨w.heap.size, 1, none⟩ = some (.slice a1 len1 cap1) := cell_of_row _ _ 1 _ _ _ hp; have q0 : w4.cell? ⟨w.heap.size + 1, 0, none⟩ = some (.int .i64 s2) := cell_of_row _ _ 0 _ _ _ hq; have q1 : w4.cell? ⟨w.heap.size + 1, 1, none⟩ = some (.slice a2 len2 cap2) := cell_of_row _ _ 1 _ _ _ hq; clear hB))
    | (go_at_call 29; ((with_reducible refine (GB2.out _ hC).mono ?_); rintro e w5 ⟨rfl, hB⟩; replace hC := bel2 hC hB; replace hp := (hB.block _ (heap_lt hp)).trans hp; replace hq := (hB.block _ (heap_lt hq)).trans hq; clear p0 p1 q0 q1; have p0 : w5.cell? ⟨w.heap.size, 0, none⟩ = some (.int .i64 s1) := cell_of_row _ _ 0 _ _ _ hp; have p1 : w5.cell? ⟨w.heap.size, 1, none⟩ = some (.slice a1 len1 cap1) := cell_of_row _ _ 1 _ _ _ hp; have q0 : w5.cell? ⟨w.heap.size + 1, 0, none⟩ = some (.int .i64 s2) := cell_of_row _ _ 0 _ _ _ hq; have q1 : w5.cell? ⟨w.heap.size + 1, 1, none⟩ = some (.slice a2 len2 cap2) := cell_of_row _ _ 1 _ _ _ hq; clear hB))
    | (go_at_call 36; ((with_reducible refine (GR.out _).mono ?_); rintro e w6 ⟨a, len, cap, L, rfl, hP, hL, hB⟩; replace hB := bel2 hB (bel_alloc (Below.refl w6.heap.size w6) (.cells #[.int .i64 s1, .slice a len cap] 53)); have HPx := Lib.hid (hP.below (bel_alloc (Below.refl w6.heap.size w6) (.cells #[.int .i64 s1, .slice a len cap] 53))); have HL := Lib.hid hL; have hx := World.alloc_heap_new w6 (.cells #[.int .i64 s1, .slice a len cap] 53); have x0 : (w6.alloc (.cells #[.int .i64 s1, .slice a len cap] 53)).cell? ⟨w6.heap.size, 0, none⟩ = some (.int .i64 s1) := cell_of_row _ _ 0 _ _ _ hx; have x1 : (w6.alloc (.cells #[.int .i64 s1, .slice a len cap] 53)).cell? ⟨w6.heap.size, 1, none⟩ = some (.slice a len cap) := cell_of_row _ _ 1 _ _ _ hx; replace hC := bel2 hC hB; replace hp := (hB.block _ (heap_lt hp)).trans hp; replace hq := (hB.block _ (heap_lt hq)).trans hq; clear p0 p1 q0 q1; have p0 : (w6.alloc (.cells #[.int .i64 s1, .slice a len cap] 53)).cell? ⟨w.heap.size, 0, none⟩ = some (.int .i64 s1) := cell_of_row _ _ 0 _ _ _ hp; have p1 : (w6.alloc (.cells #[.int .i64 s1, .slice a len cap] 53)).cell? ⟨w.heap.size, 1, none⟩ = some (.slice a1 len1 cap1) := cell_of_row _ _ 1 _ _ _ hp; have q0 : (w6.alloc (.cells #[.int .i64 s1, .slice a len cap] 53)).cell? ⟨w.heap.size + 1, 0, none⟩ = some (.int .i64 s2) := cell_of_row _ _ 0 _ _ _ hq; have q1 : (w6.alloc (.cells #[.int .i64 s1, .slice a len cap] 53)).cell? ⟨w.heap.size + 1, 1, none⟩ = some (.slice a2 len2 cap2) := cell_of_row _ _ 1 _ _ _ hq; clear hB hP hL))
    | (go_at_call 34; ((refine (GX.out _ hC a len cap L HPx.out HL.out).mono ?_); rintro e w7 ⟨rfl, hB⟩; replace hC := bel2 hC hB; replace hp := (hB.block _ (heap_lt hp)).trans hp; replace hq := (hB.block _ (heap_lt hq)).trans hq; clear p0 p1 q0 q1; have p0 : w7.cell? ⟨w.heap.size, 0, none⟩ = some (.int .i64 s1) := cell_of_row _ _ 0 _ _ _ hp; have p1 : w7.cell? ⟨w.heap.size, 1, none⟩ = some (.slice a1 len1 cap1) := cell_of_row _ _ 1 _ _ _ hp; have q0 : w7.cell? ⟨w.heap.size + 1, 0, none⟩ = some (.int .i64 s2) := cell_of_row _ _ 0 _ _ _ hq; have q1 : w7.cell? ⟨w.heap.size + 1, 1, none⟩ = some (.slice a2 len2 cap2) := cell_of_row _ _ 1 _ _ _ hq; clear hB))
    | (go_at_call 34; ((with_reducible refine (GS.out _ hC).mono ?_); rintro e w8 ⟨rfl, hB⟩; replace hC := bel2 hC hB; replace hp := (hB.block _ (heap_lt hp)).trans hp; replace hq := (hB.block _ (heap_lt hq)).trans hq; clear p0 p1 q0 q1; have p0 : w8.cell? ⟨w.heap.size, 0, none⟩ = some (.int .i64 s1) := cell_of_row _ _ 0 _ _ _ hp; have p1 : w8.cell? ⟨w.heap.size, 1, none⟩ = some (.slice a1 len1 cap1) := cell_of_row _ _ 1 _ _ _ hp; have q0 : w8.cell? ⟨w.heap.size + 1, 0, none⟩ = some (.int .i64 s2) := cell_of_row _ _ 0 _ _ _ hq; have q1 : w8.cell? ⟨w.heap.size + 1, 1, none⟩ = some (.slice a2 len2 cap2) := cell_of_row _ _ 1 _ _ _ hq; clear hB))
    | (go_at_call 36; ((with_reducible refine (GC.out _).mono ?_); rintro e w9 ⟨a3, len3, cap3, L3, rfl, _, _, hB⟩; replace hC := bel2 hC (bel2 hB (bel_alloc (Below.refl w9.heap.size w9) (.cells #[.int .i64 0, .slice a3 len3 cap3] 53))); clear hB)))
  go_ret
  exact ⟨by simp, hC⟩

set_option maxRecDepth 100000 in
set_option maxHeartbeats 8000000 in
theorem back_11 (w : World) (s1 : Int) (a1 : Option Addr) (len1 cap1 : Nat) (L1 : List PL) (hl1 : L1.length = len1) (hr1 : RowV w a1 len1 10 (partCells L1)) (hg1 : ∀ x ∈ L1, GoodP w x) (s2 : Int) (a2 : Option Addr) (len2 cap2 : Nat) (L2 : List PL) (hl2 : L2.length = len2) (hr2 : RowV w a2 len2 10 (partCells L2)) (hg2 : ∀ x ∈ L2, GoodP w x) (tail : ByteArray) (cut : Nat) (hcut : cut < 65536) (hf1 : fewPs L1 = true) (hf2 : fewPs L2 = true) (hz : tail.size ≤ 100) (hok : recB s1 L1 = true) (hcz : 0 < cut % (recS s1 L1).size) (hE : recE s2 L2 = 11) : Calls Try.prog 11 #[.agg #[.int .i64 s1, .slice a1 len1 cap1], .agg #[.int .i64 s2, .slice a2 len2 cap2], .string tail, .int .u16 cut] w fun e w' => e = .returned (.bool true) ∧ Below w.heap.size w w' := by
  have GK := Lib.hid rec_known
  have GF1 := Lib.hid (fun W (hB : Below w.heap.size w W) => fewPs_any a1 len1 cap1 L1 W hl1 (hr1.below hB) (fun x hx => goodP_below (hg1 x hx) hB))
  rw [hf1] at GF1
  have GF2 := Lib.hid (fun W (hB : Below w.heap.size w W) => fewPs_any a2 len2 cap2 L2 W hl2 (hr2.below hB) (fun x hx => goodP_below (hg2 x hx) hB))
  rw [hf2] at GF2
  have H1 : HasP w a1 len1 L1 := fewPs_has hl1 hr1 hg1 hf1
  have hlen1 : ∀ x ∈ L1, x.2.length = x.1.len := fun x hx => (H1.2.2.2 x hx).1
  have H2 : HasP w a2 len2 L2 := fewPs_has hl2 hr2 hg2 hf2
  have hlen2 : ∀ x ∈ L2, x.2.length = x.1.len := fun x hx => (H2.2.2.2 x hx).1
  have hzz := recS_len hlen1 hok
  have hzn := recS_min hok
  have hmc := recM_back hlen1 hok tail
  have hcc := recM_cut hlen1 hok
  have GB := Lib.hid (fun W (hB : Below w.heap.size w W) => (show Gives Try.prog 29 #[.agg #[.int .i64 s1, .slice a1 len1 cap1]] W (.tuple #[.string (recS s1 L1), .int .i64 0]) from by have := recBytes_any s1 a1 len1 cap1 L1 W (H1.below hB); rwa [recE_ok hok] at this))
  have GB2 := Lib.hid (fun W (hB : Below w.heap.size w W) => recBytes_any s2 a2 len2 cap2 L2 W (H2.below hB))
  have hsb : recE s2 L2 = 0 → decide (recS s1 L1 = recS s2 L2) = sameR s1 s2 L1 L2 := fun h => by
    by_cases hk : recB s2 L2 = true
    · rw [Bool.eq_iff_iff, decide_eq_true_iff]; exact recS_same hlen1 hlen2 hok hk
    · rw [recE_no (Bool.eq_false_iff.2 hk)] at h; cases h
  have GS := Lib.hid (fun W (hB : Below w.heap.size w W) => refSameR_any s1 s2 a1 a2 len1 len2 cap1 cap2 L1 L2 W (H1.below hB) (H2.below hB))
  have GX := Lib.hid (fun W (hB : Below w.heap.size w W) a len cap L (hP : HasP W a len L) (hL : L.map core = L1.map core) => (show Gives Try.prog 34 #[.agg #[.int .i64 s1, .slice a len cap], .agg #[.int .i64 s1, .slice a1 len1 cap1]] W (.bool true) from by have := refSameR_any s1 s1 a a1 len len1 cap cap1 L L1 W hP (H1.below hB); rwa [sameR_iff.2 ⟨rfl, hL⟩] at this))
  have hE2 : recE s2 L2 = 0 ∨ recE s2 L2 = 11 := by unfold recE; split <;> simp
  generalize recS s2 L2 = Z at *
  generalize recE s2 L2 = E at *
  generalize sameR s1 s2 L1 L2 = bS at *
  generalize recS s1 L1 = S at *
  have GR := Lib.hid (fun W => recRead_at (S ++ tail) s1 (L1.map core) S.size 1 (by rw [ByteArray.size_append]; omega) hmc W)
  obtain ⟨m, hm⟩ : ∃ m, m = cut % S.size := ⟨_, rfl⟩
  have hml : m < S.size := by rw [hm]; exact Nat.mod_lt _ (by omega)
  have hmi : (cut : Int) % (S.size : Int) = (m : Int) := by rw [hm]; omega
  have hm2 : (m : Int) ≤ (S.size : Int) := by omega
  have hz15 : 14 < S.size := by omega
  have hzm : S.size ≤ 1962 := by omega
  have hXp : 0 < S.size := by omega
  have hcat : (S.size : Int) + (tail.size : Int) ≤ 9223372036854775807 := by omega
  have GC := Lib.hid (fun W => recRead_at (S.extract 0 m) 0 [] 0 3 (by rw [ByteArray.size_extract]; omega) (hcc m (by rw [hm]; omega) hml) W)
  have hm0 : 0 < m := by rw [hm]; omega
  obtain rfl : E = 11 := hE
  clear hsb hE2
  clear hm hcc hmc hzz hzn hok H1 H2 hlen1 hlen2 hf1 hf2 hg1 hg2 hr1 hr2 hl1 hl2
  have hp := two_a w #[.int .i64 s1, .slice a1 len1 cap1] #[.int .i64 s2, .slice a2 len2 cap2] 53 53
  have hq := two_b w #[.int .i64 s1, .slice a1 len1 cap1] #[.int .i64 s2, .slice a2 len2 cap2] 53 53
  have hC : Below w.heap.size w ((w.alloc (.cells #[.int .i64 s1, .slice a1 len1 cap1] 53)).alloc (.cells #[.int .i64 s2, .slice a2 len2 cap2] 53)) := bel_alloc (bel_alloc (Below.refl _ _) _) _
  have p0 : ((w.alloc (.cells #[.int .i64 s1, .slice a1 len1 cap1] 53)).alloc (.cells #[.int .i64 s2, .slice a2 len2 cap2] 53)).cell? ⟨w.heap.size, 0, none⟩ = some (.int .i64 s1) := cell_of_row _ _ 0 _ _ _ hp; have p1 : ((w.alloc (.cells #[.int .i64 s1, .slice a1 len1 cap1] 53)).alloc (.cells #[.int .i64 s2, .slice a2 len2 cap2] 53)).cell? ⟨w.heap.size, 1, none⟩ = some (.slice a1 len1 cap1) := cell_of_row _ _ 1 _ _ _ hp; have q0 : ((w.alloc (.cells #[.int .i64 s1, .slice a1 len1 cap1] 53)).alloc (.cells #[.int .i64 s2, .slice a2 len2 cap2] 53)).cell? ⟨w.heap.size + 1, 0, none⟩ = some (.int .i64 s2) := cell_of_row _ _ 0 _ _ _ hq; have q1 : ((w.alloc (.cells #[.int .i64 s1, .slice a1 len1 cap1] 53)).alloc (.cells #[.int .i64 s2, .slice a2 len2 cap2] 53)).cell? ⟨w.heap.size + 1, 1, none⟩ = some (.slice a2 len2 cap2) := cell_of_row _ _ 1 _ _ _ hq
  go_enter Try.func11, Try.ntmps11
  go_wp2_with (first
    | (go_at_call 27; ((with_reducible refine (GK.out _).mono ?_); rintro e w1 ⟨rfl, hB⟩; replace hC := bel2 hC hB; replace hp := (hB.block _ (heap_lt hp)).trans hp; replace hq := (hB.block _ (heap_lt hq)).trans hq; clear p0 p1 q0 q1; have p0 : w1.cell? ⟨w.heap.size, 0, none⟩ = some (.int .i64 s1) := cell_of_row _ _ 0 _ _ _ hp; have p1 : w1.cell? ⟨w.heap.size, 1, none⟩ = some (.slice a1 len1 cap1) := cell_of_row _ _ 1 _ _ _ hp; have q0 : w1.cell? ⟨w.heap.size + 1, 0, none⟩ = some (.int .i64 s2) := cell_of_row _ _ 0 _ _ _ hq; have q1 : w1.cell? ⟨w.heap.size + 1, 1, none⟩ = some (.slice a2 len2 cap2) := cell_of_row _ _ 1 _ _ _ hq; clear hB))
    | (go_at_call 28; ((with_reducible refine (GF1.out _ hC).mono ?_); rintro e w2 ⟨rfl, hB⟩; replace hC := bel2 hC hB; replace hp := (hB.block _ (heap_lt hp)).trans hp; replace hq := (hB.block _ (heap_lt hq)).trans hq; clear p0 p1 q0 q1; have p0 : w2.cell? ⟨w.heap.size, 0, none⟩ = some (.int .i64 s1) := cell_of_row _ _ 0 _ _ _ hp; have p1 : w2.cell? ⟨w.heap.size, 1, none⟩ = some (.slice a1 len1 cap1) := cell_of_row _ _ 1 _ _ _ hp; have q0 : w2.cell? ⟨w.heap.size + 1, 0, none⟩ = some (.int .i64 s2) := cell_of_row _ _ 0 _ _ _ hq; have q1 : w2.cell? ⟨w.heap.size + 1, 1, none⟩ = some (.slice a2 len2 cap2) := cell_of_row _ _ 1 _ _ _ hq; clear hB))
    | (go_at_call 28; ((with_reducible refine (GF2.out _ hC).mono ?_); rintro e w3 ⟨rfl, hB⟩; replace hC := bel2 hC hB; replace hp := (hB.block _ (heap_lt hp)).trans hp; replace hq := (hB.block _ (heap_lt hq)).trans hq; clear p0 p1 q0 q1; have p0 : w3.cell? ⟨w.heap.size, 0, none⟩ = some (.int .i64 s1) := cell_of_row _ _ 0 _ _ _ hp; have p1 : w3.cell? ⟨w.heap.size, 1, none⟩ = some (.slice a1 len1 cap1) := cell_of_row _ _ 1 _ _ _ hp; have q0 : w3.cell? ⟨w.heap.size + 1, 0, none⟩ = some (.int .i64 s2) := cell_of_row _ _ 0 _ _ _ hq; have q1 : w3.cell? ⟨w.heap.size + 1, 1, none⟩ = some (.slice a2 len2 cap2) := cell_of_row _ _ 1 _ _ _ hq; clear hB))
    | (go_at_call 29; ((with_reducible refine (GB.out _ hC).mono ?_); rintro e w4 ⟨rfl, hB⟩; replace hC := bel2 hC hB; replace hp := (hB.block _ (heap_lt hp)).trans hp; replace hq := (hB.block _ (heap_lt hq)).trans hq; clear p0 p1 q0 q1; have p0 : w4.cell? ⟨w.heap.size, 0, none⟩ = some (.int .i64 s1) := cell_of_row _ _ 0 _ _ _ hp; have p1 : w4.cell? ⟨w.heap.size, 1, none⟩ = some (.slice a1 len1 cap1) := cell_of_row _ _ 1 _ _ _ hp; have q0 : w4.cell? ⟨w.heap.size + 1, 0, none⟩ = some (.int .i64 s2) := cell_of_row _ _ 0 _ _ _ hq; have q1 : w4.cell? ⟨w.heap.size + 1, 1, none⟩ = some (.slice a2 len2 cap2) := cell_of_row _ _ 1 _ _ _ hq; clear hB))
    | (go_at_call 29; ((with_reducible refine (GB2.out _ hC).mono ?_); rintro e w5 ⟨rfl, hB⟩; replace hC := bel2 hC hB; replace hp := (hB.block _ (heap_lt hp)).trans hp; replace hq := (hB.block _ (heap_lt hq)).trans hq; clear p0 p1 q0 q1; have p0 : w5.cell? ⟨w.heap.size, 0, none⟩ = some (.int .i64 s1) := cell_of_row _ _ 0 _ _ _ hp; have p1 : w5.cell? ⟨w.heap.size, 1, none⟩ = some (.slice a1 len1 cap1) := cell_of_row _ _ 1 _ _ _ hp; have q0 : w5.cell? ⟨w.heap.size + 1, 0, none⟩ = some (.int .i64 s2) := cell_of_row _ _ 0 _ _ _ hq; have q1 : w5.cell? ⟨w.heap.size + 1, 1, none⟩ = some (.slice a2 len2 cap2) := cell_of_row _ _ 1 _ _ _ hq; clear hB))
    | (go_at_call 36; ((with_reducible refine (GR.out _).mono ?_); rintro e w6 ⟨a, len, cap, L, rfl, hP, hL, hB⟩; replace hB := bel2 hB (bel_alloc (Below.refl w6.heap.size w6) (.cells #[.int .i64 s1, .slice a len cap] 53)); have HPx := Lib.hid (hP.below (bel_alloc (Below.refl w6.heap.size w6) (.cells #[.int .i64 s1, .slice a len cap] 53))); have HL := Lib.hid hL; have hx := World.alloc_heap_new w6 (.cells #[.int .i64 s1, .slice a len cap] 53); have x0 : (w6.alloc (.cells #[.int .i64 s1, .slice a len cap] 53)).cell? ⟨w6.heap.size, 0, none⟩ = some (.int .i64 s1) := cell_of_row _ _ 0 _ _ _ hx; have x1 : (w6.alloc (.cells #[.int .i64 s1, .slice a len cap] 53)).cell? ⟨w6.heap.size, 1, none⟩ = some (.slice a len cap) := cell_of_row _ _ 1 _ _ _ hx; replace hC := bel2 hC hB; replace hp := (hB.block _ (heap_lt hp)).trans hp; replace hq := (hB.block _ (heap_lt hq)).trans hq; clear p0 p1 q0 q1; have p0 : (w6.alloc (.cells #[.int .i64 s1, .slice a len cap] 53)).cell? ⟨w.heap.size, 0, none⟩ = some (.int .i64 s1) := cell_of_row _ _ 0 _ _ _ hp; have p1 : (w6.alloc (.cells #[.int .i64 s1, .slice a len cap] 53)).cell? ⟨w.heap.size, 1, none⟩ = some (.slice a1 len1 cap1) := cell_of_row _ _ 1 _ _ _ hp; have q0 : (w6.alloc (.cells #[.int .i64 s1, .slice a len cap] 53)).cell? ⟨w.heap.size + 1, 0, none⟩ = some (.int .i64 s2) := cell_of_row _ _ 0 _ _ _ hq; have q1 : (w6.alloc (.cells #[.int .i64 s1, .slice a len cap] 53)).cell? ⟨w.heap.size + 1, 1, none⟩ = some (.slice a2 len2 cap2) := cell_of_row _ _ 1 _ _ _ hq; clear hB hP hL))
    | (go_at_call 34; ((refine (GX.out _ hC a len cap L HPx.out HL.out).mono ?_); rintro e w7 ⟨rfl, hB⟩; replace hC := bel2 hC hB; replace hp := (hB.block _ (heap_lt hp)).trans hp; replace hq := (hB.block _ (heap_lt hq)).trans hq; clear p0 p1 q0 q1; have p0 : w7.cell? ⟨w.heap.size, 0, none⟩ = some (.int .i64 s1) := cell_of_row _ _ 0 _ _ _ hp; have p1 : w7.cell? ⟨w.heap.size, 1, none⟩ = some (.slice a1 len1 cap1) := cell_of_row _ _ 1 _ _ _ hp; have q0 : w7.cell? ⟨w.heap.size + 1, 0, none⟩ = some (.int .i64 s2) := cell_of_row _ _ 0 _ _ _ hq; have q1 : w7.cell? ⟨w.heap.size + 1, 1, none⟩ = some (.slice a2 len2 cap2) := cell_of_row _ _ 1 _ _ _ hq; clear hB))
    | (go_at_call 34; ((with_reducible refine (GS.out _ hC).mono ?_); rintro e w8 ⟨rfl, hB⟩; replace hC := bel2 hC hB; replace hp := (hB.block _ (heap_lt hp)).trans hp; replace hq := (hB.block _ (heap_lt hq)).trans hq; clear p0 p1 q0 q1; have p0 : w8.cell? ⟨w.heap.size, 0, none⟩ = some (.int .i64 s1) := cell_of_row _ _ 0 _ _ _ hp; have p1 : w8.cell? ⟨w.heap.size, 1, none⟩ = some (.slice a1 len1 cap1) := cell_of_row _ _ 1 _ _ _ hp; have q0 : w8.cell? ⟨w.heap.size + 1, 0, none⟩ = some (.int .i64 s2) := cell_of_row _ _ 0 _ _ _ hq; have q1 : w8.cell? ⟨w.heap.size + 1, 1, none⟩ = some (.slice a2 len2 cap2) := cell_of_row _ _ 1 _ _ _ hq; clear hB))
    | (go_at_call 36; ((with_reducible refine (GC.out _).mono ?_); rintro e w9 ⟨a3, len3, cap3, L3, rfl, _, _, hB⟩; replace hC := bel2 hC (bel2 hB (bel_alloc (Below.refl w9.heap.size w9) (.cells #[.int .i64 0, .slice a3 len3 cap3] 53))); clear hB)))
  go_ret
  exact ⟨by simp, hC⟩

theorem walk (w : World) (p1 : RecC) (L1 : List PL) (g1 : GoodR w p1 L1) (p2 : RecC) (L2 : List PL) (g2 : GoodR w p2 L2) (tail : ByteArray) (ht : tail.size ≤ maxLen) (cut : Nat) (hcut : cut < 65536) : Calls Try.prog 11 #[p1.val, p2.val, .string tail, .int .u16 cut] w fun e w' => e = .returned (.bool true) ∧ Below w.heap.size w w' := by
  obtain ⟨s1, a1, len1, cap1⟩ := p1
  obtain ⟨s2, a2, len2, cap2⟩ := p2
  obtain ⟨_, hl1, _, hr1, hg1⟩ := g1
  obtain ⟨_, hl2, _, hr2, hg2⟩ := g2
  cases hf1 : fewPs L1
  · exact back_few1 w s1 a1 len1 cap1 L1 hl1 hr1 hg1 s2 a2 len2 cap2 L2 hl2 hr2 hg2 tail cut hcut hf1
  cases hf2 : fewPs L2
  · exact back_few2 w s1 a1 len1 cap1 L1 hl1 hr1 hg1 s2 a2 len2 cap2 L2 hl2 hr2 hg2 tail cut hcut hf1 hf2
  by_cases hz : 100 < tail.size
  · exact back_long w s1 a1 len1 cap1 L1 hl1 hr1 hg1 s2 a2 len2 cap2 L2 hl2 hr2 hg2 tail cut hcut hf1 hf2 hz
  have hz' : tail.size ≤ 100 := by omega
  cases hok : recB s1 L1
  · exact back_none w s1 a1 len1 cap1 L1 hl1 hr1 hg1 s2 a2 len2 cap2 L2 hl2 hr2 hg2 tail cut hcut hf1 hf2 hz' hok
  have hE : recE s2 L2 = 0 ∨ recE s2 L2 = 11 := by unfold recE; split <;> simp
  by_cases hc : cut % (recS s1 L1).size = 0
  · rcases hE with hE | hE
    · exact back_00 w s1 a1 len1 cap1 L1 hl1 hr1 hg1 s2 a2 len2 cap2 L2 hl2 hr2 hg2 tail cut hcut hf1 hf2 hz' hok hc hE
    · exact back_01 w s1 a1 len1 cap1 L1 hl1 hr1 hg1 s2 a2 len2 cap2 L2 hl2 hr2 hg2 tail cut hcut hf1 hf2 hz' hok hc hE
  · rcases hE with hE | hE
    · exact back_10 w s1 a1 len1 cap1 L1 hl1 hr1 hg1 s2 a2 len2 cap2 L2 hl2 hr2 hg2 tail cut hcut hf1 hf2 hz' hok (Nat.pos_of_ne_zero hc) hE
    · exact back_11 w s1 a1 len1 cap1 L1 hl1 hr1 hg1 s2 a2 len2 cap2 L2 hl2 hr2 hg2 tail cut hcut hf1 hf2 hz' hok (Nat.pos_of_ne_zero hc) hE

set_option maxRecDepth 100000 in
theorem lifted (os : Os) (started : os.Started) (H : Type) (enc : TypeId × Value → H) :
    ReturnsInHanded {} Try.checked os 11 .any (Rows.recordBackSpec.pre6 enc Try.prog Try.f11 Rows.recordBackRow.domain false) (Rows.recordBackSpec.post enc Try.prog Try.f11 false true false false) := by
  refine returnsInHanded_of_change (C := Try.checked) Try.own started (by kernel_rfl) Try.func11
    (ChangeSpec.witness6 (enc := enc) (C := Try.checked) false ⟨#[], #[.agg #[.int .i64 0, .slice none 0 0], .agg #[.int .i64 0, .slice none 0 0], .string ⟨#[]⟩, .int .u16 0], []⟩ 8 (by kernel_rfl) (by kernel_rfl) (by kernel_rfl) (by kernel_rfl)) ?_
  intro W base args ds gs before hval hW _ _
  refine law_contract (T := 4) (n := 4) Try.laid Try.underlying4 rfl rfl ⟨rfl, fun H ds h => by match ds, h with | [_, _, _, _], _ => rfl⟩ (of_all (by kernel_rfl)) hW ?_
  intro ps hA
  rw [Try.params11] at hA hval
  obtain ⟨v0, vs0, d0, ds0, p0, q0, hargs, rfl, rfl, h0, r0⟩ := trodAll_cons hA
  obtain ⟨v1, vs1, d1, ds1, p1, q1, rfl, rfl, rfl, h1, r1⟩ := trodAll_cons r0
  obtain ⟨v2, vs2, d2, ds2, p2, q2, rfl, rfl, rfl, h2, r2⟩ := trodAll_cons r1
  obtain ⟨v3, vs3, d3, ds3, p3, q3, rfl, rfl, rfl, h3, r3⟩ := trodAll_cons r2
  obtain ⟨rfl, rfl, rfl⟩ := trodAll_nil r3
  obtain rfl : args = #[v0, v1, v2, v3] := by cases args; simp_all
  obtain ⟨p0, l0, rfl, g0⟩ := open_record (hval 0 53 v0 rfl rfl) h0
  obtain ⟨p1, l1, rfl, g1⟩ := open_record (hval 1 53 v1 rfl rfl) h1
  obtain ⟨a2, rfl, rfl, rfl, w2⟩ := open_string Try.underlying9 (hval 2 9 v2 rfl rfl) h2
  obtain ⟨a3, rfl, rfl, rfl, w3⟩ := open_int Try.underlying50 (hval 3 50 v3 rfl rfl) h3
  obtain ⟨n3, rfl, b3⟩ := nat_of_u16 w3
  exact walk W p0 l0 g0 p1 l1 g1 a2 w2 n3 b3

theorem holds : Rows.RecordBackSaid :=
  OpenClaim.holds_of_wide 11 Try.f11 rfl rfl rfl rfl rfl rfl rfl ⟨rfl, rfl, rfl, rfl, rfl⟩ rfl rfl rfl rfl rfl (by kernel_rfl) Try.func11 (by kernel_rfl)
    (of_decide_eq_true (by kernel_rfl)) (by unfold Func.isWrapper; first | (rw [if_pos (by decide +kernel)]; kernel_rfl) | (rw [if_neg (by decide +kernel)]; exact ⟨rfl, rfl⟩))
    (fun os started H enc _ => lifted os started H enc)

end Go.Proofs.Ytpogklceaoiacaa.recordBack
