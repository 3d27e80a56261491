/- Law PartTells: for every input the call answers true; its arguments read as they did. No condition. -/
import Derived.Test.YtpogklceaoiacaaLaw
import Derived.Test.YtpogklceaoiacaaKnown4
import Derived.Test.YtpogklceaoiacaaOpenPart
import Derived.Test.YtpogklceaoiacaaRefBytes1
import Derived.Test.YtpogklceaoiacaaRefIs6
import Derived.Test.YtpogklceaoiacaaRefSame
namespace Go.Proofs.Ytpogklceaoiacaa.partTells
open Go.ChangeShapes Go.WideShapes Go.ChangeAt Go.RowKit Go.Shelf
open Go.ChangeMaps (open_string shut_string)
set_option linter.unusedVariables false
attribute [local go_sem] Oper.semAt_some wide_fn wide_round_fn


theorem arr3 {W : World} {X : Nat} {T : TypeId} {v0 v1 v2 : Value} (h : W.heap[X]? = some (.cells #[v0, v1, v2] T (0, 0))) :
    W.cell? ⟨X, 0, none⟩ = some v0 ∧ W.cell? ⟨X, 1, none⟩ = some v1 ∧ W.cell? ⟨X, 2, none⟩ = some v2 :=
  ⟨cell_of_row _ _ 0 _ _ _ h, cell_of_row _ _ 1 _ _ _ h, cell_of_row _ _ 2 _ _ _ h⟩
theorem few_len {l : List EntryC} (h : fewB l = true) : l.length ≤ 8 := by
  simp only [fewB, Bool.and_eq_true, decide_eq_true_eq] at h; exact h.2

set_option maxRecDepth 100000 in
set_option maxHeartbeats 8000000 in
theorem tells_few1 (w : World) (g1 k1 : Int) (a1 : Option Addr) (len1 cap1 : Nat) (ht1 hv1 hc1 i1 t1 : Int) (m1 h1 : Bool) (l1 : List EntryC) (hl1 : l1.length = len1) (hr1 : RowV w a1 len1 3 (entryCells l1)) (hg1 : ∀ e ∈ l1, goodEntry e) (g2 k2 : Int) (a2 : Option Addr) (len2 cap2 : Nat) (ht2 hv2 hc2 i2 t2 : Int) (m2 h2 : Bool) (l2 : List EntryC) (hl2 : l2.length = len2) (hr2 : RowV w a2 len2 3 (entryCells l2)) (hg2 : ∀ e ∈ l2, goodEntry e) (ei et : Int) (ed : ByteArray) (hf1 : fewB l1 = false) : Calls Try.prog 3 #[(⟨g1, k1, a1, len1, cap1, ht1, hv1, hc1, i1, t1, m1, h1⟩ : PartC).val, (⟨g2, k2, a2, len2, cap2, ht2, hv2, hc2, i2, t2, m2, h2⟩ : PartC).val, .agg #[.int .i64 ei, .int .i64 et, .string ed]] w fun e w' => e = .returned (.bool true) ∧ Below w.heap.size w w' := by
  have GK := Lib.hid part_known
  have GF1 := Lib.hid (fun W (hB : Below w.heap.size w W) => few_any (⟨g1, k1, a1, len1, cap1, ht1, hv1, hc1, i1, t1, m1, h1⟩ : PartC) l1 W hl1 (hr1.below hB) (fun e he => (hg1 e he).2.2))
  rw [hf1] at GF1
  dsimp only [PartC.val] at *
  have hC : Below w.heap.size w (((w.alloc (.cells #[.int .i64 g1, .int .i64 k1, .slice a1 len1 cap1, .int .i64 ht1, .int .i64 hv1, .int .i64 hc1, .int .i64 i1, .int .i64 t1, .bool m1, .bool h1] 26)).alloc (.cells #[.int .i64 g2, .int .i64 k2, .slice a2 len2 cap2, .int .i64 ht2, .int .i64 hv2, .int .i64 hc2, .int .i64 i2, .int .i64 t2, .bool m2, .bool h2] 26)).alloc (.cells #[.int .i64 ei, .int .i64 et, .string ed] 28)) := bel_alloc (bel_alloc (bel_alloc (Below.refl _ _) _) _) _
  have hp := first_block w #[.int .i64 g1, .int .i64 k1, .slice a1 len1 cap1, .int .i64 ht1, .int .i64 hv1, .int .i64 hc1, .int .i64 i1, .int .i64 t1, .bool m1, .bool h1] #[.int .i64 g2, .int .i64 k2, .slice a2 len2 cap2, .int .i64 ht2, .int .i64 hv2, .int .i64 hc2, .int .i64 i2, .int .i64 t2, .bool m2, .bool h2] #[.int .i64 ei, .int .i64 et, .string ed] 26 26 28
  have hq := mid_block w #[.int .i64 g1, .int .i64 k1, .slice a1 len1 cap1, .int .i64 ht1, .int .i64 hv1, .int .i64 hc1, .int .i64 i1, .int .i64 t1, .bool m1, .bool h1] #[.int .i64 g2, .int .i64 k2, .slice a2 len2 cap2, .int .i64 ht2, .int .i64 hv2, .int .i64 hc2, .int .i64 i2, .int .i64 t2, .bool m2, .bool h2] #[.int .i64 ei, .int .i64 et, .string ed] 26 26 28
  have hr := last_block w #[.int .i64 g1, .int .i64 k1, .slice a1 len1 cap1, .int .i64 ht1, .int .i64 hv1, .int .i64 hc1, .int .i64 i1, .int .i64 t1, .bool m1, .bool h1] #[.int .i64 g2, .int .i64 k2, .slice a2 len2 cap2, .int .i64 ht2, .int .i64 hv2, .int .i64 hc2, .int .i64 i2, .int .i64 t2, .bool m2, .bool h2] #[.int .i64 ei, .int .i64 et, .string ed] 26 26 28
  obtain ⟨y0, y1, y2, y3, y4, y5, y6, y7, y8, y9⟩ := arr10 hp; obtain ⟨z0, z1, z2, z3, z4, z5, z6, z7, z8, z9⟩ := arr10 hq; obtain ⟨u0, u1, u2⟩ := arr3 hr
  go_enter Try.func3, Try.ntmps3
  go_wp2_with (first
    | (go_at_call 15; ((with_reducible refine (GK.out _).mono ?_); rintro e w1 ⟨rfl, hB⟩; replace hC := bel2 hC hB; replace hp := (hB.block _ (heap_ltP hp)).trans hp; replace hq := (hB.block _ (heap_ltP hq)).trans hq; replace hr := (hB.block _ (heap_ltP hr)).trans hr; clear hB y0 y1 y2 y3 y4 y5 y6 y7 y8 y9 z0 z1 z2 z3 z4 z5 z6 z7 z8 z9 u0 u1 u2; obtain ⟨y0, y1, y2, y3, y4, y5, y6, y7, y8, y9⟩ := arr10 hp; obtain ⟨z0, z1, z2, z3, z4, z5, z6, z7, z8, z9⟩ := arr10 hq; obtain ⟨u0, u1, u2⟩ := arr3 hr))
    | (go_at_call 16; ((with_reducible refine (GF1.out _ hC).mono ?_); rintro e w2 ⟨rfl, hB⟩; replace hC := bel2 hC hB; replace hp := (hB.block _ (heap_ltP hp)).trans hp; replace hq := (hB.block _ (heap_ltP hq)).trans hq; replace hr := (hB.block _ (heap_ltP hr)).trans hr; clear hB y0 y1 y2 y3 y4 y5 y6 y7 y8 y9 z0 z1 z2 z3 z4 z5 z6 z7 z8 z9 u0 u1 u2; obtain ⟨y0, y1, y2, y3, y4, y5, y6, y7, y8, y9⟩ := arr10 hp; obtain ⟨z0, z1, z2, z3, z4, z5, z6, z7, z8, z9⟩ := arr10 hq; obtain ⟨u0, u1, u2⟩ := arr3 hr)))
  go_ret
  exact ⟨by simp, hC⟩

set_option maxRecDepth 100000 in
set_option maxHeartbeats 8000000 in
theorem tells_few2 (w : World) (g1 k1 : Int) (a1 : Option Addr) (len1 cap1 : Nat) (ht1 hv1 hc1 i1 t1 : Int) (m1 h1 : Bool) (l1 : List EntryC) (hl1 : l1.length = len1) (hr1 : RowV w a1 len1 3 (entryCells l1)) (hg1 : ∀ e ∈ l1, goodEntry e) (g2 k2 : Int) (a2 : Option Addr) (len2 cap2 : Nat) (ht2 hv2 hc2 i2 t2 : Int) (m2 h2 : Bool) (l2 : List EntryC) (hl2 : l2.length = len2) (hr2 : RowV w a2 len2 3 (entryCells l2)) (hg2 : ∀ e ∈ l2, goodEntry e) (ei et : Int) (ed : ByteArray) (hf1 : fewB l1 = true) (hf2 : fewB l2 = false) : Calls Try.prog 3 #[(⟨g1, k1, a1, len1, cap1, ht1, hv1, hc1, i1, t1, m1, h1⟩ : PartC).val, (⟨g2, k2, a2, len2, cap2, ht2, hv2, hc2, i2, t2, m2, h2⟩ : PartC).val, .agg #[.int .i64 ei, .int .i64 et, .string ed]] w fun e w' => e = .returned (.bool true) ∧ Below w.heap.size w w' := by
  have GK := Lib.hid part_known
  have GF1 := Lib.hid (fun W (hB : Below w.heap.size w W) => few_any (⟨g1, k1, a1, len1, cap1, ht1, hv1, hc1, i1, t1, m1, h1⟩ : PartC) l1 W hl1 (hr1.below hB) (fun e he => (hg1 e he).2.2))
  rw [hf1] at GF1
  have GF2 := Lib.hid (fun W (hB : Below w.heap.size w W) => few_any (⟨g2, k2, a2, len2, cap2, ht2, hv2, hc2, i2, t2, m2, h2⟩ : PartC) l2 W hl2 (hr2.below hB) (fun e he => (hg2 e he).2.2))
  rw [hf2] at GF2
  dsimp only [PartC.val] at *
  have hC : Below w.heap.size w (((w.alloc (.cells #[.int .i64 g1, .int .i64 k1, .slice a1 len1 cap1, .int .i64 ht1, .int .i64 hv1, .int .i64 hc1, .int .i64 i1, .int .i64 t1, .bool m1, .bool h1] 26)).alloc (.cells #[.int .i64 g2, .int .i64 k2, .slice a2 len2 cap2, .int .i64 ht2, .int .i64 hv2, .int .i64 hc2, .int .i64 i2, .int .i64 t2, .bool m2, .bool h2] 26)).alloc (.cells #[.int .i64 ei, .int .i64 et, .string ed] 28)) := bel_alloc (bel_alloc (bel_alloc (Below.refl _ _) _) _) _
  have hp := first_block w #[.int .i64 g1, .int .i64 k1, .slice a1 len1 cap1, .int .i64 ht1, .int .i64 hv1, .int .i64 hc1, .int .i64 i1, .int .i64 t1, .bool m1, .bool h1] #[.int .i64 g2, .int .i64 k2, .slice a2 len2 cap2, .int .i64 ht2, .int .i64 hv2, .int .i64 hc2, .int .i64 i2, .int .i64 t2, .bool m2, .bool h2] #[.int .i64 ei, .int .i64 et, .string ed] 26 26 28
  have hq := mid_block w #[.int .i64 g1, .int .i64 k1, .slice a1 len1 cap1, .int .i64 ht1, .int .i64 hv1, .int .i64 hc1, .int .i64 i1, .int .i64 t1, .bool m1, .bool h1] #[.int .i64 g2, .int .i64 k2, .slice a2 len2 cap2, .int .i64 ht2, .int .i64 hv2, .int .i64 hc2, .int .i64 i2, .int .i64 t2, .bool m2, .bool h2] #[.int .i64 ei, .int .i64 et, .string ed] 26 26 28
  have hr := last_block w #[.int .i64 g1, .int .i64 k1, .slice a1 len1 cap1, .int .i64 ht1, .int .i64 hv1, .int .i64 hc1, .int .i64 i1, .int .i64 t1, .bool m1, .bool h1] #[.int .i64 g2, .int .i64 k2, .slice a2 len2 cap2, .int .i64 ht2, .int .i64 hv2, .int .i64 hc2, .int .i64 i2, .int .i64 t2, .bool m2, .bool h2] #[.int .i64 ei, .int .i64 et, .string ed] 26 26 28
  obtain ⟨y0, y1, y2, y3, y4, y5, y6, y7, y8, y9⟩ := arr10 hp; obtain ⟨z0, z1, z2, z3, z4, z5, z6, z7, z8, z9⟩ := arr10 hq; obtain ⟨u0, u1, u2⟩ := arr3 hr
  go_enter Try.func3, Try.ntmps3
  go_wp2_with (first
    | (go_at_call 15; ((with_reducible refine (GK.out _).mono ?_); rintro e w1 ⟨rfl, hB⟩; replace hC := bel2 hC hB; replace hp := (hB.block _ (heap_ltP hp)).trans hp; replace hq := (hB.block _ (heap_ltP hq)).trans hq; replace hr := (hB.block _ (heap_ltP hr)).trans hr; clear hB y0 y1 y2 y3 y4 y5 y6 y7 y8 y9 z0 z1 z2 z3 z4 z5 z6 z7 z8 z9 u0 u1 u2; obtain ⟨y0, y1, y2, y3, y4, y5, y6, y7, y8, y9⟩ := arr10 hp; obtain ⟨z0, z1, z2, z3, z4, z5, z6, z7, z8, z9⟩ := arr10 hq; obtain ⟨u0, u1, u2⟩ := arr3 hr))
    | (go_at_call 16; ((with_reducible refine (GF1.out _ hC).mono ?_); rintro e w2 ⟨rfl, hB⟩; replace hC := bel2 hC hB; replace hp := (hB.block _ (heap_ltP hp)).trans hp; replace hq := (hB.block _ (heap_ltP hq)).trans hq; replace hr := (hB.block _ (heap_ltP hr)).trans hr; clear hB y0 y1 y2 y3 y4 y5 y6 y7 y8 y9 z0 z1 z2 z3 z4 z5 z6 z7 z8 z9 u0 u1 u2; obtain ⟨y0, y1, y2, y3, y4, y5, y6, y7, y8, y9⟩ := arr10 hp; obtain ⟨z0, z1, z2, z3, z4, z5, z6, z7, z8, z9⟩ := arr10 hq; obtain ⟨u0, u1, u2⟩ := arr3 hr))
    | (go_at_call 16; ((with_reducible refine (GF2.out _ hC).mono ?_); rintro e w3 ⟨rfl, hB⟩; replace hC := bel2 hC hB; replace hp := (hB.block _ (heap_ltP hp)).trans hp; replace hq := (hB.block _ (heap_ltP hq)).trans hq; replace hr := (hB.block _ (heap_ltP hr)).trans hr; clear hB y0 y1 y2 y3 y4 y5 y6 y7 y8 y9 z0 z1 z2 z3 z4 z5 z6 z7 z8 z9 u0 u1 u2; obtain ⟨y0, y1, y2, y3, y4, y5, y6, y7, y8, y9⟩ := arr10 hp; obtain ⟨z0, z1, z2, z3, z4, z5, z6, z7, z8, z9⟩ := arr10 hq; obtain ⟨u0, u1, u2⟩ := arr3 hr)))
  go_ret
  exact ⟨by simp, hC⟩

set_option maxRecDepth 100000 in
set_option maxHeartbeats 8000000 in
theorem tells_long (w : World) (g1 k1 : Int) (a1 : Option Addr) (len1 cap1 : Nat) (ht1 hv1 hc1 i1 t1 : Int) (m1 h1 : Bool) (l1 : List EntryC) (hl1 : l1.length = len1) (hr1 : RowV w a1 len1 3 (entryCells l1)) (hg1 : ∀ e ∈ l1, goodEntry e) (g2 k2 : Int) (a2 : Option Addr) (len2 cap2 : Nat) (ht2 hv2 hc2 i2 t2 : Int) (m2 h2 : Bool) (l2 : List EntryC) (hl2 : l2.length = len2) (hr2 : RowV w a2 len2 3 (entryCells l2)) (hg2 : ∀ e ∈ l2, goodEntry e) (ei et : Int) (ed : ByteArray) (hf1 : fewB l1 = true) (hf2 : fewB l2 = true) (hz : 60 < ed.size) : Calls Try.prog 3 #[(⟨g1, k1, a1, len1, cap1, ht1, hv1, hc1, i1, t1, m1, h1⟩ : PartC).val, (⟨g2, k2, a2, len2, cap2, ht2, hv2, hc2, i2, t2, m2, h2⟩ : PartC).val, .agg #[.int .i64 ei, .int .i64 et, .string ed]] w fun e w' => e = .returned (.bool true) ∧ Below w.heap.size w w' := by
  have GK := Lib.hid part_known
  have GF1 := Lib.hid (fun W (hB : Below w.heap.size w W) => few_any (⟨g1, k1, a1, len1, cap1, ht1, hv1, hc1, i1, t1, m1, h1⟩ : PartC) l1 W hl1 (hr1.below hB) (fun e he => (hg1 e he).2.2))
  rw [hf1] at GF1
  have GF2 := Lib.hid (fun W (hB : Below w.heap.size w W) => few_any (⟨g2, k2, a2, len2, cap2, ht2, hv2, hc2, i2, t2, m2, h2⟩ : PartC) l2 W hl2 (hr2.below hB) (fun e he => (hg2 e he).2.2))
  rw [hf2] at GF2
  dsimp only [PartC.val] at *
  have hC : Below w.heap.size w (((w.alloc (.cells #[.int .i64 g1, .int .i64 k1, .slice a1 len1 cap1, .int .i64 ht1, .int .i64 hv1, .int .i64 hc1, .int .i64 i1, .int .i64 t1, .bool m1, .bool h1] 26)).alloc (.cells #[.int .i64 g2, .int .i64 k2, .slice a2 len2 cap2, .int .i64 ht2, .int .i64 hv2, .int .i64 hc2, .int .i64 i2, .int .i64 t2, .bool m2, .bool h2] 26)).alloc (.cells #[.int .i64 ei, .int .i64 et, .string ed] 28)) := bel_alloc (bel_alloc (bel_alloc (Below.refl _ _) _) _) _
  have hp := first_block w #[.int .i64 g1, .int .i64 k1, .slice a1 len1 cap1, .int .i64 ht1, .int .i64 hv1, .int .i64 hc1, .int .i64 i1, .int .i64 t1, .bool m1, .bool h1] #[.int .i64 g2, .int .i64 k2, .slice a2 len2 cap2, .int .i64 ht2, .int .i64 hv2, .int .i64 hc2, .int .i64 i2, .int .i64 t2, .bool m2, .bool h2] #[.int .i64 ei, .int .i64 et, .string ed] 26 26 28
  have hq := mid_block w #[.int .i64 g1, .int .i64 k1, .slice a1 len1 cap1, .int .i64 ht1, .int .i64 hv1, .int .i64 hc1, .int .i64 i1, .int .i64 t1, .bool m1, .bool h1] #[.int .i64 g2, .int .i64 k2, .slice a2 len2 cap2, .int .i64 ht2, .int .i64 hv2, .int .i64 hc2, .int .i64 i2, .int .i64 t2, .bool m2, .bool h2] #[.int .i64 ei, .int .i64 et, .string ed] 26 26 28
  have hr := last_block w #[.int .i64 g1, .int .i64 k1, .slice a1 len1 cap1, .int .i64 ht1, .int .i64 hv1, .int .i64 hc1, .int .i64 i1, .int .i64 t1, .bool m1, .bool h1] #[.int .i64 g2, .int .i64 k2, .slice a2 len2 cap2, .int .i64 ht2, .int .i64 hv2, .int .i64 hc2, .int .i64 i2, .int .i64 t2, .bool m2, .bool h2] #[.int .i64 ei, .int .i64 et, .string ed] 26 26 28
  obtain ⟨y0, y1, y2, y3, y4, y5, y6, y7, y8, y9⟩ := arr10 hp; obtain ⟨z0, z1, z2, z3, z4, z5, z6, z7, z8, z9⟩ := arr10 hq; obtain ⟨u0, u1, u2⟩ := arr3 hr
  go_enter Try.func3, Try.ntmps3
  go_wp2_with (first
    | (go_at_call 15; ((with_reducible refine (GK.out _).mono ?_); rintro e w1 ⟨rfl, hB⟩; replace hC := bel2 hC hB; replace hp := (hB.block _ (heap_ltP hp)).trans hp; replace hq := (hB.block _ (heap_ltP hq)).trans hq; replace hr := (hB.block _ (heap_ltP hr)).trans hr; clear hB y0 y1 y2 y3 y4 y5 y6 y7 y8 y9 z0 z1 z2 z3 z4 z5 z6 z7 z8 z9 u0 u1 u2; obtain ⟨y0, y1, y2, y3, y4, y5, y6, y7, y8, y9⟩ := arr10 hp; obtain ⟨z0, z1, z2, z3, z4, z5, z6, z7, z8, z9⟩ := arr10 hq; obtain ⟨u0, u1, u2⟩ := arr3 hr))
    | (go_at_call 16; ((with_reducible refine (GF1.out _ hC).mono ?_); rintro e w2 ⟨rfl, hB⟩; replace hC := bel2 hC hB; replace hp := (hB.block _ (heap_ltP hp)).trans hp; replace hq := (hB.block _ (heap_ltP hq)).trans hq; replace hr := (hB.block _ (heap_ltP hr)).trans hr; clear hB y0 y1 y2 y3 y4 y5 y6 y7 y8 y9 z0 z1 z2 z3 z4 z5 z6 z7 z8 z9 u0 u1 u2; obtain ⟨y0, y1, y2, y3, y4, y5, y6, y7, y8, y9⟩ := arr10 hp; obtain ⟨z0, z1, z2, z3, z4, z5, z6, z7, z8, z9⟩ := arr10 hq; obtain ⟨u0, u1, u2⟩ := arr3 hr))
    | (go_at_call 16; ((with_reducible refine (GF2.out _ hC).mono ?_); rintro e w3 ⟨rfl, hB⟩; replace hC := bel2 hC hB; replace hp := (hB.block _ (heap_ltP hp)).trans hp; replace hq := (hB.block _ (heap_ltP hq)).trans hq; replace hr := (hB.block _ (heap_ltP hr)).trans hr; clear hB y0 y1 y2 y3 y4 y5 y6 y7 y8 y9 z0 z1 z2 z3 z4 z5 z6 z7 z8 z9 u0 u1 u2; obtain ⟨y0, y1, y2, y3, y4, y5, y6, y7, y8, y9⟩ := arr10 hp; obtain ⟨z0, z1, z2, z3, z4, z5, z6, z7, z8, z9⟩ := arr10 hq; obtain ⟨u0, u1, u2⟩ := arr3 hr)))
  go_ret
  exact ⟨by simp, hC⟩

set_option maxRecDepth 100000 in
set_option maxHeartbeats 8000000 in
theorem tells_yes (w : World) (g1 k1 : Int) (a1 : Option Addr) (len1 cap1 : Nat) (ht1 hv1 hc1 i1 t1 : Int) (m1 h1 : Bool) (l1 : List EntryC) (hl1 : l1.length = len1) (hr1 : RowV w a1 len1 3 (entryCells l1)) (hg1 : ∀ e ∈ l1, goodEntry e) (g2 k2 : Int) (a2 : Option Addr) (len2 cap2 : Nat) (ht2 hv2 hc2 i2 t2 : Int) (m2 h2 : Bool) (l2 : List EntryC) (hl2 : l2.length = len2) (hr2 : RowV w a2 len2 3 (entryCells l2)) (hg2 : ∀ e ∈ l2, goodEntry e) (ei et : Int) (ed : ByteArray) (hf1 : fewB l1 = true) (hf2 : fewB l2 = true) (hz : ed.size ≤ 60) (hI : isB (⟨g1, k1, a1, len1, cap1, ht1, hv1, hc1, i1, t1, m1, h1⟩ : PartC) l1 = true) : Calls Try.prog 3 #[(⟨g1, k1, a1, len1, cap1, ht1, hv1, hc1, i1, t1, m1, h1⟩ : PartC).val, (⟨g2, k2, a2, len2, cap2, ht2, hv2, hc2, i2, t2, m2, h2⟩ : PartC).val, .agg #[.int .i64 ei, .int .i64 et, .string ed]] w fun e w' => e = .returned (.bool true) ∧ Below w.heap.size w w' := by
  have GK := Lib.hid part_known
  have GF1 := Lib.hid (fun W (hB : Below w.heap.size w W) => few_any (⟨g1, k1, a1, len1, cap1, ht1, hv1, hc1, i1, t1, m1, h1⟩ : PartC) l1 W hl1 (hr1.below hB) (fun e he => (hg1 e he).2.2))
  rw [hf1] at GF1
  have GF2 := Lib.hid (fun W (hB : Below w.heap.size w W) => few_any (⟨g2, k2, a2, len2, cap2, ht2, hv2, hc2, i2, t2, m2, h2⟩ : PartC) l2 W hl2 (hr2.below hB) (fun e he => (hg2 e he).2.2))
  rw [hf2] at GF2
  have hE1 : ∀ W, Below w.heap.size w W → HasE W (⟨g1, k1, a1, len1, cap1, ht1, hv1, hc1, i1, t1, m1, h1⟩ : PartC) l1 := fun W hB => ⟨hl1, by have := few_len hf1; dsimp only; omega, hr1.below hB⟩
  have hE2 : ∀ W, Below w.heap.size w W → HasE W (⟨g2, k2, a2, len2, cap2, ht2, hv2, hc2, i2, t2, m2, h2⟩ : PartC) l2 := fun W hB => ⟨hl2, by have := few_len hf2; dsimp only; omega, hr2.below hB⟩
  have GI1 := Lib.hid (fun W (hB : Below w.heap.size w W) => is_any (⟨g1, k1, a1, len1, cap1, ht1, hv1, hc1, i1, t1, m1, h1⟩ : PartC) l1 W (hE1 W hB))
  have GI2 := Lib.hid (fun W (hB : Below w.heap.size w W) => refIs_any (⟨g1, k1, a1, len1, cap1, ht1, hv1, hc1, i1, t1, m1, h1⟩ : PartC) l1 W (hE1 W hB))
  have GS1 := Lib.hid (fun W (hB : Below w.heap.size w W) => same_any (⟨g1, k1, a1, len1, cap1, ht1, hv1, hc1, i1, t1, m1, h1⟩ : PartC) (⟨g2, k2, a2, len2, cap2, ht2, hv2, hc2, i2, t2, m2, h2⟩ : PartC) l1 l2 W (hE1 W hB) (hE2 W hB))
  have GS2 := Lib.hid (fun W (hB : Below w.heap.size w W) => refSame_any (⟨g1, k1, a1, len1, cap1, ht1, hv1, hc1, i1, t1, m1, h1⟩ : PartC) (⟨g2, k2, a2, len2, cap2, ht2, hv2, hc2, i2, t2, m2, h2⟩ : PartC) l1 l2 W (hE1 W hB) (hE2 W hB))
  have GE1 := Lib.hid (isEntry_any ⟨ei, et, ed⟩)
  have GE2 := Lib.hid (refIsEntry_any ⟨ei, et, ed⟩)
  have GB := Lib.hid (fun W (hB : Below w.heap.size w W) => (show Gives Try.prog 17 #[(⟨g1, k1, a1, len1, cap1, ht1, hv1, hc1, i1, t1, m1, h1⟩ : PartC).val] W (.tuple #[.string (mkB (bytesL (⟨g1, k1, a1, len1, cap1, ht1, hv1, hc1, i1, t1, m1, h1⟩ : PartC) l1)), .int .i64 0]) from by have := bytes_any (⟨g1, k1, a1, len1, cap1, ht1, hv1, hc1, i1, t1, m1, h1⟩ : PartC) l1 W (hE1 W hB); unfold bytesS bytesE at this; rw [if_pos hI, if_pos hI] at this; exact this))
  have GR := Lib.hid (fun W (hB : Below w.heap.size w W) => refBytes_any (⟨g1, k1, a1, len1, cap1, ht1, hv1, hc1, i1, t1, m1, h1⟩ : PartC) l1 W (hE1 W hB) hI)
  rw [hI] at GI1 GI2
  generalize mkB (bytesL (⟨g1, k1, a1, len1, cap1, ht1, hv1, hc1, i1, t1, m1, h1⟩ : PartC) l1) = X at *
  clear hI
  generalize sameB (⟨g1, k1, a1, len1, cap1, ht1, hv1, hc1, i1, t1, m1, h1⟩ : PartC) (⟨g2, k2, a2, len2, cap2, ht2, hv2, hc2, i2, t2, m2, h2⟩ : PartC) l1 l2 = bS at *
  generalize entryB ⟨ei, et, ed⟩ = bE at *
  clear hE1 hE2 hr1 hr2 hg1 hg2 hl1 hl2
  dsimp only [PartC.val] at *
  have hC : Below w.heap.size w (((w.alloc (.cells #[.int .i64 g1, .int .i64 k1, .slice a1 len1 cap1, .int .i64 ht1, .int .i64 hv1, .int .i64 hc1, .int .i64 i1, .int .i64 t1, .bool m1, .bool h1] 26)).alloc (.cells #[.int .i64 g2, .int .i64 k2, .slice a2 len2 cap2, .int .i64 ht2, .int .i64 hv2, .int .i64 hc2, .int .i64 i2, .int .i64 t2, .bool m2, .bool h2] 26)).alloc (.cells #[.int .i64 ei, .int .i64 et, .string ed] 28)) := bel_alloc (bel_alloc (bel_alloc (Below.refl _ _) _) _) _
  have hp := first_block w #[.int .i64 g1, .int .i64 k1, .slice a1 len1 cap1, .int .i64 ht1, .int .i64 hv1, .int .i64 hc1, .int .i64 i1, .int .i64 t1, .bool m1, .bool h1] #[.int .i64 g2, .int .i64 k2, .slice a2 len2 cap2, .int .i64 ht2, .int .i64 hv2, .int .i64 hc2, .int .i64 i2, .int .i64 t2, .bool m2, .bool h2] #[.int .i64 ei, .int .i64 et, .string ed] 26 26 28
  have hq := mid_block w #[.int .i64 g1, .int .i64 k1, .slice a1 len1 cap1, .int .i64 ht1, .int .i64 hv1, .int .i64 hc1, .int .i64 i1, .int .i64 t1, .bool m1, .bool h1] #[.int .i64 g2, .int .i64 k2, .slice a2 len2 cap2, .int .i64 ht2, .int .i64 hv2, .int .i64 hc2, .int .i64 i2, .int .i64 t2, .bool m2, .bool h2] #[.int .i64 ei, .int .i64 et, .string ed] 26 26 28
  have hr := last_block w #[.int .i64 g1, .int .i64 k1, .slice a1 len1 cap1, .int .i64 ht1, .int .i64 hv1, .int .i64 hc1, .int .i64 i1, .int .i64 t1, .bool m1, .bool h1] #[.int .i64 g2, .int .i64 k2, .slice a2 len2 cap2, .int .i64 ht2, .int .i64 hv2, .int .i64 hc2, .int .i64 i2, .int .i64 t2, .bool m2, .bool h2] #[.int .i64 ei, .int .i64 et, .string ed] 26 26 28
  obtain ⟨y0, y1, y2, y3, y4, y5, y6, y7, y8, y9⟩ := arr10 hp; obtain ⟨z0, z1, z2, z3, z4, z5, z6, z7, z8, z9⟩ := arr10 hq; obtain ⟨u0, u1, u2⟩ := arr3 hr
  go_enter Try.func3, Try.ntmps3
  go_wp2_with (first
    | (go_at_call 15; ((with_reducible refine (GK.out _).mono ?_); rintro e w1 ⟨rfl, hB⟩; replace hC := bel2 hC hB; replace hp := (hB.block _ (heap_ltP hp)).trans hp; replace hq := (hB.block _ (heap_ltP hq)).trans hq; replace hr := (hB.block _ (heap_ltP hr)).trans hr; clear hB y0 y1 y2 y3 y4 y5 y6 y7 y8 y9 z0 z1 z2 z3 z4 z5 z6 z7 z8 z9 u0 u1 u2; obtain ⟨y0, y1, y2, y3, y4, y5, y6, y7, y8, y9⟩ := arr10 hp; obtain ⟨z0, z1, z2, z3, z4, z5, z6, z7, z8, z9⟩ := arr10 hq; obtain ⟨u0, u1, u2⟩ := arr3 hr))
    | (go_at_call 16; ((with_reducible refine (GF1.out _ hC).mono ?_); rintro e w2 ⟨rfl, hB⟩; replace hC := bel2 hC hB; replace hp := (hB.block _ (heap_ltP hp)).trans hp; replace hq := (hB.block _ (heap_ltP hq)).trans hq; replace hr := (hB.block _ (heap_ltP hr)).trans hr; clear hB y0 y1 y2 y3 y4 y5 y6 y7 y8 y9 z0 z1 z2 z3 z4 z5 z6 z7 z8 z9 u0 u1 u2; obtain ⟨y0, y1, y2, y3, y4, y5, y6, y7, y8, y9⟩ := arr10 hp; obtain ⟨z0, z1, z2, z3, z4, z5, z6, z7, z8, z9⟩ := arr10 hq; obtain ⟨u0, u1, u2⟩ := arr3 hr))
    | (go_at_call 16; ((with_reducible refine (GF2.out _ hC).mono ?_); rintro e w3 ⟨rfl, hB⟩; replace hC := bel2 hC hB; replace hp := (hB.block _ (heap_ltP hp)).trans hp; replace hq := (hB.block _ (heap_ltP hq)).trans hq; replace hr := (hB.block _ (heap_ltP hr)).trans hr; clear hB y0 y1 y2 y3 y4 y5 y6 y7 y8 y9 z0 z1 z2 z3 z4 z5 z6 z7 z8 z9 u0 u1 u2; obtain ⟨y0, y1, y2, y3, y4, y5, y6, y7, y8, y9⟩ := arr10 hp; obtain ⟨z0, z1, z2, z3, z4, z5, z6, z7, z8, z9⟩ := arr10 hq; obtain ⟨u0, u1, u2⟩ := arr3 hr))
    | (go_at_call 17; ((with_reducible refine (GB.out _ hC).mono ?_); rintro e w4 ⟨rfl, hB⟩; replace hC := bel2 hC hB; replace hp := (hB.block _ (heap_ltP hp)).trans hp; replace hq := (hB.block _ (heap_ltP hq)).trans hq; replace hr := (hB.block _ (heap_ltP hr)).trans hr; clear hB y0 y1 y2 y3 y4 y5 y6 y7 y8 y9 z0 z1 z2 z3 z4 z5 z6 z7 z8 z9 u0 u1 u2; obtain ⟨y0, y1, y2, y3, y4, y5, y6, y7, y8, y9⟩ := arr10 hp; obtain ⟨z0, z1, z2, z3, z4, z5, z6, z7, z8, z9⟩ := arr10 hq; obtain ⟨u0, u1, u2⟩ := arr3 hr))
    | (go_at_call 18; ((with_reducible refine (GI2.out _ hC).mono ?_); rintro e w5 ⟨rfl, hB⟩; replace hC := bel2 hC hB; replace hp := (hB.block _ (heap_ltP hp)).trans hp; replace hq := (hB.block _ (heap_ltP hq)).trans hq; replace hr := (hB.block _ (heap_ltP hr)).trans hr; clear hB y0 y1 y2 y3 y4 y5 y6 y7 y8 y9 z0 z1 z2 z3 z4 z5 z6 z7 z8 z9 u0 u1 u2; obtain ⟨y0, y1, y2, y3, y4, y5, y6, y7, y8, y9⟩ := arr10 hp; obtain ⟨z0, z1, z2, z3, z4, z5, z6, z7, z8, z9⟩ := arr10 hq; obtain ⟨u0, u1, u2⟩ := arr3 hr))
    | (go_at_call 19; ((with_reducible refine (GR.out _ hC).mono ?_); rintro e w6 ⟨rfl, hB⟩; replace hC := bel2 hC hB; replace hp := (hB.block _ (heap_ltP hp)).trans hp; replace hq := (hB.block _ (heap_ltP hq)).trans hq; replace hr := (hB.block _ (heap_ltP hr)).trans hr; clear hB y0 y1 y2 y3 y4 y5 y6 y7 y8 y9 z0 z1 z2 z3 z4 z5 z6 z7 z8 z9 u0 u1 u2; obtain ⟨y0, y1, y2, y3, y4, y5, y6, y7, y8, y9⟩ := arr10 hp; obtain ⟨z0, z1, z2, z3, z4, z5, z6, z7, z8, z9⟩ := arr10 hq; obtain ⟨u0, u1, u2⟩ := arr3 hr)))
  have HS := Lib.hid (fun W (hW : Above w6 W) => And.intro (arr10 ((Below.block hW _ (heap_ltP hp)).trans hp)) (And.intro (arr10 ((Below.block hW _ (heap_ltP hq)).trans hq)) (arr3 ((Below.block hW _ (heap_ltP hr)).trans hr))))
  refine wp_region_below (by kernel_rfl) (by kernel_rfl) ?_
  repeat (first
    | (refine BigFrame.wpQuiet_skip (by rfl) ?_; (try simp only [Act.put, List.setIfInBounds_toArray, List.set_cons_zero, List.set_cons_succ]))
    | (refine BigFrame.wpQuiet_want (by rfl) (fun K hK => ?_); apply Exists.intro; refine ⟨fun W hW => ?_, hK _ ?_⟩; (focus (have hWB : Below _ _ W := hW; obtain ⟨⟨y0, y1, y2, y3, y4, y5, y6, y7, y8, y9⟩, ⟨z0, z1, z2, z3, z4, z5, z6, z7, z8, z9⟩, u0, u1, u2⟩ := HS.out _ hW; go_simp; (first | done | with_reducible rfl | (first | (go_at_call 20; with_reducible exact gives_above hW (GI1.out _ (bel2 hC hWB))) | (go_at_call 18; with_reducible exact gives_above hW (GI2.out _ (bel2 hC hWB))) | (go_at_call 21; with_reducible exact gives_above hW (GE1.out _)) | (go_at_call 22; with_reducible exact gives_above hW (GE2.out _)) | (go_at_call 23; with_reducible exact gives_above hW (GS1.out _ (bel2 hC hWB))) | (go_at_call 24; with_reducible exact gives_above hW (GS2.out _ (bel2 hC hWB)))) | (rw [if_neg (by omega)]; go_simp; (first | done | with_reducible rfl))))); clear hK K; (try simp only [Act.put, List.setIfInBounds_toArray, List.set_cons_zero, List.set_cons_succ])))
  refine wpQuiet_nil ?_
  intro w9 hB
  replace hB : Below _ _ w9 := hB
  replace hC := bel2 hC hB
  clear HS hp hq hr y0 y1 y2 y3 y4 y5 y6 y7 y8 y9 z0 z1 z2 z3 z4 z5 z6 z7 z8 z9 u0 u1 u2
  go_wp2
  go_ret
  exact ⟨by simp, hC⟩

set_option maxRecDepth 100000 in
set_option maxHeartbeats 8000000 in
theorem tells_no (w : World) (g1 k1 : Int) (a1 : Option Addr) (len1 cap1 : Nat) (ht1 hv1 hc1 i1 t1 : Int) (m1 h1 : Bool) (l1 : List EntryC) (hl1 : l1.length = len1) (hr1 : RowV w a1 len1 3 (entryCells l1)) (hg1 : ∀ e ∈ l1, goodEntry e) (g2 k2 : Int) (a2 : Option Addr) (len2 cap2 : Nat) (ht2 hv2 hc2 i2 t2 : Int) (m2 h2 : Bool) (l2 : List EntryC) (hl2 : l2.length = len2) (hr2 : RowV w a2 len2 3 (entryCells l2)) (hg2 : ∀ e ∈ l2, goodEntry e) (ei et : Int) (ed : ByteArray) (hf1 : fewB l1 = true) (hf2 : fewB l2 = true) (hz : ed.size ≤ 60) (hI : isB (⟨g1, k1, a1, len1, cap1, ht1, hv1, hc1, i1, t1, m1, h1⟩ : PartC) l1 = false) : Calls Try.prog 3 #[(⟨g1, k1, a1, len1, cap1, ht1, hv1, hc1, i1, t1, m1, h1⟩ : PartC).val, (⟨g2, k2, a2, len2, cap2, ht2, hv2, hc2, i2, t2, m2, h2⟩ : PartC).val, .agg #[.int .i64 ei, .int .i64 et, .string ed]] w fun e w' => e = .returned (.bool true) ∧ Below w.heap.size w w' := by
  have GK := Lib.hid part_known
  have GF1 := Lib.hid (fun W (hB : Below w.heap.size w W) => few_any (⟨g1, k1, a1, len1, cap1, ht1, hv1, hc1, i1, t1, m1, h1⟩ : PartC) l1 W hl1 (hr1.below hB) (fun e he => (hg1 e he).2.2))
  rw [hf1] at GF1
  have GF2 := Lib.hid (fun W (hB : Below w.heap.size w W) => few_any (⟨g2, k2, a2, len2, cap2, ht2, hv2, hc2, i2, t2, m2, h2⟩ : PartC) l2 W hl2 (hr2.below hB) (fun e he => (hg2 e he).2.2))
  rw [hf2] at GF2
  have hE1 : ∀ W, Below w.heap.size w W → HasE W (⟨g1, k1, a1, len1, cap1, ht1, hv1, hc1, i1, t1, m1, h1⟩ : PartC) l1 := fun W hB => ⟨hl1, by have := few_len hf1; dsimp only; omega, hr1.below hB⟩
  have hE2 : ∀ W, Below w.heap.size w W → HasE W (⟨g2, k2, a2, len2, cap2, ht2, hv2, hc2, i2, t2, m2, h2⟩ : PartC) l2 := fun W hB => ⟨hl2, by have := few_len hf2; dsimp only; omega, hr2.below hB⟩
  have GI1 := Lib.hid (fun W (hB : Below w.heap.size w W) => is_any (⟨g1, k1, a1, len1, cap1, ht1, hv1, hc1, i1, t1, m1, h1⟩ : PartC) l1 W (hE1 W hB))
  have GI2 := Lib.hid (fun W (hB : Below w.heap.size w W) => refIs_any (⟨g1, k1, a1, len1, cap1, ht1, hv1, hc1, i1, t1, m1, h1⟩ : PartC) l1 W (hE1 W hB))
  have GS1 := Lib.hid (fun W (hB : Below w.heap.size w W) => same_any (⟨g1, k1, a1, len1, cap1, ht1, hv1, hc1, i1, t1, m1, h1⟩ : PartC) (⟨g2, k2, a2, len2, cap2, ht2, hv2, hc2, i2, t2, m2, h2⟩ : PartC) l1 l2 W (hE1 W hB) (hE2 W hB))
  have GS2 := Lib.hid (fun W (hB : Below w.heap.size w W) => refSame_any (⟨g1, k1, a1, len1, cap1, ht1, hv1, hc1, i1, t1, m1, h1⟩ : PartC) (⟨g2, k2, a2, len2, cap2, ht2, hv2, hc2, i2, t2, m2, h2⟩ : PartC) l1 l2 W (hE1 W hB) (hE2 W hB))
  have GE1 := Lib.hid (isEntry_any ⟨ei, et, ed⟩)
  have GE2 := Lib.hid (refIsEntry_any ⟨ei, et, ed⟩)
  have GB := Lib.hid (fun W (hB : Below w.heap.size w W) => bytes_no (⟨g1, k1, a1, len1, cap1, ht1, hv1, hc1, i1, t1, m1, h1⟩ : PartC) l1 W (hE1 W hB) hI)
  rw [hI] at GI1 GI2
  clear hI
  generalize sameB (⟨g1, k1, a1, len1, cap1, ht1, hv1, hc1, i1, t1, m1, h1⟩ : PartC) (⟨g2, k2, a2, len2, cap2, ht2, hv2, hc2, i2, t2, m2, h2⟩ : PartC) l1 l2 = bS at *
  generalize entryB ⟨ei, et, ed⟩ = bE at *
  clear hE1 hE2 hr1 hr2 hg1 hg2 hl1 hl2
  dsimp only [PartC.val] at *
  have hC : Below w.heap.size w (((w.alloc (.cells #[.int .i64 g1, .int .i64 k1, .slice a1 len1 cap1, .int .i64 ht1, .int .i64 hv1, .int .i64 hc1, .int .i64 i1, .int .i64 t1, .bool m1, .bool h1] 26)).alloc (.cells #[.int .i64 g2, .int .i64 k2, .slice a2 len2 cap2, .int .i64 ht2, .int .i64 hv2, .int .i64 hc2, .int .i64 i2, .int .i64 t2, .bool m2, .bool h2] 26)).alloc (.cells #[.int .i64 ei, .int .i64 et, .string ed] 28)) := bel_alloc (bel_alloc (bel_alloc (Below.refl _ _) _) _) _
  have hp := first_block w #[.int .i64 g1, .int .i64 k1, .slice a1 len1 cap1, .int .i64 ht1, .int .i64 hv1, .int .i64 hc1, .int .i64 i1, .int .i64 t1, .bool m1, .bool h1] #[.int .i64 g2, .int .i64 k2, .slice a2 len2 cap2, .int .i64 ht2, .int .i64 hv2, .int .i64 hc2, .int .i64 i2, .int .i64 t2, .bool m2, .bool h2] #[.int .i64 ei, .int .i64 et, .string ed] 26 26 28
  have hq := mid_block w #[.int .i64 g1, .int .i64 k1, .slice a1 len1 cap1, .int .i64 ht1, .int .i64 hv1, .int .i64 hc1, .int .i64 i1, .int .i64 t1, .bool m1, .bool h1] #[.int .i64 g2, .int .i64 k2, .slice a2 len2 cap2, .int .i64 ht2, .int .i64 hv2, .int .i64 hc2, .int .i64 i2, .int .i64 t2, .bool m2, .bool h2] #[.int .i64 ei, .int .i64 et, .string ed] 26 26 28
  have hr := last_block w #[.int .i64 g1, .int .i64 k1, .slice a1 len1 cap1, .int .i64 ht1, .int .i64 hv1, .int .i64 hc1, .int .i64 i1, .int .i64 t1, .bool m1, .bool h1] #[.int .i64 g2, .int .i64 k2, .slice a2 len2 cap2, .int .i64 ht2, .int .i64 hv2, .int .i64 hc2, .int .i64 i2, .int .i64 t2, .bool m2, .bool h2] #[.int .i64 ei, .int .i64 et, .string ed] 26 26 28
  obtain ⟨y0, y1, y2, y3, y4, y5, y6, y7, y8, y9⟩ := arr10 hp; obtain ⟨z0, z1, z2, z3, z4, z5, z6, z7, z8, z9⟩ := arr10 hq; obtain ⟨u0, u1, u2⟩ := arr3 hr
  go_enter Try.func3, Try.ntmps3
  go_wp2_with (first
    | (go_at_call 15; ((with_reducible refine (GK.out _).mono ?_); rintro e w1 ⟨rfl, hB⟩; replace hC := bel2 hC hB; replace hp := (hB.block _ (heap_ltP hp)).trans hp; replace hq := (hB.block _ (heap_ltP hq)).trans hq; replace hr := (hB.block _ (heap_ltP hr)).trans hr; clear hB y0 y1 y2 y3 y4 y5 y6 y7 y8 y9 z0 z1 z2 z3 z4 z5 z6 z7 z8 z9 u0 u1 u2; obtain ⟨y0, y1, y2, y3, y4, y5, y6, y7, y8, y9⟩ := arr10 hp; obtain ⟨z0, z1, z2, z3, z4, z5, z6, z7, z8, z9⟩ := arr10 hq; obtain ⟨u0, u1, u2⟩ := arr3 hr))
    | (go_at_call 16; ((with_reducible refine (GF1.out _ hC).mono ?_); rintro e w2 ⟨rfl, hB⟩; replace hC := bel2 hC hB; replace hp := (hB.block _ (heap_ltP hp)).trans hp; replace hq := (hB.block _ (heap_ltP hq)).trans hq; replace hr := (hB.block _ (heap_ltP hr)).trans hr; clear hB y0 y1 y2 y3 y4 y5 y6 y7 y8 y9 z0 z1 z2 z3 z4 z5 z6 z7 z8 z9 u0 u1 u2; obtain ⟨y0, y1, y2, y3, y4, y5, y6, y7, y8, y9⟩ := arr10 hp; obtain ⟨z0, z1, z2, z3, z4, z5, z6, z7, z8, z9⟩ := arr10 hq; obtain ⟨u0, u1, u2⟩ := arr3 hr))
    | (go_at_call 16; ((with_reducible refine (GF2.out _ hC).mono ?_); rintro e w3 ⟨rfl, hB⟩; replace hC := bel2 hC hB; replace hp := (hB.block _ (heap_ltP hp)).trans hp; replace hq := (hB.block _ (heap_ltP hq)).trans hq; replace hr := (hB.block _ (heap_ltP hr)).trans hr; clear hB y0 y1 y2 y3 y4 y5 y6 y7 y8 y9 z0 z1 z2 z3 z4 z5 z6 z7 z8 z9 u0 u1 u2; obtain ⟨y0, y1, y2, y3, y4, y5, y6, y7, y8, y9⟩ := arr10 hp; obtain ⟨z0, z1, z2, z3, z4, z5, z6, z7, z8, z9⟩ := arr10 hq; obtain ⟨u0, u1, u2⟩ := arr3 hr))
    | (go_at_call 17; ((with_reducible refine (GB.out _ hC).mono ?_); rintro e w4 ⟨rfl, hB⟩; replace hC := bel2 hC hB; replace hp := (hB.block _ (heap_ltP hp)).trans hp; replace hq := (hB.block _ (heap_ltP hq)).trans hq; replace hr := (hB.block _ (heap_ltP hr)).trans hr; clear hB y0 y1 y2 y3 y4 y5 y6 y7 y8 y9 z0 z1 z2 z3 z4 z5 z6 z7 z8 z9 u0 u1 u2; obtain ⟨y0, y1, y2, y3, y4, y5, y6, y7, y8, y9⟩ := arr10 hp; obtain ⟨z0, z1, z2, z3, z4, z5, z6, z7, z8, z9⟩ := arr10 hq; obtain ⟨u0, u1, u2⟩ := arr3 hr))
    | (go_at_call 18; ((with_reducible refine (GI2.out _ hC).mono ?_); rintro e w5 ⟨rfl, hB⟩; replace hC := bel2 hC hB; replace hp := (hB.block _ (heap_ltP hp)).trans hp; replace hq := (hB.block _ (heap_ltP hq)).trans hq; replace hr := (hB.block _ (heap_ltP hr)).trans hr; clear hB y0 y1 y2 y3 y4 y5 y6 y7 y8 y9 z0 z1 z2 z3 z4 z5 z6 z7 z8 z9 u0 u1 u2; obtain ⟨y0, y1, y2, y3, y4, y5, y6, y7, y8, y9⟩ := arr10 hp; obtain ⟨z0, z1, z2, z3, z4, z5, z6, z7, z8, z9⟩ := arr10 hq; obtain ⟨u0, u1, u2⟩ := arr3 hr)))
  have HS := Lib.hid (fun W (hW : Above w5 W) => And.intro (arr10 ((Below.block hW _ (heap_ltP hp)).trans hp)) (And.intro (arr10 ((Below.block hW _ (heap_ltP hq)).trans hq)) (arr3 ((Below.block hW _ (heap_ltP hr)).trans hr))))
  refine wp_region_below (by kernel_rfl) (by kernel_rfl) ?_
  repeat (first
    | (refine BigFrame.wpQuiet_skip (by rfl) ?_; (try simp only [Act.put, List.setIfInBounds_toArray, List.set_cons_zero, List.set_cons_succ]))
    | (refine BigFrame.wpQuiet_want (by rfl) (fun K hK => ?_); apply Exists.intro; refine ⟨fun W hW => ?_, hK _ ?_⟩; (focus (have hWB : Below _ _ W := hW; obtain ⟨⟨y0, y1, y2, y3, y4, y5, y6, y7, y8, y9⟩, ⟨z0, z1, z2, z3, z4, z5, z6, z7, z8, z9⟩, u0, u1, u2⟩ := HS.out _ hW; go_simp; (first | done | with_reducible rfl | (first | (go_at_call 20; with_reducible exact gives_above hW (GI1.out _ (bel2 hC hWB))) | (go_at_call 18; with_reducible exact gives_above hW (GI2.out _ (bel2 hC hWB))) | (go_at_call 21; with_reducible exact gives_above hW (GE1.out _)) | (go_at_call 22; with_reducible exact gives_above hW (GE2.out _)) | (go_at_call 23; with_reducible exact gives_above hW (GS1.out _ (bel2 hC hWB))) | (go_at_call 24; with_reducible exact gives_above hW (GS2.out _ (bel2 hC hWB)))) | (rw [if_neg (by omega)]; go_simp; (first | done | with_reducible rfl))))); clear hK K; (try simp only [Act.put, List.setIfInBounds_toArray, List.set_cons_zero, List.set_cons_succ])))
  refine wpQuiet_nil ?_
  intro w9 hB
  replace hB : Below _ _ w9 := hB
  replace hC := bel2 hC hB
  clear HS hp hq hr y0 y1 y2 y3 y4 y5 y6 y7 y8 y9 z0 z1 z2 z3 z4 z5 z6 z7 z8 z9 u0 u1 u2
  go_wp2
  go_ret
  exact ⟨by simp, hC⟩

theorem walk (w : World) (p : PartC) (l1 : List EntryC) (hg : goodPart p) (hl1 : l1.length = p.len) (hr1 : RowV w p.a p.len 3 (entryCells l1)) (hg1 : ∀ e ∈ l1, goodEntry e)
    (q : PartC) (l2 : List EntryC) (hgq : goodPart q) (hl2 : l2.length = q.len) (hr2 : RowV w q.a q.len 3 (entryCells l2)) (hg2 : ∀ e ∈ l2, goodEntry e) (x : EntryC) (hx : goodEntry x) :
    Calls Try.prog 3 #[p.val, q.val, x.val] w fun e w' => e = .returned (.bool true) ∧ Below w.heap.size w w' := by
  obtain ⟨g1, k1, a1, len1, cap1, ht1, hv1, hc1, i1, t1, m1, h1⟩ := p
  obtain ⟨g2, k2, a2, len2, cap2, ht2, hv2, hc2, i2, t2, m2, h2⟩ := q
  obtain ⟨ei, et, ed⟩ := x
  by_cases hf1 : fewB l1 = true
  · by_cases hf2 : fewB l2 = true
    · by_cases hz : ed.size ≤ 60
      · by_cases hI : isB (⟨g1, k1, a1, len1, cap1, ht1, hv1, hc1, i1, t1, m1, h1⟩ : PartC) l1 = true
        · exact tells_yes w g1 k1 a1 len1 cap1 ht1 hv1 hc1 i1 t1 m1 h1 l1 hl1 hr1 hg1 g2 k2 a2 len2 cap2 ht2 hv2 hc2 i2 t2 m2 h2 l2 hl2 hr2 hg2 ei et ed hf1 hf2 hz hI
        · exact tells_no w g1 k1 a1 len1 cap1 ht1 hv1 hc1 i1 t1 m1 h1 l1 hl1 hr1 hg1 g2 k2 a2 len2 cap2 ht2 hv2 hc2 i2 t2 m2 h2 l2 hl2 hr2 hg2 ei et ed hf1 hf2 hz (Bool.eq_false_iff.2 hI)
      · exact tells_long w g1 k1 a1 len1 cap1 ht1 hv1 hc1 i1 t1 m1 h1 l1 hl1 hr1 hg1 g2 k2 a2 len2 cap2 ht2 hv2 hc2 i2 t2 m2 h2 l2 hl2 hr2 hg2 ei et ed hf1 hf2 (by omega)
    · exact tells_few2 w g1 k1 a1 len1 cap1 ht1 hv1 hc1 i1 t1 m1 h1 l1 hl1 hr1 hg1 g2 k2 a2 len2 cap2 ht2 hv2 hc2 i2 t2 m2 h2 l2 hl2 hr2 hg2 ei et ed hf1 (Bool.eq_false_iff.2 hf2)
  · exact tells_few1 w g1 k1 a1 len1 cap1 ht1 hv1 hc1 i1 t1 m1 h1 l1 hl1 hr1 hg1 g2 k2 a2 len2 cap2 ht2 hv2 hc2 i2 t2 m2 h2 l2 hl2 hr2 hg2 ei et ed (Bool.eq_false_iff.2 hf1)

set_option maxRecDepth 100000 in
theorem lifted (os : Os) (started : os.Started) (H : Type) (enc : TypeId × Value → H) :
    ReturnsInHanded {} Try.checked os 3 .any (Rows.partTellsSpec.pre6 enc Try.prog Try.f3 Rows.partTellsRow.domain false) (Rows.partTellsSpec.post enc Try.prog Try.f3 false true false false) := by
  refine returnsInHanded_of_change (C := Try.checked) Try.own started (by kernel_rfl) Try.func3
    (ChangeSpec.witness6 (enc := enc) (C := Try.checked) false ⟨#[], #[.agg #[.int .i64 0, .int .i64 0, .slice none 0 0, .int .i64 0, .int .i64 0, .int .i64 0, .int .i64 0, .int .i64 0, .bool false, .bool false], .agg #[.int .i64 0, .int .i64 0, .slice none 0 0, .int .i64 0, .int .i64 0, .int .i64 0, .int .i64 0, .int .i64 0, .bool false, .bool false], .agg #[.int .i64 0, .int .i64 0, .string ⟨#[]⟩]], []⟩ 8 (by kernel_rfl) (by kernel_rfl) (by kernel_rfl) (by kernel_rfl)) ?_
  intro W base args ds gs before hval hW _ _
  refine law_contract (T := 4) (n := 3) Try.laid Try.underlying4 rfl rfl ⟨rfl, fun H ds h => by match ds, h with | [_, _, _], _ => rfl⟩ (of_all (by kernel_rfl)) hW ?_
  intro ps hA
  rw [Try.params3] at hA hval
  obtain ⟨v0, vs0, d0, ds0, p0, q0, hargs, rfl, rfl, h0, r0⟩ := trodAll_cons hA
  obtain ⟨v1, vs1, d1, ds1, p1, q1, rfl, rfl, rfl, h1, r1⟩ := trodAll_cons r0
  obtain ⟨v2, vs2, d2, ds2, p2, q2, rfl, rfl, rfl, h2, r2⟩ := trodAll_cons r1
  obtain ⟨rfl, rfl, rfl⟩ := trodAll_nil r2
  obtain rfl : args = #[v0, v1, v2] := by cases args; simp_all
  obtain ⟨p0, rfl, g0, l0, k0, w0, e0⟩ := open_part (hval 0 26 v0 rfl rfl) h0
  obtain ⟨p1, rfl, g1, l1, k1, w1, e1⟩ := open_part (hval 1 26 v1 rfl rfl) h1
  obtain ⟨p2, rfl, g2⟩ := open_entry (hval 2 28 v2 rfl rfl) h2
  exact walk W p0 l0 g0 k0 w0 e0 p1 l1 g1 k1 w1 e1 p2 g2

theorem holds : Rows.PartTellsSaid :=
  OpenClaim.holds_of_wide 3 Try.f3 rfl rfl rfl rfl rfl rfl rfl ⟨rfl, rfl, rfl, rfl, rfl⟩ rfl rfl rfl rfl rfl (by kernel_rfl) Try.func3 (by kernel_rfl)
    (of_decide_eq_true (by kernel_rfl)) (by unfold Func.isWrapper; first | (rw [if_pos (by decide +kernel)]; kernel_rfl) | (rw [if_neg (by decide +kernel)]; exact ⟨rfl, rfl⟩))
    (fun os started H enc _ => lifted os started H enc)

end Go.Proofs.Ytpogklceaoiacaa.partTells
