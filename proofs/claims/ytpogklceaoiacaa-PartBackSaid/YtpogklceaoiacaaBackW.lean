/- Walks of law PartBack. -/
import Derived.Test.YtpogklceaoiacaaKnown4
import Derived.Test.YtpogklceaoiacaaReadBack
import Derived.Test.YtpogklceaoiacaaRefSame
import Derived.Test.YtpogklceaoiacaaOpenPart
namespace Go.Proofs.Ytpogklceaoiacaa
open Go.ChangeShapes Go.WideShapes Go.ChangeAt Go.RowKit Go.Shelf
set_option linter.unusedVariables false
attribute [local go_sem] Oper.semAt_some wide_fn wide_round_fn

theorem few_lenB {l : List EntryC} (h : fewB l = true) : l.length ≤ 8 := by
  simp only [fewB, Bool.and_eq_true, decide_eq_true_eq] at h; exact h.2
set_option maxRecDepth 100000 in
set_option maxHeartbeats 2000000 in
theorem back_few1 (w : World) (g1 k1 : Int) (a1 : Option Addr) (len1 cap1 : Nat) (ht1 hv1 hc1 i1 t1 : Int) (m1 h1 : Bool) (l1 : List EntryC) (hl1 : l1.length = len1) (hr1 : RowV w a1 len1 3 (entryCells l1)) (hg1 : ∀ e ∈ l1, goodEntry e) (g2 k2 : Int) (a2 : Option Addr) (len2 cap2 : Nat) (ht2 hv2 hc2 i2 t2 : Int) (m2 h2 : Bool) (l2 : List EntryC) (hl2 : l2.length = len2) (hr2 : RowV w a2 len2 3 (entryCells l2)) (hg2 : ∀ e ∈ l2, goodEntry e) (T : ByteArray) (hT : T.size ≤ maxLen) (n : Nat) (hn : n < 256) (hf1 : fewB l1 = false) : Calls Try.prog 5 #[.agg #[.int .i64 g1, .int .i64 k1, .slice a1 len1 cap1, .int .i64 ht1, .int .i64 hv1, .int .i64 hc1, .int .i64 i1, .int .i64 t1, .bool m1, .bool h1], .agg #[.int .i64 g2, .int .i64 k2, .slice a2 len2 cap2, .int .i64 ht2, .int .i64 hv2, .int .i64 hc2, .int .i64 i2, .int .i64 t2, .bool m2, .bool h2], .string T, .int .u8 n] w fun e w' => e = .returned (.bool true) ∧ Below w.heap.size w w' := by
  have GK := Lib.hid part_known
  have GF1 := Lib.hid (fun W (hB : Below w.heap.size w W) => few_any (⟨g1, k1, a1, len1, cap1, ht1, hv1, hc1, i1, t1, m1, h1⟩ : PartC) l1 W hl1 (hr1.below hB) (fun e he => (hg1 e he).2.2))
  have GF2 := Lib.hid (fun W (hB : Below w.heap.size w W) => few_any (⟨g2, k2, a2, len2, cap2, ht2, hv2, hc2, i2, t2, m2, h2⟩ : PartC) l2 W hl2 (hr2.below hB) (fun e he => (hg2 e he).2.2))
  have hA0 := bel_alloc (bel_alloc (Below.refl w.heap.size w) (.cells #[.int .i64 g1, .int .i64 k1, .slice a1 len1 cap1, .int .i64 ht1, .int .i64 hv1, .int .i64 hc1, .int .i64 i1, .int .i64 t1, .bool m1, .bool h1] 26)) (.cells #[.int .i64 g2, .int .i64 k2, .slice a2 len2 cap2, .int .i64 ht2, .int .i64 hv2, .int .i64 hc2, .int .i64 i2, .int .i64 t2, .bool m2, .bool h2] 26)
  have hp0 := ((bel_alloc (Below.refl (w.alloc (.cells #[.int .i64 g1, .int .i64 k1, .slice a1 len1 cap1, .int .i64 ht1, .int .i64 hv1, .int .i64 hc1, .int .i64 i1, .int .i64 t1, .bool m1, .bool h1] 26)).heap.size (w.alloc (.cells #[.int .i64 g1, .int .i64 k1, .slice a1 len1 cap1, .int .i64 ht1, .int .i64 hv1, .int .i64 hc1, .int .i64 i1, .int .i64 t1, .bool m1, .bool h1] 26))) (.cells #[.int .i64 g2, .int .i64 k2, .slice a2 len2 cap2, .int .i64 ht2, .int .i64 hv2, .int .i64 hc2, .int .i64 i2, .int .i64 t2, .bool m2, .bool h2] 26)).block w.heap.size (by simp)).trans (World.alloc_heap_new w (.cells #[.int .i64 g1, .int .i64 k1, .slice a1 len1 cap1, .int .i64 ht1, .int .i64 hv1, .int .i64 hc1, .int .i64 i1, .int .i64 t1, .bool m1, .bool h1] 26))
  have hq0 := World.alloc_heap_new (w.alloc (.cells #[.int .i64 g1, .int .i64 k1, .slice a1 len1 cap1, .int .i64 ht1, .int .i64 hv1, .int .i64 hc1, .int .i64 i1, .int .i64 t1, .bool m1, .bool h1] 26)) (.cells #[.int .i64 g2, .int .i64 k2, .slice a2 len2 cap2, .int .i64 ht2, .int .i64 hv2, .int .i64 hc2, .int .i64 i2, .int .i64 t2, .bool m2, .bool h2] 26)
  rw [World.size_alloc] at hq0
  have hTm : T.size ≤ 9223372036854775807 := by unfold maxLen at hT; omega
  dsimp only [PartC.val] at GF1 GF2
  rw [hf1] at GF1
  clear hr1 hr2 hg1 hg2 hT
  clear hl1 hl2 hf1
  go_enter Try.func5, Try.ntmps5
  go_wp2_with (first
    | (go_at_call 15; ((with_reducible refine (GK.out _).mono ?_); rintro e w1 ⟨rfl, hB1⟩; have hC1 := bel2 hA0 hB1; have hp1 := (hB1.block _ (heap_ltP hp0)).trans hp0; have hq1 := (hB1.block _ (heap_ltP hq0)).trans hq0; obtain ⟨b0, b1, b2, b3, b4, b5, b6, b7, b8, b9⟩ := arr10 hp1))
    | (go_at_call 16; ((with_reducible refine (GF1.out _ hC1).mono ?_); rintro e w2 ⟨rfl, hB2⟩; have hC2 := bel2 hC1 hB2; have hp2 := (hB2.block _ (heap_ltP hp1)).trans hp1; have hq2 := (hB2.block _ (heap_ltP hq1)).trans hq1; obtain ⟨c0, c1, c2, c3, c4, c5, c6, c7, c8, c9⟩ := arr10 hq2)))
  go_ret
  exact ⟨rfl, hC2⟩
set_option maxRecDepth 100000 in
set_option maxHeartbeats 2000000 in
theorem back_few2 (w : World) (g1 k1 : Int) (a1 : Option Addr) (len1 cap1 : Nat) (ht1 hv1 hc1 i1 t1 : Int) (m1 h1 : Bool) (l1 : List EntryC) (hl1 : l1.length = len1) (hr1 : RowV w a1 len1 3 (entryCells l1)) (hg1 : ∀ e ∈ l1, goodEntry e) (g2 k2 : Int) (a2 : Option Addr) (len2 cap2 : Nat) (ht2 hv2 hc2 i2 t2 : Int) (m2 h2 : Bool) (l2 : List EntryC) (hl2 : l2.length = len2) (hr2 : RowV w a2 len2 3 (entryCells l2)) (hg2 : ∀ e ∈ l2, goodEntry e) (T : ByteArray) (hT : T.size ≤ maxLen) (n : Nat) (hn : n < 256) (hf1 : fewB l1 = true) (hf2 : fewB l2 = false) : Calls Try.prog 5 #[.agg #[.int .i64 g1, .int .i64 k1, .slice a1 len1 cap1, .int .i64 ht1, .int .i64 hv1, .int .i64 hc1, .int .i64 i1, .int .i64 t1, .bool m1, .bool h1], .agg #[.int .i64 g2, .int .i64 k2, .slice a2 len2 cap2, .int .i64 ht2, .int .i64 hv2, .int .i64 hc2, .int .i64 i2, .int .i64 t2, .bool m2, .bool h2], .string T, .int .u8 n] w fun e w' => e = .returned (.bool true) ∧ Below w.heap.size w w' := by
  have GK := Lib.hid part_known
  have GF1 := Lib.hid (fun W (hB : Below w.heap.size w W) => few_any (⟨g1, k1, a1, len1, cap1, ht1, hv1, hc1, i1, t1, m1, h1⟩ : PartC) l1 W hl1 (hr1.below hB) (fun e he => (hg1 e he).2.2))
  have GF2 := Lib.hid (fun W (hB : Below w.heap.size w W) => few_any (⟨g2, k2, a2, len2, cap2, ht2, hv2, hc2, i2, t2, m2, h2⟩ : PartC) l2 W hl2 (hr2.below hB) (fun e he => (hg2 e he).2.2))
  have hA0 := bel_alloc (bel_alloc (Below.refl w.heap.size w) (.cells #[.int .i64 g1, .int .i64 k1, .slice a1 len1 cap1, .int .i64 ht1, .int .i64 hv1, .int .i64 hc1, .int .i64 i1, .int .i64 t1, .bool m1, .bool h1] 26)) (.cells #[.int .i64 g2, .int .i64 k2, .slice a2 len2 cap2, .int .i64 ht2, .int .i64 hv2, .int .i64 hc2, .int .i64 i2, .int .i64 t2, .bool m2, .bool h2] 26)
  have hp0 := ((bel_alloc (Below.refl (w.alloc (.cells #[.int .i64 g1, .int .i64 k1, .slice a1 len1 cap1, .int .i64 ht1, .int .i64 hv1, .int .i64 hc1, .int .i64 i1, .int .i64 t1, .bool m1, .bool h1] 26)).heap.size (w.alloc (.cells #[.int .i64 g1, .int .i64 k1, .slice a1 len1 cap1, .int .i64 ht1, .int .i64 hv1, .int .i64 hc1, .int .i64 i1, .int .i64 t1, .bool m1, .bool h1] 26))) (.cells #[.int .i64 g2, .int .i64 k2, .slice a2 len2 cap2, .int .i64 ht2, .int .i64 hv2, .int .i64 hc2, .int .i64 i2, .int .i64 t2, .bool m2, .bool h2] 26)).block w.heap.size (by simp)).trans (World.alloc_heap_new w (.cells #[.int .i64 g1, .int .i64 k1, .slice a1 len1 cap1, .int .i64 ht1, .int .i64 hv1, .int .i64 hc1, .int .i64 i1, .int .i64 t1, .bool m1, .bool h1] 26))
  have hq0 := World.alloc_heap_new (w.alloc (.cells #[.int .i64 g1, .int .i64 k1, .slice a1 len1 cap1, .int .i64 ht1, .int .i64 hv1, .int .i64 hc1, .int .i64 i1, .int .i64 t1, .bool m1, .bool h1] 26)) (.cells #[.int .i64 g2, .int .i64 k2, .slice a2 len2 cap2, .int .i64 ht2, .int .i64 hv2, .int .i64 hc2, .int .i64 i2, .int .i64 t2, .bool m2, .bool h2] 26)
  rw [World.size_alloc] at hq0
  have hTm : T.size ≤ 9223372036854775807 := by unfold maxLen at hT; omega
  dsimp only [PartC.val] at GF1 GF2
  rw [hf1] at GF1
  rw [hf2] at GF2
  clear hr1 hr2 hg1 hg2 hT
  clear hl1 hl2 hf1 hf2
  go_enter Try.func5, Try.ntmps5
  go_wp2_with (first
    | (go_at_call 15; ((with_reducible refine (GK.out _).mono ?_); rintro e w1 ⟨rfl, hB1⟩; have hC1 := bel2 hA0 hB1; have hp1 := (hB1.block _ (heap_ltP hp0)).trans hp0; have hq1 := (hB1.block _ (heap_ltP hq0)).trans hq0; obtain ⟨b0, b1, b2, b3, b4, b5, b6, b7, b8, b9⟩ := arr10 hp1))
    | (go_at_call 16; ((with_reducible refine (GF1.out _ hC1).mono ?_); rintro e w2 ⟨rfl, hB2⟩; have hC2 := bel2 hC1 hB2; have hp2 := (hB2.block _ (heap_ltP hp1)).trans hp1; have hq2 := (hB2.block _ (heap_ltP hq1)).trans hq1; obtain ⟨c0, c1, c2, c3, c4, c5, c6, c7, c8, c9⟩ := arr10 hq2))
    | (go_at_call 16; ((with_reducible refine (GF2.out _ hC2).mono ?_); rintro e w3 ⟨rfl, hB3⟩; have hC3 := bel2 hC2 hB3; have hp3 := (hB3.block _ (heap_ltP hp2)).trans hp2; have hq3 := (hB3.block _ (heap_ltP hq2)).trans hq2; obtain ⟨d0, d1, d2, d3, d4, d5, d6, d7, d8, d9⟩ := arr10 hp3)))
  go_ret
  exact ⟨rfl, hC3⟩
set_option maxRecDepth 100000 in
set_option maxHeartbeats 2000000 in
theorem back_tail (w : World) (g1 k1 : Int) (a1 : Option Addr) (len1 cap1 : Nat) (ht1 hv1 hc1 i1 t1 : Int) (m1 h1 : Bool) (l1 : List EntryC) (hl1 : l1.length = len1) (hr1 : RowV w a1 len1 3 (entryCells l1)) (hg1 : ∀ e ∈ l1, goodEntry e) (g2 k2 : Int) (a2 : Option Addr) (len2 cap2 : Nat) (ht2 hv2 hc2 i2 t2 : Int) (m2 h2 : Bool) (l2 : List EntryC) (hl2 : l2.length = len2) (hr2 : RowV w a2 len2 3 (entryCells l2)) (hg2 : ∀ e ∈ l2, goodEntry e) (T : ByteArray) (hT : T.size ≤ maxLen) (n : Nat) (hn : n < 256) (hf1 : fewB l1 = true) (hf2 : fewB l2 = true) (h60 : 60 < T.size) : Calls Try.prog 5 #[.agg #[.int .i64 g1, .int .i64 k1, .slice a1 len1 cap1, .int .i64 ht1, .int .i64 hv1, .int .i64 hc1, .int .i64 i1, .int .i64 t1, .bool m1, .bool h1], .agg #[.int .i64 g2, .int .i64 k2, .slice a2 len2 cap2, .int .i64 ht2, .int .i64 hv2, .int .i64 hc2, .int .i64 i2, .int .i64 t2, .bool m2, .bool h2], .string T, .int .u8 n] w fun e w' => e = .returned (.bool true) ∧ Below w.heap.size w w' := by
  have GK := Lib.hid part_known
  have GF1 := Lib.hid (fun W (hB : Below w.heap.size w W) => few_any (⟨g1, k1, a1, len1, cap1, ht1, hv1, hc1, i1, t1, m1, h1⟩ : PartC) l1 W hl1 (hr1.below hB) (fun e he => (hg1 e he).2.2))
  have GF2 := Lib.hid (fun W (hB : Below w.heap.size w W) => few_any (⟨g2, k2, a2, len2, cap2, ht2, hv2, hc2, i2, t2, m2, h2⟩ : PartC) l2 W hl2 (hr2.below hB) (fun e he => (hg2 e he).2.2))
  have hA0 := bel_alloc (bel_alloc (Below.refl w.heap.size w) (.cells #[.int .i64 g1, .int .i64 k1, .slice a1 len1 cap1, .int .i64 ht1, .int .i64 hv1, .int .i64 hc1, .int .i64 i1, .int .i64 t1, .bool m1, .bool h1] 26)) (.cells #[.int .i64 g2, .int .i64 k2, .slice a2 len2 cap2, .int .i64 ht2, .int .i64 hv2, .int .i64 hc2, .int .i64 i2, .int .i64 t2, .bool m2, .bool h2] 26)
  have hp0 := ((bel_alloc (Below.refl (w.alloc (.cells #[.int .i64 g1, .int .i64 k1, .slice a1 len1 cap1, .int .i64 ht1, .int .i64 hv1, .int .i64 hc1, .int .i64 i1, .int .i64 t1, .bool m1, .bool h1] 26)).heap.size (w.alloc (.cells #[.int .i64 g1, .int .i64 k1, .slice a1 len1 cap1, .int .i64 ht1, .int .i64 hv1, .int .i64 hc1, .int .i64 i1, .int .i64 t1, .bool m1, .bool h1] 26))) (.cells #[.int .i64 g2, .int .i64 k2, .slice a2 len2 cap2, .int .i64 ht2, .int .i64 hv2, .int .i64 hc2, .int .i64 i2, .int .i64 t2, .bool m2, .bool h2] 26)).block w.heap.size (by simp)).trans (World.alloc_heap_new w (.cells #[.int .i64 g1, .int .i64 k1, .slice a1 len1 cap1, .int .i64 ht1, .int .i64 hv1, .int .i64 hc1, .int .i64 i1, .int .i64 t1, .bool m1, .bool h1] 26))
  have hq0 := World.alloc_heap_new (w.alloc (.cells #[.int .i64 g1, .int .i64 k1, .slice a1 len1 cap1, .int .i64 ht1, .int .i64 hv1, .int .i64 hc1, .int .i64 i1, .int .i64 t1, .bool m1, .bool h1] 26)) (.cells #[.int .i64 g2, .int .i64 k2, .slice a2 len2 cap2, .int .i64 ht2, .int .i64 hv2, .int .i64 hc2, .int .i64 i2, .int .i64 t2, .bool m2, .bool h2] 26)
  rw [World.size_alloc] at hq0
  have hTm : T.size ≤ 9223372036854775807 := by unfold maxLen at hT; omega
  dsimp only [PartC.val] at GF1 GF2
  rw [hf1] at GF1
  rw [hf2] at GF2
  clear hr1 hr2 hg1 hg2 hT
  clear hl1 hl2 hf1 hf2
  go_enter Try.func5, Try.ntmps5
  go_wp2_with (first
    | (go_at_call 15; ((with_reducible refine (GK.out _).mono ?_); rintro e w1 ⟨rfl, hB1⟩; have hC1 := bel2 hA0 hB1; have hp1 := (hB1.block _ (heap_ltP hp0)).trans hp0; have hq1 := (hB1.block _ (heap_ltP hq0)).trans hq0; obtain ⟨b0, b1, b2, b3, b4, b5, b6, b7, b8, b9⟩ := arr10 hp1))
    | (go_at_call 16; ((with_reducible refine (GF1.out _ hC1).mono ?_); rintro e w2 ⟨rfl, hB2⟩; have hC2 := bel2 hC1 hB2; have hp2 := (hB2.block _ (heap_ltP hp1)).trans hp1; have hq2 := (hB2.block _ (heap_ltP hq1)).trans hq1; obtain ⟨c0, c1, c2, c3, c4, c5, c6, c7, c8, c9⟩ := arr10 hq2))
    | (go_at_call 16; ((with_reducible refine (GF2.out _ hC2).mono ?_); rintro e w3 ⟨rfl, hB3⟩; have hC3 := bel2 hC2 hB3; have hp3 := (hB3.block _ (heap_ltP hp2)).trans hp2; have hq3 := (hB3.block _ (heap_ltP hq2)).trans hq2; obtain ⟨d0, d1, d2, d3, d4, d5, d6, d7, d8, d9⟩ := arr10 hp3)))
  go_ret
  exact ⟨rfl, hC3⟩
set_option maxRecDepth 100000 in
set_option maxHeartbeats 2000000 in
theorem back_none (w : World) (g1 k1 : Int) (a1 : Option Addr) (len1 cap1 : Nat) (ht1 hv1 hc1 i1 t1 : Int) (m1 h1 : Bool) (l1 : List EntryC) (hl1 : l1.length = len1) (hr1 : RowV w a1 len1 3 (entryCells l1)) (hg1 : ∀ e ∈ l1, goodEntry e) (g2 k2 : Int) (a2 : Option Addr) (len2 cap2 : Nat) (ht2 hv2 hc2 i2 t2 : Int) (m2 h2 : Bool) (l2 : List EntryC) (hl2 : l2.length = len2) (hr2 : RowV w a2 len2 3 (entryCells l2)) (hg2 : ∀ e ∈ l2, goodEntry e) (T : ByteArray) (hT : T.size ≤ maxLen) (n : Nat) (hn : n < 256) (hf1 : fewB l1 = true) (hf2 : fewB l2 = true) (h60 : T.size ≤ 60) (hI : isB (⟨g1, k1, a1, len1, cap1, ht1, hv1, hc1, i1, t1, m1, h1⟩ : PartC) l1 = false) : Calls Try.prog 5 #[.agg #[.int .i64 g1, .int .i64 k1, .slice a1 len1 cap1, .int .i64 ht1, .int .i64 hv1, .int .i64 hc1, .int .i64 i1, .int .i64 t1, .bool m1, .bool h1], .agg #[.int .i64 g2, .int .i64 k2, .slice a2 len2 cap2, .int .i64 ht2, .int .i64 hv2, .int .i64 hc2, .int .i64 i2, .int .i64 t2, .bool m2, .bool h2], .string T, .int .u8 n] w fun e w' => e = .returned (.bool true) ∧ Below w.heap.size w w' := by
  have GK := Lib.hid part_known
  have GF1 := Lib.hid (fun W (hB : Below w.heap.size w W) => few_any (⟨g1, k1, a1, len1, cap1, ht1, hv1, hc1, i1, t1, m1, h1⟩ : PartC) l1 W hl1 (hr1.below hB) (fun e he => (hg1 e he).2.2))
  have GF2 := Lib.hid (fun W (hB : Below w.heap.size w W) => few_any (⟨g2, k2, a2, len2, cap2, ht2, hv2, hc2, i2, t2, m2, h2⟩ : PartC) l2 W hl2 (hr2.below hB) (fun e he => (hg2 e he).2.2))
  have hA0 := bel_alloc (bel_alloc (Below.refl w.heap.size w) (.cells #[.int .i64 g1, .int .i64 k1, .slice a1 len1 cap1, .int .i64 ht1, .int .i64 hv1, .int .i64 hc1, .int .i64 i1, .int .i64 t1, .bool m1, .bool h1] 26)) (.cells #[.int .i64 g2, .int .i64 k2, .slice a2 len2 cap2, .int .i64 ht2, .int .i64 hv2, .int .i64 hc2, .int .i64 i2, .int .i64 t2, .bool m2, .bool h2] 26)
  have hp0 := ((bel_alloc (Below.refl (w.alloc (.cells #[.int .i64 g1, .int .i64 k1, .slice a1 len1 cap1, .int .i64 ht1, .int .i64 hv1, .int .i64 hc1, .int .i64 i1, .int .i64 t1, .bool m1, .bool h1] 26)).heap.size (w.alloc (.cells #[.int .i64 g1, .int .i64 k1, .slice a1 len1 cap1, .int .i64 ht1, .int .i64 hv1, .int .i64 hc1, .int .i64 i1, .int .i64 t1, .bool m1, .bool h1] 26))) (.cells #[.int .i64 g2, .int .i64 k2, .slice a2 len2 cap2, .int .i64 ht2, .int .i64 hv2, .int .i64 hc2, .int .i64 i2, .int .i64 t2, .bool m2, .bool h2] 26)).block w.heap.size (by simp)).trans (World.alloc_heap_new w (.cells #[.int .i64 g1, .int .i64 k1, .slice a1 len1 cap1, .int .i64 ht1, .int .i64 hv1, .int .i64 hc1, .int .i64 i1, .int .i64 t1, .bool m1, .bool h1] 26))
  have hq0 := World.alloc_heap_new (w.alloc (.cells #[.int .i64 g1, .int .i64 k1, .slice a1 len1 cap1, .int .i64 ht1, .int .i64 hv1, .int .i64 hc1, .int .i64 i1, .int .i64 t1, .bool m1, .bool h1] 26)) (.cells #[.int .i64 g2, .int .i64 k2, .slice a2 len2 cap2, .int .i64 ht2, .int .i64 hv2, .int .i64 hc2, .int .i64 i2, .int .i64 t2, .bool m2, .bool h2] 26)
  rw [World.size_alloc] at hq0
  have hTm : T.size ≤ 9223372036854775807 := by unfold maxLen at hT; omega
  dsimp only [PartC.val] at GF1 GF2
  rw [hf1] at GF1
  rw [hf2] at GF2
  have hE1 : HasE w (⟨g1, k1, a1, len1, cap1, ht1, hv1, hc1, i1, t1, m1, h1⟩ : PartC) l1 := ⟨hl1, by have := few_lenB hf1; dsimp only; omega, hr1⟩
  have GI := Lib.hid (fun W (hB : Below w.heap.size w W) => is_any (⟨g1, k1, a1, len1, cap1, ht1, hv1, hc1, i1, t1, m1, h1⟩ : PartC) l1 W (hE1.below hB))
  rw [hI] at GI
  dsimp only [PartC.val] at GI
  clear hr1 hr2 hg1 hg2 hT
  clear hl1 hl2 hf1 hf2 hE1 hI
  go_enter Try.func5, Try.ntmps5
  go_wp2_with (first
    | (go_at_call 15; ((with_reducible refine (GK.out _).mono ?_); rintro e w1 ⟨rfl, hB1⟩; have hC1 := bel2 hA0 hB1; have hp1 := (hB1.block _ (heap_ltP hp0)).trans hp0; have hq1 := (hB1.block _ (heap_ltP hq0)).trans hq0; obtain ⟨b0, b1, b2, b3, b4, b5, b6, b7, b8, b9⟩ := arr10 hp1))
    | (go_at_call 16; ((with_reducible refine (GF1.out _ hC1).mono ?_); rintro e w2 ⟨rfl, hB2⟩; have hC2 := bel2 hC1 hB2; have hp2 := (hB2.block _ (heap_ltP hp1)).trans hp1; have hq2 := (hB2.block _ (heap_ltP hq1)).trans hq1; obtain ⟨c0, c1, c2, c3, c4, c5, c6, c7, c8, c9⟩ := arr10 hq2))
    | (go_at_call 16; ((with_reducible refine (GF2.out _ hC2).mono ?_); rintro e w3 ⟨rfl, hB3⟩; have hC3 := bel2 hC2 hB3; have hp3 := (hB3.block _ (heap_ltP hp2)).trans hp2; have hq3 := (hB3.block _ (heap_ltP hq2)).trans hq2; obtain ⟨d0, d1, d2, d3, d4, d5, d6, d7, d8, d9⟩ := arr10 hp3))
    | (go_at_call 20; ((with_reducible refine (GI.out _ hC3).mono ?_); rintro e w4 ⟨rfl, hB4⟩; have hC4 := bel2 hC3 hB4; have hp4 := (hB4.block _ (heap_ltP hp3)).trans hp3; have hq4 := (hB4.block _ (heap_ltP hq3)).trans hq3; obtain ⟨e0, e1, e2, e3, e4, e5, e6, e7, e8, e9⟩ := arr10 hp4)))
  go_ret
  exact ⟨rfl, hC4⟩
set_option maxRecDepth 100000 in
set_option maxHeartbeats 2000000 in
theorem back_no (w : World) (g1 k1 : Int) (a1 : Option Addr) (len1 cap1 : Nat) (ht1 hv1 hc1 i1 t1 : Int) (m1 h1 : Bool) (l1 : List EntryC) (hl1 : l1.length = len1) (hr1 : RowV w a1 len1 3 (entryCells l1)) (hg1 : ∀ e ∈ l1, goodEntry e) (g2 k2 : Int) (a2 : Option Addr) (len2 cap2 : Nat) (ht2 hv2 hc2 i2 t2 : Int) (m2 h2 : Bool) (l2 : List EntryC) (hl2 : l2.length = len2) (hr2 : RowV w a2 len2 3 (entryCells l2)) (hg2 : ∀ e ∈ l2, goodEntry e) (T : ByteArray) (hT : T.size ≤ maxLen) (n : Nat) (hn : n < 256) (hf1 : fewB l1 = true) (hf2 : fewB l2 = true) (h60 : T.size ≤ 60) (hI : isB (⟨g1, k1, a1, len1, cap1, ht1, hv1, hc1, i1, t1, m1, h1⟩ : PartC) l1 = true) (hJ : isB (⟨g2, k2, a2, len2, cap2, ht2, hv2, hc2, i2, t2, m2, h2⟩ : PartC) l2 = false) : Calls Try.prog 5 #[.agg #[.int .i64 g1, .int .i64 k1, .slice a1 len1 cap1, .int .i64 ht1, .int .i64 hv1, .int .i64 hc1, .int .i64 i1, .int .i64 t1, .bool m1, .bool h1], .agg #[.int .i64 g2, .int .i64 k2, .slice a2 len2 cap2, .int .i64 ht2, .int .i64 hv2, .int .i64 hc2, .int .i64 i2, .int .i64 t2, .bool m2, .bool h2], .string T, .int .u8 n] w fun e w' => e = .returned (.bool true) ∧ Below w.heap.size w w' := by
  have GK := Lib.hid part_known
  have GF1 := Lib.hid (fun W (hB : Below w.heap.size w W) => few_any (⟨g1, k1, a1, len1, cap1, ht1, hv1, hc1, i1, t1, m1, h1⟩ : PartC) l1 W hl1 (hr1.below hB) (fun e he => (hg1 e he).2.2))
  have GF2 := Lib.hid (fun W (hB : Below w.heap.size w W) => few_any (⟨g2, k2, a2, len2, cap2, ht2, hv2, hc2, i2, t2, m2, h2⟩ : PartC) l2 W hl2 (hr2.below hB) (fun e he => (hg2 e he).2.2))
  have hA0 := bel_alloc (bel_alloc (Below.refl w.heap.size w) (.cells #[.int .i64 g1, .int .i64 k1, .slice a1 len1 cap1, .int .i64 ht1, .int .i64 hv1, .int .i64 hc1, .int .i64 i1, .int .i64 t1, .bool m1, .bool h1] 26)) (.cells #[.int .i64 g2, .int .i64 k2, .slice a2 len2 cap2, .int .i64 ht2, .int .i64 hv2, .int .i64 hc2, .int .i64 i2, .int .i64 t2, .bool m2, .bool h2] 26)
  have hp0 := ((bel_alloc (Below.refl (w.alloc (.cells #[.int .i64 g1, .int .i64 k1, .slice a1 len1 cap1, .int .i64 ht1, .int .i64 hv1, .int .i64 hc1, .int .i64 i1, .int .i64 t1, .bool m1, .bool h1] 26)).heap.size (w.alloc (.cells #[.int .i64 g1, .int .i64 k1, .slice a1 len1 cap1, .int .i64 ht1, .int .i64 hv1, .int .i64 hc1, .int .i64 i1, .int .i64 t1, .bool m1, .bool h1] 26))) (.cells #[.int .i64 g2, .int .i64 k2, .slice a2 len2 cap2, .int .i64 ht2, .int .i64 hv2, .int .i64 hc2, .int .i64 i2, .int .i64 t2, .bool m2, .bool h2] 26)).block w.heap.size (by simp)).trans (World.alloc_heap_new w (.cells #[.int .i64 g1, .int .i64 k1, .slice a1 len1 cap1, .int .i64 ht1, .int .i64 hv1, .int .i64 hc1, .int .i64 i1, .int .i64 t1, .bool m1, .bool h1] 26))
  have hq0 := World.alloc_heap_new (w.alloc (.cells #[.int .i64 g1, .int .i64 k1, .slice a1 len1 cap1, .int .i64 ht1, .int .i64 hv1, .int .i64 hc1, .int .i64 i1, .int .i64 t1, .bool m1, .bool h1] 26)) (.cells #[.int .i64 g2, .int .i64 k2, .slice a2 len2 cap2, .int .i64 ht2, .int .i64 hv2, .int .i64 hc2, .int .i64 i2, .int .i64 t2, .bool m2, .bool h2] 26)
  rw [World.size_alloc] at hq0
  have hTm : T.size ≤ 9223372036854775807 := by unfold maxLen at hT; omega
  dsimp only [PartC.val] at GF1 GF2
  rw [hf1] at GF1
  rw [hf2] at GF2
  have hE1 : HasE w (⟨g1, k1, a1, len1, cap1, ht1, hv1, hc1, i1, t1, m1, h1⟩ : PartC) l1 := ⟨hl1, by have := few_lenB hf1; dsimp only; omega, hr1⟩
  have hE2 : HasE w (⟨g2, k2, a2, len2, cap2, ht2, hv2, hc2, i2, t2, m2, h2⟩ : PartC) l2 := ⟨hl2, by have := few_lenB hf2; dsimp only; omega, hr2⟩
  have GI := Lib.hid (fun W (hB : Below w.heap.size w W) => is_any (⟨g1, k1, a1, len1, cap1, ht1, hv1, hc1, i1, t1, m1, h1⟩ : PartC) l1 W (hE1.below hB))
  have hLn := bytesL_len (p := (⟨g1, k1, a1, len1, cap1, ht1, hv1, hc1, i1, t1, m1, h1⟩ : PartC)) (l := l1) hl1 hI
  have hSz : (bytesS (⟨g1, k1, a1, len1, cap1, ht1, hv1, hc1, i1, t1, m1, h1⟩ : PartC) l1).size ≤ 1000 := by unfold bytesS; rw [if_pos hI]; exact hLn
  have hS2 := bytes_two hI
  have hRd := read_back (⟨g1, k1, a1, len1, cap1, ht1, hv1, hc1, i1, t1, m1, h1⟩ : PartC) l1 hl1 hI (bytesS (⟨g1, k1, a1, len1, cap1, ht1, hv1, hc1, i1, t1, m1, h1⟩ : PartC) l1 ++ T) T rfl
  have hCut := fun K (hK : K < (bytesS (⟨g1, k1, a1, len1, cap1, ht1, hv1, hc1, i1, t1, m1, h1⟩ : PartC) l1).size) => read_cut (⟨g1, k1, a1, len1, cap1, ht1, hv1, hc1, i1, t1, m1, h1⟩ : PartC) l1 hl1 hI K hK ((bytesS (⟨g1, k1, a1, len1, cap1, ht1, hv1, hc1, i1, t1, m1, h1⟩ : PartC) l1).extract 0 K) (by rw [ByteArray.data_extract]; simp [List.extract_eq_take_drop])
  have GB1 := Lib.hid (fun W (hB : Below w.heap.size w W) => bytes_any (⟨g1, k1, a1, len1, cap1, ht1, hv1, hc1, i1, t1, m1, h1⟩ : PartC) l1 W (hE1.below hB))
  have GB2 := Lib.hid (fun W (hB : Below w.heap.size w W) => bytes_any (⟨g2, k2, a2, len2, cap2, ht2, hv2, hc2, i2, t2, m2, h2⟩ : PartC) l2 W (hE2.below hB))
  have hSame := @id True trivial
  simp only [bytesE, hI, if_true] at GB1
  simp only [bytesE, hJ, Bool.false_eq_true, if_false] at GB2
  have GR := Lib.hid (fun W => partRead_at (bytesS (⟨g1, k1, a1, len1, cap1, ht1, hv1, hc1, i1, t1, m1, h1⟩ : PartC) l1 ++ T) _ _ 0 (by rw [ByteArray.size_append]; omega) hRd W)
  have GC := Lib.hid (fun K (hK : K < (bytesS (⟨g1, k1, a1, len1, cap1, ht1, hv1, hc1, i1, t1, m1, h1⟩ : PartC) l1).size) W => partRead_at ((bytesS (⟨g1, k1, a1, len1, cap1, ht1, hv1, hc1, i1, t1, m1, h1⟩ : PartC) l1).extract 0 K) zeroR 0 10 (by rw [ByteArray.size_extract]; omega) (hCut K hK) W)
  have GX := Lib.hid (fun xa xc W (hB : Below w.heap.size w W) (h : HasE W (⟨g1, k1, xa, len1, xc, ht1, hv1, hc1, i1, t1, m1, h1⟩ : PartC) l1) => refSame_any (⟨g1, k1, xa, len1, xc, ht1, hv1, hc1, i1, t1, m1, h1⟩ : PartC) (⟨g1, k1, a1, len1, cap1, ht1, hv1, hc1, i1, t1, m1, h1⟩ : PartC) l1 l1 W h (hE1.below hB))
  simp only [show ∀ xa xc, sameB (⟨g1, k1, xa, len1, xc, ht1, hv1, hc1, i1, t1, m1, h1⟩ : PartC) (⟨g1, k1, a1, len1, cap1, ht1, hv1, hc1, i1, t1, m1, h1⟩ : PartC) l1 l1 = true from fun _ _ => sameB_iff.2 ⟨rfl, rfl, rfl, ⟨rfl, rfl, rfl⟩, rfl, rfl, rfl, rfl⟩] at GX
  rw [hI] at GI
  dsimp only [PartC.val, ReadC.part, zeroR, List.length_nil] at GI GB1 GB2 GR GC GX
  rw [hl1] at GR
  clear hCut hRd hLn
  clear hSame
  generalize bytesS (⟨g1, k1, a1, len1, cap1, ht1, hv1, hc1, i1, t1, m1, h1⟩ : PartC) l1 = S at *
  generalize bytesS (⟨g2, k2, a2, len2, cap2, ht2, hv2, hc2, i2, t2, m2, h2⟩ : PartC) l2 = R at *
  clear hr1 hr2 hg1 hg2 hT
  clear hl1 hl2 hf1 hf2 hE1 hE2 hI hJ 
  have hz0 : (0 : Int) < (S.size : Int) := by omega
  have hm0 : (0 : Int) ≤ (n : Int) % (S.size : Int) := Int.emod_nonneg _ (by omega)
  have hm1 : (n : Int) % (S.size : Int) < (S.size : Int) := Int.emod_lt_of_pos _ hz0
  have hcut : n % S.size < S.size := Nat.mod_lt _ (by omega)
  go_enter Try.func5, Try.ntmps5
  go_wp2_with (first
    | (go_at_call 15; ((with_reducible refine (GK.out _).mono ?_); rintro e w1 ⟨rfl, hB1⟩; have hC1 := bel2 hA0 hB1; have hp1 := (hB1.block _ (heap_ltP hp0)).trans hp0; have hq1 := (hB1.block _ (heap_ltP hq0)).trans hq0; obtain ⟨b0, b1, b2, b3, b4, b5, b6, b7, b8, b9⟩ := arr10 hp1))
    | (go_at_call 16; ((with_reducible refine (GF1.out _ hC1).mono ?_); rintro e w2 ⟨rfl, hB2⟩; have hC2 := bel2 hC1 hB2; have hp2 := (hB2.block _ (heap_ltP hp1)).trans hp1; have hq2 := (hB2.block _ (heap_ltP hq1)).trans hq1; obtain ⟨c0, c1, c2, c3, c4, c5, c6, c7, c8, c9⟩ := arr10 hq2))
    | (go_at_call 16; ((with_reducible refine (GF2.out _ hC2).mono ?_); rintro e w3 ⟨rfl, hB3⟩; have hC3 := bel2 hC2 hB3; have hp3 := (hB3.block _ (heap_ltP hp2)).trans hp2; have hq3 := (hB3.block _ (heap_ltP hq2)).trans hq2; obtain ⟨d0, d1, d2, d3, d4, d5, d6, d7, d8, d9⟩ := arr10 hp3))
    | (go_at_call 20; ((with_reducible refine (GI.out _ hC3).mono ?_); rintro e w4 ⟨rfl, hB4⟩; have hC4 := bel2 hC3 hB4; have hp4 := (hB4.block _ (heap_ltP hp3)).trans hp3; have hq4 := (hB4.block _ (heap_ltP hq3)).trans hq3; obtain ⟨e0, e1, e2, e3, e4, e5, e6, e7, e8, e9⟩ := arr10 hp4))
    | (go_at_call 17; ((with_reducible refine (GB1.out _ hC4).mono ?_); rintro e w5 ⟨rfl, hB5⟩; have hC5 := bel2 hC4 hB5; have hp5 := (hB5.block _ (heap_ltP hp4)).trans hp4; have hq5 := (hB5.block _ (heap_ltP hq4)).trans hq4; obtain ⟨f0, f1, f2, f3, f4, f5, f6, f7, f8, f9⟩ := arr10 hq5))
    | (go_at_call 17; ((with_reducible refine (GB2.out _ hC5).mono ?_); rintro e w6 ⟨rfl, hB6⟩; have hC6 := bel2 hC5 hB6; have hp6 := (hB6.block _ (heap_ltP hp5)).trans hp5; have hq6 := (hB6.block _ (heap_ltP hq5)).trans hq5))
    | (go_at_call 25; ((with_reducible refine (GR.out _).mono ?_); rintro e w7 ⟨xa, xc, rfl, hEx, hB7⟩; have hC7 := bel2 hC6 hB7; have hp7 := (hB7.block _ (heap_ltP hp6)).trans hp6; have hq7 := (hB7.block _ (heap_ltP hq6)).trans hq6; have hA7 := bel_alloc (Below.refl w7.heap.size w7) (.cells #[.int .i64 g1, .int .i64 k1, .slice xa len1 xc, .int .i64 ht1, .int .i64 hv1, .int .i64 hc1, .int .i64 i1, .int .i64 t1, .bool m1, .bool h1] 26); have hC7a := bel2 hC7 hA7; have hp7a := (hA7.block _ (heap_ltP hp7)).trans hp7; have hq7a := (hA7.block _ (heap_ltP hq7)).trans hq7; have hx7 := World.alloc_heap_new w7 (.cells #[.int .i64 g1, .int .i64 k1, .slice xa len1 xc, .int .i64 ht1, .int .i64 hv1, .int .i64 hc1, .int .i64 i1, .int .i64 t1, .bool m1, .bool h1] 26); have hEx7 := hEx.below hA7; obtain ⟨s0, s1, s2, s3, s4, s5, s6, s7, s8, s9⟩ := arr10 hp7a; obtain ⟨u0, u1, u2, u3, u4, u5, u6, u7, u8, u9⟩ := arr10 hx7))
    | (go_at_call 24; ((with_reducible refine (GX.out _ _ _ hC7a hEx7).mono ?_); rintro e w8 ⟨rfl, hB8⟩; have hC8 := bel2 hC7a hB8; have hp8 := (hB8.block _ (heap_ltP hp7a)).trans hp7a; have hq8 := (hB8.block _ (heap_ltP hq7a)).trans hq7a; obtain ⟨v0, v1, v2, v3, v4, v5, v6, v7, v8, v9⟩ := arr10 hp8; obtain ⟨z0, z1, z2, z3, z4, z5, z6, z7, z8, z9⟩ := arr10 hq8))
    | (go_at_call 25; ((with_reducible refine (GC.out _ ?_ _).mono ?_); (focus (first | exact hcut | omega)); rintro e w10 ⟨ya, yc, rfl, -, hB10⟩; have hC10 := bel2 hC8 hB10)))
  go_ret
  exact ⟨rfl, bel_alloc hC10 _⟩
set_option maxRecDepth 100000 in
set_option maxHeartbeats 2000000 in
theorem back_eq (w : World) (g1 k1 : Int) (a1 : Option Addr) (len1 cap1 : Nat) (ht1 hv1 hc1 i1 t1 : Int) (m1 h1 : Bool) (l1 : List EntryC) (hl1 : l1.length = len1) (hr1 : RowV w a1 len1 3 (entryCells l1)) (hg1 : ∀ e ∈ l1, goodEntry e) (g2 k2 : Int) (a2 : Option Addr) (len2 cap2 : Nat) (ht2 hv2 hc2 i2 t2 : Int) (m2 h2 : Bool) (l2 : List EntryC) (hl2 : l2.length = len2) (hr2 : RowV w a2 len2 3 (entryCells l2)) (hg2 : ∀ e ∈ l2, goodEntry e) (T : ByteArray) (hT : T.size ≤ maxLen) (n : Nat) (hn : n < 256) (hf1 : fewB l1 = true) (hf2 : fewB l2 = true) (h60 : T.size ≤ 60) (hI : isB (⟨g1, k1, a1, len1, cap1, ht1, hv1, hc1, i1, t1, m1, h1⟩ : PartC) l1 = true) (hJ : isB (⟨g2, k2, a2, len2, cap2, ht2, hv2, hc2, i2, t2, m2, h2⟩ : PartC) l2 = true) (hS : sameB (⟨g1, k1, a1, len1, cap1, ht1, hv1, hc1, i1, t1, m1, h1⟩ : PartC) (⟨g2, k2, a2, len2, cap2, ht2, hv2, hc2, i2, t2, m2, h2⟩ : PartC) l1 l2 = true) : Calls Try.prog 5 #[.agg #[.int .i64 g1, .int .i64 k1, .slice a1 len1 cap1, .int .i64 ht1, .int .i64 hv1, .int .i64 hc1, .int .i64 i1, .int .i64 t1, .bool m1, .bool h1], .agg #[.int .i64 g2, .int .i64 k2, .slice a2 len2 cap2, .int .i64 ht2, .int .i64 hv2, .int .i64 hc2, .int .i64 i2, .int .i64 t2, .bool m2, .bool h2], .string T, .int .u8 n] w fun e w' => e = .returned (.bool true) ∧ Below w.heap.size w w' := by
  have GK := Lib.hid part_known
  have GF1 := Lib.hid (fun W (hB : Below w.heap.size w W) => few_any (⟨g1, k1, a1, len1, cap1, ht1, hv1, hc1, i1, t1, m1, h1⟩ : PartC) l1 W hl1 (hr1.below hB) (fun e he => (hg1 e he).2.2))
  have GF2 := Lib.hid (fun W (hB : Below w.heap.size w W) => few_any (⟨g2, k2, a2, len2, cap2, ht2, hv2, hc2, i2, t2, m2, h2⟩ : PartC) l2 W hl2 (hr2.below hB) (fun e he => (hg2 e he).2.2))
  have hA0 := bel_alloc (bel_alloc (Below.refl w.heap.size w) (.cells #[.int .i64 g1, .int .i64 k1, .slice a1 len1 cap1, .int .i64 ht1, .int .i64 hv1, .int .i64 hc1, .int .i64 i1, .int .i64 t1, .bool m1, .bool h1] 26)) (.cells #[.int .i64 g2, .int .i64 k2, .slice a2 len2 cap2, .int .i64 ht2, .int .i64 hv2, .int .i64 hc2, .int .i64 i2, .int .i64 t2, .bool m2, .bool h2] 26)
  have hp0 := ((bel_alloc (Below.refl (w.alloc (.cells #[.int .i64 g1, .int .i64 k1, .slice a1 len1 cap1, .int .i64 ht1, .int .i64 hv1, .int .i64 hc1, .int .i64 i1, .int .i64 t1, .bool m1, .bool h1] 26)).heap.size (w.alloc (.cells #[.int .i64 g1, .int .i64 k1, .slice a1 len1 cap1, .int .i64 ht1, .int .i64 hv1, .int .i64 hc1, .int .i64 i1, .int .i64 t1, .bool m1, .bool h1] 26))) (.cells #[.int .i64 g2, .int .i64 k2, .slice a2 len2 cap2, .int .i64 ht2, .int .i64 hv2, .int .i64 hc2, .int .i64 i2, .int .i64 t2, .bool m2, .bool h2] 26)).block w.heap.size (by simp)).trans (World.alloc_heap_new w (.cells #[.int .i64 g1, .int .i64 k1, .slice a1 len1 cap1, .int .i64 ht1, .int .i64 hv1, .int .i64 hc1, .int .i64 i1, .int .i64 t1, .bool m1, .bool h1] 26))
  have hq0 := World.alloc_heap_new (w.alloc (.cells #[.int .i64 g1, .int .i64 k1, .slice a1 len1 cap1, .int .i64 ht1, .int .i64 hv1, .int .i64 hc1, .int .i64 i1, .int .i64 t1, .bool m1, .bool h1] 26)) (.cells #[.int .i64 g2, .int .i64 k2, .slice a2 len2 cap2, .int .i64 ht2, .int .i64 hv2, .int .i64 hc2, .int .i64 i2, .int .i64 t2, .bool m2, .bool h2] 26)
  rw [World.size_alloc] at hq0
  have hTm : T.size ≤ 9223372036854775807 := by unfold maxLen at hT; omega
  dsimp only [PartC.val] at GF1 GF2
  rw [hf1] at GF1
  rw [hf2] at GF2
  have hE1 : HasE w (⟨g1, k1, a1, len1, cap1, ht1, hv1, hc1, i1, t1, m1, h1⟩ : PartC) l1 := ⟨hl1, by have := few_lenB hf1; dsimp only; omega, hr1⟩
  have hE2 : HasE w (⟨g2, k2, a2, len2, cap2, ht2, hv2, hc2, i2, t2, m2, h2⟩ : PartC) l2 := ⟨hl2, by have := few_lenB hf2; dsimp only; omega, hr2⟩
  have GI := Lib.hid (fun W (hB : Below w.heap.size w W) => is_any (⟨g1, k1, a1, len1, cap1, ht1, hv1, hc1, i1, t1, m1, h1⟩ : PartC) l1 W (hE1.below hB))
  have hLn := bytesL_len (p := (⟨g1, k1, a1, len1, cap1, ht1, hv1, hc1, i1, t1, m1, h1⟩ : PartC)) (l := l1) hl1 hI
  have hSz : (bytesS (⟨g1, k1, a1, len1, cap1, ht1, hv1, hc1, i1, t1, m1, h1⟩ : PartC) l1).size ≤ 1000 := by unfold bytesS; rw [if_pos hI]; exact hLn
  have hS2 := bytes_two hI
  have hRd := read_back (⟨g1, k1, a1, len1, cap1, ht1, hv1, hc1, i1, t1, m1, h1⟩ : PartC) l1 hl1 hI (bytesS (⟨g1, k1, a1, len1, cap1, ht1, hv1, hc1, i1, t1, m1, h1⟩ : PartC) l1 ++ T) T rfl
  have hCut := fun K (hK : K < (bytesS (⟨g1, k1, a1, len1, cap1, ht1, hv1, hc1, i1, t1, m1, h1⟩ : PartC) l1).size) => read_cut (⟨g1, k1, a1, len1, cap1, ht1, hv1, hc1, i1, t1, m1, h1⟩ : PartC) l1 hl1 hI K hK ((bytesS (⟨g1, k1, a1, len1, cap1, ht1, hv1, hc1, i1, t1, m1, h1⟩ : PartC) l1).extract 0 K) (by rw [ByteArray.data_extract]; simp [List.extract_eq_take_drop])
  have GB1 := Lib.hid (fun W (hB : Below w.heap.size w W) => bytes_any (⟨g1, k1, a1, len1, cap1, ht1, hv1, hc1, i1, t1, m1, h1⟩ : PartC) l1 W (hE1.below hB))
  have GB2 := Lib.hid (fun W (hB : Below w.heap.size w W) => bytes_any (⟨g2, k2, a2, len2, cap2, ht2, hv2, hc2, i2, t2, m2, h2⟩ : PartC) l2 W (hE2.below hB))
  have hSame := same_bytes (p := (⟨g1, k1, a1, len1, cap1, ht1, hv1, hc1, i1, t1, m1, h1⟩ : PartC)) (q := (⟨g2, k2, a2, len2, cap2, ht2, hv2, hc2, i2, t2, m2, h2⟩ : PartC)) hl1 hl2 hI hJ
  simp only [bytesE, hI, if_true] at GB1
  simp only [bytesE, hJ, if_true] at GB2
  have GR := Lib.hid (fun W => partRead_at (bytesS (⟨g1, k1, a1, len1, cap1, ht1, hv1, hc1, i1, t1, m1, h1⟩ : PartC) l1 ++ T) _ _ 0 (by rw [ByteArray.size_append]; omega) hRd W)
  have GC := Lib.hid (fun K (hK : K < (bytesS (⟨g1, k1, a1, len1, cap1, ht1, hv1, hc1, i1, t1, m1, h1⟩ : PartC) l1).size) W => partRead_at ((bytesS (⟨g1, k1, a1, len1, cap1, ht1, hv1, hc1, i1, t1, m1, h1⟩ : PartC) l1).extract 0 K) zeroR 0 10 (by rw [ByteArray.size_extract]; omega) (hCut K hK) W)
  have GX := Lib.hid (fun xa xc W (hB : Below w.heap.size w W) (h : HasE W (⟨g1, k1, xa, len1, xc, ht1, hv1, hc1, i1, t1, m1, h1⟩ : PartC) l1) => refSame_any (⟨g1, k1, xa, len1, xc, ht1, hv1, hc1, i1, t1, m1, h1⟩ : PartC) (⟨g1, k1, a1, len1, cap1, ht1, hv1, hc1, i1, t1, m1, h1⟩ : PartC) l1 l1 W h (hE1.below hB))
  simp only [show ∀ xa xc, sameB (⟨g1, k1, xa, len1, xc, ht1, hv1, hc1, i1, t1, m1, h1⟩ : PartC) (⟨g1, k1, a1, len1, cap1, ht1, hv1, hc1, i1, t1, m1, h1⟩ : PartC) l1 l1 = true from fun _ _ => sameB_iff.2 ⟨rfl, rfl, rfl, ⟨rfl, rfl, rfl⟩, rfl, rfl, rfl, rfl⟩] at GX
  have GY := Lib.hid (fun W (hB : Below w.heap.size w W) => refSame_any (⟨g1, k1, a1, len1, cap1, ht1, hv1, hc1, i1, t1, m1, h1⟩ : PartC) (⟨g2, k2, a2, len2, cap2, ht2, hv2, hc2, i2, t2, m2, h2⟩ : PartC) l1 l2 W (hE1.below hB) (hE2.below hB))
  rw [hS] at GY
  dsimp only [PartC.val] at GY
  rw [hI] at GI
  dsimp only [PartC.val, ReadC.part, zeroR, List.length_nil] at GI GB1 GB2 GR GC GX
  rw [hl1] at GR
  clear hCut hRd hLn
  have hSame := hSame.2 hS
  rw [← hSame] at GB2
  clear hSame
  generalize bytesS (⟨g1, k1, a1, len1, cap1, ht1, hv1, hc1, i1, t1, m1, h1⟩ : PartC) l1 = S at *
  clear hr1 hr2 hg1 hg2 hT
  clear hl1 hl2 hf1 hf2 hE1 hE2 hI hJ hS
  have hz0 : (0 : Int) < (S.size : Int) := by omega
  have hm0 : (0 : Int) ≤ (n : Int) % (S.size : Int) := Int.emod_nonneg _ (by omega)
  have hm1 : (n : Int) % (S.size : Int) < (S.size : Int) := Int.emod_lt_of_pos _ hz0
  have hcut : n % S.size < S.size := Nat.mod_lt _ (by omega)
  go_enter Try.func5, Try.ntmps5
  go_wp2_with (first
    | (go_at_call 15; ((with_reducible refine (GK.out _).mono ?_); rintro e w1 ⟨rfl, hB1⟩; have hC1 := bel2 hA0 hB1; have hp1 := (hB1.block _ (heap_ltP hp0)).trans hp0; have hq1 := (hB1.block _ (heap_ltP hq0)).trans hq0; obtain ⟨b0, b1, b2, b3, b4, b5, b6, b7, b8, b9⟩ := arr10 hp1))
    | (go_at_call 16; ((with_reducible refine (GF1.out _ hC1).mono ?_); rintro e w2 ⟨rfl, hB2⟩; have hC2 := bel2 hC1 hB2; have hp2 := (hB2.block _ (heap_ltP hp1)).trans hp1; have hq2 := (hB2.block _ (heap_ltP hq1)).trans hq1; obtain ⟨c0, c1, c2, c3, c4, c5, c6, c7, c8, c9⟩ := arr10 hq2))
    | (go_at_call 16; ((with_reducible refine (GF2.out _ hC2).mono ?_); rintro e w3 ⟨rfl, hB3⟩; have hC3 := bel2 hC2 hB3; have hp3 := (hB3.block _ (heap_ltP hp2)).trans hp2; have hq3 := (hB3.block _ (heap_ltP hq2)).trans hq2; obtain ⟨d0, d1, d2, d3, d4, d5, d6, d7, d8, d9⟩ := arr10 hp3))
    | (go_at_call 20; ((with_reducible refine (GI.out _ hC3).mono ?_); rintro e w4 ⟨rfl, hB4⟩; have hC4 := bel2 hC3 hB4; have hp4 := (hB4.block _ (heap_ltP hp3)).trans hp3; have hq4 := (hB4.block _ (heap_ltP hq3)).trans hq3; obtain ⟨e0, e1, e2, e3, e4, e5, e6, e7, e8, e9⟩ := arr10 hp4))
    | (go_at_call 17; ((with_reducible refine (GB1.out _ hC4).mono ?_); rintro e w5 ⟨rfl, hB5⟩; have hC5 := bel2 hC4 hB5; have hp5 := (hB5.block _ (heap_ltP hp4)).trans hp4; have hq5 := (hB5.block _ (heap_ltP hq4)).trans hq4; obtain ⟨f0, f1, f2, f3, f4, f5, f6, f7, f8, f9⟩ := arr10 hq5))
    | (go_at_call 17; ((with_reducible refine (GB2.out _ hC5).mono ?_); rintro e w6 ⟨rfl, hB6⟩; have hC6 := bel2 hC5 hB6; have hp6 := (hB6.block _ (heap_ltP hp5)).trans hp5; have hq6 := (hB6.block _ (heap_ltP hq5)).trans hq5))
    | (go_at_call 25; ((with_reducible refine (GR.out _).mono ?_); rintro e w7 ⟨xa, xc, rfl, hEx, hB7⟩; have hC7 := bel2 hC6 hB7; have hp7 := (hB7.block _ (heap_ltP hp6)).trans hp6; have hq7 := (hB7.block _ (heap_ltP hq6)).trans hq6; have hA7 := bel_alloc (Below.refl w7.heap.size w7) (.cells #[.int .i64 g1, .int .i64 k1, .slice xa len1 xc, .int .i64 ht1, .int .i64 hv1, .int .i64 hc1, .int .i64 i1, .int .i64 t1, .bool m1, .bool h1] 26); have hC7a := bel2 hC7 hA7; have hp7a := (hA7.block _ (heap_ltP hp7)).trans hp7; have hq7a := (hA7.block _ (heap_ltP hq7)).trans hq7; have hx7 := World.alloc_heap_new w7 (.cells #[.int .i64 g1, .int .i64 k1, .slice xa len1 xc, .int .i64 ht1, .int .i64 hv1, .int .i64 hc1, .int .i64 i1, .int .i64 t1, .bool m1, .bool h1] 26); have hEx7 := hEx.below hA7; obtain ⟨s0, s1, s2, s3, s4, s5, s6, s7, s8, s9⟩ := arr10 hp7a; obtain ⟨u0, u1, u2, u3, u4, u5, u6, u7, u8, u9⟩ := arr10 hx7))
    | (go_at_call 24; ((with_reducible refine (GX.out _ _ _ hC7a hEx7).mono ?_); rintro e w8 ⟨rfl, hB8⟩; have hC8 := bel2 hC7a hB8; have hp8 := (hB8.block _ (heap_ltP hp7a)).trans hp7a; have hq8 := (hB8.block _ (heap_ltP hq7a)).trans hq7a; obtain ⟨v0, v1, v2, v3, v4, v5, v6, v7, v8, v9⟩ := arr10 hp8; obtain ⟨z0, z1, z2, z3, z4, z5, z6, z7, z8, z9⟩ := arr10 hq8))
    | (go_at_call 24; ((with_reducible refine (GY.out _ hC8).mono ?_); rintro e w9 ⟨rfl, hB9⟩; have hC9 := bel2 hC8 hB9))
    | (go_at_call 25; ((with_reducible refine (GC.out _ ?_ _).mono ?_); (focus (first | exact hcut | omega)); rintro e w10 ⟨ya, yc, rfl, -, hB10⟩; have hC10 := bel2 hC9 hB10)))
  go_ret
  exact ⟨rfl, bel_alloc hC10 _⟩
set_option maxRecDepth 100000 in
set_option maxHeartbeats 2000000 in
theorem back_ne (w : World) (g1 k1 : Int) (a1 : Option Addr) (len1 cap1 : Nat) (ht1 hv1 hc1 i1 t1 : Int) (m1 h1 : Bool) (l1 : List EntryC) (hl1 : l1.length = len1) (hr1 : RowV w a1 len1 3 (entryCells l1)) (hg1 : ∀ e ∈ l1, goodEntry e) (g2 k2 : Int) (a2 : Option Addr) (len2 cap2 : Nat) (ht2 hv2 hc2 i2 t2 : Int) (m2 h2 : Bool) (l2 : List EntryC) (hl2 : l2.length = len2) (hr2 : RowV w a2 len2 3 (entryCells l2)) (hg2 : ∀ e ∈ l2, goodEntry e) (T : ByteArray) (hT : T.size ≤ maxLen) (n : Nat) (hn : n < 256) (hf1 : fewB l1 = true) (hf2 : fewB l2 = true) (h60 : T.size ≤ 60) (hI : isB (⟨g1, k1, a1, len1, cap1, ht1, hv1, hc1, i1, t1, m1, h1⟩ : PartC) l1 = true) (hJ : isB (⟨g2, k2, a2, len2, cap2, ht2, hv2, hc2, i2, t2, m2, h2⟩ : PartC) l2 = true) (hS : sameB (⟨g1, k1, a1, len1, cap1, ht1, hv1, hc1, i1, t1, m1, h1⟩ : PartC) (⟨g2, k2, a2, len2, cap2, ht2, hv2, hc2, i2, t2, m2, h2⟩ : PartC) l1 l2 = false) : Calls Try.prog 5 #[.agg #[.int .i64 g1, .int .i64 k1, .slice a1 len1 cap1, .int .i64 ht1, .int .i64 hv1, .int .i64 hc1, .int .i64 i1, .int .i64 t1, .bool m1, .bool h1], .agg #[.int .i64 g2, .int .i64 k2, .slice a2 len2 cap2, .int .i64 ht2, .int .i64 hv2, .int .i64 hc2, .int .i64 i2, .int .i64 t2, .bool m2, .bool h2], .string T, .int .u8 n] w fun e w' => e = .returned (.bool true) ∧ Below w.heap.size w w' := by
  have GK := Lib.hid part_known
  have GF1 := Lib.hid (fun W (hB : Below w.heap.size w W) => few_any (⟨g1, k1, a1, len1, cap1, ht1, hv1, hc1, i1, t1, m1, h1⟩ : PartC) l1 W hl1 (hr1.below hB) (fun e he => (hg1 e he).2.2))
  have GF2 := Lib.hid (fun W (hB : Below w.heap.size w W) => few_any (⟨g2, k2, a2, len2, cap2, ht2, hv2, hc2, i2, t2, m2, h2⟩ : PartC) l2 W hl2 (hr2.below hB) (fun e he => (hg2 e he).2.2))
  have hA0 := bel_alloc (bel_alloc (Below.refl w.heap.size w) (.cells #[.int .i64 g1, .int .i64 k1, .slice a1 len1 cap1, .int .i64 ht1, .int .i64 hv1, .int .i64 hc1, .int .i64 i1, .int .i64 t1, .bool m1, .bool h1] 26)) (.cells #[.int .i64 g2, .int .i64 k2, .slice a2 len2 cap2, .int .i64 ht2, .int .i64 hv2, .int .i64 hc2, .int .i64 i2, .int .i64 t2, .bool m2, .bool h2] 26)
  have hp0 := ((bel_alloc (Below.refl (w.alloc (.cells #[.int .i64 g1, .int .i64 k1, .slice a1 len1 cap1, .int .i64 ht1, .int .i64 hv1, .int .i64 hc1, .int .i64 i1, .int .i64 t1, .bool m1, .bool h1] 26)).heap.size (w.alloc (.cells #[.int .i64 g1, .int .i64 k1, .slice a1 len1 cap1, .int .i64 ht1, .int .i64 hv1, .int .i64 hc1, .int .i64 i1, .int .i64 t1, .bool m1, .bool h1] 26))) (.cells #[.int .i64 g2, .int .i64 k2, .slice a2 len2 cap2, .int .i64 ht2, .int .i64 hv2, .int .i64 hc2, .int .i64 i2, .int .i64 t2, .bool m2, .bool h2] 26)).block w.heap.size (by simp)).trans (World.alloc_heap_new w (.cells #[.int .i64 g1, .int .i64 k1, .slice a1 len1 cap1, .int .i64 ht1, .int .i64 hv1, .int .i64 hc1, .int .i64 i1, .int .i64 t1, .bool m1, .bool h1] 26))
  have hq0 := World.alloc_heap_new (w.alloc (.cells #[.int .i64 g1, .int .i64 k1, .slice a1 len1 cap1, .int .i64 ht1, .int .i64 hv1, .int .i64 hc1, .int .i64 i1, .int .i64 t1, .bool m1, .bool h1] 26)) (.cells #[.int .i64 g2, .int .i64 k2, .slice a2 len2 cap2, .int .i64 ht2, .int .i64 hv2, .int .i64 hc2, .int .i64 i2, .int .i64 t2, .bool m2, .bool h2] 26)
  rw [World.size_alloc] at hq0
  have hTm : T.size ≤ 9223372036854775807 := by unfold maxLen at hT; omega
  dsimp only [PartC.val] at GF1 GF2
  rw [hf1] at GF1
  rw [hf2] at GF2
  have hE1 : HasE w (⟨g1, k1, a1, len1, cap1, ht1, hv1, hc1, i1, t1, m1, h1⟩ : PartC) l1 := ⟨hl1, by have := few_lenB hf1; dsimp only; omega, hr1⟩
  have hE2 : HasE w (⟨g2, k2, a2, len2, cap2, ht2, hv2, hc2, i2, t2, m2, h2⟩ : PartC) l2 := ⟨hl2, by have := few_lenB hf2; dsimp only; omega, hr2⟩
  have GI := Lib.hid (fun W (hB : Below w.heap.size w W) => is_any (⟨g1, k1, a1, len1, cap1, ht1, hv1, hc1, i1, t1, m1, h1⟩ : PartC) l1 W (hE1.below hB))
  have hLn := bytesL_len (p := (⟨g1, k1, a1, len1, cap1, ht1, hv1, hc1, i1, t1, m1, h1⟩ : PartC)) (l := l1) hl1 hI
  have hSz : (bytesS (⟨g1, k1, a1, len1, cap1, ht1, hv1, hc1, i1, t1, m1, h1⟩ : PartC) l1).size ≤ 1000 := by unfold bytesS; rw [if_pos hI]; exact hLn
  have hS2 := bytes_two hI
  have hRd := read_back (⟨g1, k1, a1, len1, cap1, ht1, hv1, hc1, i1, t1, m1, h1⟩ : PartC) l1 hl1 hI (bytesS (⟨g1, k1, a1, len1, cap1, ht1, hv1, hc1, i1, t1, m1, h1⟩ : PartC) l1 ++ T) T rfl
  have hCut := fun K (hK : K < (bytesS (⟨g1, k1, a1, len1, cap1, ht1, hv1, hc1, i1, t1, m1, h1⟩ : PartC) l1).size) => read_cut (⟨g1, k1, a1, len1, cap1, ht1, hv1, hc1, i1, t1, m1, h1⟩ : PartC) l1 hl1 hI K hK ((bytesS (⟨g1, k1, a1, len1, cap1, ht1, hv1, hc1, i1, t1, m1, h1⟩ : PartC) l1).extract 0 K) (by rw [ByteArray.data_extract]; simp [List.extract_eq_take_drop])
  have GB1 := Lib.hid (fun W (hB : Below w.heap.size w W) => bytes_any (⟨g1, k1, a1, len1, cap1, ht1, hv1, hc1, i1, t1, m1, h1⟩ : PartC) l1 W (hE1.below hB))
  have GB2 := Lib.hid (fun W (hB : Below w.heap.size w W) => bytes_any (⟨g2, k2, a2, len2, cap2, ht2, hv2, hc2, i2, t2, m2, h2⟩ : PartC) l2 W (hE2.below hB))
  have hSame := same_bytes (p := (⟨g1, k1, a1, len1, cap1, ht1, hv1, hc1, i1, t1, m1, h1⟩ : PartC)) (q := (⟨g2, k2, a2, len2, cap2, ht2, hv2, hc2, i2, t2, m2, h2⟩ : PartC)) hl1 hl2 hI hJ
  simp only [bytesE, hI, if_true] at GB1
  simp only [bytesE, hJ, if_true] at GB2
  have GR := Lib.hid (fun W => partRead_at (bytesS (⟨g1, k1, a1, len1, cap1, ht1, hv1, hc1, i1, t1, m1, h1⟩ : PartC) l1 ++ T) _ _ 0 (by rw [ByteArray.size_append]; omega) hRd W)
  have GC := Lib.hid (fun K (hK : K < (bytesS (⟨g1, k1, a1, len1, cap1, ht1, hv1, hc1, i1, t1, m1, h1⟩ : PartC) l1).size) W => partRead_at ((bytesS (⟨g1, k1, a1, len1, cap1, ht1, hv1, hc1, i1, t1, m1, h1⟩ : PartC) l1).extract 0 K) zeroR 0 10 (by rw [ByteArray.size_extract]; omega) (hCut K hK) W)
  have GX := Lib.hid (fun xa xc W (hB : Below w.heap.size w W) (h : HasE W (⟨g1, k1, xa, len1, xc, ht1, hv1, hc1, i1, t1, m1, h1⟩ : PartC) l1) => refSame_any (⟨g1, k1, xa, len1, xc, ht1, hv1, hc1, i1, t1, m1, h1⟩ : PartC) (⟨g1, k1, a1, len1, cap1, ht1, hv1, hc1, i1, t1, m1, h1⟩ : PartC) l1 l1 W h (hE1.below hB))
  simp only [show ∀ xa xc, sameB (⟨g1, k1, xa, len1, xc, ht1, hv1, hc1, i1, t1, m1, h1⟩ : PartC) (⟨g1, k1, a1, len1, cap1, ht1, hv1, hc1, i1, t1, m1, h1⟩ : PartC) l1 l1 = true from fun _ _ => sameB_iff.2 ⟨rfl, rfl, rfl, ⟨rfl, rfl, rfl⟩, rfl, rfl, rfl, rfl⟩] at GX
  have GY := Lib.hid (fun W (hB : Below w.heap.size w W) => refSame_any (⟨g1, k1, a1, len1, cap1, ht1, hv1, hc1, i1, t1, m1, h1⟩ : PartC) (⟨g2, k2, a2, len2, cap2, ht2, hv2, hc2, i2, t2, m2, h2⟩ : PartC) l1 l2 W (hE1.below hB) (hE2.below hB))
  rw [hS] at GY
  dsimp only [PartC.val] at GY
  rw [hI] at GI
  dsimp only [PartC.val, ReadC.part, zeroR, List.length_nil] at GI GB1 GB2 GR GC GX
  rw [hl1] at GR
  clear hCut hRd hLn
  have hSame : bytesS (⟨g1, k1, a1, len1, cap1, ht1, hv1, hc1, i1, t1, m1, h1⟩ : PartC) l1 ≠ bytesS (⟨g2, k2, a2, len2, cap2, ht2, hv2, hc2, i2, t2, m2, h2⟩ : PartC) l2 := fun e => by have := hSame.1 e; rw [hS] at this; cases this
  generalize bytesS (⟨g1, k1, a1, len1, cap1, ht1, hv1, hc1, i1, t1, m1, h1⟩ : PartC) l1 = S at *
  generalize bytesS (⟨g2, k2, a2, len2, cap2, ht2, hv2, hc2, i2, t2, m2, h2⟩ : PartC) l2 = R at *
  have e2 : ¬ S.toList = R.toList := fun e => hSame ((listEq S R).1 e)
  have e3 : (S.toList == R.toList) = false := by rw [beq_eq_false_iff_ne]; exact e2
  have e4 : decide (S.toList = R.toList) = false := decide_eq_false e2
  clear hr1 hr2 hg1 hg2 hT
  clear hl1 hl2 hf1 hf2 hE1 hE2 hI hJ hS
  have hz0 : (0 : Int) < (S.size : Int) := by omega
  have hm0 : (0 : Int) ≤ (n : Int) % (S.size : Int) := Int.emod_nonneg _ (by omega)
  have hm1 : (n : Int) % (S.size : Int) < (S.size : Int) := Int.emod_lt_of_pos _ hz0
  have hcut : n % S.size < S.size := Nat.mod_lt _ (by omega)
  go_enter Try.func5, Try.ntmps5
  go_wp2_with (first
    | (go_at_call 15; ((with_reducible refine (GK.out _).mono ?_); rintro e w1 ⟨rfl, hB1⟩; have hC1 := bel2 hA0 hB1; have hp1 := (hB1.block _ (heap_ltP hp0)).trans hp0; have hq1 := (hB1.block _ (heap_ltP hq0)).trans hq0; obtain ⟨b0, b1, b2, b3, b4, b5, b6, b7, b8, b9⟩ := arr10 hp1))
    | (go_at_call 16; ((with_reducible refine (GF1.out _ hC1).mono ?_); rintro e w2 ⟨rfl, hB2⟩; have hC2 := bel2 hC1 hB2; have hp2 := (hB2.block _ (heap_ltP hp1)).trans hp1; have hq2 := (hB2.block _ (heap_ltP hq1)).trans hq1; obtain ⟨c0, c1, c2, c3, c4, c5, c6, c7, c8, c9⟩ := arr10 hq2))
    | (go_at_call 16; ((with_reducible refine (GF2.out _ hC2).mono ?_); rintro e w3 ⟨rfl, hB3⟩; have hC3 := bel2 hC2 hB3; have hp3 := (hB3.block _ (heap_ltP hp2)).trans hp2; have hq3 := (hB3.block _ (heap_ltP hq2)).trans hq2; obtain ⟨d0, d1, d2, d3, d4, d5, d6, d7, d8, d9⟩ := arr10 hp3))
    | (go_at_call 20; ((with_reducible refine (GI.out _ hC3).mono ?_); rintro e w4 ⟨rfl, hB4⟩; have hC4 := bel2 hC3 hB4; have hp4 := (hB4.block _ (heap_ltP hp3)).trans hp3; have hq4 := (hB4.block _ (heap_ltP hq3)).trans hq3; obtain ⟨e0, e1, e2, e3, e4, e5, e6, e7, e8, e9⟩ := arr10 hp4))
    | (go_at_call 17; ((with_reducible refine (GB1.out _ hC4).mono ?_); rintro e w5 ⟨rfl, hB5⟩; have hC5 := bel2 hC4 hB5; have hp5 := (hB5.block _ (heap_ltP hp4)).trans hp4; have hq5 := (hB5.block _ (heap_ltP hq4)).trans hq4; obtain ⟨f0, f1, f2, f3, f4, f5, f6, f7, f8, f9⟩ := arr10 hq5))
    | (go_at_call 17; ((with_reducible refine (GB2.out _ hC5).mono ?_); rintro e w6 ⟨rfl, hB6⟩; have hC6 := bel2 hC5 hB6; have hp6 := (hB6.block _ (heap_ltP hp5)).trans hp5; have hq6 := (hB6.block _ (heap_ltP hq5)).trans hq5))
    | (go_at_call 25; ((with_reducible refine (GR.out _).mono ?_); rintro e w7 ⟨xa, xc, rfl, hEx, hB7⟩; have hC7 := bel2 hC6 hB7; have hp7 := (hB7.block _ (heap_ltP hp6)).trans hp6; have hq7 := (hB7.block _ (heap_ltP hq6)).trans hq6; have hA7 := bel_alloc (Below.refl w7.heap.size w7) (.cells #[.int .i64 g1, .int .i64 k1, .slice xa len1 xc, .int .i64 ht1, .int .i64 hv1, .int .i64 hc1, .int .i64 i1, .int .i64 t1, .bool m1, .bool h1] 26); have hC7a := bel2 hC7 hA7; have hp7a := (hA7.block _ (heap_ltP hp7)).trans hp7; have hq7a := (hA7.block _ (heap_ltP hq7)).trans hq7; have hx7 := World.alloc_heap_new w7 (.cells #[.int .i64 g1, .int .i64 k1, .slice xa len1 xc, .int .i64 ht1, .int .i64 hv1, .int .i64 hc1, .int .i64 i1, .int .i64 t1, .bool m1, .bool h1] 26); have hEx7 := hEx.below hA7; obtain ⟨s0, s1, s2, s3, s4, s5, s6, s7, s8, s9⟩ := arr10 hp7a; obtain ⟨u0, u1, u2, u3, u4, u5, u6, u7, u8, u9⟩ := arr10 hx7))
    | (go_at_call 24; ((with_reducible refine (GX.out _ _ _ hC7a hEx7).mono ?_); rintro e w8 ⟨rfl, hB8⟩; have hC8 := bel2 hC7a hB8; have hp8 := (hB8.block _ (heap_ltP hp7a)).trans hp7a; have hq8 := (hB8.block _ (heap_ltP hq7a)).trans hq7a; obtain ⟨v0, v1, v2, v3, v4, v5, v6, v7, v8, v9⟩ := arr10 hp8; obtain ⟨z0, z1, z2, z3, z4, z5, z6, z7, z8, z9⟩ := arr10 hq8))
    | (go_at_call 24; ((with_reducible refine (GY.out _ hC8).mono ?_); rintro e w9 ⟨rfl, hB9⟩; have hC9 := bel2 hC8 hB9))
    | (go_at_call 25; ((with_reducible refine (GC.out _ ?_ _).mono ?_); (focus (first | exact hcut | omega)); rintro e w10 ⟨ya, yc, rfl, -, hB10⟩; have hC10 := bel2 hC9 hB10)))
  go_ret
  exact ⟨rfl, bel_alloc hC10 _⟩

end Go.Proofs.Ytpogklceaoiacaa
