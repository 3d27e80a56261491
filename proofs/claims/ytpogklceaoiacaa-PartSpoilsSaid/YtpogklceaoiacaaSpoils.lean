/- Walks of law PartSpoils. -/
import Derived.Test.YtpogklceaoiacaaKnown4
import Derived.Test.YtpogklceaoiacaaOpenPart
import Derived.Laws.AppendOwnNone
namespace Go.Proofs.Ytpogklceaoiacaa
open Go.ChangeShapes Go.WideShapes Go.ChangeAt Go.RowKit Go.Shelf
set_option linter.unusedVariables false
attribute [local go_sem] Oper.semAt_some wide_fn wide_round_fn

theorem few_len {l : List EntryC} (h : fewB l = true) : l.length ≤ 8 := by
  simp only [fewB, Bool.and_eq_true, decide_eq_true_eq] at h; exact h.2
theorem no_g (k : Int) (a : Option Addr) (len cap : Nat) (ht hv hc i t : Int) (m h : Bool) (l : List EntryC) : isB ⟨1000, k, a, len, cap, ht, hv, hc, i, t, m, h⟩ l = false := by
  rw [Bool.eq_false_iff]; intro hh; have := ((isB_iff _ _).1 hh).1; dsimp only at this; omega
theorem no_k (g : Int) (a : Option Addr) (len cap : Nat) (ht hv hc i t : Int) (m h : Bool) (l : List EntryC) : isB ⟨g, 7, a, len, cap, ht, hv, hc, i, t, m, h⟩ l = false := by
  simp [isB, okB]
theorem no_i (g k : Int) (a : Option Addr) (len cap : Nat) (ht hv hc t : Int) (m h : Bool) (l : List EntryC) : isB ⟨g, k, a, len, cap, ht, hv, hc, -1, t, m, h⟩ l = false := by
  rw [Bool.eq_false_iff]; intro hh
  have h2 := ((isB_iff _ _).1 hh).2
  simp only [wB_iff, isFwdB, Bool.and_eq_true, Bool.or_eq_true, Bool.not_eq_true'] at h2
  cases m <;> simp at h2
theorem no_t (g k : Int) (a : Option Addr) (len cap : Nat) (ht hv hc i : Int) (m h : Bool) (l : List EntryC) : isB ⟨g, k, a, len, cap, ht, hv, hc, i, 1099511627777, m, h⟩ l = false := by
  rw [Bool.eq_false_iff]; intro hh
  have h2 := ((isB_iff _ _).1 hh).2
  simp only [wB_iff, isFwdB, Bool.and_eq_true, Bool.or_eq_true, Bool.not_eq_true'] at h2
  cases m <;> simp at h2
theorem no_v (g k : Int) (a : Option Addr) (len cap : Nat) (ht hc i t : Int) (m h : Bool) (l : List EntryC) : isB ⟨g, k, a, len, cap, ht, -1, hc, i, t, m, h⟩ l = false := by
  rw [Bool.eq_false_iff]; intro hh
  have h2 := ((isB_iff _ _).1 hh).2
  simp only [hardB, wB_iff, isFwdB, Bool.and_eq_true, Bool.or_eq_true, Bool.not_eq_true'] at h2
  cases h <;> simp at h2
theorem no_e (g k : Int) (a : Option Addr) (len cap : Nat) (ht hv hc i t : Int) (m h : Bool) (l : List EntryC) : isB ⟨g, k, a, len, cap, ht, hv, hc, i, t, m, h⟩ (l ++ [⟨0, 0, ⟨#[]⟩⟩]) = false := by
  rw [Bool.eq_false_iff]; intro hh
  have h2 := ((isB_iff _ _).1 hh).2
  have h3 : ∀ n, areB n (l ++ [⟨0, 0, ⟨#[]⟩⟩]) = true → False := fun n hn => by
    have := (areB_bd hn).2 ⟨0, 0, ⟨#[]⟩⟩ (by simp)
    have := entryB_bd this
    dsimp only at this; omega
  simp only [isFwdB, Bool.and_eq_true] at h2
  rcases h2 with h | h | h | h | h | h
  · exact h3 _ h.2.2.1
  · exact absurd h.2.2.1 (by simp)
  · exact absurd h.2.2.2.1 (by simp)
  · exact absurd h.2.2.2.1 (by simp)
  · exact absurd h.2.1 (by simp)
  · exact h3 _ h.2.1.2.2.2
theorem isB_nums {p : PartC} {l : List EntryC} (h : isB p l = true) : p.g ≠ 1000 ∧ p.k ≠ 7 ∧ p.i ≠ -1 ∧ p.hv ≠ -1 ∧ p.t ≠ 1099511627777 := by
  obtain ⟨g, k, a, len, cap, ht, hv, hc, i, t, m, hh⟩ := p
  refine ⟨?_, ?_, ?_, ?_, ?_⟩ <;> (dsimp only; rintro rfl)
  · rw [no_g] at h; cases h
  · rw [no_k] at h; cases h
  · rw [no_i] at h; cases h
  · rw [no_v] at h; cases h
  · rw [no_t] at h; cases h

set_option maxRecDepth 100000 in
set_option maxHeartbeats 400000 in
theorem spoils_few (w : World) (g k : Int) (a : Option Addr) (len cap : Nat) (ht hv hc i t : Int) (mk hd : Bool) (l : List EntryC) (hl : l.length = len) (hrow : RowV w a len 3 (entryCells l)) (hge : ∀ e ∈ l, goodEntry e) (n : Nat) (hn : n < 256) (hf : fewB l = false) : Calls Try.prog 6 #[.agg #[.int .i64 g, .int .i64 k, .slice a len cap, .int .i64 ht, .int .i64 hv, .int .i64 hc, .int .i64 i, .int .i64 t, .bool mk, .bool hd], .int .u8 n] w fun e w' => e = .returned (.bool true) ∧ Below w.heap.size w w' := by
  have GK := Lib.hid part_known
  have GF := Lib.hid (fun W (hB : Below w.heap.size w W) => few_any (⟨g, k, a, len, cap, ht, hv, hc, i, t, mk, hd⟩ : PartC) l W hl (hrow.below hB) (fun e he => (hge e he).2.2))
  have hA0 := bel_alloc (Below.refl w.heap.size w) (.cells #[.int .i64 g, .int .i64 k, .slice a len cap, .int .i64 ht, .int .i64 hv, .int .i64 hc, .int .i64 i, .int .i64 t, .bool mk, .bool hd] 26)
  have hp0 := World.alloc_heap_new w (.cells #[.int .i64 g, .int .i64 k, .slice a len cap, .int .i64 ht, .int .i64 hv, .int .i64 hc, .int .i64 i, .int .i64 t, .bool mk, .bool hd] 26)
  rw [hf] at GF
  clear hrow hge hl hf
  go_enter Try.func6, Try.ntmps6
  go_wp2_with (first
      | (go_at_call 15; ((with_reducible refine (GK.out _).mono ?_); rintro e w1 ⟨rfl, hB1⟩; have hp1 := (hB1.block _ (heap_ltP hp0)).trans hp0; have hC1 := bel2 hA0 hB1; obtain ⟨x0, x1, x2, x3, x4, x5, x6, x7, x8, x9⟩ := arr10 hp1))
      | (go_at_call 16; ((with_reducible refine (GF.out _ hC1).mono ?_); rintro e w2 ⟨rfl, hB2⟩; have hp2 := (hB2.block _ (heap_ltP hp1)).trans hp1; have hC2 := bel2 hC1 hB2; obtain ⟨y0, y1, y2, y3, y4, y5, y6, y7, y8, y9⟩ := arr10 hp2)))
  go_ret
  exact ⟨rfl, hC2⟩
set_option maxRecDepth 100000 in
set_option maxHeartbeats 400000 in
theorem spoils_none (w : World) (g k : Int) (a : Option Addr) (len cap : Nat) (ht hv hc i t : Int) (mk hd : Bool) (l : List EntryC) (hl : l.length = len) (hrow : RowV w a len 3 (entryCells l)) (hge : ∀ e ∈ l, goodEntry e) (n : Nat) (hn : n < 256) (hf : fewB l = true) (hI : isB (⟨g, k, a, len, cap, ht, hv, hc, i, t, mk, hd⟩ : PartC) l = false) : Calls Try.prog 6 #[.agg #[.int .i64 g, .int .i64 k, .slice a len cap, .int .i64 ht, .int .i64 hv, .int .i64 hc, .int .i64 i, .int .i64 t, .bool mk, .bool hd], .int .u8 n] w fun e w' => e = .returned (.bool true) ∧ Below w.heap.size w w' := by
  have GK := Lib.hid part_known
  have GF := Lib.hid (fun W (hB : Below w.heap.size w W) => few_any (⟨g, k, a, len, cap, ht, hv, hc, i, t, mk, hd⟩ : PartC) l W hl (hrow.below hB) (fun e he => (hge e he).2.2))
  have hA0 := bel_alloc (Below.refl w.heap.size w) (.cells #[.int .i64 g, .int .i64 k, .slice a len cap, .int .i64 ht, .int .i64 hv, .int .i64 hc, .int .i64 i, .int .i64 t, .bool mk, .bool hd] 26)
  have hp0 := World.alloc_heap_new w (.cells #[.int .i64 g, .int .i64 k, .slice a len cap, .int .i64 ht, .int .i64 hv, .int .i64 hc, .int .i64 i, .int .i64 t, .bool mk, .bool hd] 26)
  rw [hf] at GF
  have hE : HasE w (⟨g, k, a, len, cap, ht, hv, hc, i, t, mk, hd⟩ : PartC) l := ⟨hl, by have := few_len hf; dsimp only; omega, hrow⟩
  have GI := Lib.hid (fun W (hB : Below w.heap.size w W) => is_any (⟨g, k, a, len, cap, ht, hv, hc, i, t, mk, hd⟩ : PartC) l W (hE.below hB))
  rw [hI] at GI
  dsimp only [PartC.val] at GI GF
  clear hrow hge hl hf hE hI
  go_enter Try.func6, Try.ntmps6
  go_wp2_with (first
      | (go_at_call 15; ((with_reducible refine (GK.out _).mono ?_); rintro e w1 ⟨rfl, hB1⟩; have hp1 := (hB1.block _ (heap_ltP hp0)).trans hp0; have hC1 := bel2 hA0 hB1; obtain ⟨x0, x1, x2, x3, x4, x5, x6, x7, x8, x9⟩ := arr10 hp1))
      | (go_at_call 16; ((with_reducible refine (GF.out _ hC1).mono ?_); rintro e w2 ⟨rfl, hB2⟩; have hp2 := (hB2.block _ (heap_ltP hp1)).trans hp1; have hC2 := bel2 hC1 hB2; obtain ⟨y0, y1, y2, y3, y4, y5, y6, y7, y8, y9⟩ := arr10 hp2))
      | (go_at_call 20; ((with_reducible refine (GI.out _ hC2).mono ?_); rintro e w3 ⟨rfl, hB3⟩; have hp3 := (hB3.block _ (heap_ltP hp2)).trans hp2; have hC3 := bel2 hC2 hB3; obtain ⟨z0, z1, z2, z3, z4, z5, z6, z7, z8, z9⟩ := arr10 hp3)))
  go_ret
  exact ⟨rfl, hC3⟩
set_option maxRecDepth 100000 in
set_option maxHeartbeats 400000 in
theorem spoils0 (w : World) (g k : Int) (a : Option Addr) (len cap : Nat) (ht hv hc i t : Int) (mk hd : Bool) (l : List EntryC) (hl : l.length = len) (hrow : RowV w a len 3 (entryCells l)) (hge : ∀ e ∈ l, goodEntry e) (n : Nat) (hn : n < 256) (hf : fewB l = true) (hI : isB (⟨g, k, a, len, cap, ht, hv, hc, i, t, mk, hd⟩ : PartC) l = true) (hq : (n : Int) % 6 = 0) : Calls Try.prog 6 #[.agg #[.int .i64 g, .int .i64 k, .slice a len cap, .int .i64 ht, .int .i64 hv, .int .i64 hc, .int .i64 i, .int .i64 t, .bool mk, .bool hd], .int .u8 n] w fun e w' => e = .returned (.bool true) ∧ Below w.heap.size w w' := by
  have GK := Lib.hid part_known
  have GF := Lib.hid (fun W (hB : Below w.heap.size w W) => few_any (⟨g, k, a, len, cap, ht, hv, hc, i, t, mk, hd⟩ : PartC) l W hl (hrow.below hB) (fun e he => (hge e he).2.2))
  have hA0 := bel_alloc (Below.refl w.heap.size w) (.cells #[.int .i64 g, .int .i64 k, .slice a len cap, .int .i64 ht, .int .i64 hv, .int .i64 hc, .int .i64 i, .int .i64 t, .bool mk, .bool hd] 26)
  have hp0 := World.alloc_heap_new w (.cells #[.int .i64 g, .int .i64 k, .slice a len cap, .int .i64 ht, .int .i64 hv, .int .i64 hc, .int .i64 i, .int .i64 t, .bool mk, .bool hd] 26)
  rw [hf] at GF
  have hE : HasE w (⟨g, k, a, len, cap, ht, hv, hc, i, t, mk, hd⟩ : PartC) l := ⟨hl, by have := few_len hf; dsimp only; omega, hrow⟩
  have hEq : HasE w (⟨1000, k, a, len, cap, ht, hv, hc, i, t, mk, hd⟩ : PartC) l := ⟨hl, by have := few_len hf; dsimp only; omega, hrow⟩
  have GI := Lib.hid (fun W (hB : Below w.heap.size w W) => is_any (⟨g, k, a, len, cap, ht, hv, hc, i, t, mk, hd⟩ : PartC) l W (hE.below hB))
  have GQ := Lib.hid (fun W (hB : Below w.heap.size w W) => is_any (⟨1000, k, a, len, cap, ht, hv, hc, i, t, mk, hd⟩ : PartC) l W (hEq.below hB))
  have GB := Lib.hid (fun W (hB : Below w.heap.size w W) => bytes_no (⟨1000, k, a, len, cap, ht, hv, hc, i, t, mk, hd⟩ : PartC) l W (hEq.below hB) (no_g _ _ _ _ _ _ _ _ _ _ _ _))
  have GS := Lib.hid (fun W (hB : Below w.heap.size w W) => same_any (⟨g, k, a, len, cap, ht, hv, hc, i, t, mk, hd⟩ : PartC) (⟨1000, k, a, len, cap, ht, hv, hc, i, t, mk, hd⟩ : PartC) l l W (hE.below hB) (hEq.below hB))
  have hs : sameB (⟨g, k, a, len, cap, ht, hv, hc, i, t, mk, hd⟩ : PartC) (⟨1000, k, a, len, cap, ht, hv, hc, i, t, mk, hd⟩ : PartC) l l = false := by
    rw [Bool.eq_false_iff]; intro h
    have h2 := isB_nums hI
    have h3 := sameB_iff.1 h
    dsimp only at h2 h3; omega
  rw [hI] at GI
  rw [show isB (⟨1000, k, a, len, cap, ht, hv, hc, i, t, mk, hd⟩ : PartC) l = false from no_g _ _ _ _ _ _ _ _ _ _ _ _] at GQ
  rw [hs] at GS
  dsimp only [PartC.val] at GI GF GQ GB GS
  clear hrow hge hl hf hE hEq hI hs
  go_enter Try.func6, Try.ntmps6
  go_wp2_with (first
      | (go_at_call 15; ((with_reducible refine (GK.out _).mono ?_); rintro e w1 ⟨rfl, hB1⟩; have hp1 := (hB1.block _ (heap_ltP hp0)).trans hp0; have hC1 := bel2 hA0 hB1; obtain ⟨x0, x1, x2, x3, x4, x5, x6, x7, x8, x9⟩ := arr10 hp1))
      | (go_at_call 16; ((with_reducible refine (GF.out _ hC1).mono ?_); rintro e w2 ⟨rfl, hB2⟩; have hp2 := (hB2.block _ (heap_ltP hp1)).trans hp1; have hC2 := bel2 hC1 hB2; obtain ⟨y0, y1, y2, y3, y4, y5, y6, y7, y8, y9⟩ := arr10 hp2))
      | (go_at_call 20; ((with_reducible refine (GI.out _ hC2).mono ?_); rintro e w3 ⟨rfl, hB3⟩; have hp3 := (hB3.block _ (heap_ltP hp2)).trans hp2; have hC3 := bel2 hC2 hB3; obtain ⟨z0, z1, z2, z3, z4, z5, z6, z7, z8, z9⟩ := arr10 hp3; have hA3 := bel_alloc (Below.refl w3.heap.size w3) (.cells #[.int .i64 1000, .int .i64 k, .slice a len cap, .int .i64 ht, .int .i64 hv, .int .i64 hc, .int .i64 i, .int .i64 t, .bool mk, .bool hd] 26); have hC4 := bel2 hC3 hA3; have hp4 := (hA3.block _ (heap_ltP hp3)).trans hp3; have hq4 := World.alloc_heap_new w3 (.cells #[.int .i64 1000, .int .i64 k, .slice a len cap, .int .i64 ht, .int .i64 hv, .int .i64 hc, .int .i64 i, .int .i64 t, .bool mk, .bool hd] 26)))
      | (go_at_call 17; ((with_reducible refine (GB.out _ hC4).mono ?_); rintro e w5 ⟨rfl, hB5⟩; have hC5 := bel2 hC4 hB5; have hp5 := (hB5.block _ (heap_ltP hp4)).trans hp4; have hq5 := (hB5.block _ (heap_ltP hq4)).trans hq4; obtain ⟨u0, u1, u2, u3, u4, u5, u6, u7, u8, u9⟩ := arr10 hq5))
      | (go_at_call 20; ((with_reducible refine (GQ.out _ hC5).mono ?_); rintro e w6 ⟨rfl, hB6⟩; have hC6 := bel2 hC5 hB6; have hp6 := (hB6.block _ (heap_ltP hp5)).trans hp5; have hq6 := (hB6.block _ (heap_ltP hq5)).trans hq5; obtain ⟨v0, v1, v2, v3, v4, v5, v6, v7, v8, v9⟩ := arr10 hq6; obtain ⟨r0, r1, r2, r3, r4, r5, r6, r7, r8, r9⟩ := arr10 hp6))
      | (go_at_call 23; ((with_reducible refine (GS.out _ hC6).mono ?_); rintro e w7 ⟨rfl, hB7⟩; have hC7 := bel2 hC6 hB7)))
  go_ret
  exact ⟨rfl, hC7⟩
set_option maxRecDepth 100000 in
set_option maxHeartbeats 400000 in
theorem spoils1 (w : World) (g k : Int) (a : Option Addr) (len cap : Nat) (ht hv hc i t : Int) (mk hd : Bool) (l : List EntryC) (hl : l.length = len) (hrow : RowV w a len 3 (entryCells l)) (hge : ∀ e ∈ l, goodEntry e) (n : Nat) (hn : n < 256) (hf : fewB l = true) (hI : isB (⟨g, k, a, len, cap, ht, hv, hc, i, t, mk, hd⟩ : PartC) l = true) (hq : (n : Int) % 6 = 1) : Calls Try.prog 6 #[.agg #[.int .i64 g, .int .i64 k, .slice a len cap, .int .i64 ht, .int .i64 hv, .int .i64 hc, .int .i64 i, .int .i64 t, .bool mk, .bool hd], .int .u8 n] w fun e w' => e = .returned (.bool true) ∧ Below w.heap.size w w' := by
  have GK := Lib.hid part_known
  have GF := Lib.hid (fun W (hB : Below w.heap.size w W) => few_any (⟨g, k, a, len, cap, ht, hv, hc, i, t, mk, hd⟩ : PartC) l W hl (hrow.below hB) (fun e he => (hge e he).2.2))
  have hA0 := bel_alloc (Below.refl w.heap.size w) (.cells #[.int .i64 g, .int .i64 k, .slice a len cap, .int .i64 ht, .int .i64 hv, .int .i64 hc, .int .i64 i, .int .i64 t, .bool mk, .bool hd] 26)
  have hp0 := World.alloc_heap_new w (.cells #[.int .i64 g, .int .i64 k, .slice a len cap, .int .i64 ht, .int .i64 hv, .int .i64 hc, .int .i64 i, .int .i64 t, .bool mk, .bool hd] 26)
  rw [hf] at GF
  have hE : HasE w (⟨g, k, a, len, cap, ht, hv, hc, i, t, mk, hd⟩ : PartC) l := ⟨hl, by have := few_len hf; dsimp only; omega, hrow⟩
  have hEq : HasE w (⟨g, 7, a, len, cap, ht, hv, hc, i, t, mk, hd⟩ : PartC) l := ⟨hl, by have := few_len hf; dsimp only; omega, hrow⟩
  have GI := Lib.hid (fun W (hB : Below w.heap.size w W) => is_any (⟨g, k, a, len, cap, ht, hv, hc, i, t, mk, hd⟩ : PartC) l W (hE.below hB))
  have GQ := Lib.hid (fun W (hB : Below w.heap.size w W) => is_any (⟨g, 7, a, len, cap, ht, hv, hc, i, t, mk, hd⟩ : PartC) l W (hEq.below hB))
  have GB := Lib.hid (fun W (hB : Below w.heap.size w W) => bytes_no (⟨g, 7, a, len, cap, ht, hv, hc, i, t, mk, hd⟩ : PartC) l W (hEq.below hB) (no_k _ _ _ _ _ _ _ _ _ _ _ _))
  have GS := Lib.hid (fun W (hB : Below w.heap.size w W) => same_any (⟨g, k, a, len, cap, ht, hv, hc, i, t, mk, hd⟩ : PartC) (⟨g, 7, a, len, cap, ht, hv, hc, i, t, mk, hd⟩ : PartC) l l W (hE.below hB) (hEq.below hB))
  have hs : sameB (⟨g, k, a, len, cap, ht, hv, hc, i, t, mk, hd⟩ : PartC) (⟨g, 7, a, len, cap, ht, hv, hc, i, t, mk, hd⟩ : PartC) l l = false := by
    rw [Bool.eq_false_iff]; intro h
    have h2 := isB_nums hI
    have h3 := sameB_iff.1 h
    dsimp only at h2 h3; omega
  rw [hI] at GI
  rw [show isB (⟨g, 7, a, len, cap, ht, hv, hc, i, t, mk, hd⟩ : PartC) l = false from no_k _ _ _ _ _ _ _ _ _ _ _ _] at GQ
  rw [hs] at GS
  dsimp only [PartC.val] at GI GF GQ GB GS
  clear hrow hge hl hf hE hEq hI hs
  go_enter Try.func6, Try.ntmps6
  go_wp2_with (first
      | (go_at_call 15; ((with_reducible refine (GK.out _).mono ?_); rintro e w1 ⟨rfl, hB1⟩; have hp1 := (hB1.block _ (heap_ltP hp0)).trans hp0; have hC1 := bel2 hA0 hB1; obtain ⟨x0, x1, x2, x3, x4, x5, x6, x7, x8, x9⟩ := arr10 hp1))
      | (go_at_call 16; ((with_reducible refine (GF.out _ hC1).mono ?_); rintro e w2 ⟨rfl, hB2⟩; have hp2 := (hB2.block _ (heap_ltP hp1)).trans hp1; have hC2 := bel2 hC1 hB2; obtain ⟨y0, y1, y2, y3, y4, y5, y6, y7, y8, y9⟩ := arr10 hp2))
      | (go_at_call 20; ((with_reducible refine (GI.out _ hC2).mono ?_); rintro e w3 ⟨rfl, hB3⟩; have hp3 := (hB3.block _ (heap_ltP hp2)).trans hp2; have hC3 := bel2 hC2 hB3; obtain ⟨z0, z1, z2, z3, z4, z5, z6, z7, z8, z9⟩ := arr10 hp3; have hA3 := bel_alloc (Below.refl w3.heap.size w3) (.cells #[.int .i64 g, .int .i64 7, .slice a len cap, .int .i64 ht, .int .i64 hv, .int .i64 hc, .int .i64 i, .int .i64 t, .bool mk, .bool hd] 26); have hC4 := bel2 hC3 hA3; have hp4 := (hA3.block _ (heap_ltP hp3)).trans hp3; have hq4 := World.alloc_heap_new w3 (.cells #[.int .i64 g, .int .i64 7, .slice a len cap, .int .i64 ht, .int .i64 hv, .int .i64 hc, .int .i64 i, .int .i64 t, .bool mk, .bool hd] 26)))
      | (go_at_call 17; ((with_reducible refine (GB.out _ hC4).mono ?_); rintro e w5 ⟨rfl, hB5⟩; have hC5 := bel2 hC4 hB5; have hp5 := (hB5.block _ (heap_ltP hp4)).trans hp4; have hq5 := (hB5.block _ (heap_ltP hq4)).trans hq4; obtain ⟨u0, u1, u2, u3, u4, u5, u6, u7, u8, u9⟩ := arr10 hq5))
      | (go_at_call 20; ((with_reducible refine (GQ.out _ hC5).mono ?_); rintro e w6 ⟨rfl, hB6⟩; have hC6 := bel2 hC5 hB6; have hp6 := (hB6.block _ (heap_ltP hp5)).trans hp5; have hq6 := (hB6.block _ (heap_ltP hq5)).trans hq5; obtain ⟨v0, v1, v2, v3, v4, v5, v6, v7, v8, v9⟩ := arr10 hq6; obtain ⟨r0, r1, r2, r3, r4, r5, r6, r7, r8, r9⟩ := arr10 hp6))
      | (go_at_call 23; ((with_reducible refine (GS.out _ hC6).mono ?_); rintro e w7 ⟨rfl, hB7⟩; have hC7 := bel2 hC6 hB7)))
  go_ret
  exact ⟨rfl, hC7⟩
set_option maxRecDepth 100000 in
set_option maxHeartbeats 400000 in
theorem spoils3 (w : World) (g k : Int) (a : Option Addr) (len cap : Nat) (ht hv hc i t : Int) (mk hd : Bool) (l : List EntryC) (hl : l.length = len) (hrow : RowV w a len 3 (entryCells l)) (hge : ∀ e ∈ l, goodEntry e) (n : Nat) (hn : n < 256) (hf : fewB l = true) (hI : isB (⟨g, k, a, len, cap, ht, hv, hc, i, t, mk, hd⟩ : PartC) l = true) (hq : (n : Int) % 6 = 3) : Calls Try.prog 6 #[.agg #[.int .i64 g, .int .i64 k, .slice a len cap, .int .i64 ht, .int .i64 hv, .int .i64 hc, .int .i64 i, .int .i64 t, .bool mk, .bool hd], .int .u8 n] w fun e w' => e = .returned (.bool true) ∧ Below w.heap.size w w' := by
  have GK := Lib.hid part_known
  have GF := Lib.hid (fun W (hB : Below w.heap.size w W) => few_any (⟨g, k, a, len, cap, ht, hv, hc, i, t, mk, hd⟩ : PartC) l W hl (hrow.below hB) (fun e he => (hge e he).2.2))
  have hA0 := bel_alloc (Below.refl w.heap.size w) (.cells #[.int .i64 g, .int .i64 k, .slice a len cap, .int .i64 ht, .int .i64 hv, .int .i64 hc, .int .i64 i, .int .i64 t, .bool mk, .bool hd] 26)
  have hp0 := World.alloc_heap_new w (.cells #[.int .i64 g, .int .i64 k, .slice a len cap, .int .i64 ht, .int .i64 hv, .int .i64 hc, .int .i64 i, .int .i64 t, .bool mk, .bool hd] 26)
  rw [hf] at GF
  have hE : HasE w (⟨g, k, a, len, cap, ht, hv, hc, i, t, mk, hd⟩ : PartC) l := ⟨hl, by have := few_len hf; dsimp only; omega, hrow⟩
  have hEq : HasE w (⟨g, k, a, len, cap, ht, hv, hc, (-1 : Int), t, mk, hd⟩ : PartC) l := ⟨hl, by have := few_len hf; dsimp only; omega, hrow⟩
  have GI := Lib.hid (fun W (hB : Below w.heap.size w W) => is_any (⟨g, k, a, len, cap, ht, hv, hc, i, t, mk, hd⟩ : PartC) l W (hE.below hB))
  have GQ := Lib.hid (fun W (hB : Below w.heap.size w W) => is_any (⟨g, k, a, len, cap, ht, hv, hc, (-1 : Int), t, mk, hd⟩ : PartC) l W (hEq.below hB))
  have GB := Lib.hid (fun W (hB : Below w.heap.size w W) => bytes_no (⟨g, k, a, len, cap, ht, hv, hc, (-1 : Int), t, mk, hd⟩ : PartC) l W (hEq.below hB) (no_i _ _ _ _ _ _ _ _ _ _ _ _))
  have GS := Lib.hid (fun W (hB : Below w.heap.size w W) => same_any (⟨g, k, a, len, cap, ht, hv, hc, i, t, mk, hd⟩ : PartC) (⟨g, k, a, len, cap, ht, hv, hc, (-1 : Int), t, mk, hd⟩ : PartC) l l W (hE.below hB) (hEq.below hB))
  have hs : sameB (⟨g, k, a, len, cap, ht, hv, hc, i, t, mk, hd⟩ : PartC) (⟨g, k, a, len, cap, ht, hv, hc, (-1 : Int), t, mk, hd⟩ : PartC) l l = false := by
    rw [Bool.eq_false_iff]; intro h
    have h2 := isB_nums hI
    have h3 := sameB_iff.1 h
    dsimp only at h2 h3; omega
  rw [hI] at GI
  rw [show isB (⟨g, k, a, len, cap, ht, hv, hc, (-1 : Int), t, mk, hd⟩ : PartC) l = false from no_i _ _ _ _ _ _ _ _ _ _ _ _] at GQ
  rw [hs] at GS
  dsimp only [PartC.val] at GI GF GQ GB GS
  clear hrow hge hl hf hE hEq hI hs
  go_enter Try.func6, Try.ntmps6
  go_wp2_with (first
      | (go_at_call 15; ((with_reducible refine (GK.out _).mono ?_); rintro e w1 ⟨rfl, hB1⟩; have hp1 := (hB1.block _ (heap_ltP hp0)).trans hp0; have hC1 := bel2 hA0 hB1; obtain ⟨x0, x1, x2, x3, x4, x5, x6, x7, x8, x9⟩ := arr10 hp1))
      | (go_at_call 16; ((with_reducible refine (GF.out _ hC1).mono ?_); rintro e w2 ⟨rfl, hB2⟩; have hp2 := (hB2.block _ (heap_ltP hp1)).trans hp1; have hC2 := bel2 hC1 hB2; obtain ⟨y0, y1, y2, y3, y4, y5, y6, y7, y8, y9⟩ := arr10 hp2))
      | (go_at_call 20; ((with_reducible refine (GI.out _ hC2).mono ?_); rintro e w3 ⟨rfl, hB3⟩; have hp3 := (hB3.block _ (heap_ltP hp2)).trans hp2; have hC3 := bel2 hC2 hB3; obtain ⟨z0, z1, z2, z3, z4, z5, z6, z7, z8, z9⟩ := arr10 hp3; have hA3 := bel_alloc (Below.refl w3.heap.size w3) (.cells #[.int .i64 g, .int .i64 k, .slice a len cap, .int .i64 ht, .int .i64 hv, .int .i64 hc, .int .i64 (-1 : Int), .int .i64 t, .bool mk, .bool hd] 26); have hC4 := bel2 hC3 hA3; have hp4 := (hA3.block _ (heap_ltP hp3)).trans hp3; have hq4 := World.alloc_heap_new w3 (.cells #[.int .i64 g, .int .i64 k, .slice a len cap, .int .i64 ht, .int .i64 hv, .int .i64 hc, .int .i64 (-1 : Int), .int .i64 t, .bool mk, .bool hd] 26)))
      | (go_at_call 17; ((with_reducible refine (GB.out _ hC4).mono ?_); rintro e w5 ⟨rfl, hB5⟩; have hC5 := bel2 hC4 hB5; have hp5 := (hB5.block _ (heap_ltP hp4)).trans hp4; have hq5 := (hB5.block _ (heap_ltP hq4)).trans hq4; obtain ⟨u0, u1, u2, u3, u4, u5, u6, u7, u8, u9⟩ := arr10 hq5))
      | (go_at_call 20; ((with_reducible refine (GQ.out _ hC5).mono ?_); rintro e w6 ⟨rfl, hB6⟩; have hC6 := bel2 hC5 hB6; have hp6 := (hB6.block _ (heap_ltP hp5)).trans hp5; have hq6 := (hB6.block _ (heap_ltP hq5)).trans hq5; obtain ⟨v0, v1, v2, v3, v4, v5, v6, v7, v8, v9⟩ := arr10 hq6; obtain ⟨r0, r1, r2, r3, r4, r5, r6, r7, r8, r9⟩ := arr10 hp6))
      | (go_at_call 23; ((with_reducible refine (GS.out _ hC6).mono ?_); rintro e w7 ⟨rfl, hB7⟩; have hC7 := bel2 hC6 hB7)))
  go_ret
  exact ⟨rfl, hC7⟩
set_option maxRecDepth 100000 in
set_option maxHeartbeats 400000 in
theorem spoils4 (w : World) (g k : Int) (a : Option Addr) (len cap : Nat) (ht hv hc i t : Int) (mk hd : Bool) (l : List EntryC) (hl : l.length = len) (hrow : RowV w a len 3 (entryCells l)) (hge : ∀ e ∈ l, goodEntry e) (n : Nat) (hn : n < 256) (hf : fewB l = true) (hI : isB (⟨g, k, a, len, cap, ht, hv, hc, i, t, mk, hd⟩ : PartC) l = true) (hq : (n : Int) % 6 = 4) : Calls Try.prog 6 #[.agg #[.int .i64 g, .int .i64 k, .slice a len cap, .int .i64 ht, .int .i64 hv, .int .i64 hc, .int .i64 i, .int .i64 t, .bool mk, .bool hd], .int .u8 n] w fun e w' => e = .returned (.bool true) ∧ Below w.heap.size w w' := by
  have GK := Lib.hid part_known
  have GF := Lib.hid (fun W (hB : Below w.heap.size w W) => few_any (⟨g, k, a, len, cap, ht, hv, hc, i, t, mk, hd⟩ : PartC) l W hl (hrow.below hB) (fun e he => (hge e he).2.2))
  have hA0 := bel_alloc (Below.refl w.heap.size w) (.cells #[.int .i64 g, .int .i64 k, .slice a len cap, .int .i64 ht, .int .i64 hv, .int .i64 hc, .int .i64 i, .int .i64 t, .bool mk, .bool hd] 26)
  have hp0 := World.alloc_heap_new w (.cells #[.int .i64 g, .int .i64 k, .slice a len cap, .int .i64 ht, .int .i64 hv, .int .i64 hc, .int .i64 i, .int .i64 t, .bool mk, .bool hd] 26)
  rw [hf] at GF
  have hE : HasE w (⟨g, k, a, len, cap, ht, hv, hc, i, t, mk, hd⟩ : PartC) l := ⟨hl, by have := few_len hf; dsimp only; omega, hrow⟩
  have hEq : HasE w (⟨g, k, a, len, cap, ht, (-1 : Int), hc, i, t, mk, hd⟩ : PartC) l := ⟨hl, by have := few_len hf; dsimp only; omega, hrow⟩
  have GI := Lib.hid (fun W (hB : Below w.heap.size w W) => is_any (⟨g, k, a, len, cap, ht, hv, hc, i, t, mk, hd⟩ : PartC) l W (hE.below hB))
  have GQ := Lib.hid (fun W (hB : Below w.heap.size w W) => is_any (⟨g, k, a, len, cap, ht, (-1 : Int), hc, i, t, mk, hd⟩ : PartC) l W (hEq.below hB))
  have GB := Lib.hid (fun W (hB : Below w.heap.size w W) => bytes_no (⟨g, k, a, len, cap, ht, (-1 : Int), hc, i, t, mk, hd⟩ : PartC) l W (hEq.below hB) (no_v _ _ _ _ _ _ _ _ _ _ _ _))
  have GS := Lib.hid (fun W (hB : Below w.heap.size w W) => same_any (⟨g, k, a, len, cap, ht, hv, hc, i, t, mk, hd⟩ : PartC) (⟨g, k, a, len, cap, ht, (-1 : Int), hc, i, t, mk, hd⟩ : PartC) l l W (hE.below hB) (hEq.below hB))
  have hs : sameB (⟨g, k, a, len, cap, ht, hv, hc, i, t, mk, hd⟩ : PartC) (⟨g, k, a, len, cap, ht, (-1 : Int), hc, i, t, mk, hd⟩ : PartC) l l = false := by
    rw [Bool.eq_false_iff]; intro h
    have h2 := isB_nums hI
    have h3 := sameB_iff.1 h
    dsimp only at h2 h3; omega
  rw [hI] at GI
  rw [show isB (⟨g, k, a, len, cap, ht, (-1 : Int), hc, i, t, mk, hd⟩ : PartC) l = false from no_v _ _ _ _ _ _ _ _ _ _ _ _] at GQ
  rw [hs] at GS
  dsimp only [PartC.val] at GI GF GQ GB GS
  clear hrow hge hl hf hE hEq hI hs
  go_enter Try.func6, Try.ntmps6
  go_wp2_with (first
      | (go_at_call 15; ((with_reducible refine (GK.out _).mono ?_); rintro e w1 ⟨rfl, hB1⟩; have hp1 := (hB1.block _ (heap_ltP hp0)).trans hp0; have hC1 := bel2 hA0 hB1; obtain ⟨x0, x1, x2, x3, x4, x5, x6, x7, x8, x9⟩ := arr10 hp1))
      | (go_at_call 16; ((with_reducible refine (GF.out _ hC1).mono ?_); rintro e w2 ⟨rfl, hB2⟩; have hp2 := (hB2.block _ (heap_ltP hp1)).trans hp1; have hC2 := bel2 hC1 hB2; obtain ⟨y0, y1, y2, y3, y4, y5, y6, y7, y8, y9⟩ := arr10 hp2))
      | (go_at_call 20; ((with_reducible refine (GI.out _ hC2).mono ?_); rintro e w3 ⟨rfl, hB3⟩; have hp3 := (hB3.block _ (heap_ltP hp2)).trans hp2; have hC3 := bel2 hC2 hB3; obtain ⟨z0, z1, z2, z3, z4, z5, z6, z7, z8, z9⟩ := arr10 hp3; have hA3 := bel_alloc (Below.refl w3.heap.size w3) (.cells #[.int .i64 g, .int .i64 k, .slice a len cap, .int .i64 ht, .int .i64 (-1 : Int), .int .i64 hc, .int .i64 i, .int .i64 t, .bool mk, .bool hd] 26); have hC4 := bel2 hC3 hA3; have hp4 := (hA3.block _ (heap_ltP hp3)).trans hp3; have hq4 := World.alloc_heap_new w3 (.cells #[.int .i64 g, .int .i64 k, .slice a len cap, .int .i64 ht, .int .i64 (-1 : Int), .int .i64 hc, .int .i64 i, .int .i64 t, .bool mk, .bool hd] 26)))
      | (go_at_call 17; ((with_reducible refine (GB.out _ hC4).mono ?_); rintro e w5 ⟨rfl, hB5⟩; have hC5 := bel2 hC4 hB5; have hp5 := (hB5.block _ (heap_ltP hp4)).trans hp4; have hq5 := (hB5.block _ (heap_ltP hq4)).trans hq4; obtain ⟨u0, u1, u2, u3, u4, u5, u6, u7, u8, u9⟩ := arr10 hq5))
      | (go_at_call 20; ((with_reducible refine (GQ.out _ hC5).mono ?_); rintro e w6 ⟨rfl, hB6⟩; have hC6 := bel2 hC5 hB6; have hp6 := (hB6.block _ (heap_ltP hp5)).trans hp5; have hq6 := (hB6.block _ (heap_ltP hq5)).trans hq5; obtain ⟨v0, v1, v2, v3, v4, v5, v6, v7, v8, v9⟩ := arr10 hq6; obtain ⟨r0, r1, r2, r3, r4, r5, r6, r7, r8, r9⟩ := arr10 hp6))
      | (go_at_call 23; ((with_reducible refine (GS.out _ hC6).mono ?_); rintro e w7 ⟨rfl, hB7⟩; have hC7 := bel2 hC6 hB7)))
  go_ret
  exact ⟨rfl, hC7⟩
set_option maxRecDepth 100000 in
set_option maxHeartbeats 400000 in
theorem spoils5 (w : World) (g k : Int) (a : Option Addr) (len cap : Nat) (ht hv hc i t : Int) (mk hd : Bool) (l : List EntryC) (hl : l.length = len) (hrow : RowV w a len 3 (entryCells l)) (hge : ∀ e ∈ l, goodEntry e) (n : Nat) (hn : n < 256) (hf : fewB l = true) (hI : isB (⟨g, k, a, len, cap, ht, hv, hc, i, t, mk, hd⟩ : PartC) l = true) (hq : (n : Int) % 6 = 5) : Calls Try.prog 6 #[.agg #[.int .i64 g, .int .i64 k, .slice a len cap, .int .i64 ht, .int .i64 hv, .int .i64 hc, .int .i64 i, .int .i64 t, .bool mk, .bool hd], .int .u8 n] w fun e w' => e = .returned (.bool true) ∧ Below w.heap.size w w' := by
  have GK := Lib.hid part_known
  have GF := Lib.hid (fun W (hB : Below w.heap.size w W) => few_any (⟨g, k, a, len, cap, ht, hv, hc, i, t, mk, hd⟩ : PartC) l W hl (hrow.below hB) (fun e he => (hge e he).2.2))
  have hA0 := bel_alloc (Below.refl w.heap.size w) (.cells #[.int .i64 g, .int .i64 k, .slice a len cap, .int .i64 ht, .int .i64 hv, .int .i64 hc, .int .i64 i, .int .i64 t, .bool mk, .bool hd] 26)
  have hp0 := World.alloc_heap_new w (.cells #[.int .i64 g, .int .i64 k, .slice a len cap, .int .i64 ht, .int .i64 hv, .int .i64 hc, .int .i64 i, .int .i64 t, .bool mk, .bool hd] 26)
  rw [hf] at GF
  have hE : HasE w (⟨g, k, a, len, cap, ht, hv, hc, i, t, mk, hd⟩ : PartC) l := ⟨hl, by have := few_len hf; dsimp only; omega, hrow⟩
  have hEq : HasE w (⟨g, k, a, len, cap, ht, hv, hc, i, 1099511627777, mk, hd⟩ : PartC) l := ⟨hl, by have := few_len hf; dsimp only; omega, hrow⟩
  have GI := Lib.hid (fun W (hB : Below w.heap.size w W) => is_any (⟨g, k, a, len, cap, ht, hv, hc, i, t, mk, hd⟩ : PartC) l W (hE.below hB))
  have GQ := Lib.hid (fun W (hB : Below w.heap.size w W) => is_any (⟨g, k, a, len, cap, ht, hv, hc, i, 1099511627777, mk, hd⟩ : PartC) l W (hEq.below hB))
  have GB := Lib.hid (fun W (hB : Below w.heap.size w W) => bytes_no (⟨g, k, a, len, cap, ht, hv, hc, i, 1099511627777, mk, hd⟩ : PartC) l W (hEq.below hB) (no_t _ _ _ _ _ _ _ _ _ _ _ _))
  have GS := Lib.hid (fun W (hB : Below w.heap.size w W) => same_any (⟨g, k, a, len, cap, ht, hv, hc, i, t, mk, hd⟩ : PartC) (⟨g, k, a, len, cap, ht, hv, hc, i, 1099511627777, mk, hd⟩ : PartC) l l W (hE.below hB) (hEq.below hB))
  have hs : sameB (⟨g, k, a, len, cap, ht, hv, hc, i, t, mk, hd⟩ : PartC) (⟨g, k, a, len, cap, ht, hv, hc, i, 1099511627777, mk, hd⟩ : PartC) l l = false := by
    rw [Bool.eq_false_iff]; intro h
    have h2 := isB_nums hI
    have h3 := sameB_iff.1 h
    dsimp only at h2 h3; omega
  rw [hI] at GI
  rw [show isB (⟨g, k, a, len, cap, ht, hv, hc, i, 1099511627777, mk, hd⟩ : PartC) l = false from no_t _ _ _ _ _ _ _ _ _ _ _ _] at GQ
  rw [hs] at GS
  dsimp only [PartC.val] at GI GF GQ GB GS
  clear hrow hge hl hf hE hEq hI hs
  go_enter Try.func6, Try.ntmps6
  go_wp2_with (first
      | (go_at_call 15; ((with_reducible refine (GK.out _).mono ?_); rintro e w1 ⟨rfl, hB1⟩; have hp1 := (hB1.block _ (heap_ltP hp0)).trans hp0; have hC1 := bel2 hA0 hB1; obtain ⟨x0, x1, x2, x3, x4, x5, x6, x7, x8, x9⟩ := arr10 hp1))
      | (go_at_call 16; ((with_reducible refine (GF.out _ hC1).mono ?_); rintro e w2 ⟨rfl, hB2⟩; have hp2 := (hB2.block _ (heap_ltP hp1)).trans hp1; have hC2 := bel2 hC1 hB2; obtain ⟨y0, y1, y2, y3, y4, y5, y6, y7, y8, y9⟩ := arr10 hp2))
      | (go_at_call 20; ((with_reducible refine (GI.out _ hC2).mono ?_); rintro e w3 ⟨rfl, hB3⟩; have hp3 := (hB3.block _ (heap_ltP hp2)).trans hp2; have hC3 := bel2 hC2 hB3; obtain ⟨z0, z1, z2, z3, z4, z5, z6, z7, z8, z9⟩ := arr10 hp3; have hA3 := bel_alloc (Below.refl w3.heap.size w3) (.cells #[.int .i64 g, .int .i64 k, .slice a len cap, .int .i64 ht, .int .i64 hv, .int .i64 hc, .int .i64 i, .int .i64 1099511627777, .bool mk, .bool hd] 26); have hC4 := bel2 hC3 hA3; have hp4 := (hA3.block _ (heap_ltP hp3)).trans hp3; have hq4 := World.alloc_heap_new w3 (.cells #[.int .i64 g, .int .i64 k, .slice a len cap, .int .i64 ht, .int .i64 hv, .int .i64 hc, .int .i64 i, .int .i64 1099511627777, .bool mk, .bool hd] 26)))
      | (go_at_call 17; ((with_reducible refine (GB.out _ hC4).mono ?_); rintro e w5 ⟨rfl, hB5⟩; have hC5 := bel2 hC4 hB5; have hp5 := (hB5.block _ (heap_ltP hp4)).trans hp4; have hq5 := (hB5.block _ (heap_ltP hq4)).trans hq4; obtain ⟨u0, u1, u2, u3, u4, u5, u6, u7, u8, u9⟩ := arr10 hq5))
      | (go_at_call 20; ((with_reducible refine (GQ.out _ hC5).mono ?_); rintro e w6 ⟨rfl, hB6⟩; have hC6 := bel2 hC5 hB6; have hp6 := (hB6.block _ (heap_ltP hp5)).trans hp5; have hq6 := (hB6.block _ (heap_ltP hq5)).trans hq5; obtain ⟨v0, v1, v2, v3, v4, v5, v6, v7, v8, v9⟩ := arr10 hq6; obtain ⟨r0, r1, r2, r3, r4, r5, r6, r7, r8, r9⟩ := arr10 hp6))
      | (go_at_call 23; ((with_reducible refine (GS.out _ hC6).mono ?_); rintro e w7 ⟨rfl, hB7⟩; have hC7 := bel2 hC6 hB7)))
  go_ret
  exact ⟨rfl, hC7⟩

end Go.Proofs.Ytpogklceaoiacaa
