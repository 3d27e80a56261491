/- Walks of law PartSpoils: one entry more. -/
import Derived.Test.YtpogklceaoiacaaSpoils
import Derived.Test.YtpogklceaoiacaaOpenPart
import Derived.Laws.AppendOwnNone
namespace Go.Proofs.Ytpogklceaoiacaa
open Go.ChangeShapes Go.WideShapes Go.ChangeAt Go.RowKit Go.Shelf
set_option linter.unusedVariables false
attribute [local go_sem] Oper.semAt_some wide_fn wide_round_fn

set_option maxRecDepth 100000 in
set_option maxHeartbeats 100000 in
theorem bytes_noE (g k : Int) (a : Option Addr) (len cap : Nat) (ht hv hc i t : Int) (m h : Bool) (l : List EntryC) (W : World) (hE : HasE W (⟨g, k, a, len, cap, ht, hv, hc, i, t, m, h⟩ : PartC) (l ++ [⟨0, 0, ⟨#[]⟩⟩])) :
    Gives Try.prog 17 #[.agg #[.int .i64 g, .int .i64 k, .slice a len cap, .int .i64 ht, .int .i64 hv, .int .i64 hc, .int .i64 i, .int .i64 t, .bool m, .bool h]] W (.tuple #[.string ⟨#[]⟩, .int .i64 11]) := by
  have hn := no_e g k a len cap ht hv hc i t m h l
  generalize l ++ [⟨0, 0, ⟨#[]⟩⟩] = l2 at *
  have := bytes_no (⟨g, k, a, len, cap, ht, hv, hc, i, t, m, h⟩ : PartC) l2 W hE hn
  exact this
set_option maxRecDepth 100000 in
set_option maxHeartbeats 100000 in
theorem is_noE (g k : Int) (a : Option Addr) (len cap : Nat) (ht hv hc i t : Int) (m h : Bool) (l : List EntryC) (W : World) (hE : HasE W (⟨g, k, a, len, cap, ht, hv, hc, i, t, m, h⟩ : PartC) (l ++ [⟨0, 0, ⟨#[]⟩⟩])) :
    Gives Try.prog 20 #[.agg #[.int .i64 g, .int .i64 k, .slice a len cap, .int .i64 ht, .int .i64 hv, .int .i64 hc, .int .i64 i, .int .i64 t, .bool m, .bool h]] W (.bool false) := by
  have hn := no_e g k a len cap ht hv hc i t m h l
  generalize l ++ [⟨0, 0, ⟨#[]⟩⟩] = l2 at *
  have := is_any _ _ W hE
  rwa [hn] at this

set_option maxRecDepth 100000 in
set_option maxHeartbeats 400000 in
theorem spoils2s (w : World) (g k : Int) (a : Option Addr) (len cap : Nat) (ht hv hc i t : Int) (mk hd : Bool) (l : List EntryC) (hl : l.length = len) (hrow : RowV w a len 3 (entryCells l)) (hge : ∀ e ∈ l, goodEntry e) (n : Nat) (hn : n < 256) (hf : fewB l = true) (hI : isB (⟨g, k, a, len, cap, ht, hv, hc, i, t, mk, hd⟩ : PartC) l = true) (hq : (n : Int) % 6 = 2) (ad : Addr) (ha : a = some ad) : Calls Try.prog 6 #[.agg #[.int .i64 g, .int .i64 k, .slice a len cap, .int .i64 ht, .int .i64 hv, .int .i64 hc, .int .i64 i, .int .i64 t, .bool mk, .bool hd], .int .u8 n] w fun e w' => e = .returned (.bool true) ∧ Below w.heap.size w w' := by
  obtain ⟨i0, hi, hz0, hz1, hz2⟩ := info_parts infoEntry
  have hl8 := few_len hf
  subst ha
  have GK := Lib.hid part_known
  have GF := Lib.hid (fun W (hB : Below w.heap.size w W) => few_any (⟨g, k, some ad, len, cap, ht, hv, hc, i, t, mk, hd⟩ : PartC) l W hl (hrow.below hB) (fun e he => (hge e he).2.2))
  have hA0 := bel_alloc (Below.refl w.heap.size w) (.cells #[.int .i64 g, .int .i64 k, .slice (some ad) len cap, .int .i64 ht, .int .i64 hv, .int .i64 hc, .int .i64 i, .int .i64 t, .bool mk, .bool hd] 26)
  have hp0 := World.alloc_heap_new w (.cells #[.int .i64 g, .int .i64 k, .slice (some ad) len cap, .int .i64 ht, .int .i64 hv, .int .i64 hc, .int .i64 i, .int .i64 t, .bool mk, .bool hd] 26)
  rw [hf] at GF
  have hE : HasE w (⟨g, k, some ad, len, cap, ht, hv, hc, i, t, mk, hd⟩ : PartC) l := ⟨hl, by dsimp only; omega, hrow⟩
  have hs : ∀ qb qc, sameB (⟨g, k, some ad, len, cap, ht, hv, hc, i, t, mk, hd⟩ : PartC) (⟨g, k, (some ⟨qb, 0, none⟩), (len + 1), qc, ht, hv, hc, i, t, mk, hd⟩ : PartC) l (l ++ [⟨0, 0, ⟨#[]⟩⟩]) = false := fun qb qc => by
    rw [Bool.eq_false_iff]; intro h
    have h3 := (sameB_iff.1 h).2.2.1
    have := congrArg List.length h3
    simp at this
  have GI := Lib.hid (fun W (hB : Below w.heap.size w W) => is_any (⟨g, k, some ad, len, cap, ht, hv, hc, i, t, mk, hd⟩ : PartC) l W (hE.below hB))
  have GQ := Lib.hid (fun qb qc W (h : HasE W (⟨g, k, (some ⟨qb, 0, none⟩), (len + 1), qc, ht, hv, hc, i, t, mk, hd⟩ : PartC) (l ++ [⟨0, 0, ⟨#[]⟩⟩])) => is_noE g k (some ⟨qb, 0, none⟩) (len + 1) qc ht hv hc i t mk hd l W h)
  have GB := Lib.hid (fun qb qc W (h : HasE W (⟨g, k, (some ⟨qb, 0, none⟩), (len + 1), qc, ht, hv, hc, i, t, mk, hd⟩ : PartC) (l ++ [⟨0, 0, ⟨#[]⟩⟩])) => bytes_noE g k (some ⟨qb, 0, none⟩) (len + 1) qc ht hv hc i t mk hd l W h)
  have GS := Lib.hid (fun qb qc W (hB : Below w.heap.size w W) (h : HasE W (⟨g, k, (some ⟨qb, 0, none⟩), (len + 1), qc, ht, hv, hc, i, t, mk, hd⟩ : PartC) (l ++ [⟨0, 0, ⟨#[]⟩⟩])) => same_any (⟨g, k, some ad, len, cap, ht, hv, hc, i, t, mk, hd⟩ : PartC) (⟨g, k, (some ⟨qb, 0, none⟩), (len + 1), qc, ht, hv, hc, i, t, mk, hd⟩ : PartC) l (l ++ [⟨0, 0, ⟨#[]⟩⟩]) W (hE.below hB) h)
  simp only [hs] at GS
  rw [hI] at GI
  dsimp only [PartC.val] at GI GF GS
  have HL := Lib.hid hl
  have HLL := Lib.hid (show (entryCells l).length = len * 3 by rw [entryCells, flat_len EntryC.cells 3 EntryC.len, hl])
  have HO := Lib.hid (show ∀ u ∈ entryCells l, u.oneCell' = true from fun u hu => by simp only [entryCells, List.mem_flatten, List.mem_map] at hu; obtain ⟨_, ⟨e, _, rfl⟩, hu⟩ := hu; simp [EntryC.cells] at hu; rcases hu with rfl | rfl | rfl <;> rfl)
  have HN := Lib.hid (show ∀ W, Below w.heap.size w W → ∀ j u, (entryCells l)[j]? = some u → W.cell? (ad.add j) = some u from fun W hB j u hu => by obtain ⟨hj, rfl⟩ := List.getElem?_eq_some_iff.1 hu; obtain ⟨b, off, e, hb, hc⟩ := hrow.2.2 (by have := HLL.out; omega); cases e; rw [add_off]; exact (hB.cell (p := ⟨b, off + j, none⟩) hb).trans (hc j hj))
  have hlen : len + 1 < 1000000 := by omega
  clear hrow hge hl hf hE hI hs
  go_enter Try.func6, Try.ntmps6
  go_wp2_with (first
      | (go_at_call 15; ((with_reducible refine (GK.out _).mono ?_); rintro e w1 ⟨rfl, hB1⟩; have hp1 := (hB1.block _ (heap_ltP hp0)).trans hp0; have hC1 := bel2 hA0 hB1; obtain ⟨x0, x1, x2, x3, x4, x5, x6, x7, x8, x9⟩ := arr10 hp1))
      | (go_at_call 16; ((with_reducible refine (GF.out _ hC1).mono ?_); rintro e w2 ⟨rfl, hB2⟩; have hp2 := (hB2.block _ (heap_ltP hp1)).trans hp1; have hC2 := bel2 hC1 hB2; obtain ⟨y0, y1, y2, y3, y4, y5, y6, y7, y8, y9⟩ := arr10 hp2))
      | (go_at_call 20; ((with_reducible refine (GI.out _ hC2).mono ?_); rintro e w3 ⟨rfl, hB3⟩; have hp3 := (hB3.block _ (heap_ltP hp2)).trans hp2; have hC3 := bel2 hC2 hB3; obtain ⟨z0, z1, z2, z3, z4, z5, z6, z7, z8, z9⟩ := arr10 hp3; have hA3 := bel_alloc (Below.refl w3.heap.size w3) (.cells #[.int .i64 g, .int .i64 k, .slice (some ad) len cap, .int .i64 ht, .int .i64 hv, .int .i64 hc, .int .i64 i, .int .i64 t, .bool mk, .bool hd] 26); have hC4 := bel2 hC3 hA3; have hp4 := (hA3.block _ (heap_ltP hp3)).trans hp3; have hq4 := World.alloc_heap_new w3 (.cells #[.int .i64 g, .int .i64 k, .slice (some ad) len cap, .int .i64 ht, .int .i64 hv, .int .i64 hc, .int .i64 i, .int .i64 t, .bool mk, .bool hd] 26); have c24 : (w3.alloc (.cells #[.int .i64 g, .int .i64 k, .slice (some ad) len cap, .int .i64 ht, .int .i64 hv, .int .i64 hc, .int .i64 i, .int .i64 t, .bool mk, .bool hd] 26)).cell? ⟨w.heap.size, 2, none⟩ = some (.slice (some ad) len cap) := cell_of_row _ _ 2 _ _ _ hp4))
      | (at_builtin; refine wpList_append_own _ rfl (.const (.slice none 0 0)) (.tmp 31) 22 rfl (w3.alloc (.cells #[.int .i64 g, .int .i64 k, .slice (some ad) len cap, .int .i64 ht, .int .i64 hv, .int .i64 hc, .int .i64 i, .int .i64 t, .bool mk, .bool hd] 26)).heap.size 28 i0 (.agg #[.int .i64 0, .int .i64 0, .string ⟨#[]⟩]) 3 32 Try.underlying22 hi hz0 hz1 hz2 rfl (by decide) (.slice none 0 0) 0 [] rfl (World.ownsRow_nil _ _ _ _) ad len cap (entryCells l) rfl HLL.out (HN.out _ hC4) HO.out (by unfold maxLen; omega) (by omega) (Nat.le_refl _) ?_; intro v1 wa hown1 hgrow1 _; simp only [Nat.zero_add, List.nil_append] at hown1; have hBa := (Below.refl (w3.alloc (.cells #[.int .i64 g, .int .i64 k, .slice (some ad) len cap, .int .i64 ht, .int .i64 hv, .int .i64 hc, .int .i64 i, .int .i64 t, .bool mk, .bool hd] 26)).heap.size (w3.alloc (.cells #[.int .i64 g, .int .i64 k, .slice (some ad) len cap, .int .i64 ht, .int .i64 hv, .int .i64 hc, .int .i64 i, .int .i64 t, .bool mk, .bool hd] 26))).grown hgrow1 (Nat.le_refl _) (fun k hk => by simp [Value.ownBlock] at hk))
      | (at_builtin; refine wpList_append_own _ rfl (.tmp 32) (.tmp 34) 22 rfl (w3.alloc (.cells #[.int .i64 g, .int .i64 k, .slice (some ad) len cap, .int .i64 ht, .int .i64 hv, .int .i64 hc, .int .i64 i, .int .i64 t, .bool mk, .bool hd] 26)).heap.size 28 i0 (.agg #[.int .i64 0, .int .i64 0, .string ⟨#[]⟩]) 3 32 Try.underlying22 hi hz0 hz1 hz2 rfl (by decide) v1 len (entryCells l) rfl (hown1.alloc _) ⟨wa.heap.size, 0, none⟩ 1 1 [.int .i64 0, .int .i64 0, .string ⟨#[]⟩] rfl rfl (news_new _ _ _) (by simp [Value.oneCell']) (by unfold maxLen; omega) (by omega) (by first | exact Nat.le_trans hBa.size (by simp) | simp) ?_; intro v2 wb hown2 hgrow2 _; obtain ⟨qb, qc, rfl⟩ := ownsRow_succ hown2; have hoff : (w3.alloc (.cells #[.int .i64 g, .int .i64 k, .slice (some ad) len cap, .int .i64 ht, .int .i64 hv, .int .i64 hc, .int .i64 i, .int .i64 t, .bool mk, .bool hd] 26)).heap.size ≤ qb := ownBlock_ge hown2 (by simp [Value.ownBlock]); have hrow2 : RowV wb (some ⟨qb, 0, none⟩) (len + 1) 3 (entryCells l ++ [.int .i64 0, .int .i64 0, .string ⟨#[]⟩]) := (by obtain ⟨a', c', e', _, hr'⟩ := rowV_own hown2; cases e'; simpa using hr'); have hBb := (hBa.trans (bel_alloc (Below.refl wa.heap.size wa) (.cells #[.int .i64 0, .int .i64 0, .string ⟨#[]⟩] 28) |>.mono hBa.size)).grown hgrow2 (Nat.le_trans hBa.size (by simp)) (fun k hk => ownBlock_ge hown1 hk); have hq4w : w3.heap.size < (w3.alloc (.cells #[.int .i64 g, .int .i64 k, .slice (some ad) len cap, .int .i64 ht, .int .i64 hv, .int .i64 hc, .int .i64 i, .int .i64 t, .bool mk, .bool hd] 26)).heap.size := heap_ltP hq4; have hpb := (hBb.block _ (heap_ltP hp4)).trans hp4; have hqb := (hBb.block _ (heap_ltP hq4)).trans hq4; have hC4b := bel2 hC4 hBb; have f2 := frozen_of_row _ _ 2 _ _ hqb; have k2 : wb.cell? ⟨w3.heap.size, 2, none⟩ = some (.slice (some ad) len cap) := cell_of_row _ _ 2 _ _ _ hqb; have hq5 := Go.Joins.block_setCell hqb (.slice (some ⟨qb, 0, none⟩) (len + 1) qc) (i := 2); simp only [List.setIfInBounds_toArray, List.set_cons_succ, List.set_cons_zero] at hq5; have hp5 := blk_st (i := 2) (v := .slice (some ⟨qb, 0, none⟩) (len + 1) qc) hpb (show w.heap.size ≠ w3.heap.size by have := hC3.size; have := heap_ltP hp3; omega); have hC5 := hC4b.setCell (p := ⟨w3.heap.size, 2, none⟩) hC3.size (.slice (some ⟨qb, 0, none⟩) (len + 1) qc); have hEq : HasE (wb.setCell ⟨w3.heap.size, 2, none⟩ (.slice (some ⟨qb, 0, none⟩) (len + 1) qc)) (⟨g, k, (some ⟨qb, 0, none⟩), (len + 1), qc, ht, hv, hc, i, t, mk, hd⟩ : PartC) (l ++ [⟨0, 0, ⟨#[]⟩⟩]) := HasE.off (R := w3.heap.size) (W := wb) ⟨by rw [List.length_append, HL.out]; rfl, hlen, by rw [entryCells_snoc]; exact hrow2⟩ (fun k hk => by obtain ⟨b', o', e', _, rfl⟩ := hk; cases e'; omega) (fun k hk => heap_setCell_other _ ⟨w3.heap.size, 2, none⟩ _ _ hk) (by simp); obtain ⟨u0, u1, u2, u3, u4, u5, u6, u7, u8, u9⟩ := arr10 hq5)
      | (go_at_call 17; ((with_reducible refine (GB.out _ _ _ hEq).mono ?_); rintro e w5 ⟨rfl, hB5⟩; have hC6 := bel2 hC5 hB5; have hp6 := (hB5.block _ (heap_ltP hp5)).trans hp5; have hq6 := (hB5.block _ (heap_ltP hq5)).trans hq5; have hEq6 := hEq.below hB5; obtain ⟨v0, v1, v2, v3, v4, v5, v6, v7, v8, v9⟩ := arr10 hq6))
      | (go_at_call 20; ((with_reducible refine (GQ.out _ _ _ hEq6).mono ?_); rintro e w6 ⟨rfl, hB6⟩; have hC7 := bel2 hC6 hB6; have hp7 := (hB6.block _ (heap_ltP hp6)).trans hp6; have hq7 := (hB6.block _ (heap_ltP hq6)).trans hq6; have hEq7 := hEq6.below hB6; obtain ⟨r0, r1, r2, r3, r4, r5, r6, r7, r8, r9⟩ := arr10 hp7; obtain ⟨s0, s1, s2, s3, s4, s5, s6, s7, s8, s9⟩ := arr10 hq7))
      | (go_at_call 23; ((with_reducible refine (GS.out _ _ _ hC7 hEq7).mono ?_); rintro e w7 ⟨rfl, hB7⟩; have hC8 := bel2 hC7 hB7)))
  go_ret
  exact ⟨rfl, hC8⟩
set_option maxRecDepth 100000 in
set_option maxHeartbeats 400000 in
theorem spoils2n (w : World) (g k : Int) (a : Option Addr) (len cap : Nat) (ht hv hc i t : Int) (mk hd : Bool) (l : List EntryC) (hl : l.length = len) (hrow : RowV w a len 3 (entryCells l)) (hge : ∀ e ∈ l, goodEntry e) (n : Nat) (hn : n < 256) (hf : fewB l = true) (hI : isB (⟨g, k, a, len, cap, ht, hv, hc, i, t, mk, hd⟩ : PartC) l = true) (hq : (n : Int) % 6 = 2) (ha : a = none) (hcap : cap = 0) : Calls Try.prog 6 #[.agg #[.int .i64 g, .int .i64 k, .slice a len cap, .int .i64 ht, .int .i64 hv, .int .i64 hc, .int .i64 i, .int .i64 t, .bool mk, .bool hd], .int .u8 n] w fun e w' => e = .returned (.bool true) ∧ Below w.heap.size w w' := by
  obtain ⟨i0, hi, hz0, hz1, hz2⟩ := info_parts infoEntry
  have hl8 := few_len hf
  subst ha; subst hcap; obtain rfl : len = 0 := Nat.eq_zero_of_not_pos (fun h0 => by obtain ⟨_, _, h1, _⟩ := hrow.2.2 h0; cases h1)
  have GK := Lib.hid part_known
  have GF := Lib.hid (fun W (hB : Below w.heap.size w W) => few_any (⟨g, k, none, 0, 0, ht, hv, hc, i, t, mk, hd⟩ : PartC) l W hl (hrow.below hB) (fun e he => (hge e he).2.2))
  have hA0 := bel_alloc (Below.refl w.heap.size w) (.cells #[.int .i64 g, .int .i64 k, .slice none 0 0, .int .i64 ht, .int .i64 hv, .int .i64 hc, .int .i64 i, .int .i64 t, .bool mk, .bool hd] 26)
  have hp0 := World.alloc_heap_new w (.cells #[.int .i64 g, .int .i64 k, .slice none 0 0, .int .i64 ht, .int .i64 hv, .int .i64 hc, .int .i64 i, .int .i64 t, .bool mk, .bool hd] 26)
  rw [hf] at GF
  have hE : HasE w (⟨g, k, none, 0, 0, ht, hv, hc, i, t, mk, hd⟩ : PartC) l := ⟨hl, by dsimp only; omega, hrow⟩
  have hs : ∀ qb qc, sameB (⟨g, k, none, 0, 0, ht, hv, hc, i, t, mk, hd⟩ : PartC) (⟨g, k, (some ⟨qb, 0, none⟩), 1, qc, ht, hv, hc, i, t, mk, hd⟩ : PartC) l (l ++ [⟨0, 0, ⟨#[]⟩⟩]) = false := fun qb qc => by
    rw [Bool.eq_false_iff]; intro h
    have h3 := (sameB_iff.1 h).2.2.1
    have := congrArg List.length h3
    simp at this
  have GI := Lib.hid (fun W (hB : Below w.heap.size w W) => is_any (⟨g, k, none, 0, 0, ht, hv, hc, i, t, mk, hd⟩ : PartC) l W (hE.below hB))
  have GQ := Lib.hid (fun qb qc W (h : HasE W (⟨g, k, (some ⟨qb, 0, none⟩), 1, qc, ht, hv, hc, i, t, mk, hd⟩ : PartC) (l ++ [⟨0, 0, ⟨#[]⟩⟩])) => is_noE g k (some ⟨qb, 0, none⟩) 1 qc ht hv hc i t mk hd l W h)
  have GB := Lib.hid (fun qb qc W (h : HasE W (⟨g, k, (some ⟨qb, 0, none⟩), 1, qc, ht, hv, hc, i, t, mk, hd⟩ : PartC) (l ++ [⟨0, 0, ⟨#[]⟩⟩])) => bytes_noE g k (some ⟨qb, 0, none⟩) 1 qc ht hv hc i t mk hd l W h)
  have GS := Lib.hid (fun qb qc W (hB : Below w.heap.size w W) (h : HasE W (⟨g, k, (some ⟨qb, 0, none⟩), 1, qc, ht, hv, hc, i, t, mk, hd⟩ : PartC) (l ++ [⟨0, 0, ⟨#[]⟩⟩])) => same_any (⟨g, k, none, 0, 0, ht, hv, hc, i, t, mk, hd⟩ : PartC) (⟨g, k, (some ⟨qb, 0, none⟩), 1, qc, ht, hv, hc, i, t, mk, hd⟩ : PartC) l (l ++ [⟨0, 0, ⟨#[]⟩⟩]) W (hE.below hB) h)
  simp only [hs] at GS
  rw [hI] at GI
  dsimp only [PartC.val] at GI GF GS
  have HL := Lib.hid hl
  have HLL := Lib.hid (show (entryCells l).length = 0 * 3 by rw [entryCells, flat_len EntryC.cells 3 EntryC.len, hl])
  have HO := Lib.hid (show ∀ u ∈ entryCells l, u.oneCell' = true from fun u hu => by simp only [entryCells, List.mem_flatten, List.mem_map] at hu; obtain ⟨_, ⟨e, _, rfl⟩, hu⟩ := hu; simp [EntryC.cells] at hu; rcases hu with rfl | rfl | rfl <;> rfl)
  skip
  have hlen : 0 + 1 < 1000000 := by omega
  clear hrow hge hl hf hE hI hs
  go_enter Try.func6, Try.ntmps6
  go_wp2_with (first
      | (go_at_call 15; ((with_reducible refine (GK.out _).mono ?_); rintro e w1 ⟨rfl, hB1⟩; have hp1 := (hB1.block _ (heap_ltP hp0)).trans hp0; have hC1 := bel2 hA0 hB1; obtain ⟨x0, x1, x2, x3, x4, x5, x6, x7, x8, x9⟩ := arr10 hp1))
      | (go_at_call 16; ((with_reducible refine (GF.out _ hC1).mono ?_); rintro e w2 ⟨rfl, hB2⟩; have hp2 := (hB2.block _ (heap_ltP hp1)).trans hp1; have hC2 := bel2 hC1 hB2; obtain ⟨y0, y1, y2, y3, y4, y5, y6, y7, y8, y9⟩ := arr10 hp2))
      | (go_at_call 20; ((with_reducible refine (GI.out _ hC2).mono ?_); rintro e w3 ⟨rfl, hB3⟩; have hp3 := (hB3.block _ (heap_ltP hp2)).trans hp2; have hC3 := bel2 hC2 hB3; obtain ⟨z0, z1, z2, z3, z4, z5, z6, z7, z8, z9⟩ := arr10 hp3; have hA3 := bel_alloc (Below.refl w3.heap.size w3) (.cells #[.int .i64 g, .int .i64 k, .slice none 0 0, .int .i64 ht, .int .i64 hv, .int .i64 hc, .int .i64 i, .int .i64 t, .bool mk, .bool hd] 26); have hC4 := bel2 hC3 hA3; have hp4 := (hA3.block _ (heap_ltP hp3)).trans hp3; have hq4 := World.alloc_heap_new w3 (.cells #[.int .i64 g, .int .i64 k, .slice none 0 0, .int .i64 ht, .int .i64 hv, .int .i64 hc, .int .i64 i, .int .i64 t, .bool mk, .bool hd] 26); have c24 : (w3.alloc (.cells #[.int .i64 g, .int .i64 k, .slice none 0 0, .int .i64 ht, .int .i64 hv, .int .i64 hc, .int .i64 i, .int .i64 t, .bool mk, .bool hd] 26)).cell? ⟨w.heap.size, 2, none⟩ = some (.slice none 0 0) := cell_of_row _ _ 2 _ _ _ hp4))
      | (at_builtin; refine wpList_append_own_none rfl (.const (.slice none 0 0)) (.tmp 31) 22 rfl (w3.alloc (.cells #[.int .i64 g, .int .i64 k, .slice none 0 0, .int .i64 ht, .int .i64 hv, .int .i64 hc, .int .i64 i, .int .i64 t, .bool mk, .bool hd] 26)).heap.size 28 i0 3 Try.underlying22 hi (.slice none 0 0) 0 [] rfl (World.ownsRow_nil _ _ _ _) rfl ?_; have hBa := Below.refl (w3.alloc (.cells #[.int .i64 g, .int .i64 k, .slice none 0 0, .int .i64 ht, .int .i64 hv, .int .i64 hc, .int .i64 i, .int .i64 t, .bool mk, .bool hd] 26)).heap.size (w3.alloc (.cells #[.int .i64 g, .int .i64 k, .slice none 0 0, .int .i64 ht, .int .i64 hv, .int .i64 hc, .int .i64 i, .int .i64 t, .bool mk, .bool hd] 26)))
      | (at_builtin; refine wpList_append_own _ rfl (.tmp 32) (.tmp 34) 22 rfl (w3.alloc (.cells #[.int .i64 g, .int .i64 k, .slice none 0 0, .int .i64 ht, .int .i64 hv, .int .i64 hc, .int .i64 i, .int .i64 t, .bool mk, .bool hd] 26)).heap.size 28 i0 (.agg #[.int .i64 0, .int .i64 0, .string ⟨#[]⟩]) 3 32 Try.underlying22 hi hz0 hz1 hz2 rfl (by decide) (.slice none 0 0) 0 [] rfl ((World.ownsRow_nil (w3.alloc (.cells #[.int .i64 g, .int .i64 k, .slice none 0 0, .int .i64 ht, .int .i64 hv, .int .i64 hc, .int .i64 i, .int .i64 t, .bool mk, .bool hd] 26)) _ _ _).alloc _) ⟨w3.heap.size + 1, 0, none⟩ 1 1 [.int .i64 0, .int .i64 0, .string ⟨#[]⟩] rfl rfl (by have := news_new (w3.alloc (.cells #[.int .i64 g, .int .i64 k, .slice none 0 0, .int .i64 ht, .int .i64 hv, .int .i64 hc, .int .i64 i, .int .i64 t, .bool mk, .bool hd] 26)) 28 [.int .i64 0, .int .i64 0, .string ⟨#[]⟩]; rwa [World.size_alloc] at this) (by simp [Value.oneCell']) (by unfold maxLen; omega) (by omega) (by first | exact Nat.le_trans hBa.size (by simp) | simp) ?_; intro v2 wb hown2 hgrow2 _; obtain ⟨qb, qc, rfl⟩ := ownsRow_succ hown2; have hoff : (w3.alloc (.cells #[.int .i64 g, .int .i64 k, .slice none 0 0, .int .i64 ht, .int .i64 hv, .int .i64 hc, .int .i64 i, .int .i64 t, .bool mk, .bool hd] 26)).heap.size ≤ qb := ownBlock_ge hown2 (by simp [Value.ownBlock]); have hrow2 : RowV wb (some ⟨qb, 0, none⟩) 1 3 (entryCells l ++ [.int .i64 0, .int .i64 0, .string ⟨#[]⟩]) := (by obtain ⟨a', c', e', _, hr'⟩ := rowV_own hown2; cases e'; rw [List.eq_nil_of_length_eq_zero (show (entryCells l).length = 0 by simpa using HLL.out)]; simpa using hr'); have hBb := (bel_alloc (Below.refl _ (w3.alloc (.cells #[.int .i64 g, .int .i64 k, .slice none 0 0, .int .i64 ht, .int .i64 hv, .int .i64 hc, .int .i64 i, .int .i64 t, .bool mk, .bool hd] 26))) (.cells #[.int .i64 0, .int .i64 0, .string ⟨#[]⟩] 28)).grown hgrow2 (by simp) (fun k hk => by simp [Value.ownBlock] at hk); have hq4w : w3.heap.size < (w3.alloc (.cells #[.int .i64 g, .int .i64 k, .slice none 0 0, .int .i64 ht, .int .i64 hv, .int .i64 hc, .int .i64 i, .int .i64 t, .bool mk, .bool hd] 26)).heap.size := heap_ltP hq4; have hpb := (hBb.block _ (heap_ltP hp4)).trans hp4; have hqb := (hBb.block _ (heap_ltP hq4)).trans hq4; have hC4b := bel2 hC4 hBb; have f2 := frozen_of_row _ _ 2 _ _ hqb; have k2 : wb.cell? ⟨w3.heap.size, 2, none⟩ = some (.slice none 0 0) := cell_of_row _ _ 2 _ _ _ hqb; have hq5 := Go.Joins.block_setCell hqb (.slice (some ⟨qb, 0, none⟩) 1 qc) (i := 2); simp only [List.setIfInBounds_toArray, List.set_cons_succ, List.set_cons_zero] at hq5; have hp5 := blk_st (i := 2) (v := .slice (some ⟨qb, 0, none⟩) 1 qc) hpb (show w.heap.size ≠ w3.heap.size by have := hC3.size; have := heap_ltP hp3; omega); have hC5 := hC4b.setCell (p := ⟨w3.heap.size, 2, none⟩) hC3.size (.slice (some ⟨qb, 0, none⟩) 1 qc); have hEq : HasE (wb.setCell ⟨w3.heap.size, 2, none⟩ (.slice (some ⟨qb, 0, none⟩) 1 qc)) (⟨g, k, (some ⟨qb, 0, none⟩), 1, qc, ht, hv, hc, i, t, mk, hd⟩ : PartC) (l ++ [⟨0, 0, ⟨#[]⟩⟩]) := HasE.off (R := w3.heap.size) (W := wb) ⟨by rw [List.length_append, HL.out]; rfl, hlen, by rw [entryCells_snoc]; exact hrow2⟩ (fun k hk => by obtain ⟨b', o', e', _, rfl⟩ := hk; cases e'; omega) (fun k hk => heap_setCell_other _ ⟨w3.heap.size, 2, none⟩ _ _ hk) (by simp); obtain ⟨u0, u1, u2, u3, u4, u5, u6, u7, u8, u9⟩ := arr10 hq5)
      | (go_at_call 17; ((with_reducible refine (GB.out _ _ _ hEq).mono ?_); rintro e w5 ⟨rfl, hB5⟩; have hC6 := bel2 hC5 hB5; have hp6 := (hB5.block _ (heap_ltP hp5)).trans hp5; have hq6 := (hB5.block _ (heap_ltP hq5)).trans hq5; have hEq6 := hEq.below hB5; obtain ⟨v0, v1, v2, v3, v4, v5, v6, v7, v8, v9⟩ := arr10 hq6))
      | (go_at_call 20; ((with_reducible refine (GQ.out _ _ _ hEq6).mono ?_); rintro e w6 ⟨rfl, hB6⟩; have hC7 := bel2 hC6 hB6; have hp7 := (hB6.block _ (heap_ltP hp6)).trans hp6; have hq7 := (hB6.block _ (heap_ltP hq6)).trans hq6; have hEq7 := hEq6.below hB6; obtain ⟨r0, r1, r2, r3, r4, r5, r6, r7, r8, r9⟩ := arr10 hp7; obtain ⟨s0, s1, s2, s3, s4, s5, s6, s7, s8, s9⟩ := arr10 hq7))
      | (go_at_call 23; ((with_reducible refine (GS.out _ _ _ hC7 hEq7).mono ?_); rintro e w7 ⟨rfl, hB7⟩; have hC8 := bel2 hC7 hB7)))
  go_ret
  exact ⟨rfl, hC8⟩
theorem spoils2 (w : World) (g k : Int) (a : Option Addr) (len cap : Nat) (ht hv hc i t : Int) (mk hd : Bool) (l : List EntryC) (hl : l.length = len) (hrow : RowV w a len 3 (entryCells l)) (hge : ∀ e ∈ l, goodEntry e) (n : Nat) (hn : n < 256) (hcap : a = none → cap = 0) (hf : fewB l = true) (hI : isB (⟨g, k, a, len, cap, ht, hv, hc, i, t, mk, hd⟩ : PartC) l = true) (hq : (n : Int) % 6 = 2) : Calls Try.prog 6 #[.agg #[.int .i64 g, .int .i64 k, .slice a len cap, .int .i64 ht, .int .i64 hv, .int .i64 hc, .int .i64 i, .int .i64 t, .bool mk, .bool hd], .int .u8 n] w fun e w' => e = .returned (.bool true) ∧ Below w.heap.size w w' := by
  cases ha : a with
  | none => rw [← ha]; exact spoils2n w g k a len cap ht hv hc i t mk hd l hl hrow hge n hn hf hI hq ha (hcap ha)
  | some ad => rw [← ha]; exact spoils2s w g k a len cap ht hv hc i t mk hd l hl hrow hge n hn hf hI hq ad ha

end Go.Proofs.Ytpogklceaoiacaa
