/- What the fourth layer's laws hold by themselves: the examples, and what is few. -/
import Derived.Test.YtpogklceaoiacaaReadAny
import Derived.Test.YtpogklceaoiacaaPartFacts
namespace Go.Proofs.Ytpogklceaoiacaa
open Go.RowKit Go.Shelf
set_option linter.unusedVariables false
attribute [local go_sem] Oper.semAt_some wide_fn wide_round_fn

theorem partRead_at (s : ByteArray) (r : ReadC) (n e : Nat) (hs : s.size < 4611686018427387904) (h : readM s = (r, n, e)) (w : World) :
    Calls Try.prog 25 #[.string s] w fun en w' => ∃ a cap, en = .returned (.tuple #[(r.part a cap).val, .int .i64 n, .int .i64 e]) ∧ HasE w' (r.part a cap) r.l ∧ Below w.heap.size w w' := by
  have := partRead_any s hs w
  unfold ReadPost at this
  rwa [h] at this
theorem mid_block (w : World) (c1 c2 c3 : Array Value) (T1 T2 T3 : TypeId) : (((w.alloc (.cells c1 T1)).alloc (.cells c2 T2)).alloc (.cells c3 T3)).heap[w.heap.size + 1]? = some (.cells c2 T2 (0, 0)) := by
  have h := World.alloc_heap_new (w.alloc (.cells c1 T1)) (.cells c2 T2)
  rw [World.size_alloc] at h
  exact ((bel_alloc (Below.refl _ _) _).block _ (by simp)).trans h
theorem last_block (w : World) (c1 c2 c3 : Array Value) (T1 T2 T3 : TypeId) : (((w.alloc (.cells c1 T1)).alloc (.cells c2 T2)).alloc (.cells c3 T3)).heap[w.heap.size + 1 + 1]? = some (.cells c3 T3 (0, 0)) := by
  have h := World.alloc_heap_new ((w.alloc (.cells c1 T1)).alloc (.cells c2 T2)) (.cells c3 T3)
  rwa [World.size_alloc, World.size_alloc] at h
theorem first_block (w : World) (c1 c2 c3 : Array Value) (T1 T2 T3 : TypeId) : (((w.alloc (.cells c1 T1)).alloc (.cells c2 T2)).alloc (.cells c3 T3)).heap[w.heap.size]? = some (.cells c1 T1 (0, 0)) :=
  ((bel_alloc (bel_alloc (Below.refl _ _) _) _).block _ (by simp)).trans (World.alloc_heap_new w _)
theorem arr10 {W : World} {X : Nat} {T : TypeId} {v0 v1 v2 v3 v4 v5 v6 v7 v8 v9 : Value} (h : W.heap[X]? = some (.cells #[v0, v1, v2, v3, v4, v5, v6, v7, v8, v9] T (0, 0))) :
    W.cell? ⟨X, 0, none⟩ = some v0 ∧ W.cell? ⟨X, 1, none⟩ = some v1 ∧ W.cell? ⟨X, 2, none⟩ = some v2 ∧ W.cell? ⟨X, 3, none⟩ = some v3 ∧ W.cell? ⟨X, 4, none⟩ = some v4 ∧ W.cell? ⟨X, 5, none⟩ = some v5 ∧ W.cell? ⟨X, 6, none⟩ = some v6 ∧ W.cell? ⟨X, 7, none⟩ = some v7 ∧ W.cell? ⟨X, 8, none⟩ = some v8 ∧ W.cell? ⟨X, 9, none⟩ = some v9 :=
  ⟨cell_of_row _ _ 0 _ _ _ h, cell_of_row _ _ 1 _ _ _ h, cell_of_row _ _ 2 _ _ _ h, cell_of_row _ _ 3 _ _ _ h, cell_of_row _ _ 4 _ _ _ h, cell_of_row _ _ 5 _ _ _ h, cell_of_row _ _ 6 _ _ _ h, cell_of_row _ _ 7 _ _ _ h, cell_of_row _ _ 8 _ _ _ h, cell_of_row _ _ 9 _ _ _ h⟩
theorem ent1 {W : World} {g : Nat} (h : W.heap[g]? = some (.cells #[.int .i64 3, .int .i64 1, .string ⟨#[97, 98]⟩] 28 (0, 0))) : HasE W (⟨1, 1, some ⟨g, 0, none⟩, 1, 1, 0, 0, 0, 0, 0, false, false⟩) [⟨3, 1, ⟨#[97, 98]⟩⟩] :=
  ⟨rfl, (by decide : 1 < 1000000), by exact rowV_block (cs := #[.int .i64 3, .int .i64 1, .string ⟨#[97, 98]⟩]) (n := 1) (sz := 3) h rfl (by decide)⟩

set_option maxRecDepth 100000 in
set_option maxHeartbeats 2000000 in
theorem part_known (w : World) : Gives Try.prog 15 #[] w (.bool true) := by
  have G1 := Lib.hid (show ∀ W, Gives Try.prog 17 #[.agg #[.int .i64 5, .int .i64 5, .slice none 0 0, .int .i64 0, .int .i64 0, .int .i64 0, .int .i64 0, .int .i64 0, .bool false, .bool false]] W (.tuple #[.string ⟨#[5, 5]⟩, .int .i64 0]) from fun W => bytes_any ⟨5, 5, none, 0, 0, 0, 0, 0, 0, 0, false, false⟩ [] W (hasE_nil rfl rfl))
  have G3 := Lib.hid (show ∀ W, Gives Try.prog 17 #[.agg #[.int .i64 0, .int .i64 0, .slice none 0 0, .int .i64 0, .int .i64 0, .int .i64 0, .int .i64 0, .int .i64 0, .bool false, .bool false]] W (.tuple #[.string ⟨#[]⟩, .int .i64 11]) from fun W => bytes_any ⟨0, 0, none, 0, 0, 0, 0, 0, 0, 0, false, false⟩ [] W (hasE_nil rfl rfl))
  have GA := Lib.hid (show ∀ W g, W.heap[g]? = some (.cells #[.int .i64 3, .int .i64 1, .string ⟨#[97, 98]⟩] 28 (0, 0)) → Gives Try.prog 17 #[.agg #[.int .i64 1, .int .i64 1, .slice (some ⟨g, 0, none⟩) 1 1, .int .i64 0, .int .i64 0, .int .i64 0, .int .i64 0, .int .i64 0, .bool false, .bool false]] W (.tuple #[.string ⟨#[1, 1, 1, 3, 1, 2, 97, 98]⟩, .int .i64 0]) from fun W g h => bytes_any (⟨1, 1, some ⟨g, 0, none⟩, 1, 1, 0, 0, 0, 0, 0, false, false⟩) [⟨3, 1, ⟨#[97, 98]⟩⟩] W (ent1 h))
  have GI := Lib.hid (show ∀ W g, W.heap[g]? = some (.cells #[.int .i64 3, .int .i64 1, .string ⟨#[97, 98]⟩] 28 (0, 0)) → Gives Try.prog 20 #[.agg #[.int .i64 1, .int .i64 1, .slice (some ⟨g, 0, none⟩) 1 1, .int .i64 0, .int .i64 0, .int .i64 0, .int .i64 0, .int .i64 0, .bool false, .bool false]] W (.bool true) from fun W g h => is_any (⟨1, 1, some ⟨g, 0, none⟩, 1, 1, 0, 0, 0, 0, 0, false, false⟩) [⟨3, 1, ⟨#[97, 98]⟩⟩] W (ent1 h))
  have GS := Lib.hid (show ∀ W g, W.heap[g]? = some (.cells #[.int .i64 3, .int .i64 1, .string ⟨#[97, 98]⟩] 28 (0, 0)) → Gives Try.prog 23 #[.agg #[.int .i64 1, .int .i64 1, .slice (some ⟨g, 0, none⟩) 1 1, .int .i64 0, .int .i64 0, .int .i64 0, .int .i64 0, .int .i64 0, .bool false, .bool false], .agg #[.int .i64 1, .int .i64 1, .slice (some ⟨g, 0, none⟩) 1 1, .int .i64 0, .int .i64 0, .int .i64 0, .int .i64 0, .int .i64 0, .bool false, .bool false]] W (.bool true) from fun W g h => same_any (⟨1, 1, some ⟨g, 0, none⟩, 1, 1, 0, 0, 0, 0, 0, false, false⟩) (⟨1, 1, some ⟨g, 0, none⟩, 1, 1, 0, 0, 0, 0, 0, false, false⟩) [⟨3, 1, ⟨#[97, 98]⟩⟩] [⟨3, 1, ⟨#[97, 98]⟩⟩] W (ent1 h) (ent1 h))
  have G2 := Lib.hid (fun W => partRead_at (⟨#[5, 5]⟩ ++ ⟨#[120]⟩) ⟨5, 5, [], 0, 0, 0, 0, 0, false, false⟩ 2 0 (by decide) (by rfl) W)
  have GE1 := Lib.hid (show ∀ W, Gives Try.prog 21 #[.agg #[.int .i64 1, .int .i64 1, .string ⟨#[]⟩]] W (.bool true) from fun W => isEntry_any ⟨1, 1, ⟨#[]⟩⟩ W)
  have GE2 := Lib.hid (show ∀ W, Gives Try.prog 21 #[.agg #[.int .i64 0, .int .i64 0, .string ⟨#[]⟩]] W (.bool false) from fun W => isEntry_any ⟨0, 0, ⟨#[]⟩⟩ W)
  unfold Gives
  go_enter Try.func15, Try.ntmps15
  go_wp2_with (first
    | (go_at_call 17; ((with_reducible refine (G1.out _).mono ?_); rintro e w1 ⟨rfl, hB1⟩))
    | (go_at_call 25; ((with_reducible refine (G2.out _).mono ?_); rintro e w2 ⟨xa, xc, rfl, -, hB2⟩; dsimp only [ReadC.part, PartC.val, List.length_nil]))
    | (go_at_call 17; ((with_reducible refine (GA.out _ _ (mid_block _ _ _ _ _ _ _)).mono ?_); rintro e w3 ⟨rfl, hB3⟩; have hp := (hB3.block _ (heap_ltP (last_block _ _ _ _ _ _ _))).trans (last_block _ _ _ _ _ _ _); have he := (hB3.block _ (heap_ltP (mid_block _ _ _ _ _ _ _))).trans (mid_block _ _ _ _ _ _ _); have hf := (hB3.block _ (heap_ltP (first_block _ _ _ _ _ _ _))).trans (first_block _ _ _ _ _ _ _); have hC3 := bel2 (bel_alloc (bel_alloc (bel_alloc (Below.refl _ _) _) _) _) hB3))
    | (go_at_call 17; ((with_reducible refine (G3.out _).mono ?_); rintro e w4 ⟨rfl, hB4⟩; have hp4 := (hB4.block _ (heap_ltP hp)).trans hp; have he4 := (hB4.block _ (heap_ltP he)).trans he; have hf4 := (hB4.block _ (heap_ltP hf)).trans hf; have h5 : w4.cell? ⟨w2.heap.size, 1, none⟩ = some (.int .i64 5) := cell_of_row _ _ 1 _ _ _ hf4; have q4 := arr10 hp4; obtain ⟨y0, y1, y2, y3, y4, y5, y6, y7, y8, y9⟩ := q4))
    | (go_at_call 20; ((with_reducible refine (GI.out _ _ he4).mono ?_); rintro e w5 ⟨rfl, hB5⟩; have hp5 := (hB5.block _ (heap_ltP hp4)).trans hp4; have he5 := (hB5.block _ (heap_ltP he4)).trans he4; have q5 := arr10 hp5; obtain ⟨z0, z1, z2, z3, z4, z5, z6, z7, z8, z9⟩ := q5))
    | (go_at_call 23; ((with_reducible refine (GS.out _ _ he5).mono ?_); rintro e w6 ⟨rfl, hB6⟩))
    | (go_at_call 21; ((with_reducible refine (GE1.out _).mono ?_); rintro e w7 ⟨rfl, hB7⟩))
    | (go_at_call 21; ((with_reducible refine (GE2.out _).mono ?_); rintro e w8 ⟨rfl, hB8⟩)))
  go_ret
  exact ⟨rfl, bel2 (bel2 (bel2 (bel2 (bel2 (bel2 (bel2 (bel2 (bel_alloc (Below.refl _ _) _) hB1) hB2) hC3) hB4) hB5) hB6) hB7) hB8⟩

def fewB (l : List EntryC) : Bool := l.all (fun e => decide (e.d.size ≤ 60)) && decide (l.length ≤ 8)
set_option maxRecDepth 100000 in
set_option maxHeartbeats 1000000 in
theorem few_any (p : PartC) (l : List EntryC) (w : World) (hl : l.length = p.len) (hrow : RowV w p.a p.len 3 (entryCells l)) (hg : ∀ e ∈ l, e.d.size ≤ maxLen) : Gives Try.prog 16 #[p.val] w (.bool (fewB l)) := by
  obtain ⟨g, k, a, len, cap, ht, hv, hc, i, t, mk, hd⟩ := p
  dsimp only [PartC.val] at *
  unfold Gives
  have hm := hrow.2.1
  unfold maxLen at hm
  have hcs := hrow.2.2
  have c2 : (w.alloc (.cells #[.int .i64 g, .int .i64 k, .slice a len cap, .int .i64 ht, .int .i64 hv, .int .i64 hc, .int .i64 i, .int .i64 t, .bool mk, .bool hd] 26)).cell? ⟨w.heap.size, 2, none⟩ = some (.slice a len cap) := cell_of_row _ _ 2 _ _ _ (World.alloc_heap_new w _)
  have hA := bel_alloc (Below.refl w.heap.size w) (.cells #[.int .i64 g, .int .i64 k, .slice a len cap, .int .i64 ht, .int .i64 hv, .int .i64 hc, .int .i64 i, .int .i64 t, .bool mk, .bool hd] 26)
  clear hrow
  go_enter Try.func16, Try.ntmps16
  go_wp2
  go_loop [3] (fun q => ∃ n : Nat, n ≤ len ∧ q = .int .i64 n ∧ (l.take n).all (fun e => decide (e.d.size ≤ 60)) = true) (fun q => len - (intOf q).toNat)
  case atStart => exact ⟨0, by omega, rfl, rfl⟩
  case round =>
    obtain ⟨n, hn, rfl, ha⟩ := hrel
    have HA := Lib.hid ha
    clear ha
    by_cases hlt : n < len
    · obtain ⟨b, off, rfl, hb, hx⟩ := hcs (by omega)
      have hkl : n < l.length := by omega
      obtain ⟨d0, d1, d2⟩ := entry_at hb hA hx hkl
      have hsz := hg l[n] (List.getElem_mem _)
      unfold maxLen at hsz
      have HT := Lib.hid (show l[n].d.size ≤ 60 → (l.take (n + 1)).all (fun e => decide (e.d.size ≤ 60)) = true from fun h => by rw [List.take_succ_eq_append_getElem hkl, List.all_append, HA.out]; simp [h])
      have HF := Lib.hid (show 60 < l[n].d.size → fewB l = false from fun h => by
        have : l.all (fun e => decide (e.d.size ≤ 60)) = false := by
          rw [List.all_eq_false]; exact ⟨l[n], List.getElem_mem _, by simp; omega⟩
        unfold fewB; rw [this]; rfl)
      clear hx hcs
      generalize l[n] = x at *
      by_cases h6 : x.d.size ≤ 60
      · go_wp2
        go_round
        case rel => exact ⟨n + 1, by omega, by go_num, HT.out h6⟩
        case measure => simp [intOf]; omega
      · have h6' : 60 < x.d.size := by omega
        go_wp2
        go_ret
        exact ⟨by rw [HF.out h6']; rfl, hA⟩
    · obtain rfl : n = len := by omega
      rw [List.take_of_length_le (by omega)] at HA
      have HV := Lib.hid (show fewB l = decide ((n : Int) ≤ 8) by unfold fewB; rw [HA.out, hl, Bool.true_and]; exact decide_eq_decide.2 (by omega))
      go_wp2
      go_ret
      exact ⟨by rw [HV.out]; rfl, hA⟩

end Go.Proofs.Ytpogklceaoiacaa
