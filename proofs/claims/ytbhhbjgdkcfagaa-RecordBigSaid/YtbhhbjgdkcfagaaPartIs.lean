/- The contract of package part's Is. -/
import Derived.Test.YtbhhbjgdkcfagaaPartForm
import Derived.Test.YtbhhbjgdkcfagaaQuietC
namespace Go.Proofs.Ytbhhbjgdkcfagaa
open Go.RowKit Go.Shelf
set_option linter.unusedVariables false
attribute [local go_sem] Oper.semAt_some wide_fn wide_round_fn

theorem arr10q {W : World} {X : Nat} {T : TypeId} {v0 v1 v2 v3 v4 v5 v6 v7 v8 v9 : Value} (h : W.heap[X]? = some (.cells #[v0, v1, v2, v3, v4, v5, v6, v7, v8, v9] T (0, 0))) :
    W.cell? ⟨X, 0, none⟩ = some v0 ∧ W.cell? ⟨X, 1, none⟩ = some v1 ∧ W.cell? ⟨X, 2, none⟩ = some v2 ∧ W.cell? ⟨X, 3, none⟩ = some v3 ∧ W.cell? ⟨X, 4, none⟩ = some v4 ∧ W.cell? ⟨X, 5, none⟩ = some v5 ∧ W.cell? ⟨X, 6, none⟩ = some v6 ∧ W.cell? ⟨X, 7, none⟩ = some v7 ∧ W.cell? ⟨X, 8, none⟩ = some v8 ∧ W.cell? ⟨X, 9, none⟩ = some v9 :=
  ⟨cell_of_row _ _ 0 _ _ _ h, cell_of_row _ _ 1 _ _ _ h, cell_of_row _ _ 2 _ _ _ h, cell_of_row _ _ 3 _ _ _ h, cell_of_row _ _ 4 _ _ _ h, cell_of_row _ _ 5 _ _ _ h, cell_of_row _ _ 6 _ _ _ h, cell_of_row _ _ 7 _ _ _ h, cell_of_row _ _ 8 _ _ _ h, cell_of_row _ _ 9 _ _ _ h⟩
theorem two_a (w : World) (A B : Array Value) (T U : TypeId) : ((w.alloc (.cells A T)).alloc (.cells B U)).heap[w.heap.size]? = some (.cells A T (0, 0)) :=
  ((bel_alloc (Below.refl _ _) _).block _ (by simp)).trans (World.alloc_heap_new w _)
theorem two_b (w : World) (A B : Array Value) (T U : TypeId) : ((w.alloc (.cells A T)).alloc (.cells B U)).heap[w.heap.size + 1]? = some (.cells B U (0, 0)) := by
  have h := World.alloc_heap_new (w.alloc (.cells A T)) (.cells B U)
  rwa [World.size_alloc] at h
/-- What else a part of this kind has. -/
def hasC (p : PartC) : PartC :=
  if p.k = 1 then ⟨p.g, p.k, p.a, p.len, p.cap, 0, 0, 0, 0, 0, false, false⟩
  else if p.k = 2 then ⟨p.g, p.k, none, 0, 0, p.ht, p.hv, p.hc, 0, 0, false, false⟩
  else if p.k = 3 ∨ p.k = 4 then ⟨p.g, p.k, none, 0, 0, 0, 0, 0, p.i, p.t, false, false⟩
  else if p.k = 6 then forwardC p
  else ⟨p.g, p.k, none, 0, 0, 0, 0, 0, 0, 0, false, false⟩
def hasL (p : PartC) (l : List EntryC) : List EntryC := if p.k = 1 ∨ p.k = 6 then l else []
def okB (p : PartC) (l : List EntryC) : Bool :=
  if p.k = 1 then decide (p.len ≠ 0) && areB 1 l
  else if p.k = 2 then hardB p.ht p.hv p.hc
  else if p.k = 3 then wB p.i 1 1099511627776 && (wB p.t 1 1099511627776 || decide (p.t = 0))
  else if p.k = 4 then wB p.i 1 1099511627776 && wB p.t 1 1099511627776
  else if p.k = 5 then true
  else if p.k = 6 then isFwdB p l
  else false
def isB (p : PartC) (l : List EntryC) : Bool := okB p l && (wB p.g 0 999 && sameB p (hasC p) l (hasL p l))
theorem hasE_nil {w : World} {p : PartC} (ha : p.a = none) (hl : p.len = 0) : HasE w p [] :=
  ⟨hl.symm, by omega, by simp [entryCells, hl], by rw [hl]; exact Nat.zero_le _, fun h => by omega⟩

set_option maxRecDepth 100000 in
set_option maxHeartbeats 4000000 in
theorem is1_any (g : Int) (a : Option Addr) (len cap : Nat) (ht hv hc i t : Int) (mk hd : Bool) (l : List EntryC) (w : World) (h1 : HasE w (⟨g, 1, a, len, cap, ht, hv, hc, i, t, mk, hd⟩ : PartC) l) : Gives Try.prog 19 #[(⟨g, 1, a, len, cap, ht, hv, hc, i, t, mk, hd⟩ : PartC).val] w (.bool (isB (⟨g, 1, a, len, cap, ht, hv, hc, i, t, mk, hd⟩ : PartC) l)) := by
  have hV := Lib.hid (show isB (⟨g, 1, a, len, cap, ht, hv, hc, i, t, mk, hd⟩ : PartC) l = ((decide (len ≠ 0) && areB 1 l) && (wB g 0 999 && sameB (⟨g, 1, a, len, cap, ht, hv, hc, i, t, mk, hd⟩ : PartC) (⟨g, 1, a, len, cap, 0, 0, 0, 0, 0, false, false⟩ : PartC) l l)) by simp [isB, okB, hasC, hasL])
  rw [hV.out]
  clear hV
  have GW := Lib.hid (within_any g 0 999)
  have GS := Lib.hid (fun W (hB : Below w.heap.size w W) => same_any (⟨g, 1, a, len, cap, ht, hv, hc, i, t, mk, hd⟩ : PartC) (⟨g, 1, a, len, cap, 0, 0, 0, 0, 0, false, false⟩ : PartC) l l W (h1.below hB) (h1.below hB))
  have G4 := Lib.hid (fun W (hB : Below w.heap.size w W) => areEntries_any a len cap l h1.1 h1.2.1 1 W (h1.2.2.below hB))
  clear h1
  generalize sameB (⟨g, 1, a, len, cap, ht, hv, hc, i, t, mk, hd⟩ : PartC) (⟨g, 1, a, len, cap, 0, 0, 0, 0, 0, false, false⟩ : PartC) l l = bs at *
  generalize wB g 0 999 = bw at *
  generalize areB 1 l = b4 at *
  dsimp only [PartC.val] at *
  unfold Gives
  have hA : Below w.heap.size w ((w.alloc (.cells #[.int .i64 g, .int .i64 1, .slice a len cap, .int .i64 ht, .int .i64 hv, .int .i64 hc, .int .i64 i, .int .i64 t, .bool mk, .bool hd] 30)).alloc (.cells #[.int .i64 g, .int .i64 1, .slice a len cap, .int .i64 0, .int .i64 0, .int .i64 0, .int .i64 0, .int .i64 0, .bool false, .bool false] 30)) := (bel_alloc (bel_alloc (Below.refl _ _) _) _)
  have hs : w.heap.size < ((w.alloc (.cells #[.int .i64 g, .int .i64 1, .slice a len cap, .int .i64 ht, .int .i64 hv, .int .i64 hc, .int .i64 i, .int .i64 t, .bool mk, .bool hd] 30)).alloc (.cells #[.int .i64 g, .int .i64 1, .slice a len cap, .int .i64 0, .int .i64 0, .int .i64 0, .int .i64 0, .int .i64 0, .bool false, .bool false] 30)).heap.size := by simp; omega
  have hs2 : w.heap.size + 1 < ((w.alloc (.cells #[.int .i64 g, .int .i64 1, .slice a len cap, .int .i64 ht, .int .i64 hv, .int .i64 hc, .int .i64 i, .int .i64 t, .bool mk, .bool hd] 30)).alloc (.cells #[.int .i64 g, .int .i64 1, .slice a len cap, .int .i64 0, .int .i64 0, .int .i64 0, .int .i64 0, .int .i64 0, .bool false, .bool false] 30)).heap.size := by simp
  obtain ⟨c0, c1, c2, c3, c4, c5, c6, c7, c8, c9⟩ := arr10q (show ((w.alloc (.cells #[.int .i64 g, .int .i64 1, .slice a len cap, .int .i64 ht, .int .i64 hv, .int .i64 hc, .int .i64 i, .int .i64 t, .bool mk, .bool hd] 30)).alloc (.cells #[.int .i64 g, .int .i64 1, .slice a len cap, .int .i64 0, .int .i64 0, .int .i64 0, .int .i64 0, .int .i64 0, .bool false, .bool false] 30)).heap[w.heap.size]? = _ from two_a w _ _ _ _)
  obtain ⟨d0, d1, d2, d3, d4, d5, d6, d7, d8, d9⟩ := arr10q (show ((w.alloc (.cells #[.int .i64 g, .int .i64 1, .slice a len cap, .int .i64 ht, .int .i64 hv, .int .i64 hc, .int .i64 i, .int .i64 t, .bool mk, .bool hd] 30)).alloc (.cells #[.int .i64 g, .int .i64 1, .slice a len cap, .int .i64 0, .int .i64 0, .int .i64 0, .int .i64 0, .int .i64 0, .bool false, .bool false] 30)).heap[w.heap.size + 1]? = _ from two_b w _ _ _ _)
  by_cases h0 : len = 0
  · subst h0
    go_enter Try.func19, Try.ntmps19
    go_wp2_with (first
      | (go_at_call 28; ((with_reducible refine (G4.out _ hA).mono ?_); rintro e w1 ⟨rfl, hB⟩; replace hA := bel2 hA hB; obtain ⟨c0, c1, c2, c3, c4, c5, c6, c7, c8, c9⟩ := above10 hs c0 c1 c2 c3 c4 c5 c6 c7 c8 c9 hB; obtain ⟨d0, d1, d2, d3, d4, d5, d6, d7, d8, d9⟩ := above10 hs2 d0 d1 d2 d3 d4 d5 d6 d7 d8 d9 hB; replace hs := Nat.lt_of_lt_of_le hs hB.size; replace hs2 := Nat.lt_of_lt_of_le hs2 hB.size; clear hB))
      | (go_at_call 34; ((with_reducible refine (GW.out _).mono ?_); rintro e w1 ⟨rfl, hB⟩; replace hA := bel2 hA hB; obtain ⟨c0, c1, c2, c3, c4, c5, c6, c7, c8, c9⟩ := above10 hs c0 c1 c2 c3 c4 c5 c6 c7 c8 c9 hB; obtain ⟨d0, d1, d2, d3, d4, d5, d6, d7, d8, d9⟩ := above10 hs2 d0 d1 d2 d3 d4 d5 d6 d7 d8 d9 hB; replace hs := Nat.lt_of_lt_of_le hs hB.size; replace hs2 := Nat.lt_of_lt_of_le hs2 hB.size; clear hB))
      | (go_at_call 26; ((with_reducible refine (GS.out _ hA).mono ?_); rintro e w1 ⟨rfl, hB⟩; replace hA := bel2 hA hB; obtain ⟨c0, c1, c2, c3, c4, c5, c6, c7, c8, c9⟩ := above10 hs c0 c1 c2 c3 c4 c5 c6 c7 c8 c9 hB; obtain ⟨d0, d1, d2, d3, d4, d5, d6, d7, d8, d9⟩ := above10 hs2 d0 d1 d2 d3 d4 d5 d6 d7 d8 d9 hB; replace hs := Nat.lt_of_lt_of_le hs hB.size; replace hs2 := Nat.lt_of_lt_of_le hs2 hB.size; clear hB)))
    go_ret
    exact ⟨by simp, hA⟩
  · have h0' : (0 : Int) < (len : Int) := by omega
    rw [show decide (len ≠ 0) = true by simp [h0]]
    cases b4 with
    | false =>
      go_enter Try.func19, Try.ntmps19
      go_wp2_with (first
        | (go_at_call 28; ((with_reducible refine (G4.out _ hA).mono ?_); rintro e w1 ⟨rfl, hB⟩; replace hA := bel2 hA hB; obtain ⟨c0, c1, c2, c3, c4, c5, c6, c7, c8, c9⟩ := above10 hs c0 c1 c2 c3 c4 c5 c6 c7 c8 c9 hB; obtain ⟨d0, d1, d2, d3, d4, d5, d6, d7, d8, d9⟩ := above10 hs2 d0 d1 d2 d3 d4 d5 d6 d7 d8 d9 hB; replace hs := Nat.lt_of_lt_of_le hs hB.size; replace hs2 := Nat.lt_of_lt_of_le hs2 hB.size; clear hB))
        | (go_at_call 34; ((with_reducible refine (GW.out _).mono ?_); rintro e w1 ⟨rfl, hB⟩; replace hA := bel2 hA hB; obtain ⟨c0, c1, c2, c3, c4, c5, c6, c7, c8, c9⟩ := above10 hs c0 c1 c2 c3 c4 c5 c6 c7 c8 c9 hB; obtain ⟨d0, d1, d2, d3, d4, d5, d6, d7, d8, d9⟩ := above10 hs2 d0 d1 d2 d3 d4 d5 d6 d7 d8 d9 hB; replace hs := Nat.lt_of_lt_of_le hs hB.size; replace hs2 := Nat.lt_of_lt_of_le hs2 hB.size; clear hB))
        | (go_at_call 26; ((with_reducible refine (GS.out _ hA).mono ?_); rintro e w1 ⟨rfl, hB⟩; replace hA := bel2 hA hB; obtain ⟨c0, c1, c2, c3, c4, c5, c6, c7, c8, c9⟩ := above10 hs c0 c1 c2 c3 c4 c5 c6 c7 c8 c9 hB; obtain ⟨d0, d1, d2, d3, d4, d5, d6, d7, d8, d9⟩ := above10 hs2 d0 d1 d2 d3 d4 d5 d6 d7 d8 d9 hB; replace hs := Nat.lt_of_lt_of_le hs hB.size; replace hs2 := Nat.lt_of_lt_of_le hs2 hB.size; clear hB)))
      go_ret
      exact ⟨by simp, hA⟩
    | true =>
      cases bw
      all_goals
        go_enter Try.func19, Try.ntmps19
        go_wp2_with (first
          | (go_at_call 28; ((with_reducible refine (G4.out _ hA).mono ?_); rintro e w1 ⟨rfl, hB⟩; replace hA := bel2 hA hB; obtain ⟨c0, c1, c2, c3, c4, c5, c6, c7, c8, c9⟩ := above10 hs c0 c1 c2 c3 c4 c5 c6 c7 c8 c9 hB; obtain ⟨d0, d1, d2, d3, d4, d5, d6, d7, d8, d9⟩ := above10 hs2 d0 d1 d2 d3 d4 d5 d6 d7 d8 d9 hB; replace hs := Nat.lt_of_lt_of_le hs hB.size; replace hs2 := Nat.lt_of_lt_of_le hs2 hB.size; clear hB))
          | (go_at_call 34; ((with_reducible refine (GW.out _).mono ?_); rintro e w1 ⟨rfl, hB⟩; replace hA := bel2 hA hB; obtain ⟨c0, c1, c2, c3, c4, c5, c6, c7, c8, c9⟩ := above10 hs c0 c1 c2 c3 c4 c5 c6 c7 c8 c9 hB; obtain ⟨d0, d1, d2, d3, d4, d5, d6, d7, d8, d9⟩ := above10 hs2 d0 d1 d2 d3 d4 d5 d6 d7 d8 d9 hB; replace hs := Nat.lt_of_lt_of_le hs hB.size; replace hs2 := Nat.lt_of_lt_of_le hs2 hB.size; clear hB))
          | (go_at_call 26; ((with_reducible refine (GS.out _ hA).mono ?_); rintro e w1 ⟨rfl, hB⟩; replace hA := bel2 hA hB; obtain ⟨c0, c1, c2, c3, c4, c5, c6, c7, c8, c9⟩ := above10 hs c0 c1 c2 c3 c4 c5 c6 c7 c8 c9 hB; obtain ⟨d0, d1, d2, d3, d4, d5, d6, d7, d8, d9⟩ := above10 hs2 d0 d1 d2 d3 d4 d5 d6 d7 d8 d9 hB; replace hs := Nat.lt_of_lt_of_le hs hB.size; replace hs2 := Nat.lt_of_lt_of_le hs2 hB.size; clear hB)))
        go_ret
        exact ⟨by simp, hA⟩

set_option maxRecDepth 100000 in
set_option maxHeartbeats 4000000 in
theorem is2_any (g : Int) (a : Option Addr) (len cap : Nat) (ht hv hc i t : Int) (mk hd : Bool) (l : List EntryC) (w : World) (h1 : HasE w (⟨g, 2, a, len, cap, ht, hv, hc, i, t, mk, hd⟩ : PartC) l) : Gives Try.prog 19 #[(⟨g, 2, a, len, cap, ht, hv, hc, i, t, mk, hd⟩ : PartC).val] w (.bool (isB (⟨g, 2, a, len, cap, ht, hv, hc, i, t, mk, hd⟩ : PartC) l)) := by
  have hV := Lib.hid (show isB (⟨g, 2, a, len, cap, ht, hv, hc, i, t, mk, hd⟩ : PartC) l = (hardB ht hv hc && (wB g 0 999 && sameB (⟨g, 2, a, len, cap, ht, hv, hc, i, t, mk, hd⟩ : PartC) (⟨g, 2, none, 0, 0, ht, hv, hc, 0, 0, false, false⟩ : PartC) l [])) by simp [isB, okB, hasC, hasL])
  rw [hV.out]
  clear hV
  have GW := Lib.hid (within_any g 0 999)
  have GS := Lib.hid (fun W (hB : Below w.heap.size w W) => same_any (⟨g, 2, a, len, cap, ht, hv, hc, i, t, mk, hd⟩ : PartC) (⟨g, 2, none, 0, 0, ht, hv, hc, 0, 0, false, false⟩ : PartC) l [] W (h1.below hB) (hasE_nil rfl rfl))
  have G3 := Lib.hid (isHard_any ht hv hc)
  clear h1
  generalize sameB (⟨g, 2, a, len, cap, ht, hv, hc, i, t, mk, hd⟩ : PartC) (⟨g, 2, none, 0, 0, ht, hv, hc, 0, 0, false, false⟩ : PartC) l [] = bs at *
  generalize wB g 0 999 = bw at *
  generalize hardB ht hv hc = b3 at *
  dsimp only [PartC.val] at *
  unfold Gives
  have hA : Below w.heap.size w ((w.alloc (.cells #[.int .i64 g, .int .i64 2, .slice a len cap, .int .i64 ht, .int .i64 hv, .int .i64 hc, .int .i64 i, .int .i64 t, .bool mk, .bool hd] 30)).alloc (.cells #[.int .i64 g, .int .i64 2, .slice none 0 0, .int .i64 ht, .int .i64 hv, .int .i64 hc, .int .i64 0, .int .i64 0, .bool false, .bool false] 30)) := (bel_alloc (bel_alloc (Below.refl _ _) _) _)
  have hs : w.heap.size < ((w.alloc (.cells #[.int .i64 g, .int .i64 2, .slice a len cap, .int .i64 ht, .int .i64 hv, .int .i64 hc, .int .i64 i, .int .i64 t, .bool mk, .bool hd] 30)).alloc (.cells #[.int .i64 g, .int .i64 2, .slice none 0 0, .int .i64 ht, .int .i64 hv, .int .i64 hc, .int .i64 0, .int .i64 0, .bool false, .bool false] 30)).heap.size := by simp; omega
  have hs2 : w.heap.size + 1 < ((w.alloc (.cells #[.int .i64 g, .int .i64 2, .slice a len cap, .int .i64 ht, .int .i64 hv, .int .i64 hc, .int .i64 i, .int .i64 t, .bool mk, .bool hd] 30)).alloc (.cells #[.int .i64 g, .int .i64 2, .slice none 0 0, .int .i64 ht, .int .i64 hv, .int .i64 hc, .int .i64 0, .int .i64 0, .bool false, .bool false] 30)).heap.size := by simp
  obtain ⟨c0, c1, c2, c3, c4, c5, c6, c7, c8, c9⟩ := arr10q (show ((w.alloc (.cells #[.int .i64 g, .int .i64 2, .slice a len cap, .int .i64 ht, .int .i64 hv, .int .i64 hc, .int .i64 i, .int .i64 t, .bool mk, .bool hd] 30)).alloc (.cells #[.int .i64 g, .int .i64 2, .slice none 0 0, .int .i64 ht, .int .i64 hv, .int .i64 hc, .int .i64 0, .int .i64 0, .bool false, .bool false] 30)).heap[w.heap.size]? = _ from two_a w _ _ _ _)
  obtain ⟨d0, d1, d2, d3, d4, d5, d6, d7, d8, d9⟩ := arr10q (show ((w.alloc (.cells #[.int .i64 g, .int .i64 2, .slice a len cap, .int .i64 ht, .int .i64 hv, .int .i64 hc, .int .i64 i, .int .i64 t, .bool mk, .bool hd] 30)).alloc (.cells #[.int .i64 g, .int .i64 2, .slice none 0 0, .int .i64 ht, .int .i64 hv, .int .i64 hc, .int .i64 0, .int .i64 0, .bool false, .bool false] 30)).heap[w.heap.size + 1]? = _ from two_b w _ _ _ _)
  cases b3 with
  | false =>
    go_enter Try.func19, Try.ntmps19
    go_wp2_with (first
      | (go_at_call 29; ((with_reducible refine (G3.out _).mono ?_); rintro e w1 ⟨rfl, hB⟩; replace hA := bel2 hA hB; obtain ⟨c0, c1, c2, c3, c4, c5, c6, c7, c8, c9⟩ := above10 hs c0 c1 c2 c3 c4 c5 c6 c7 c8 c9 hB; obtain ⟨d0, d1, d2, d3, d4, d5, d6, d7, d8, d9⟩ := above10 hs2 d0 d1 d2 d3 d4 d5 d6 d7 d8 d9 hB; replace hs := Nat.lt_of_lt_of_le hs hB.size; replace hs2 := Nat.lt_of_lt_of_le hs2 hB.size; clear hB))
      | (go_at_call 34; ((with_reducible refine (GW.out _).mono ?_); rintro e w1 ⟨rfl, hB⟩; replace hA := bel2 hA hB; obtain ⟨c0, c1, c2, c3, c4, c5, c6, c7, c8, c9⟩ := above10 hs c0 c1 c2 c3 c4 c5 c6 c7 c8 c9 hB; obtain ⟨d0, d1, d2, d3, d4, d5, d6, d7, d8, d9⟩ := above10 hs2 d0 d1 d2 d3 d4 d5 d6 d7 d8 d9 hB; replace hs := Nat.lt_of_lt_of_le hs hB.size; replace hs2 := Nat.lt_of_lt_of_le hs2 hB.size; clear hB))
      | (go_at_call 26; ((with_reducible refine (GS.out _ hA).mono ?_); rintro e w1 ⟨rfl, hB⟩; replace hA := bel2 hA hB; obtain ⟨c0, c1, c2, c3, c4, c5, c6, c7, c8, c9⟩ := above10 hs c0 c1 c2 c3 c4 c5 c6 c7 c8 c9 hB; obtain ⟨d0, d1, d2, d3, d4, d5, d6, d7, d8, d9⟩ := above10 hs2 d0 d1 d2 d3 d4 d5 d6 d7 d8 d9 hB; replace hs := Nat.lt_of_lt_of_le hs hB.size; replace hs2 := Nat.lt_of_lt_of_le hs2 hB.size; clear hB)))
    go_ret
    exact ⟨by simp, hA⟩
  | true =>
    cases bw
    all_goals
      go_enter Try.func19, Try.ntmps19
      go_wp2_with (first
        | (go_at_call 29; ((with_reducible refine (G3.out _).mono ?_); rintro e w1 ⟨rfl, hB⟩; replace hA := bel2 hA hB; obtain ⟨c0, c1, c2, c3, c4, c5, c6, c7, c8, c9⟩ := above10 hs c0 c1 c2 c3 c4 c5 c6 c7 c8 c9 hB; obtain ⟨d0, d1, d2, d3, d4, d5, d6, d7, d8, d9⟩ := above10 hs2 d0 d1 d2 d3 d4 d5 d6 d7 d8 d9 hB; replace hs := Nat.lt_of_lt_of_le hs hB.size; replace hs2 := Nat.lt_of_lt_of_le hs2 hB.size; clear hB))
        | (go_at_call 34; ((with_reducible refine (GW.out _).mono ?_); rintro e w1 ⟨rfl, hB⟩; replace hA := bel2 hA hB; obtain ⟨c0, c1, c2, c3, c4, c5, c6, c7, c8, c9⟩ := above10 hs c0 c1 c2 c3 c4 c5 c6 c7 c8 c9 hB; obtain ⟨d0, d1, d2, d3, d4, d5, d6, d7, d8, d9⟩ := above10 hs2 d0 d1 d2 d3 d4 d5 d6 d7 d8 d9 hB; replace hs := Nat.lt_of_lt_of_le hs hB.size; replace hs2 := Nat.lt_of_lt_of_le hs2 hB.size; clear hB))
        | (go_at_call 26; ((with_reducible refine (GS.out _ hA).mono ?_); rintro e w1 ⟨rfl, hB⟩; replace hA := bel2 hA hB; obtain ⟨c0, c1, c2, c3, c4, c5, c6, c7, c8, c9⟩ := above10 hs c0 c1 c2 c3 c4 c5 c6 c7 c8 c9 hB; obtain ⟨d0, d1, d2, d3, d4, d5, d6, d7, d8, d9⟩ := above10 hs2 d0 d1 d2 d3 d4 d5 d6 d7 d8 d9 hB; replace hs := Nat.lt_of_lt_of_le hs hB.size; replace hs2 := Nat.lt_of_lt_of_le hs2 hB.size; clear hB)))
      go_ret
      exact ⟨by simp, hA⟩

set_option maxRecDepth 100000 in
set_option maxHeartbeats 4000000 in
theorem is3_any (g : Int) (a : Option Addr) (len cap : Nat) (ht hv hc i t : Int) (mk hd : Bool) (l : List EntryC) (w : World) (h1 : HasE w (⟨g, 3, a, len, cap, ht, hv, hc, i, t, mk, hd⟩ : PartC) l) : Gives Try.prog 19 #[(⟨g, 3, a, len, cap, ht, hv, hc, i, t, mk, hd⟩ : PartC).val] w (.bool (isB (⟨g, 3, a, len, cap, ht, hv, hc, i, t, mk, hd⟩ : PartC) l)) := by
  have hV := Lib.hid (show isB (⟨g, 3, a, len, cap, ht, hv, hc, i, t, mk, hd⟩ : PartC) l = ((wB i 1 1099511627776 && (wB t 1 1099511627776 || decide (t = 0))) && (wB g 0 999 && sameB (⟨g, 3, a, len, cap, ht, hv, hc, i, t, mk, hd⟩ : PartC) (⟨g, 3, none, 0, 0, 0, 0, 0, i, t, false, false⟩ : PartC) l [])) by simp [isB, okB, hasC, hasL])
  rw [hV.out]
  clear hV
  have GW := Lib.hid (within_any g 0 999)
  have GS := Lib.hid (fun W (hB : Below w.heap.size w W) => same_any (⟨g, 3, a, len, cap, ht, hv, hc, i, t, mk, hd⟩ : PartC) (⟨g, 3, none, 0, 0, 0, 0, 0, i, t, false, false⟩ : PartC) l [] W (h1.below hB) (hasE_nil rfl rfl))
  have G1 := Lib.hid (isIndex_any i); have G2 := Lib.hid (isTerm_any t)
  clear h1
  generalize sameB (⟨g, 3, a, len, cap, ht, hv, hc, i, t, mk, hd⟩ : PartC) (⟨g, 3, none, 0, 0, 0, 0, 0, i, t, false, false⟩ : PartC) l [] = bs at *
  generalize wB g 0 999 = bw at *
  generalize wB i 1 1099511627776 = b1 at *
  generalize wB t 1 1099511627776 = b2 at *
  dsimp only [PartC.val] at *
  unfold Gives
  have hA : Below w.heap.size w ((w.alloc (.cells #[.int .i64 g, .int .i64 3, .slice a len cap, .int .i64 ht, .int .i64 hv, .int .i64 hc, .int .i64 i, .int .i64 t, .bool mk, .bool hd] 30)).alloc (.cells #[.int .i64 g, .int .i64 3, .slice none 0 0, .int .i64 0, .int .i64 0, .int .i64 0, .int .i64 i, .int .i64 t, .bool false, .bool false] 30)).drew := (bel_alloc (bel_alloc (Below.refl _ _) _) _).drew
  have hs : w.heap.size < ((w.alloc (.cells #[.int .i64 g, .int .i64 3, .slice a len cap, .int .i64 ht, .int .i64 hv, .int .i64 hc, .int .i64 i, .int .i64 t, .bool mk, .bool hd] 30)).alloc (.cells #[.int .i64 g, .int .i64 3, .slice none 0 0, .int .i64 0, .int .i64 0, .int .i64 0, .int .i64 i, .int .i64 t, .bool false, .bool false] 30)).drew.heap.size := by show w.heap.size < ((w.alloc (.cells #[.int .i64 g, .int .i64 3, .slice a len cap, .int .i64 ht, .int .i64 hv, .int .i64 hc, .int .i64 i, .int .i64 t, .bool mk, .bool hd] 30)).alloc (.cells #[.int .i64 g, .int .i64 3, .slice none 0 0, .int .i64 0, .int .i64 0, .int .i64 0, .int .i64 i, .int .i64 t, .bool false, .bool false] 30)).heap.size; simp; omega
  have hs2 : w.heap.size + 1 < ((w.alloc (.cells #[.int .i64 g, .int .i64 3, .slice a len cap, .int .i64 ht, .int .i64 hv, .int .i64 hc, .int .i64 i, .int .i64 t, .bool mk, .bool hd] 30)).alloc (.cells #[.int .i64 g, .int .i64 3, .slice none 0 0, .int .i64 0, .int .i64 0, .int .i64 0, .int .i64 i, .int .i64 t, .bool false, .bool false] 30)).drew.heap.size := by show w.heap.size + 1 < ((w.alloc (.cells #[.int .i64 g, .int .i64 3, .slice a len cap, .int .i64 ht, .int .i64 hv, .int .i64 hc, .int .i64 i, .int .i64 t, .bool mk, .bool hd] 30)).alloc (.cells #[.int .i64 g, .int .i64 3, .slice none 0 0, .int .i64 0, .int .i64 0, .int .i64 0, .int .i64 i, .int .i64 t, .bool false, .bool false] 30)).heap.size; simp
  obtain ⟨c0, c1, c2, c3, c4, c5, c6, c7, c8, c9⟩ := arr10q (show ((w.alloc (.cells #[.int .i64 g, .int .i64 3, .slice a len cap, .int .i64 ht, .int .i64 hv, .int .i64 hc, .int .i64 i, .int .i64 t, .bool mk, .bool hd] 30)).alloc (.cells #[.int .i64 g, .int .i64 3, .slice none 0 0, .int .i64 0, .int .i64 0, .int .i64 0, .int .i64 i, .int .i64 t, .bool false, .bool false] 30)).drew.heap[w.heap.size]? = _ from two_a w _ _ _ _)
  obtain ⟨d0, d1, d2, d3, d4, d5, d6, d7, d8, d9⟩ := arr10q (show ((w.alloc (.cells #[.int .i64 g, .int .i64 3, .slice a len cap, .int .i64 ht, .int .i64 hv, .int .i64 hc, .int .i64 i, .int .i64 t, .bool mk, .bool hd] 30)).alloc (.cells #[.int .i64 g, .int .i64 3, .slice none 0 0, .int .i64 0, .int .i64 0, .int .i64 0, .int .i64 i, .int .i64 t, .bool false, .bool false] 30)).drew.heap[w.heap.size + 1]? = _ from two_b w _ _ _ _)
  cases b1 with
  | false =>
    go_enter Try.func19, Try.ntmps19
    go_wp2
    go_region
    all_goals
      go_wp2_with (first
        | (go_at_call 30; ((with_reducible refine (G1.out _).mono ?_); rintro e w1 ⟨rfl, hB⟩; replace hA := bel2 hA hB; obtain ⟨c0, c1, c2, c3, c4, c5, c6, c7, c8, c9⟩ := above10 hs c0 c1 c2 c3 c4 c5 c6 c7 c8 c9 hB; obtain ⟨d0, d1, d2, d3, d4, d5, d6, d7, d8, d9⟩ := above10 hs2 d0 d1 d2 d3 d4 d5 d6 d7 d8 d9 hB; replace hs := Nat.lt_of_lt_of_le hs hB.size; replace hs2 := Nat.lt_of_lt_of_le hs2 hB.size; clear hB))
        | (go_at_call 31; ((with_reducible refine (G2.out _).mono ?_); rintro e w1 ⟨rfl, hB⟩; replace hA := bel2 hA hB; obtain ⟨c0, c1, c2, c3, c4, c5, c6, c7, c8, c9⟩ := above10 hs c0 c1 c2 c3 c4 c5 c6 c7 c8 c9 hB; obtain ⟨d0, d1, d2, d3, d4, d5, d6, d7, d8, d9⟩ := above10 hs2 d0 d1 d2 d3 d4 d5 d6 d7 d8 d9 hB; replace hs := Nat.lt_of_lt_of_le hs hB.size; replace hs2 := Nat.lt_of_lt_of_le hs2 hB.size; clear hB))
        | (go_at_call 34; ((with_reducible refine (GW.out _).mono ?_); rintro e w1 ⟨rfl, hB⟩; replace hA := bel2 hA hB; obtain ⟨c0, c1, c2, c3, c4, c5, c6, c7, c8, c9⟩ := above10 hs c0 c1 c2 c3 c4 c5 c6 c7 c8 c9 hB; obtain ⟨d0, d1, d2, d3, d4, d5, d6, d7, d8, d9⟩ := above10 hs2 d0 d1 d2 d3 d4 d5 d6 d7 d8 d9 hB; replace hs := Nat.lt_of_lt_of_le hs hB.size; replace hs2 := Nat.lt_of_lt_of_le hs2 hB.size; clear hB))
        | (go_at_call 26; ((with_reducible refine (GS.out _ hA).mono ?_); rintro e w1 ⟨rfl, hB⟩; replace hA := bel2 hA hB; obtain ⟨c0, c1, c2, c3, c4, c5, c6, c7, c8, c9⟩ := above10 hs c0 c1 c2 c3 c4 c5 c6 c7 c8 c9 hB; obtain ⟨d0, d1, d2, d3, d4, d5, d6, d7, d8, d9⟩ := above10 hs2 d0 d1 d2 d3 d4 d5 d6 d7 d8 d9 hB; replace hs := Nat.lt_of_lt_of_le hs hB.size; replace hs2 := Nat.lt_of_lt_of_le hs2 hB.size; clear hB)))
      go_ret
      exact ⟨by simp, hA⟩
  | true =>
    cases b2 with
    | false =>
      by_cases h0 : t = 0
      · subst h0
        cases bw
        all_goals
          go_enter Try.func19, Try.ntmps19
          go_wp2
          go_region
          all_goals
            go_wp2_with (first
              | (go_at_call 30; ((with_reducible refine (G1.out _).mono ?_); rintro e w1 ⟨rfl, hB⟩; replace hA := bel2 hA hB; obtain ⟨c0, c1, c2, c3, c4, c5, c6, c7, c8, c9⟩ := above10 hs c0 c1 c2 c3 c4 c5 c6 c7 c8 c9 hB; obtain ⟨d0, d1, d2, d3, d4, d5, d6, d7, d8, d9⟩ := above10 hs2 d0 d1 d2 d3 d4 d5 d6 d7 d8 d9 hB; replace hs := Nat.lt_of_lt_of_le hs hB.size; replace hs2 := Nat.lt_of_lt_of_le hs2 hB.size; clear hB))
              | (go_at_call 31; ((with_reducible refine (G2.out _).mono ?_); rintro e w1 ⟨rfl, hB⟩; replace hA := bel2 hA hB; obtain ⟨c0, c1, c2, c3, c4, c5, c6, c7, c8, c9⟩ := above10 hs c0 c1 c2 c3 c4 c5 c6 c7 c8 c9 hB; obtain ⟨d0, d1, d2, d3, d4, d5, d6, d7, d8, d9⟩ := above10 hs2 d0 d1 d2 d3 d4 d5 d6 d7 d8 d9 hB; replace hs := Nat.lt_of_lt_of_le hs hB.size; replace hs2 := Nat.lt_of_lt_of_le hs2 hB.size; clear hB))
              | (go_at_call 34; ((with_reducible refine (GW.out _).mono ?_); rintro e w1 ⟨rfl, hB⟩; replace hA := bel2 hA hB; obtain ⟨c0, c1, c2, c3, c4, c5, c6, c7, c8, c9⟩ := above10 hs c0 c1 c2 c3 c4 c5 c6 c7 c8 c9 hB; obtain ⟨d0, d1, d2, d3, d4, d5, d6, d7, d8, d9⟩ := above10 hs2 d0 d1 d2 d3 d4 d5 d6 d7 d8 d9 hB; replace hs := Nat.lt_of_lt_of_le hs hB.size; replace hs2 := Nat.lt_of_lt_of_le hs2 hB.size; clear hB))
              | (go_at_call 26; ((with_reducible refine (GS.out _ hA).mono ?_); rintro e w1 ⟨rfl, hB⟩; replace hA := bel2 hA hB; obtain ⟨c0, c1, c2, c3, c4, c5, c6, c7, c8, c9⟩ := above10 hs c0 c1 c2 c3 c4 c5 c6 c7 c8 c9 hB; obtain ⟨d0, d1, d2, d3, d4, d5, d6, d7, d8, d9⟩ := above10 hs2 d0 d1 d2 d3 d4 d5 d6 d7 d8 d9 hB; replace hs := Nat.lt_of_lt_of_le hs hB.size; replace hs2 := Nat.lt_of_lt_of_le hs2 hB.size; clear hB)))
            go_ret
            exact ⟨by simp, hA⟩
      · rw [show decide (t = 0) = false by simp [h0]]
        go_enter Try.func19, Try.ntmps19
        go_wp2
        go_region
        all_goals
          go_wp2_with (first
            | (go_at_call 30; ((with_reducible refine (G1.out _).mono ?_); rintro e w1 ⟨rfl, hB⟩; replace hA := bel2 hA hB; obtain ⟨c0, c1, c2, c3, c4, c5, c6, c7, c8, c9⟩ := above10 hs c0 c1 c2 c3 c4 c5 c6 c7 c8 c9 hB; obtain ⟨d0, d1, d2, d3, d4, d5, d6, d7, d8, d9⟩ := above10 hs2 d0 d1 d2 d3 d4 d5 d6 d7 d8 d9 hB; replace hs := Nat.lt_of_lt_of_le hs hB.size; replace hs2 := Nat.lt_of_lt_of_le hs2 hB.size; clear hB))
            | (go_at_call 31; ((with_reducible refine (G2.out _).mono ?_); rintro e w1 ⟨rfl, hB⟩; replace hA := bel2 hA hB; obtain ⟨c0, c1, c2, c3, c4, c5, c6, c7, c8, c9⟩ := above10 hs c0 c1 c2 c3 c4 c5 c6 c7 c8 c9 hB; obtain ⟨d0, d1, d2, d3, d4, d5, d6, d7, d8, d9⟩ := above10 hs2 d0 d1 d2 d3 d4 d5 d6 d7 d8 d9 hB; replace hs := Nat.lt_of_lt_of_le hs hB.size; replace hs2 := Nat.lt_of_lt_of_le hs2 hB.size; clear hB))
            | (go_at_call 34; ((with_reducible refine (GW.out _).mono ?_); rintro e w1 ⟨rfl, hB⟩; replace hA := bel2 hA hB; obtain ⟨c0, c1, c2, c3, c4, c5, c6, c7, c8, c9⟩ := above10 hs c0 c1 c2 c3 c4 c5 c6 c7 c8 c9 hB; obtain ⟨d0, d1, d2, d3, d4, d5, d6, d7, d8, d9⟩ := above10 hs2 d0 d1 d2 d3 d4 d5 d6 d7 d8 d9 hB; replace hs := Nat.lt_of_lt_of_le hs hB.size; replace hs2 := Nat.lt_of_lt_of_le hs2 hB.size; clear hB))
            | (go_at_call 26; ((with_reducible refine (GS.out _ hA).mono ?_); rintro e w1 ⟨rfl, hB⟩; replace hA := bel2 hA hB; obtain ⟨c0, c1, c2, c3, c4, c5, c6, c7, c8, c9⟩ := above10 hs c0 c1 c2 c3 c4 c5 c6 c7 c8 c9 hB; obtain ⟨d0, d1, d2, d3, d4, d5, d6, d7, d8, d9⟩ := above10 hs2 d0 d1 d2 d3 d4 d5 d6 d7 d8 d9 hB; replace hs := Nat.lt_of_lt_of_le hs hB.size; replace hs2 := Nat.lt_of_lt_of_le hs2 hB.size; clear hB)))
          go_ret
          exact ⟨by simp, hA⟩
    | true =>
      cases bw
      all_goals
        go_enter Try.func19, Try.ntmps19
        go_wp2
        go_region
        all_goals
          go_wp2_with (first
            | (go_at_call 30; ((with_reducible refine (G1.out _).mono ?_); rintro e w1 ⟨rfl, hB⟩; replace hA := bel2 hA hB; obtain ⟨c0, c1, c2, c3, c4, c5, c6, c7, c8, c9⟩ := above10 hs c0 c1 c2 c3 c4 c5 c6 c7 c8 c9 hB; obtain ⟨d0, d1, d2, d3, d4, d5, d6, d7, d8, d9⟩ := above10 hs2 d0 d1 d2 d3 d4 d5 d6 d7 d8 d9 hB; replace hs := Nat.lt_of_lt_of_le hs hB.size; replace hs2 := Nat.lt_of_lt_of_le hs2 hB.size; clear hB))
            | (go_at_call 31; ((with_reducible refine (G2.out _).mono ?_); rintro e w1 ⟨rfl, hB⟩; replace hA := bel2 hA hB; obtain ⟨c0, c1, c2, c3, c4, c5, c6, c7, c8, c9⟩ := above10 hs c0 c1 c2 c3 c4 c5 c6 c7 c8 c9 hB; obtain ⟨d0, d1, d2, d3, d4, d5, d6, d7, d8, d9⟩ := above10 hs2 d0 d1 d2 d3 d4 d5 d6 d7 d8 d9 hB; replace hs := Nat.lt_of_lt_of_le hs hB.size; replace hs2 := Nat.lt_of_lt_of_le hs2 hB.size; clear hB))
            | (go_at_call 34; ((with_reducible refine (GW.out _).mono ?_); rintro e w1 ⟨rfl, hB⟩; replace hA := bel2 hA hB; obtain ⟨c0, c1, c2, c3, c4, c5, c6, c7, c8, c9⟩ := above10 hs c0 c1 c2 c3 c4 c5 c6 c7 c8 c9 hB; obtain ⟨d0, d1, d2, d3, d4, d5, d6, d7, d8, d9⟩ := above10 hs2 d0 d1 d2 d3 d4 d5 d6 d7 d8 d9 hB; replace hs := Nat.lt_of_lt_of_le hs hB.size; replace hs2 := Nat.lt_of_lt_of_le hs2 hB.size; clear hB))
            | (go_at_call 26; ((with_reducible refine (GS.out _ hA).mono ?_); rintro e w1 ⟨rfl, hB⟩; replace hA := bel2 hA hB; obtain ⟨c0, c1, c2, c3, c4, c5, c6, c7, c8, c9⟩ := above10 hs c0 c1 c2 c3 c4 c5 c6 c7 c8 c9 hB; obtain ⟨d0, d1, d2, d3, d4, d5, d6, d7, d8, d9⟩ := above10 hs2 d0 d1 d2 d3 d4 d5 d6 d7 d8 d9 hB; replace hs := Nat.lt_of_lt_of_le hs hB.size; replace hs2 := Nat.lt_of_lt_of_le hs2 hB.size; clear hB)))
          go_ret
          exact ⟨by simp, hA⟩

set_option maxRecDepth 100000 in
set_option maxHeartbeats 4000000 in
theorem is4_any (g : Int) (a : Option Addr) (len cap : Nat) (ht hv hc i t : Int) (mk hd : Bool) (l : List EntryC) (w : World) (h1 : HasE w (⟨g, 4, a, len, cap, ht, hv, hc, i, t, mk, hd⟩ : PartC) l) : Gives Try.prog 19 #[(⟨g, 4, a, len, cap, ht, hv, hc, i, t, mk, hd⟩ : PartC).val] w (.bool (isB (⟨g, 4, a, len, cap, ht, hv, hc, i, t, mk, hd⟩ : PartC) l)) := by
  have hV := Lib.hid (show isB (⟨g, 4, a, len, cap, ht, hv, hc, i, t, mk, hd⟩ : PartC) l = ((wB i 1 1099511627776 && wB t 1 1099511627776) && (wB g 0 999 && sameB (⟨g, 4, a, len, cap, ht, hv, hc, i, t, mk, hd⟩ : PartC) (⟨g, 4, none, 0, 0, 0, 0, 0, i, t, false, false⟩ : PartC) l [])) by simp [isB, okB, hasC, hasL])
  rw [hV.out]
  clear hV
  have GW := Lib.hid (within_any g 0 999)
  have GS := Lib.hid (fun W (hB : Below w.heap.size w W) => same_any (⟨g, 4, a, len, cap, ht, hv, hc, i, t, mk, hd⟩ : PartC) (⟨g, 4, none, 0, 0, 0, 0, 0, i, t, false, false⟩ : PartC) l [] W (h1.below hB) (hasE_nil rfl rfl))
  have G1 := Lib.hid (isIndex_any i); have G2 := Lib.hid (isTerm_any t)
  clear h1
  generalize sameB (⟨g, 4, a, len, cap, ht, hv, hc, i, t, mk, hd⟩ : PartC) (⟨g, 4, none, 0, 0, 0, 0, 0, i, t, false, false⟩ : PartC) l [] = bs at *
  generalize wB g 0 999 = bw at *
  generalize wB i 1 1099511627776 = b1 at *
  generalize wB t 1 1099511627776 = b2 at *
  dsimp only [PartC.val] at *
  unfold Gives
  have hA : Below w.heap.size w ((w.alloc (.cells #[.int .i64 g, .int .i64 4, .slice a len cap, .int .i64 ht, .int .i64 hv, .int .i64 hc, .int .i64 i, .int .i64 t, .bool mk, .bool hd] 30)).alloc (.cells #[.int .i64 g, .int .i64 4, .slice none 0 0, .int .i64 0, .int .i64 0, .int .i64 0, .int .i64 i, .int .i64 t, .bool false, .bool false] 30)).drew := (bel_alloc (bel_alloc (Below.refl _ _) _) _).drew
  have hs : w.heap.size < ((w.alloc (.cells #[.int .i64 g, .int .i64 4, .slice a len cap, .int .i64 ht, .int .i64 hv, .int .i64 hc, .int .i64 i, .int .i64 t, .bool mk, .bool hd] 30)).alloc (.cells #[.int .i64 g, .int .i64 4, .slice none 0 0, .int .i64 0, .int .i64 0, .int .i64 0, .int .i64 i, .int .i64 t, .bool false, .bool false] 30)).drew.heap.size := by show w.heap.size < ((w.alloc (.cells #[.int .i64 g, .int .i64 4, .slice a len cap, .int .i64 ht, .int .i64 hv, .int .i64 hc, .int .i64 i, .int .i64 t, .bool mk, .bool hd] 30)).alloc (.cells #[.int .i64 g, .int .i64 4, .slice none 0 0, .int .i64 0, .int .i64 0, .int .i64 0, .int .i64 i, .int .i64 t, .bool false, .bool false] 30)).heap.size; simp; omega
  have hs2 : w.heap.size + 1 < ((w.alloc (.cells #[.int .i64 g, .int .i64 4, .slice a len cap, .int .i64 ht, .int .i64 hv, .int .i64 hc, .int .i64 i, .int .i64 t, .bool mk, .bool hd] 30)).alloc (.cells #[.int .i64 g, .int .i64 4, .slice none 0 0, .int .i64 0, .int .i64 0, .int .i64 0, .int .i64 i, .int .i64 t, .bool false, .bool false] 30)).drew.heap.size := by show w.heap.size + 1 < ((w.alloc (.cells #[.int .i64 g, .int .i64 4, .slice a len cap, .int .i64 ht, .int .i64 hv, .int .i64 hc, .int .i64 i, .int .i64 t, .bool mk, .bool hd] 30)).alloc (.cells #[.int .i64 g, .int .i64 4, .slice none 0 0, .int .i64 0, .int .i64 0, .int .i64 0, .int .i64 i, .int .i64 t, .bool false, .bool false] 30)).heap.size; simp
  obtain ⟨c0, c1, c2, c3, c4, c5, c6, c7, c8, c9⟩ := arr10q (show ((w.alloc (.cells #[.int .i64 g, .int .i64 4, .slice a len cap, .int .i64 ht, .int .i64 hv, .int .i64 hc, .int .i64 i, .int .i64 t, .bool mk, .bool hd] 30)).alloc (.cells #[.int .i64 g, .int .i64 4, .slice none 0 0, .int .i64 0, .int .i64 0, .int .i64 0, .int .i64 i, .int .i64 t, .bool false, .bool false] 30)).drew.heap[w.heap.size]? = _ from two_a w _ _ _ _)
  obtain ⟨d0, d1, d2, d3, d4, d5, d6, d7, d8, d9⟩ := arr10q (show ((w.alloc (.cells #[.int .i64 g, .int .i64 4, .slice a len cap, .int .i64 ht, .int .i64 hv, .int .i64 hc, .int .i64 i, .int .i64 t, .bool mk, .bool hd] 30)).alloc (.cells #[.int .i64 g, .int .i64 4, .slice none 0 0, .int .i64 0, .int .i64 0, .int .i64 0, .int .i64 i, .int .i64 t, .bool false, .bool false] 30)).drew.heap[w.heap.size + 1]? = _ from two_b w _ _ _ _)
  cases b1 with
  | false =>
    go_enter Try.func19, Try.ntmps19
    go_wp2
    go_region
    all_goals
      go_wp2_with (first
        | (go_at_call 30; ((with_reducible refine (G1.out _).mono ?_); rintro e w1 ⟨rfl, hB⟩; replace hA := bel2 hA hB; obtain ⟨c0, c1, c2, c3, c4, c5, c6, c7, c8, c9⟩ := above10 hs c0 c1 c2 c3 c4 c5 c6 c7 c8 c9 hB; obtain ⟨d0, d1, d2, d3, d4, d5, d6, d7, d8, d9⟩ := above10 hs2 d0 d1 d2 d3 d4 d5 d6 d7 d8 d9 hB; replace hs := Nat.lt_of_lt_of_le hs hB.size; replace hs2 := Nat.lt_of_lt_of_le hs2 hB.size; clear hB))
        | (go_at_call 31; ((with_reducible refine (G2.out _).mono ?_); rintro e w1 ⟨rfl, hB⟩; replace hA := bel2 hA hB; obtain ⟨c0, c1, c2, c3, c4, c5, c6, c7, c8, c9⟩ := above10 hs c0 c1 c2 c3 c4 c5 c6 c7 c8 c9 hB; obtain ⟨d0, d1, d2, d3, d4, d5, d6, d7, d8, d9⟩ := above10 hs2 d0 d1 d2 d3 d4 d5 d6 d7 d8 d9 hB; replace hs := Nat.lt_of_lt_of_le hs hB.size; replace hs2 := Nat.lt_of_lt_of_le hs2 hB.size; clear hB))
        | (go_at_call 34; ((with_reducible refine (GW.out _).mono ?_); rintro e w1 ⟨rfl, hB⟩; replace hA := bel2 hA hB; obtain ⟨c0, c1, c2, c3, c4, c5, c6, c7, c8, c9⟩ := above10 hs c0 c1 c2 c3 c4 c5 c6 c7 c8 c9 hB; obtain ⟨d0, d1, d2, d3, d4, d5, d6, d7, d8, d9⟩ := above10 hs2 d0 d1 d2 d3 d4 d5 d6 d7 d8 d9 hB; replace hs := Nat.lt_of_lt_of_le hs hB.size; replace hs2 := Nat.lt_of_lt_of_le hs2 hB.size; clear hB))
        | (go_at_call 26; ((with_reducible refine (GS.out _ hA).mono ?_); rintro e w1 ⟨rfl, hB⟩; replace hA := bel2 hA hB; obtain ⟨c0, c1, c2, c3, c4, c5, c6, c7, c8, c9⟩ := above10 hs c0 c1 c2 c3 c4 c5 c6 c7 c8 c9 hB; obtain ⟨d0, d1, d2, d3, d4, d5, d6, d7, d8, d9⟩ := above10 hs2 d0 d1 d2 d3 d4 d5 d6 d7 d8 d9 hB; replace hs := Nat.lt_of_lt_of_le hs hB.size; replace hs2 := Nat.lt_of_lt_of_le hs2 hB.size; clear hB)))
      go_ret
      exact ⟨by simp, hA⟩
  | true =>
    cases b2 with
    | false =>
      go_enter Try.func19, Try.ntmps19
      go_wp2
      go_region
      all_goals
        go_wp2_with (first
          | (go_at_call 30; ((with_reducible refine (G1.out _).mono ?_); rintro e w1 ⟨rfl, hB⟩; replace hA := bel2 hA hB; obtain ⟨c0, c1, c2, c3, c4, c5, c6, c7, c8, c9⟩ := above10 hs c0 c1 c2 c3 c4 c5 c6 c7 c8 c9 hB; obtain ⟨d0, d1, d2, d3, d4, d5, d6, d7, d8, d9⟩ := above10 hs2 d0 d1 d2 d3 d4 d5 d6 d7 d8 d9 hB; replace hs := Nat.lt_of_lt_of_le hs hB.size; replace hs2 := Nat.lt_of_lt_of_le hs2 hB.size; clear hB))
          | (go_at_call 31; ((with_reducible refine (G2.out _).mono ?_); rintro e w1 ⟨rfl, hB⟩; replace hA := bel2 hA hB; obtain ⟨c0, c1, c2, c3, c4, c5, c6, c7, c8, c9⟩ := above10 hs c0 c1 c2 c3 c4 c5 c6 c7 c8 c9 hB; obtain ⟨d0, d1, d2, d3, d4, d5, d6, d7, d8, d9⟩ := above10 hs2 d0 d1 d2 d3 d4 d5 d6 d7 d8 d9 hB; replace hs := Nat.lt_of_lt_of_le hs hB.size; replace hs2 := Nat.lt_of_lt_of_le hs2 hB.size; clear hB))
          | (go_at_call 34; ((with_reducible refine (GW.out _).mono ?_); rintro e w1 ⟨rfl, hB⟩; replace hA := bel2 hA hB; obtain ⟨c0, c1, c2, c3, c4, c5, c6, c7, c8, c9⟩ := above10 hs c0 c1 c2 c3 c4 c5 c6 c7 c8 c9 hB; obtain ⟨d0, d1, d2, d3, d4, d5, d6, d7, d8, d9⟩ := above10 hs2 d0 d1 d2 d3 d4 d5 d6 d7 d8 d9 hB; replace hs := Nat.lt_of_lt_of_le hs hB.size; replace hs2 := Nat.lt_of_lt_of_le hs2 hB.size; clear hB))
          | (go_at_call 26; ((with_reducible refine (GS.out _ hA).mono ?_); rintro e w1 ⟨rfl, hB⟩; replace hA := bel2 hA hB; obtain ⟨c0, c1, c2, c3, c4, c5, c6, c7, c8, c9⟩ := above10 hs c0 c1 c2 c3 c4 c5 c6 c7 c8 c9 hB; obtain ⟨d0, d1, d2, d3, d4, d5, d6, d7, d8, d9⟩ := above10 hs2 d0 d1 d2 d3 d4 d5 d6 d7 d8 d9 hB; replace hs := Nat.lt_of_lt_of_le hs hB.size; replace hs2 := Nat.lt_of_lt_of_le hs2 hB.size; clear hB)))
        go_ret
        exact ⟨by simp, hA⟩
    | true =>
      cases bw
      all_goals
        go_enter Try.func19, Try.ntmps19
        go_wp2
        go_region
        all_goals
          go_wp2_with (first
            | (go_at_call 30; ((with_reducible refine (G1.out _).mono ?_); rintro e w1 ⟨rfl, hB⟩; replace hA := bel2 hA hB; obtain ⟨c0, c1, c2, c3, c4, c5, c6, c7, c8, c9⟩ := above10 hs c0 c1 c2 c3 c4 c5 c6 c7 c8 c9 hB; obtain ⟨d0, d1, d2, d3, d4, d5, d6, d7, d8, d9⟩ := above10 hs2 d0 d1 d2 d3 d4 d5 d6 d7 d8 d9 hB; replace hs := Nat.lt_of_lt_of_le hs hB.size; replace hs2 := Nat.lt_of_lt_of_le hs2 hB.size; clear hB))
            | (go_at_call 31; ((with_reducible refine (G2.out _).mono ?_); rintro e w1 ⟨rfl, hB⟩; replace hA := bel2 hA hB; obtain ⟨c0, c1, c2, c3, c4, c5, c6, c7, c8, c9⟩ := above10 hs c0 c1 c2 c3 c4 c5 c6 c7 c8 c9 hB; obtain ⟨d0, d1, d2, d3, d4, d5, d6, d7, d8, d9⟩ := above10 hs2 d0 d1 d2 d3 d4 d5 d6 d7 d8 d9 hB; replace hs := Nat.lt_of_lt_of_le hs hB.size; replace hs2 := Nat.lt_of_lt_of_le hs2 hB.size; clear hB))
            | (go_at_call 34; ((with_reducible refine (GW.out _).mono ?_); rintro e w1 ⟨rfl, hB⟩; replace hA := bel2 hA hB; obtain ⟨c0, c1, c2, c3, c4, c5, c6, c7, c8, c9⟩ := above10 hs c0 c1 c2 c3 c4 c5 c6 c7 c8 c9 hB; obtain ⟨d0, d1, d2, d3, d4, d5, d6, d7, d8, d9⟩ := above10 hs2 d0 d1 d2 d3 d4 d5 d6 d7 d8 d9 hB; replace hs := Nat.lt_of_lt_of_le hs hB.size; replace hs2 := Nat.lt_of_lt_of_le hs2 hB.size; clear hB))
            | (go_at_call 26; ((with_reducible refine (GS.out _ hA).mono ?_); rintro e w1 ⟨rfl, hB⟩; replace hA := bel2 hA hB; obtain ⟨c0, c1, c2, c3, c4, c5, c6, c7, c8, c9⟩ := above10 hs c0 c1 c2 c3 c4 c5 c6 c7 c8 c9 hB; obtain ⟨d0, d1, d2, d3, d4, d5, d6, d7, d8, d9⟩ := above10 hs2 d0 d1 d2 d3 d4 d5 d6 d7 d8 d9 hB; replace hs := Nat.lt_of_lt_of_le hs hB.size; replace hs2 := Nat.lt_of_lt_of_le hs2 hB.size; clear hB)))
          go_ret
          exact ⟨by simp, hA⟩

set_option maxRecDepth 100000 in
set_option maxHeartbeats 4000000 in
theorem is5_any (g : Int) (a : Option Addr) (len cap : Nat) (ht hv hc i t : Int) (mk hd : Bool) (l : List EntryC) (w : World) (h1 : HasE w (⟨g, 5, a, len, cap, ht, hv, hc, i, t, mk, hd⟩ : PartC) l) : Gives Try.prog 19 #[(⟨g, 5, a, len, cap, ht, hv, hc, i, t, mk, hd⟩ : PartC).val] w (.bool (isB (⟨g, 5, a, len, cap, ht, hv, hc, i, t, mk, hd⟩ : PartC) l)) := by
  have hV := Lib.hid (show isB (⟨g, 5, a, len, cap, ht, hv, hc, i, t, mk, hd⟩ : PartC) l = (true && (wB g 0 999 && sameB (⟨g, 5, a, len, cap, ht, hv, hc, i, t, mk, hd⟩ : PartC) (⟨g, 5, none, 0, 0, 0, 0, 0, 0, 0, false, false⟩ : PartC) l [])) by simp [isB, okB, hasC, hasL])
  rw [hV.out]
  clear hV
  have GW := Lib.hid (within_any g 0 999)
  have GS := Lib.hid (fun W (hB : Below w.heap.size w W) => same_any (⟨g, 5, a, len, cap, ht, hv, hc, i, t, mk, hd⟩ : PartC) (⟨g, 5, none, 0, 0, 0, 0, 0, 0, 0, false, false⟩ : PartC) l [] W (h1.below hB) (hasE_nil rfl rfl))
  clear h1
  generalize sameB (⟨g, 5, a, len, cap, ht, hv, hc, i, t, mk, hd⟩ : PartC) (⟨g, 5, none, 0, 0, 0, 0, 0, 0, 0, false, false⟩ : PartC) l [] = bs at *
  generalize wB g 0 999 = bw at *
  dsimp only [PartC.val] at *
  unfold Gives
  have hA : Below w.heap.size w ((w.alloc (.cells #[.int .i64 g, .int .i64 5, .slice a len cap, .int .i64 ht, .int .i64 hv, .int .i64 hc, .int .i64 i, .int .i64 t, .bool mk, .bool hd] 30)).alloc (.cells #[.int .i64 g, .int .i64 5, .slice none 0 0, .int .i64 0, .int .i64 0, .int .i64 0, .int .i64 0, .int .i64 0, .bool false, .bool false] 30)) := (bel_alloc (bel_alloc (Below.refl _ _) _) _)
  have hs : w.heap.size < ((w.alloc (.cells #[.int .i64 g, .int .i64 5, .slice a len cap, .int .i64 ht, .int .i64 hv, .int .i64 hc, .int .i64 i, .int .i64 t, .bool mk, .bool hd] 30)).alloc (.cells #[.int .i64 g, .int .i64 5, .slice none 0 0, .int .i64 0, .int .i64 0, .int .i64 0, .int .i64 0, .int .i64 0, .bool false, .bool false] 30)).heap.size := by simp; omega
  have hs2 : w.heap.size + 1 < ((w.alloc (.cells #[.int .i64 g, .int .i64 5, .slice a len cap, .int .i64 ht, .int .i64 hv, .int .i64 hc, .int .i64 i, .int .i64 t, .bool mk, .bool hd] 30)).alloc (.cells #[.int .i64 g, .int .i64 5, .slice none 0 0, .int .i64 0, .int .i64 0, .int .i64 0, .int .i64 0, .int .i64 0, .bool false, .bool false] 30)).heap.size := by simp
  obtain ⟨c0, c1, c2, c3, c4, c5, c6, c7, c8, c9⟩ := arr10q (show ((w.alloc (.cells #[.int .i64 g, .int .i64 5, .slice a len cap, .int .i64 ht, .int .i64 hv, .int .i64 hc, .int .i64 i, .int .i64 t, .bool mk, .bool hd] 30)).alloc (.cells #[.int .i64 g, .int .i64 5, .slice none 0 0, .int .i64 0, .int .i64 0, .int .i64 0, .int .i64 0, .int .i64 0, .bool false, .bool false] 30)).heap[w.heap.size]? = _ from two_a w _ _ _ _)
  obtain ⟨d0, d1, d2, d3, d4, d5, d6, d7, d8, d9⟩ := arr10q (show ((w.alloc (.cells #[.int .i64 g, .int .i64 5, .slice a len cap, .int .i64 ht, .int .i64 hv, .int .i64 hc, .int .i64 i, .int .i64 t, .bool mk, .bool hd] 30)).alloc (.cells #[.int .i64 g, .int .i64 5, .slice none 0 0, .int .i64 0, .int .i64 0, .int .i64 0, .int .i64 0, .int .i64 0, .bool false, .bool false] 30)).heap[w.heap.size + 1]? = _ from two_b w _ _ _ _)
  cases bw
  all_goals
    go_enter Try.func19, Try.ntmps19
    go_wp2_with (first
      | (go_at_call 34; ((with_reducible refine (GW.out _).mono ?_); rintro e w1 ⟨rfl, hB⟩; replace hA := bel2 hA hB; obtain ⟨c0, c1, c2, c3, c4, c5, c6, c7, c8, c9⟩ := above10 hs c0 c1 c2 c3 c4 c5 c6 c7 c8 c9 hB; obtain ⟨d0, d1, d2, d3, d4, d5, d6, d7, d8, d9⟩ := above10 hs2 d0 d1 d2 d3 d4 d5 d6 d7 d8 d9 hB; replace hs := Nat.lt_of_lt_of_le hs hB.size; replace hs2 := Nat.lt_of_lt_of_le hs2 hB.size; clear hB))
      | (go_at_call 26; ((with_reducible refine (GS.out _ hA).mono ?_); rintro e w1 ⟨rfl, hB⟩; replace hA := bel2 hA hB; obtain ⟨c0, c1, c2, c3, c4, c5, c6, c7, c8, c9⟩ := above10 hs c0 c1 c2 c3 c4 c5 c6 c7 c8 c9 hB; obtain ⟨d0, d1, d2, d3, d4, d5, d6, d7, d8, d9⟩ := above10 hs2 d0 d1 d2 d3 d4 d5 d6 d7 d8 d9 hB; replace hs := Nat.lt_of_lt_of_le hs hB.size; replace hs2 := Nat.lt_of_lt_of_le hs2 hB.size; clear hB)))
    go_ret
    exact ⟨by simp, hA⟩

end Go.Proofs.Ytbhhbjgdkcfagaa
