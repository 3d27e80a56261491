/- The contracts of package part's functions on entries: within, isIndex, isTerm, IsEntry, isHard; what a part is. -/
import Derived.Test.YtbhhbjgdkcfagaaRowV
import Derived.Test.YtbhhbjgdkcfagaaCode
import Derived.Deep.QuietTactic
import Derived.BigQuiet
namespace Go.Proofs.Ytbhhbjgdkcfagaa
open Go.RowKit Go.Shelf
set_option linter.unusedVariables false
attribute [local go_sem] Oper.semAt_some wide_fn wide_round_fn

def wB (n lo hi : Int) : Bool := decide (lo ≤ n) && decide (n ≤ hi)
theorem wB_iff {n lo hi : Int} : wB n lo hi = true ↔ lo ≤ n ∧ n ≤ hi := by simp [wB]
/-- An entry. -/
structure EntryC where
  i : Int
  t : Int
  d : ByteArray
  deriving DecidableEq
def EntryC.cells (e : EntryC) : List Value := [.int .i64 e.i, .int .i64 e.t, .string e.d]
abbrev EntryC.val (e : EntryC) : Value := .agg #[.int .i64 e.i, .int .i64 e.t, .string e.d]
theorem EntryC.len (e : EntryC) : e.cells.length = 3 := rfl
def entryCells (l : List EntryC) : List Value := (l.map EntryC.cells).flatten
def entryB (e : EntryC) : Bool := wB e.i 1 1099511627776 && (wB e.t 1 1099511627776 && decide (e.d.size ≤ 40))
def hardB (t v c : Int) : Bool := wB t 0 1099511627776 && (wB v 0 1000 && wB c 0 1099511627776)

/-- The cells of a block that was laid, in later worlds. -/
theorem blk_cell {w W : World} {cs : Array Value} {T : TypeId} (h : Below (w.alloc (.cells cs T)).heap.size (w.alloc (.cells cs T)) W) (j : Nat) : W.cell? ⟨w.heap.size, j, none⟩ = cs[j]? :=
  cell_of_row _ _ j _ _ _ ((h.block w.heap.size (by simp)).trans (World.alloc_heap_new w _))
theorem blk_below {w W : World} {o : Obj} (h : Below (w.alloc o).heap.size (w.alloc o) W) : Below w.heap.size w W := bel2 (bel_alloc (Below.refl _ _) _) h

set_option maxRecDepth 100000 in
theorem within_any (n lo hi : Int) (w : World) : Gives Try.prog 34 #[.int .i64 n, .int .i64 lo, .int .i64 hi] w (.bool (wB n lo hi)) := by
  unfold Gives
  by_cases h1 : lo ≤ n
  · by_cases h2 : n ≤ hi
    · rw [wB_iff.2 ⟨h1, h2⟩]
      go_enter Try.func34, Try.ntmps34
      go_wp2
      go_ret
      exact ⟨rfl, Below.refl _ _⟩
    · rw [show wB n lo hi = false by simp [wB, h2]]
      have h2' : hi < n := by omega
      go_enter Try.func34, Try.ntmps34
      go_wp2
      go_ret
      exact ⟨by simp, Below.refl _ _⟩
  · rw [show wB n lo hi = false by simp [wB, h1]]
    have h1' : n < lo := by omega
    go_enter Try.func34, Try.ntmps34
    go_wp2
    go_ret
    exact ⟨by simp, Below.refl _ _⟩
theorem isIndex_any (n : Int) (w : World) : Gives Try.prog 30 #[.int .i64 n] w (.bool (wB n 1 1099511627776)) := by
  have G := Lib.hid (within_any n 1 1099511627776)
  unfold Gives
  go_enter Try.func30, Try.ntmps30
  go_wp2_with (go_at_call 34; ((with_reducible refine (G.out _).mono ?_); rintro e w1 ⟨rfl, hB1⟩))
  go_ret
  exact ⟨rfl, hB1⟩
theorem isTerm_any (n : Int) (w : World) : Gives Try.prog 31 #[.int .i64 n] w (.bool (wB n 1 1099511627776)) := by
  have G := Lib.hid (within_any n 1 1099511627776)
  unfold Gives
  go_enter Try.func31, Try.ntmps31
  go_wp2_with (go_at_call 34; ((with_reducible refine (G.out _).mono ?_); rintro e w1 ⟨rfl, hB1⟩))
  go_ret
  exact ⟨rfl, hB1⟩

set_option maxRecDepth 100000 in
set_option maxHeartbeats 1000000 in
theorem isEntry_any (x : EntryC) (w : World) : Gives Try.prog 48 #[x.val] w (.bool (entryB x)) := by
  have G1 := Lib.hid (isIndex_any x.i); have G2 := Lib.hid (isTerm_any x.t)
  unfold entryB
  generalize wB x.i 1 1099511627776 = b1 at *
  generalize wB x.t 1 1099511627776 = b2 at *
  unfold Gives
  obtain ⟨i, t, d⟩ := x
  dsimp only at *
  cases b1 with
  | false =>
    go_enter Try.func48, Try.ntmps48
    go_wp2_with (go_at_call 30; ((with_reducible refine (G1.out _).mono ?_); rintro e w1 ⟨rfl, hB1⟩))
    go_ret
    exact ⟨by simp, blk_below hB1⟩
  | true =>
    cases b2
    all_goals
      go_enter Try.func48, Try.ntmps48
      go_wp2_with (first
        | (go_at_call 30; ((with_reducible refine (G1.out _).mono ?_); rintro e w1 ⟨rfl, hB1⟩; have d1 : w1.cell? ⟨w.heap.size, 1, none⟩ = some (.int .i64 t) := blk_cell hB1 1))
        | (go_at_call 31; ((with_reducible refine (G2.out _).mono ?_); rintro e w2 ⟨rfl, hB2⟩; have d2 : w2.cell? ⟨w.heap.size, 2, none⟩ = some (.string d) := blk_cell (bel2 hB1 hB2) 2)))
      go_ret
      exact ⟨by simp <;> omega, blk_below (bel2 hB1 hB2)⟩

set_option maxRecDepth 100000 in
set_option maxHeartbeats 1000000 in
theorem isHard_any (t v c : Int) (w : World) : Gives Try.prog 29 #[.agg #[.int .i64 t, .int .i64 v, .int .i64 c]] w (.bool (hardB t v c)) := by
  have G1 := Lib.hid (within_any t 0 1099511627776); have G2 := Lib.hid (within_any v 0 1000); have G3 := Lib.hid (within_any c 0 1099511627776)
  unfold hardB
  generalize wB t 0 1099511627776 = b1 at *
  generalize wB v 0 1000 = b2 at *
  generalize wB c 0 1099511627776 = b3 at *
  unfold Gives
  cases b1 with
  | false =>
    go_enter Try.func29, Try.ntmps29
    go_wp2_with (go_at_call 34; ((with_reducible refine (G1.out _).mono ?_); rintro e w1 ⟨rfl, hB1⟩))
    go_ret
    exact ⟨by simp, blk_below hB1⟩
  | true =>
    cases b2 with
    | false =>
      go_enter Try.func29, Try.ntmps29
      go_wp2_with (first
        | (go_at_call 34; ((with_reducible refine (G1.out _).mono ?_); rintro e w1 ⟨rfl, hB1⟩; have d1 : w1.cell? ⟨w.heap.size, 1, none⟩ = some (.int .i64 v) := blk_cell hB1 1))
        | (go_at_call 34; ((with_reducible refine (G2.out _).mono ?_); rintro e w2 ⟨rfl, hB2⟩)))
      go_ret
      exact ⟨by simp, blk_below (bel2 hB1 hB2)⟩
    | true =>
      go_enter Try.func29, Try.ntmps29
      go_wp2_with (first
        | (go_at_call 34; ((with_reducible refine (G1.out _).mono ?_); rintro e w1 ⟨rfl, hB1⟩; have d1 : w1.cell? ⟨w.heap.size, 1, none⟩ = some (.int .i64 v) := blk_cell hB1 1))
        | (go_at_call 34; ((with_reducible refine (G2.out _).mono ?_); rintro e w2 ⟨rfl, hB2⟩; have d2 : w2.cell? ⟨w.heap.size, 2, none⟩ = some (.int .i64 c) := blk_cell (bel2 hB1 hB2) 2))
        | (go_at_call 34; ((with_reducible refine (G3.out _).mono ?_); rintro e w3 ⟨rfl, hB3⟩)))
      go_ret
      exact ⟨by simp, blk_below (bel2 (bel2 hB1 hB2) hB3)⟩

end Go.Proofs.Ytbhhbjgdkcfagaa
