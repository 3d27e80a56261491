/- The contracts of the document's functions on entries and hard states: they come to the same. -/
import Derived.Test.YtdncdlbhgaehmaaPartSame
namespace Go.Proofs.Ytdncdlbhgaehmaa
open Go.RowKit Go.Shelf
set_option linter.unusedVariables false
attribute [local go_sem] Oper.semAt_some wide_fn wide_round_fn

set_option maxRecDepth 100000 in
theorem refWithin_any (n lo hi : Int) (w : World) : Gives Try.prog 107 #[.int .i64 n, .int .i64 lo, .int .i64 hi] w (.bool (wB n lo hi)) := by
  unfold Gives
  by_cases h1 : lo ≤ n
  · by_cases h2 : n ≤ hi
    · rw [wB_iff.2 ⟨h1, h2⟩]
      go_enter Try.func107, Try.ntmps107
      go_wp2
      go_ret
      exact ⟨rfl, Below.refl _ _⟩
    · rw [show wB n lo hi = false by simp [wB, h2]]
      have h2' : hi < n := by omega
      go_enter Try.func107, Try.ntmps107
      go_wp2
      go_ret
      exact ⟨by simp, Below.refl _ _⟩
  · rw [show wB n lo hi = false by simp [wB, h1]]
    have h1' : n < lo := by omega
    go_enter Try.func107, Try.ntmps107
    go_wp2
    go_ret
    exact ⟨by simp, Below.refl _ _⟩
set_option maxRecDepth 100000 in
set_option maxHeartbeats 1000000 in
theorem refIsEntry_any (x : EntryC) (w : World) : Gives Try.prog 84 #[x.val] w (.bool (entryB x)) := by
  have G1 := Lib.hid (refWithin_any x.i 1 1099511627776); have G2 := Lib.hid (refWithin_any x.t 1 1099511627776)
  unfold entryB
  generalize wB x.i 1 1099511627776 = b1 at *
  generalize wB x.t 1 1099511627776 = b2 at *
  unfold Gives
  obtain ⟨i, t, d⟩ := x
  dsimp only at *
  cases b1 with
  | false =>
    go_enter Try.func84, Try.ntmps84
    go_wp2_with (go_at_call 107; ((with_reducible refine (G1.out _).mono ?_); rintro e w1 ⟨rfl, hB1⟩))
    go_ret
    exact ⟨by simp, blk_below hB1⟩
  | true =>
    cases b2
    all_goals
      go_enter Try.func84, Try.ntmps84
      go_wp2_with (first
        | (go_at_call 107; ((with_reducible refine (G1.out _).mono ?_); rintro e w1 ⟨rfl, hB1⟩; have d1 : w1.cell? ⟨w.heap.size, 1, none⟩ = some (.int .i64 t) := blk_cell hB1 1))
        | (go_at_call 107; ((with_reducible refine (G2.out _).mono ?_); rintro e w2 ⟨rfl, hB2⟩; have d2 : w2.cell? ⟨w.heap.size, 2, none⟩ = some (.string d) := blk_cell (bel2 hB1 hB2) 2)))
      go_ret
      exact ⟨by simp <;> omega, blk_below (bel2 hB1 hB2)⟩

set_option maxRecDepth 100000 in
set_option maxHeartbeats 1000000 in
theorem refIsHard_any (t v c : Int) (w : World) : Gives Try.prog 83 #[.agg #[.int .i64 t, .int .i64 v, .int .i64 c]] w (.bool (wB t 0 1099511627776 && (wB c 0 1099511627776 && wB v 0 1000))) := by
  have G1 := Lib.hid (refWithin_any t 0 1099511627776); have G2 := Lib.hid (refWithin_any c 0 1099511627776); have G3 := Lib.hid (refWithin_any v 0 1000)
  generalize wB t 0 1099511627776 = b1 at *
  generalize wB c 0 1099511627776 = b2 at *
  generalize wB v 0 1000 = b3 at *
  unfold Gives
  cases b1 with
  | false =>
    go_enter Try.func83, Try.ntmps83
    go_wp2_with (go_at_call 107; ((with_reducible refine (G1.out _).mono ?_); rintro e w1 ⟨rfl, hB1⟩))
    go_ret
    exact ⟨by simp, blk_below hB1⟩
  | true =>
    cases b2 with
    | false =>
      go_enter Try.func83, Try.ntmps83
      go_wp2_with (first
        | (go_at_call 107; ((with_reducible refine (G1.out _).mono ?_); rintro e w1 ⟨rfl, hB1⟩; have d1 : w1.cell? ⟨w.heap.size, 2, none⟩ = some (.int .i64 c) := blk_cell hB1 2))
        | (go_at_call 107; ((with_reducible refine (G2.out _).mono ?_); rintro e w2 ⟨rfl, hB2⟩)))
      go_ret
      exact ⟨by simp, blk_below (bel2 hB1 hB2)⟩
    | true =>
      go_enter Try.func83, Try.ntmps83
      go_wp2_with (first
        | (go_at_call 107; ((with_reducible refine (G1.out _).mono ?_); rintro e w1 ⟨rfl, hB1⟩; have d1 : w1.cell? ⟨w.heap.size, 2, none⟩ = some (.int .i64 c) := blk_cell hB1 2))
        | (go_at_call 107; ((with_reducible refine (G2.out _).mono ?_); rintro e w2 ⟨rfl, hB2⟩; have d2 : w2.cell? ⟨w.heap.size, 1, none⟩ = some (.int .i64 v) := blk_cell (bel2 hB1 hB2) 1))
        | (go_at_call 107; ((with_reducible refine (G3.out _).mono ?_); rintro e w3 ⟨rfl, hB3⟩)))
      go_ret
      exact ⟨by simp, blk_below (bel2 (bel2 hB1 hB2) hB3)⟩
theorem hardB_swap (t v c : Int) : (wB t 0 1099511627776 && (wB c 0 1099511627776 && wB v 0 1000)) = hardB t v c := by
  unfold hardB
  cases wB t 0 1099511627776 <;> cases wB c 0 1099511627776 <;> cases wB v 0 1000 <;> rfl

end Go.Proofs.Ytdncdlbhgaehmaa
