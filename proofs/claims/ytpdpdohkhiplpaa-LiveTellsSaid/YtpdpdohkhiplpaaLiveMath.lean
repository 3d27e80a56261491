/- Counts of rows of spots. -/
import Derived.Test.YtpdpdohkhiplpaaKnown15
import Derived.Test.YtpdpdohkhiplpaaLiveRef
import Derived.Deep.RegionHeld3
namespace Go.Proofs.Ytpdpdohkhiplpaa
open Go.RowKit Go.Shelf
set_option linter.unusedVariables false

theorem below_drewN {n : Nat} {w W : World} (h : Below n w W) (k : Nat) : Below n w (W.drewN k) := ⟨h.os, h.tape, h.output, h.size, h.block⟩
theorem inL_all {l : List SpotC} {z : Int} (h : ∀ f ∈ l, f.s = z) : inL l z = l := by
  unfold inL; rw [List.filter_eq_self]; intro f hf; simp [h f hf]
theorem inL_none {l : List SpotC} {z : Int} (h : ∀ f ∈ l, f.s ≠ z) : inL l z = [] := by
  unfold inL; rw [List.filter_eq_nil_iff]; intro f hf; simp [h f hf]
theorem cnt_append (l m : List SpotC) (z : Int) : cnt (l ++ m) z = cnt l z + cnt m z := by simp [cnt, inL]
theorem cnt_cons (f : SpotC) (m : List SpotC) (z : Int) : cnt (f :: m) z = (if f.s = z then 1 else 0) + cnt m z := by
  by_cases h : f.s = z <;> simp [cnt, inL, h]; omega
theorem cnt_all {l : List SpotC} {z : Int} (h : ∀ f ∈ l, f.s = z) : cnt l z = l.length := by unfold cnt; rw [inL_all h]
theorem cnt_none {l : List SpotC} {z : Int} (h : ∀ f ∈ l, f.s ≠ z) : cnt l z = 0 := by unfold cnt; rw [inL_none h]; rfl
theorem set_cells (l : List SpotC) (j : Nat) (h : j < l.length) (q : Int) : (spotCells l).set (j * 4 + 2) (.int .i64 q) = spotCells (l.set j { l[j] with s := q }) := by
  induction l generalizing j with
  | nil => simp at h
  | cons f r ih =>
    cases j with
    | zero => rfl
    | succ j =>
      have := ih j (by simpa using h)
      simp only [spotCells, List.map_cons, List.flatten_cons, List.set_cons_succ, List.getElem_cons_succ] at this ⊢
      rw [List.set_append_right _ _ (by rw [SpotC.len]; omega), SpotC.len, show (j + 1) * 4 + 2 - 4 = j * 4 + 2 by omega, this]
theorem oneCell_spots (l : List SpotC) : ∀ u ∈ spotCells l, u.oneCell' = true := fun u hu => by
  simp only [spotCells, List.mem_flatten, List.mem_map] at hu
  obtain ⟨_, ⟨f, _, rfl⟩, hu⟩ := hu
  simp [SpotC.cells] at hu
  rcases hu with rfl | rfl | rfl | rfl <;> rfl


end Go.Proofs.Ytpdpdohkhiplpaa
