/- A part in a box whose entries grow one by one. -/
import Derived.Test.YtloojgbkohpcfaaPlcK
namespace Go.Proofs.Ytloojgbkohpcfaa
open Go.RowKit Go.Shelf
set_option linter.unusedVariables false

theorem ownBlock_ltE {W : World} {base : Nat} {e : TypeId} {size : Nat} {v : Value} {k : Nat} {xs : List Value} (h : W.ownsRow base e size v k xs) {j : Nat} (hj : some j = v.ownBlock) : base ≤ j ∧ j < W.heap.size := by
  rcases h.2 with ⟨rfl, _⟩ | ⟨g, cap, cur, rfl, hb, hg, _⟩
  · simp [Value.ownBlock] at hj
  · obtain rfl : j = g := by simpa [Value.ownBlock] using hj
    exact ⟨hb, (Array.getElem?_eq_some_iff.1 hg).1⟩
def boxE (w : World) (X : Nat) (pre post : List Value) (v : Value) (L : List EntryC) (W : World) : Prop :=
  Below X w W ∧ W.heap[X]? = some (.cells (pre ++ v :: post).toArray 39 (0, 0)) ∧ W.ownsRow (X + 1) 57 3 v L.length (entryCells L) ∧ X + 1 ≤ W.heap.size
theorem boxE_new (w : World) (pre post : List Value) : boxE w w.heap.size pre post (.slice none 0 0) [] (w.alloc (.cells (pre ++ .slice none 0 0 :: post).toArray 39)) :=
  ⟨bel_alloc (Below.refl _ _) _, World.alloc_heap_new w _, World.ownsRow_nil _ _ _ _, by simp⟩
theorem boxE_append {w W W1 w2 : World} {X : Nat} {pre post : List Value} {v v' : Value} {L : List EntryC} {e : EntryC} (h : boxE w X pre post v L W) (h1 : Below W.heap.size W W1) (hown : w2.ownsRow (X + 1) 57 3 v' (L.length + 1) (entryCells L ++ e.cells)) (hg : W1.grownBy w2 v.ownBlock) :
    w2.heap[X]? = some (.cells (pre ++ v :: post).toArray 39 (0, 0)) ∧ boxE w X pre post v' (L ++ [e]) (w2.setCell ⟨X, pre.length, none⟩ v') := by
  obtain ⟨hB, hP, hrow, hs⟩ := h
  have hFg : FrameT (fun k => some k = v.ownBlock) W w2 := (FrameT.below h1).mono (fun _ h => h) |>.trans (FrameT.grownRow hg)
  have hXo : ∀ {z : Value} {Z : World} {n : Nat} {ys : List Value}, Z.ownsRow (X + 1) 57 3 z n ys → some X ≠ z.ownBlock := fun hr e => by have := (ownBlock_ltE hr e).1; omega
  have hX2 := hFg.get hP (hXo hrow)
  have hF : FrameT (fun k => some k = v.ownBlock ∨ k = X) W (w2.setCell ⟨X, pre.length, none⟩ v') := (hFg.mono fun _ h => .inl h).trans ((FrameT.setCell w2 X pre.length v').mono fun _ h => .inr h)
  refine ⟨hX2, ?_, ?_, ?_, ?_⟩
  · exact hB.trans (hF.toBelow (by omega) (fun k hk => by
      rcases hk with e | e
      · have := (ownBlock_ltE hrow e).1; omega
      · omega))
  · have := heap_setCell_same w2 X pre.length _ _ v' hX2
    rw [this]
    congr 2
    simp [List.set_append_right]
  · rw [List.length_append, entryCells_snoc]
    exact hown.kept (row := some X) ⟨rfl, rfl, rfl, by simp, fun k _ hne => heap_setCell_other _ _ _ _ (fun e => hne (congrArg some e))⟩ (.inr (hXo hown).symm)
  · exact Nat.le_trans hs hF.size
theorem boxE.below {w W W1 : World} {X : Nat} {pre post : List Value} {v : Value} {L : List EntryC} (h : boxE w X pre post v L W) (h1 : Below W.heap.size W W1) : boxE w X pre post v L W1 := by
  obtain ⟨hB, hP, hrow, hs⟩ := h
  exact ⟨hB.trans ((FrameT.below h1).toBelow (T := fun _ => False) (by omega) (fun k hk => hk.elim)), (h1.block _ (heap_lt hP)).trans hP, ownsRow_below (n := 0) hrow h1, Nat.le_trans hs h1.size⟩
/-- .. where what lay below its box turns. -/
theorem boxE.far {w W W1 : World} {T : Nat → Prop} {X : Nat} {pre post : List Value} {v : Value} {L : List EntryC} (h : boxE w X pre post v L W) (h1 : FrameT T W W1) (hT : ∀ k, T k → k < X) : W1.heap[X]? = some (.cells (pre ++ v :: post).toArray 39 (0, 0)) ∧ RowV W1 (match v with | .slice a _ _ => a | _ => none) L.length 3 (entryCells L) := by
  obtain ⟨hB, hP, hrow, hs⟩ := h
  refine ⟨h1.get hP (fun h => by have := hT X h; omega), ?_⟩
  obtain ⟨a, c, rfl, hc, hr⟩ := rowV_own hrow
  refine rowV_frame hr h1 (fun k hk hTk => ?_)
  obtain ⟨b, off, e, h0, rfl⟩ := hk
  have e : a = some ⟨k, off, none⟩ := e
  have h8 := (ownBlock_ltE hrow (j := k) (by rw [e]; rfl)).1
  have := hT _ hTk
  omega

end Go.Proofs.Ytloojgbkohpcfaa
