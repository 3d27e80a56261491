/- The contract of slices.Collect at entries, over an iterator that turns a block of its own. -/
import Derived.Test.YtfbibpnkfmgkaaaIterK
import Derived.Test.YtfbibpnkfmgkaaaPart
import Derived.Maps.AppendAt
namespace Go.Proofs.Ytfbibpnkfmgkaaa
open Go.RowKit Go.Shelf
set_option linter.unusedVariables false
attribute [local go_sem] Oper.semAt_some wide_fn wide_round_fn

theorem infoEntry : (Try.prog.info? 38).map (fun i => (i.zero, i.size, i.bytes)) = some (some (.agg #[.int .i64 0, .int .i64 0, .string ⟨#[]⟩]), 3, 32) := by kernel_rfl
theorem entryCells_snoc (l : List EntryC) (e : EntryC) : entryCells (l ++ [e]) = entryCells l ++ e.cells := by simp [entryCells]
def EntryC.enc (e : EntryC) : Array Value := #[e.val]
def collK (b : Nat) (w w1 : World) (q n : Nat) (ys : List Value) (W : World) : Prop :=
  ∃ v, Boxed W q 24 v ∧ W.ownsRow w1.heap.size 38 3 v n ys ∧ FrameT (fun k => k = b) w W ∧ w1.heap.size ≤ W.heap.size
theorem collK_stab {b : Nat} {w w1 : World} {q n : Nat} {ys : List Value} (hq : q ≠ b) (h : w.heap.size ≤ w1.heap.size) (hb : b < w.heap.size) : Stab w1.heap.size (fun k => k = b) (collK b w w1 q n ys) :=
  Stab.ex fun v => (Stab.boxed (T := fun k => k = b) hq).and ((Stab.ownsRow (T := fun k => k = b) (fun j h' => by have h' : j = b := h'; omega)).and ((FrameT.stab h).and Stab.size))
theorem ownsRow_shut {W : World} {base : Nat} {e : TypeId} {size : Nat} {v : Value} {k : Nat} {xs : List Value} (h : W.ownsRow base e size v k xs) {D : Nat} {o : Obj} (hD : W.heap[D]? = some o) (hc : o.isCells = false) (o' : Obj) : (W.putObj D o').ownsRow base e size v k xs := by
  refine ⟨h.1, ?_⟩
  rcases h.2 with h2 | ⟨g, cap, cur, hv, hg, hh, r⟩
  · exact .inl h2
  · refine .inr ⟨g, cap, cur, hv, hg, (World.putObj_heap_other (fun e => ?_)).trans hh, r⟩
    rw [e, hD] at hh
    cases hh
    cases hc

end Go.Proofs.Ytfbibpnkfmgkaaa
