/- What the sixteenth layer's laws hold by themselves: the examples. -/
import Derived.Test.YtieekahlknmkfaaVictim
namespace Go.Proofs.Ytieekahlknmkfaa
open Go.RowKit Go.Shelf
set_option linter.unusedVariables false

theorem rowI_new (w : World) (zs : List Int) (n : Nat) (hn : zs.length = n) (hm : n ≤ maxLen) (hw : ∀ z ∈ zs, (Lit.int .i64 z).wf = true) (e : TypeId) (cs : Array Value) (hcs : cs.toList = intsV zs) : RowI .i64 (w.alloc (.cells cs e)) (some ⟨w.heap.size, 0, none⟩) n zs := by
  obtain ⟨h1, h2, h3⟩ := rowV_new w e cs n 1 (by rw [← hn, Nat.mul_one]; have := congrArg List.length hcs; simpa using this) hm
  refine ⟨hn, hm, hw, fun h0 => ?_⟩
  obtain ⟨b, off, e2, hb, hc⟩ := h3 h0
  refine ⟨b, off, e2, hb, fun i hi => ?_⟩
  have hl : i < cs.toList.length := by rw [hcs]; simpa using hi
  rw [hc i hl]
  simp only [hcs, List.getElem_map]

end Go.Proofs.Ytieekahlknmkfaa
