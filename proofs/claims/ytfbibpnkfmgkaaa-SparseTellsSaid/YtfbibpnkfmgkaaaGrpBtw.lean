/- The contracts of package group's between and of its iterator, of entryTerm. -/
import Derived.Test.YtfbibpnkfmgkaaaGrp
import Derived.Test.YtfbibpnkfmgkaaaCollect
namespace Go.Proofs.Ytfbibpnkfmgkaaa
open Go.RowKit Go.Shelf
set_option linter.unusedVariables false
attribute [local go_sem] Oper.semAt_some wide_fn wide_round_fn

theorem boxes3 (w : World) (v1 v2 v3 : Value) (T1 T2 T3 : TypeId) :
    (((w.alloc (.cells #[v1] T1)).alloc (.cells #[v2] T2)).alloc (.cells #[v3] T3)).cell? ⟨w.heap.size, 0, none⟩ = some v1 ∧ (((w.alloc (.cells #[v1] T1)).alloc (.cells #[v2] T2)).alloc (.cells #[v3] T3)).cell? ⟨w.heap.size + 1, 0, none⟩ = some v2 ∧
    (((w.alloc (.cells #[v1] T1)).alloc (.cells #[v2] T2)).alloc (.cells #[v3] T3)).cell? ⟨w.heap.size + 1 + 1, 0, none⟩ = some v3 ∧ Below w.heap.size w (((w.alloc (.cells #[v1] T1)).alloc (.cells #[v2] T2)).alloc (.cells #[v3] T3)) ∧
    (((w.alloc (.cells #[v1] T1)).alloc (.cells #[v2] T2)).alloc (.cells #[v3] T3)).heap.size = w.heap.size + 3 := by
  refine ⟨(((Boxed.new w T1 v1).alloc _).alloc _).cell, ?_, ?_, bel_alloc (bel_alloc (bel_alloc (Below.refl _ _) _) _) _, by simp⟩
  · have := ((Boxed.new (w.alloc (.cells #[v1] T1)) T2 v2).alloc (.cells #[v3] T3)).cell
    rwa [World.size_alloc] at this
  · have := (Boxed.new ((w.alloc (.cells #[v1] T1)).alloc (.cells #[v2] T2)) T3 v3).cell
    rwa [World.size_alloc, World.size_alloc] at this

theorem btw_lt {a : Option Addr} {len : Nat} {w : World} {sz : Nat} {xs : List Value} (h : RowV w a len sz xs) {k : Nat} (hk : inBlkE a len k) : k < w.heap.size := by
  obtain ⟨b, off, rfl, h0, rfl⟩ := hk
  obtain ⟨b', off', e, hb, _⟩ := h.2.2 h0
  cases e; exact hb

end Go.Proofs.Ytfbibpnkfmgkaaa
