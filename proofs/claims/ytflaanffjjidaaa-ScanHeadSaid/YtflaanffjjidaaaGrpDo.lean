/- GrpChk, GrpTrm, GrpDo: in one text. -/
import Derived.Test.YtflaanffjjidaaaGrp
import Derived.Test.YtflaanffjjidaaaQuietC
import Derived.Test.YtflaanffjjidaaaPartSame
import Derived.Lib.SliceRun
import Derived.OwnWalkIn
import Derived.Sort.QuietTacIn
import Derived.Sort.QuietLawsIn
/- The contracts of package group's checkAppend, checkCompact, Check. -/
namespace Go.Proofs.Ytflaanffjjidaaa
open Go.RowKit Go.Shelf
set_option linter.unusedVariables false
attribute [local go_sem] Oper.semAt_some wide_fn wide_round_fn

attribute [local irreducible] wpQuiet
end Go.Proofs.Ytflaanffjjidaaa

/- The contracts of package group's Same, Term, Entries. -/
namespace Go.Proofs.Ytflaanffjjidaaa
open Go.RowKit Go.Shelf
set_option linter.unusedVariables false
attribute [local go_sem] Oper.semAt_some wide_fn wide_round_fn

end Go.Proofs.Ytflaanffjjidaaa

/- Words for the contract of package group's Do; of slices.Clone at entries. -/
namespace Go.Proofs.Ytflaanffjjidaaa
open Go.RowKit Go.Shelf
set_option linter.unusedVariables false
attribute [local go_sem] Oper.semAt_some wide_fn wide_round_fn

abbrev GZ : Array Value := #[.int .i64 0, .int .i64 0, .int .i64 0, .int .i64 0, .int .i64 0, .int .i64 0, .slice none 0 0]
/-- While Do goes: the group's box, the part's, the result's. -/
structure DoW (w : World) (G P : Array Value) (W : World) : Prop where
  gb : W.heap[w.heap.size]? = some (.cells G 58 (0, 0))
  pb : W.heap[w.heap.size + 1]? = some (.cells P 70 (0, 0))
  rb : W.heap[w.heap.size + 1 + 1]? = some (.cells GZ 58 (0, 0))
  bel : Below w.heap.size w W
theorem DoW.lt {w W : World} {G P : Array Value} (h : DoW w G P W) : w.heap.size + 3 ≤ W.heap.size := by have := heap_lt h.rb; omega
theorem DoW.after {w W W' : World} {G P : Array Value} (h : DoW w G P W) (hB : Below W.heap.size W W') : DoW w G P W' :=
  ⟨(hB.block _ (heap_lt h.gb)).trans h.gb, (hB.block _ (heap_lt h.pb)).trans h.pb, (hB.block _ (heap_lt h.rb)).trans h.rb, h.bel.trans (hB.mono h.bel.size)⟩
theorem DoW.set {w W : World} {G P : Array Value} (h : DoW w G P W) (i : Nat) (v : Value) : DoW w (G.setIfInBounds i v) P (W.setCell ⟨w.heap.size, i, none⟩ v) :=
  ⟨heap_setCell_same _ _ i _ _ _ h.gb, (heap_setCell_other _ _ _ _ (by show w.heap.size + 1 ≠ w.heap.size; omega)).trans h.pb, (heap_setCell_other _ _ _ _ (by show w.heap.size + 1 + 1 ≠ w.heap.size; omega)).trans h.rb, h.bel.setCell (p := ⟨w.heap.size, i, none⟩) (Nat.le_refl _) v⟩
theorem DoW.far {w W : World} {G P : Array Value} (h : DoW w G P W) {b : Nat} (hb : w.heap.size + 3 ≤ b) (i : Nat) (v : Value) : DoW w G P (W.setCell ⟨b, i, none⟩ v) :=
  ⟨(heap_setCell_other _ _ _ _ (by show w.heap.size ≠ b; omega)).trans h.gb, (heap_setCell_other _ _ _ _ (by show w.heap.size + 1 ≠ b; omega)).trans h.pb, (heap_setCell_other _ _ _ _ (by show w.heap.size + 1 + 1 ≠ b; omega)).trans h.rb, h.bel.setCell (p := ⟨b, i, none⟩) (by show w.heap.size ≤ b; omega) v⟩
theorem DoW.grown {w W W' : World} {G P : Array Value} {row : Option Nat} (h : DoW w G P W) (hg : W.grownBy W' row) (hr : ∀ k, row = some k → w.heap.size + 3 ≤ k) : DoW w G P W' :=
  ⟨(hg.block _ (heap_lt h.gb) (fun e => by have := hr _ e.symm; omega)).trans h.gb, (hg.block _ (heap_lt h.pb) (fun e => by have := hr _ e.symm; omega)).trans h.pb, (hg.block _ (heap_lt h.rb) (fun e => by have := hr _ e.symm; omega)).trans h.rb,
    h.bel.grown hg h.bel.size (fun k e => by have := hr _ e; omega)⟩
theorem DoW.drew {w W : World} {G P : Array Value} (h : DoW w G P W) : DoW w G P W.drew := ⟨h.gb, h.pb, h.rb, h.bel.drew⟩
theorem DoW.stab {w : World} {G P : Array Value} {B : Nat} (hB : w.heap.size ≤ B) : Stab B (fun _ => False) (DoW w G P) := fun W W' h hm =>
  ⟨hm.block _ _ h.gb id (.inr rfl), hm.block _ _ h.pb id (.inr rfl), hm.block _ _ h.rb id (.inr rfl), Stab.below (Nat.le_refl _) hB (fun _ h => h.elim) _ _ h.bel hm⟩
theorem rowV_frame {W W' : World} {T : Nat → Prop} {a : Option Addr} {n sz : Nat} {xs : List Value} (h : RowV W a n sz xs) (hF : FrameT T W W') (hT : ∀ k, inBlkE a n k → ¬ T k) : RowV W' a n sz xs := by
  refine ⟨h.1, h.2.1, fun h0 => ?_⟩
  obtain ⟨b, off, e, hb, hx⟩ := h.2.2 h0
  have hn := hT b ⟨b, off, e, h0, rfl⟩
  exact ⟨b, off, e, Nat.lt_of_lt_of_le hb hF.size, fun j hj => (World.cell?_of_block (hF.block b hb hn)).trans (hx j hj)⟩
end Go.Proofs.Ytflaanffjjidaaa
