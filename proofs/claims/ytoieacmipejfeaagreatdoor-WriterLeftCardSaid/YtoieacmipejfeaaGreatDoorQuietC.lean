/- A region that draws its order, whose calls make memory: one walk in the text's order, in whatever world that lies above the one ahead of the region. -/
import Derived.Test.YtoieacmipejfeaaGreatDoorKit
import Derived.Deep.QuietTactic
import Derived.BigQuiet
namespace Go.Proofs.YtoieacmipejfeaaGreatDoor
open Go.RowKit Go.Shelf
set_option linter.unusedVariables false

/-- W is as w was, and more: as a word of its own, so that the walk doesn't look into it. -/
def Above (w W : World) : Prop := Below w.heap.size w W
theorem wp_region_below {P : Program} {id : Nat} {Q : Exit → Act → World → Prop} {a : Act} {w : World} {l : List Oper} (hm : P.follows .mixedOrders = true) (hB : Region.lexB .any l.toArray = true)
    (h : wpQuiet P l.toArray (Above w) (fun a' => ∀ W, Above w W → Q .normal a' W) l a) : (Code.region id l.toArray true).wp P Q a w :=
  wp_region_quiet (C := Above w) hm hB (show Below w.heap.size w _ from (Below.refl _ _).drew) (by simpa using h)
theorem gives_above {P : Program} {f : FuncId} {args : Array Value} {w W : World} {v : Value} (hW : Above w W) (h : Gives P f args W v) : Calls P f args W fun e W' => e = .returned v ∧ Above w W' :=
  h.mono fun _ _ ⟨h1, h2⟩ => ⟨h1, Below.trans hW (h2.mono (Below.size hW))⟩
theorem above10 {w W : World} {X : Nat} {v0 v1 v2 v3 v4 v5 v6 v7 v8 v9 : Value} (hs : X < w.heap.size) (c0 : w.cell? ⟨X, 0, none⟩ = some v0) (c1 : w.cell? ⟨X, 1, none⟩ = some v1) (c2 : w.cell? ⟨X, 2, none⟩ = some v2) (c3 : w.cell? ⟨X, 3, none⟩ = some v3) (c4 : w.cell? ⟨X, 4, none⟩ = some v4) (c5 : w.cell? ⟨X, 5, none⟩ = some v5) (c6 : w.cell? ⟨X, 6, none⟩ = some v6) (c7 : w.cell? ⟨X, 7, none⟩ = some v7) (c8 : w.cell? ⟨X, 8, none⟩ = some v8) (c9 : w.cell? ⟨X, 9, none⟩ = some v9) (hW : Below w.heap.size w W) :
    W.cell? ⟨X, 0, none⟩ = some v0 ∧ W.cell? ⟨X, 1, none⟩ = some v1 ∧ W.cell? ⟨X, 2, none⟩ = some v2 ∧ W.cell? ⟨X, 3, none⟩ = some v3 ∧ W.cell? ⟨X, 4, none⟩ = some v4 ∧ W.cell? ⟨X, 5, none⟩ = some v5 ∧ W.cell? ⟨X, 6, none⟩ = some v6 ∧ W.cell? ⟨X, 7, none⟩ = some v7 ∧ W.cell? ⟨X, 8, none⟩ = some v8 ∧ W.cell? ⟨X, 9, none⟩ = some v9 :=
  ⟨(hW.cell (p := ⟨X, 0, none⟩) hs).trans c0, (hW.cell (p := ⟨X, 1, none⟩) hs).trans c1, (hW.cell (p := ⟨X, 2, none⟩) hs).trans c2, (hW.cell (p := ⟨X, 3, none⟩) hs).trans c3, (hW.cell (p := ⟨X, 4, none⟩) hs).trans c4, (hW.cell (p := ⟨X, 5, none⟩) hs).trans c5, (hW.cell (p := ⟨X, 6, none⟩) hs).trans c6, (hW.cell (p := ⟨X, 7, none⟩) hs).trans c7, (hW.cell (p := ⟨X, 8, none⟩) hs).trans c8, (hW.cell (p := ⟨X, 9, none⟩) hs).trans c9⟩

end Go.Proofs.YtoieacmipejfeaaGreatDoor
