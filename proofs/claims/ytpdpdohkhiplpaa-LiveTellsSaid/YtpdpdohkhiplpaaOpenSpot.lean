/- A slice of spots that came in. -/
import Derived.Test.YtpdpdohkhiplpaaOpen
import Derived.Test.YtpdpdohkhiplpaaLive
namespace Go.Proofs.Ytpdpdohkhiplpaa
open Go.RowKit Go.Shelf Go.ChangeShapes Go.WideShapes Go.Deep
set_option linter.unusedVariables false

def goodSpot (f : SpotC) : Prop := (-9223372036854775808 ≤ f.g ∧ f.g < 9223372036854775808) ∧ (-9223372036854775808 ≤ f.i ∧ f.i < 9223372036854775808) ∧ (-9223372036854775808 ≤ f.s ∧ f.s < 9223372036854775808) ∧ (-9223372036854775808 ≤ f.p ∧ f.p < 9223372036854775808)

theorem open_spots {H : Type} {enc : TypeId × Value → H} {W : World} {a : Option Addr} {len cap : Nat} {d : DataW H} {ps : List MemPlace}
    (h : DataW.Trod enc Try.prog W 0 (fun _ => true) true 22 (.slice a len cap) d ps) : ∃ l : List SpotC, l.length = len ∧ len ≤ cap ∧ RowV W a len 4 (spotCells l) ∧ ∀ f ∈ l, goodSpot f := by
  have k1 : Try.prog.cellsOf 3 = 1 := by kernel_rfl
  have k2 : Try.prog.cellsOf 31 = 2 := by kernel_rfl
  refine open_rows SpotC.cells goodSpot 4 (by decide) Try.underlying22 (by kernel_rfl) SpotC.len (fun n cs x hl hx => ?_) h
  match cs, hl with
  | [c0, c1, c2, c3], _ =>
    obtain ⟨xs, n', _, _, _, hxl, hf⟩ := DataW.trod_struct Try.underlying33 hx
    match xs, hxl with
    | [y0, y1, y2], _ =>
      obtain ⟨z0, e0, _, w0⟩ := DataW.trod_int Try.underlying3 (trod_field hf 0 0 1 3 rfl k1)
      obtain ⟨z1, e1, _, w1⟩ := DataW.trod_int Try.underlying3 (trod_field hf 1 1 1 3 rfl k1)
      obtain ⟨xs2, n2, _, _, _, hxl2, hf2⟩ := DataW.trod_struct Try.underlying31 (trod_field hf 2 2 2 31 rfl k2)
      match xs2, hxl2 with
      | [u0, u1], _ =>
        obtain ⟨z2, e2, _, w2⟩ := DataW.trod_int Try.underlying3 (trod_field hf2 0 0 1 3 rfl k1)
        obtain ⟨z3, e3, _, w3⟩ := DataW.trod_int Try.underlying3 (trod_field hf2 1 1 1 3 rfl k1)
        simp at e0 e1 e2 e3
        subst e0 e1 e2 e3
        exact ⟨⟨z0, z1, z2, z3⟩, rfl, bounds_i64 w0, bounds_i64 w1, bounds_i64 w2, bounds_i64 w3⟩

end Go.Proofs.Ytpdpdohkhiplpaa
