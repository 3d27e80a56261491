/- A slice of groups that came in. -/
import Derived.Test.YtmmhghoapejaeaaGreatManI
import Derived.Test.YtmmhghoapejaeaaGreatFew
namespace Go.Proofs.YtmmhghoapejaeaaGreat
open Go.RowKit Go.Shelf Go.ChangeShapes Go.WideShapes Go.Deep
set_option linter.unusedVariables false

set_option maxRecDepth 100000 in
theorem group_cells {H : Type} {enc : TypeId × Value → H} {W : World} {n : Nat} {cs : List Value} {x : DataW H × List MemPlace} (hl : cs.length = 7) (hx : DataW.trod enc Tryz.prog W 0 (fun _ => true) true n 31 cs = some x) :
    ∃ y : GV, (y.g.arr y.a y.c).toList = cs ∧ GoodG W y.g y.a := by
  have k1 : Tryz.prog.cellsOf 3 = 1 := by kernel_rfl
  have ks : Tryz.prog.cellsOf 29 = 1 := by kernel_rfl
  have kh : Tryz.prog.cellsOf 28 = 3 := by kernel_rfl
  match cs, hl with
  | [c0, c1, c2, c3, c4, c5, c6], _ =>
    obtain ⟨xs, n', _, _, _, hxl, hf⟩ := DataW.trod_struct Tryz.underlying31 hx
    match xs, hxl with
    | [y0, y1, y2, y3, y4], _ =>
      obtain ⟨z0, e0, _, w0⟩ := DataW.trod_int Tryz.underlying3 (trod_field hf 0 0 1 3 rfl k1)
      obtain ⟨z1, e1, _, w1⟩ := DataW.trod_int Tryz.underlying3 (trod_field hf 1 1 1 3 rfl k1)
      obtain ⟨z2, e2, _, w2⟩ := DataW.trod_int Tryz.underlying3 (trod_field hf 2 2 1 3 rfl k1)
      obtain ⟨xs2, n2, _, _, _, hxl2, hf2⟩ := DataW.trod_struct Tryz.underlying28 (trod_field hf 3 3 3 28 rfl kh)
      have hen := trod_field hf 4 6 1 29 rfl ks
      match xs2, hxl2 with
      | [u0, u1, u2], _ =>
        obtain ⟨z3, e3, _, w3⟩ := DataW.trod_int Tryz.underlying3 (trod_field hf2 0 0 1 3 rfl k1)
        obtain ⟨z4, e4, _, w4⟩ := DataW.trod_int Tryz.underlying3 (trod_field hf2 1 1 1 3 rfl k1)
        obtain ⟨z5, e5, _, w5⟩ := DataW.trod_int Tryz.underlying3 (trod_field hf2 2 2 1 3 rfl k1)
        simp at e0 e1 e2 e3 e4 e5
        subst e0 e1 e2 e3 e4 e5
        have hsl : ∃ (a : Option Addr) (len cap : Nat), c6 = .slice a len cap := by
          rcases open_slice Tryz.underlying29 hen with ⟨hcs, _⟩ | ⟨ad, len', cap', _, _, _, _, hcs, _⟩
          · simp at hcs; exact ⟨_, _, _, hcs⟩
          · simp at hcs; exact ⟨_, _, _, hcs⟩
        obtain ⟨a, len, cap, rfl⟩ := hsl
        obtain ⟨l, h1, h2, h3, h4⟩ := open_entries (enc := enc) (W := W) (a := a) (len := len) (cap := cap) (d := y4.1) (ps := y4.2) ⟨n', hen⟩
        subst h1
        exact ⟨⟨⟨z0, z1, z2, z3, z4, z5, l⟩, a, cap⟩, rfl, ⟨bounds_i64 w0, bounds_i64 w1, bounds_i64 w2, bounds_i64 w3, bounds_i64 w4, bounds_i64 w5⟩, h3, h4⟩
theorem open_groups {H : Type} {enc : TypeId × Value → H} {W : World} {a : Option Addr} {len cap : Nat} {d : DataW H} {ps : List MemPlace}
    (h : DataW.Trod enc Tryz.prog W 0 (fun _ => true) true 22 (.slice a len cap) d ps) : ∃ L : List GV, L.length = len ∧ len ≤ cap ∧ RowV W a len 7 (gvCells L) ∧ ∀ x ∈ L, GoodG W x.g x.a := by
  have := open_rows (α := GV) (fun x => (x.g.arr x.a x.c).toList) (fun y => GoodG W y.g y.a) 7 (by decide) Tryz.underlying22 (by kernel_rfl) (fun _ => rfl) (fun n cs x hl hx => group_cells hl hx) h
  simpa only [gvCells, List.flatMap_def] using this

end Go.Proofs.YtmmhghoapejaeaaGreat
