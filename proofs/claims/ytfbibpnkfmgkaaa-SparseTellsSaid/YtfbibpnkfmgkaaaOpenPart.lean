/- A part, an entry, a slice of entries that came in. -/
import Derived.Test.YtfbibpnkfmgkaaaOpen
import Derived.Test.YtfbibpnkfmgkaaaPartSame
namespace Go.Proofs.Ytfbibpnkfmgkaaa
open Go.RowKit Go.Shelf Go.ChangeShapes Go.WideShapes Go.Deep
open Go.ChangeMaps (open_string)
set_option linter.unusedVariables false

def in64 (n : Int) : Prop := -9223372036854775808 ≤ n ∧ n < 9223372036854775808
def goodEntry (e : EntryC) : Prop := in64 e.i ∧ in64 e.t ∧ e.d.size ≤ maxLen
def goodPart (p : PartC) : Prop := (p.a = none → p.cap = 0) ∧ in64 p.g ∧ in64 p.k ∧ in64 p.ht ∧ in64 p.hv ∧ in64 p.hc ∧ in64 p.i ∧ in64 p.t

theorem entry_cells {H : Type} {enc : TypeId × Value → H} {W : World} {n : Nat} {cs : List Value} {x : DataW H × List MemPlace} (hl : cs.length = 3) (hx : DataW.trod enc Try.prog W 0 (fun _ => true) true n 38 cs = some x) :
    ∃ f : EntryC, f.cells = cs ∧ goodEntry f := by
  have k1 : Try.prog.cellsOf 3 = 1 := by kernel_rfl
  have k2 : Try.prog.cellsOf 9 = 1 := by kernel_rfl
  match cs, hl with
  | [c0, c1, c2], _ =>
    obtain ⟨xs, n', _, _, _, hxl, hf⟩ := DataW.trod_struct Try.underlying38 hx
    match xs, hxl with
    | [y0, y1, y2], _ =>
      obtain ⟨z0, e0, _, w0⟩ := DataW.trod_int Try.underlying3 (trod_field hf 0 0 1 3 rfl k1)
      obtain ⟨z1, e1, _, w1⟩ := DataW.trod_int Try.underlying3 (trod_field hf 1 1 1 3 rfl k1)
      obtain ⟨s2, e2, _, w2⟩ := DataW.trod_string Try.underlying9 (trod_field hf 2 2 1 9 rfl k2)
      simp at e0 e1 e2
      subst e0 e1 e2
      exact ⟨⟨z0, z1, s2⟩, rfl, bounds_i64 w0, bounds_i64 w1, w2⟩
theorem open_entries {H : Type} {enc : TypeId × Value → H} {W : World} {a : Option Addr} {len cap : Nat} {d : DataW H} {ps : List MemPlace}
    (h : DataW.Trod enc Try.prog W 0 (fun _ => true) true 24 (.slice a len cap) d ps) : ∃ l : List EntryC, l.length = len ∧ len ≤ cap ∧ RowV W a len 3 (entryCells l) ∧ ∀ f ∈ l, goodEntry f :=
  open_rows EntryC.cells goodEntry 3 (by decide) Try.underlying24 (by kernel_rfl) EntryC.len (fun n cs x hl hx => entry_cells hl hx) h

theorem part_cells {H : Type} {enc : TypeId × Value → H} {W : World} {n : Nat} {cs : List Value} {x : DataW H × List MemPlace} (hl : cs.length = 10) (hx : DataW.trod enc Try.prog W 0 (fun _ => true) true n 28 cs = some x) :
    ∃ p : PartC, p.arr.toList = cs ∧ goodPart p ∧ ∃ l : List EntryC, l.length = p.len ∧ RowV W p.a p.len 3 (entryCells l) ∧ ∀ e ∈ l, goodEntry e := by
  have k1 : Try.prog.cellsOf 3 = 1 := by kernel_rfl
  have kb : Try.prog.cellsOf 4 = 1 := by kernel_rfl
  have ks : Try.prog.cellsOf 24 = 1 := by kernel_rfl
  have kh : Try.prog.cellsOf 23 = 3 := by kernel_rfl
  match cs, hl with
  | [c0, c1, c2, c3, c4, c5, c6, c7, c8, c9], _ =>
    obtain ⟨xs, n', _, _, _, hxl, hf⟩ := DataW.trod_struct Try.underlying28 hx
    match xs, hxl with
    | [y0, y1, y2, y3, y4, y5, y6, y7], _ =>
      obtain ⟨z0, e0, _, w0⟩ := DataW.trod_int Try.underlying3 (trod_field hf 0 0 1 3 rfl k1)
      obtain ⟨z1, e1, _, w1⟩ := DataW.trod_int Try.underlying3 (trod_field hf 1 1 1 3 rfl k1)
      have hen := trod_field hf 2 2 1 24 rfl ks
      obtain ⟨xs2, n2, _, _, _, hxl2, hf2⟩ := DataW.trod_struct Try.underlying23 (trod_field hf 3 3 3 23 rfl kh)
      match xs2, hxl2 with
      | [u0, u1, u2], _ =>
        obtain ⟨z3, e3, _, w3⟩ := DataW.trod_int Try.underlying3 (trod_field hf2 0 0 1 3 rfl k1)
        obtain ⟨z4, e4, _, w4⟩ := DataW.trod_int Try.underlying3 (trod_field hf2 1 1 1 3 rfl k1)
        obtain ⟨z5, e5, _, w5⟩ := DataW.trod_int Try.underlying3 (trod_field hf2 2 2 1 3 rfl k1)
        obtain ⟨z6, e6, _, w6⟩ := DataW.trod_int Try.underlying3 (trod_field hf 4 6 1 3 rfl k1)
        obtain ⟨z7, e7, _, w7⟩ := DataW.trod_int Try.underlying3 (trod_field hf 5 7 1 3 rfl k1)
        obtain ⟨b8, e8, _⟩ := DataW.trod_bool Try.underlying4 (trod_field hf 6 8 1 4 rfl kb)
        obtain ⟨b9, e9, _⟩ := DataW.trod_bool Try.underlying4 (trod_field hf 7 9 1 4 rfl kb)
        simp at e0 e1 e3 e4 e5 e6 e7 e8 e9
        subst e0 e1 e3 e4 e5 e6 e7 e8 e9
        have hsl : ∃ (a : Option Addr) (len cap : Nat), c2 = .slice a len cap ∧ (a = none → cap = 0) := by
          rcases open_slice Try.underlying24 hen with ⟨hcs, _⟩ | ⟨ad, len', cap', _, _, _, _, hcs, _⟩
          · simp at hcs; exact ⟨_, _, _, hcs, fun _ => rfl⟩
          · simp at hcs; exact ⟨_, _, _, hcs, fun h => by cases h⟩
        obtain ⟨a, len, cap, rfl, hcap⟩ := hsl
        obtain ⟨l, h1, h2, h3, h4⟩ := open_entries (enc := enc) (W := W) (a := a) (len := len) (cap := cap) (d := y2.1) (ps := y2.2) ⟨n', hen⟩
        exact ⟨⟨z0, z1, a, len, cap, z3, z4, z5, z6, z7, b8, b9⟩, rfl, ⟨hcap, bounds_i64 w0, bounds_i64 w1, bounds_i64 w3, bounds_i64 w4, bounds_i64 w5, bounds_i64 w6, bounds_i64 w7⟩, l, h1, h3, h4⟩
set_option maxRecDepth 100000 in
theorem open_part {H : Type} {enc : TypeId × Value → H} {W : World} {r : Reach} {b0 : Nat} {v : Value} {d : DataW H} {ps : List MemPlace} (hv : Value.okWide Try.prog W r b0 28 v)
    (h : DataW.Trod enc Try.prog W 0 (fun _ => true) true 28 v d ps) : ∃ p : PartC, v = p.val ∧ goodPart p ∧ ∃ l : List EntryC, l.length = p.len ∧ RowV W p.a p.len 3 (entryCells l) ∧ ∀ e ∈ l, goodEntry e := by
  obtain ⟨cs, rfl, hsz⟩ := okWide_struct Try.underlying28 hv
  obtain ⟨fuel, hf⟩ := h
  have h10 : cs.size = 10 := hsz.trans (show Try.prog.cellsOf 28 = 10 by kernel_rfl)
  obtain ⟨p, hp, hg, hl⟩ := part_cells (by simpa [Value.cells] using h10) hf
  refine ⟨p, ?_, hg, hl⟩
  show _ = Value.agg p.arr
  congr 1
  exact (Array.toList_inj.mp hp).symm
set_option maxRecDepth 100000 in
theorem open_entry {H : Type} {enc : TypeId × Value → H} {W : World} {r : Reach} {b0 : Nat} {v : Value} {d : DataW H} {ps : List MemPlace} (hv : Value.okWide Try.prog W r b0 38 v)
    (h : DataW.Trod enc Try.prog W 0 (fun _ => true) true 38 v d ps) : ∃ e : EntryC, v = e.val ∧ goodEntry e := by
  obtain ⟨cs, rfl, hsz⟩ := okWide_struct Try.underlying38 hv
  obtain ⟨fuel, hf⟩ := h
  have h10 : cs.size = 3 := hsz.trans (show Try.prog.cellsOf 38 = 3 by kernel_rfl)
  obtain ⟨p, hp, hg⟩ := entry_cells (by simpa [Value.cells] using h10) hf
  refine ⟨p, ?_, hg⟩
  obtain ⟨i, t, d⟩ := p
  show _ = Value.agg #[.int .i64 i, .int .i64 t, .string d]
  congr 1
  exact (Array.toList_inj.mp hp).symm

end Go.Proofs.Ytfbibpnkfmgkaaa
