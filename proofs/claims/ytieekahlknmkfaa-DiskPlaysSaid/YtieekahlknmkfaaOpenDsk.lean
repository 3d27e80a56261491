/- Slices of files and of steps that came in. -/
import Derived.Test.YtieekahlknmkfaaOpen
import Derived.Test.YtieekahlknmkfaaAlike
namespace Go.Proofs.Ytieekahlknmkfaa
open Go.RowKit Go.Shelf Go.ChangeShapes Go.WideShapes Go.Deep
set_option linter.unusedVariables false

def IFile.cells (f : IFile) : List Value := [.string f.n, .string f.b, .int .i64 f.k]
def goodFile (f : IFile) : Prop := f.n.size ≤ maxLen ∧ f.b.size ≤ maxLen
def ifCells (l : List IFile) : List Value := (l.map IFile.cells).flatten
theorem open_files {H : Type} {enc : TypeId × Value → H} {W : World} {a : Option Addr} {len cap : Nat} {d : DataW H} {ps : List MemPlace}
    (h : DataW.Trod enc Try.prog W 0 (fun _ => true) true 22 (.slice a len cap) d ps) : ∃ l : List IFile, l.length = len ∧ len ≤ cap ∧ RowV W a len 3 (ifCells l) ∧ ∀ f ∈ l, goodFile f := by
  have k1 : Try.prog.cellsOf 3 = 1 := by kernel_rfl
  have k2 : Try.prog.cellsOf 9 = 1 := by kernel_rfl
  refine open_rows IFile.cells goodFile 3 (by decide) Try.underlying22 (by kernel_rfl) (fun _ => rfl) (fun n cs x hl hx => ?_) h
  match cs, hl with
  | [c0, c1, c2], _ =>
    obtain ⟨xs, n', _, _, _, hxl, hf⟩ := DataW.trod_struct Try.underlying26 hx
    match xs, hxl with
    | [y0, y1, y2], _ =>
      obtain ⟨z0, e0, _, w0⟩ := DataW.trod_string Try.underlying9 (trod_field hf 0 0 1 9 rfl k2)
      obtain ⟨z1, e1, _, w1⟩ := DataW.trod_string Try.underlying9 (trod_field hf 1 1 1 9 rfl k2)
      obtain ⟨z2, e2, _, w2⟩ := DataW.trod_int Try.underlying3 (trod_field hf 2 2 1 3 rfl k1)
      simp at e0 e1 e2
      subst e0 e1 e2
      exact ⟨⟨z0, z1, z2⟩, rfl, w0, w1⟩
def goodStep (s : StepC) : Prop := s.n < 9223372036854775808 ∧ s.name.size ≤ maxLen ∧ s.to.size ≤ maxLen ∧ s.b.size ≤ maxLen ∧ s.keep < 18446744073709551616
def stCells (l : List StepC) : List Value := (l.map StepC.cells).flatten
theorem open_steps {H : Type} {enc : TypeId × Value → H} {W : World} {a : Option Addr} {len cap : Nat} {d : DataW H} {ps : List MemPlace}
    (h : DataW.Trod enc Try.prog W 0 (fun _ => true) true 23 (.slice a len cap) d ps) : ∃ l : List StepC, l.length = len ∧ len ≤ cap ∧ RowV W a len 6 (stCells l) ∧ ∀ f ∈ l, goodStep f := by
  have k1 : Try.prog.cellsOf 3 = 1 := by kernel_rfl
  have k2 : Try.prog.cellsOf 9 = 1 := by kernel_rfl
  have k3 : Try.prog.cellsOf 31 = 1 := by kernel_rfl
  refine open_rows StepC.cells goodStep 6 (by decide) Try.underlying23 (by kernel_rfl) (fun _ => rfl) (fun n cs x hl hx => ?_) h
  match cs, hl with
  | [c0, c1, c2, c3, c4, c5], _ =>
    obtain ⟨xs, n', _, _, _, hxl, hf⟩ := DataW.trod_struct Try.underlying33 hx
    match xs, hxl with
    | [y0, y1, y2, y3, y4, y5], _ =>
      obtain ⟨z0, e0, _, w0⟩ := DataW.trod_int Try.underlying3 (trod_field hf 0 0 1 3 rfl k1)
      obtain ⟨z1, e1, _, w1⟩ := DataW.trod_int Try.underlying3 (trod_field hf 1 1 1 3 rfl k1)
      obtain ⟨z2, e2, _, w2⟩ := DataW.trod_string Try.underlying9 (trod_field hf 2 2 1 9 rfl k2)
      obtain ⟨z3, e3, _, w3⟩ := DataW.trod_string Try.underlying9 (trod_field hf 3 3 1 9 rfl k2)
      obtain ⟨z4, e4, _, w4⟩ := DataW.trod_string Try.underlying9 (trod_field hf 4 4 1 9 rfl k2)
      obtain ⟨z5, e5, _, w5⟩ := DataW.trod_int Try.underlying31 (trod_field hf 5 5 1 31 rfl k3)
      obtain ⟨q5, rfl, b5⟩ := nat_of_u64 w5
      simp at e0 e1 e2 e3 e4 e5
      subst e0 e1 e2 e3 e4 e5
      exact ⟨⟨z0, z1, z2, z3, z4, q5⟩, rfl, (bounds_i64 w1).2, w2, w3, w4, b5⟩
/-- A file, a step that came in, cell by cell. -/
theorem files_at {W : World} {a : Option Addr} {len : Nat} {l : List IFile} (h : RowV W a len 3 (ifCells l)) (hl : l.length = len) : FilesAt W a l := fun i hi => by
  obtain ⟨b, off, e, hb, hc⟩ := h.2.2 (by omega)
  have hlen := h.1
  have hg : ∀ j v, (l[i].cells)[j]? = some v → j < 3 → W.cell? ⟨b, off + (i * 3 + j), none⟩ = some v := fun j v hv hj => by
    have hlt : i * 3 + j < (ifCells l).length := by rw [hlen]; omega
    rw [hc (i * 3 + j) hlt]
    have : (ifCells l)[i * 3 + j]? = (l[i].cells)[j]? := flat_at IFile.cells 3 (fun _ => rfl) l i j hi hj
    rw [← hv, ← this, List.getElem?_eq_getElem hlt]
  exact ⟨b, off, e, hb, hg 0 _ rfl (by decide), hg 1 _ rfl (by decide), hg 2 _ rfl (by decide)⟩
theorem steps_at {W : World} {a : Option Addr} {len : Nat} {l : List StepC} (h : RowV W a len 6 (stCells l)) (hl : l.length = len) {i : Nat} (hi : i < l.length) : ∃ b off, a = some ⟨b, off, none⟩ ∧ b < W.heap.size ∧
    W.cell? ⟨b, off + i * 6, none⟩ = some (.int .i64 l[i].what) ∧ W.cell? ⟨b, off + i * 6 + 1, none⟩ = some (.int .i64 l[i].n) ∧ W.cell? ⟨b, off + i * 6 + 2, none⟩ = some (.string l[i].name) ∧ W.cell? ⟨b, off + i * 6 + 3, none⟩ = some (.string l[i].to) ∧ W.cell? ⟨b, off + i * 6 + 4, none⟩ = some (.string l[i].b) ∧ W.cell? ⟨b, off + i * 6 + 5, none⟩ = some (.int .u64 l[i].keep) := by
  obtain ⟨b, off, e, hb, hc⟩ := h.2.2 (by omega)
  have hlen := h.1
  have hg : ∀ j v, (l[i].cells)[j]? = some v → j < 6 → W.cell? ⟨b, off + (i * 6 + j), none⟩ = some v := fun j v hv hj => by
    have hlt : i * 6 + j < (stCells l).length := by rw [hlen]; omega
    rw [hc (i * 6 + j) hlt]
    have : (stCells l)[i * 6 + j]? = (l[i].cells)[j]? := flat_at StepC.cells 6 (fun _ => rfl) l i j hi hj
    rw [← hv, ← this, List.getElem?_eq_getElem hlt]
  exact ⟨b, off, e, hb, hg 0 _ rfl (by decide), hg 1 _ rfl (by decide), hg 2 _ rfl (by decide), hg 3 _ rfl (by decide), hg 4 _ rfl (by decide), hg 5 _ rfl (by decide)⟩

end Go.Proofs.Ytieekahlknmkfaa
