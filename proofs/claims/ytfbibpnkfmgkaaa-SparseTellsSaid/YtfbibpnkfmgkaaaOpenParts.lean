/- A slice of parts that came in, each with its entries; rows of parts. -/
import Derived.Test.YtfbibpnkfmgkaaaOpenPart
namespace Go.Proofs.Ytfbibpnkfmgkaaa
open Go.RowKit Go.Shelf Go.ChangeShapes Go.WideShapes Go.Deep
open Go.ChangeMaps (open_string)
set_option linter.unusedVariables false

/-- A part with its entries. -/
abbrev PL := PartC × List EntryC
def partCells (L : List PL) : List Value := (L.map (fun x => x.1.arr.toList)).flatten
def GoodP (W : World) (x : PL) : Prop := goodPart x.1 ∧ x.2.length = x.1.len ∧ RowV W x.1.a x.1.len 3 (entryCells x.2) ∧ ∀ e ∈ x.2, goodEntry e
theorem partCells_snoc (L : List PL) (x : PL) : partCells (L ++ [x]) = partCells L ++ x.1.arr.toList := by simp [partCells]
theorem part_at {w W : World} {b off : Nat} {L : List PL} (hb : b < w.heap.size) (hB : Below w.heap.size w W) (hc : ∀ j (h : j < (partCells L).length), w.cell? ⟨b, off + j, none⟩ = some (partCells L)[j]) {k : Nat} (hk : k < L.length) :
    ∀ j v, j < 10 → L[k].1.arr.toList[j]? = some v → W.cell? ⟨b, off + k * 10 + j, none⟩ = some v := fun j v hj hv => by
  rw [Nat.add_assoc]
  exact (hB.cell (p := ⟨b, off + (k * 10 + j), none⟩) hb).trans (RowV.at_ (len := L.length) (sz := 10) hc (by rw [partCells, flat_at (fun x : PL => x.1.arr.toList) 10 (fun _ => rfl) L k j hk hj]; exact hv))
theorem part_at10 {w W : World} {b off : Nat} {L : List PL} (hb : b < w.heap.size) (hB : Below w.heap.size w W) (hc : ∀ j (h : j < (partCells L).length), w.cell? ⟨b, off + j, none⟩ = some (partCells L)[j]) {k : Nat} (hk : k < L.length) :
    W.cell? ⟨b, off + k * 10, none⟩ = some (.int .i64 L[k].1.g) ∧ W.cell? ⟨b, off + k * 10 + 1, none⟩ = some (.int .i64 L[k].1.k) ∧ W.cell? ⟨b, off + k * 10 + 2, none⟩ = some (.slice L[k].1.a L[k].1.len L[k].1.cap) ∧
    W.cell? ⟨b, off + k * 10 + 3, none⟩ = some (.int .i64 L[k].1.ht) ∧ W.cell? ⟨b, off + k * 10 + 4, none⟩ = some (.int .i64 L[k].1.hv) ∧ W.cell? ⟨b, off + k * 10 + 5, none⟩ = some (.int .i64 L[k].1.hc) ∧
    W.cell? ⟨b, off + k * 10 + 6, none⟩ = some (.int .i64 L[k].1.i) ∧ W.cell? ⟨b, off + k * 10 + 7, none⟩ = some (.int .i64 L[k].1.t) ∧ W.cell? ⟨b, off + k * 10 + 8, none⟩ = some (.bool L[k].1.m) ∧ W.cell? ⟨b, off + k * 10 + 9, none⟩ = some (.bool L[k].1.h) :=
  ⟨part_at hb hB hc hk 0 _ (by decide) rfl, part_at hb hB hc hk 1 _ (by decide) rfl, part_at hb hB hc hk 2 _ (by decide) rfl, part_at hb hB hc hk 3 _ (by decide) rfl, part_at hb hB hc hk 4 _ (by decide) rfl, part_at hb hB hc hk 5 _ (by decide) rfl, part_at hb hB hc hk 6 _ (by decide) rfl, part_at hb hB hc hk 7 _ (by decide) rfl, part_at hb hB hc hk 8 _ (by decide) rfl, part_at hb hB hc hk 9 _ (by decide) rfl⟩

end Go.Proofs.Ytfbibpnkfmgkaaa
