/- Slices that came in, read as lists: of integers, of strings. -/
import Derived.Test.YtieekahlknmkfaaLaw
import Derived.Test.YtieekahlknmkfaaKit
namespace Go.Proofs.Ytieekahlknmkfaa
open Go.RowKit Go.Shelf
set_option linter.unusedVariables false

theorem block_of_cell {w : World} {a : Addr} {v : Value} (h : w.cell? a = some v) : a.block < w.heap.size := by
  obtain ⟨o, ho, _⟩ := isCells_of_cell h
  exact (Array.getElem?_eq_some_iff.1 ho).1
theorem add_off (b off i : Nat) : (⟨b, off, none⟩ : Addr).add i = ⟨b, off + i, none⟩ := by
  unfold Addr.add
  split
  · rename_i h; subst h; rfl
  · rfl

/-- The first 'len' places from a on hold the integers ys. -/
def RowI (k : IntKind) (w : World) (a : Option Addr) (len : Nat) (ys : List Int) : Prop :=
  ys.length = len ∧ len ≤ maxLen ∧ (∀ y ∈ ys, (Lit.int k y).wf = true) ∧ (0 < len → ∃ b off, a = some ⟨b, off, none⟩ ∧ b < w.heap.size ∧ ∀ i (h : i < ys.length), w.cell? ⟨b, off + i, none⟩ = some (.int k ys[i]))
theorem rowI_of {k : IntKind} {w : World} {a : Option Addr} {len cap : Nat} {zs : List Int} (h : IsInts k w a len cap zs) : RowI k w a len (zs.take len) := by
  rcases h with ⟨rfl, rfl, rfl, rfl⟩ | ⟨x, rfl, hl, hm, hz, hc, hw⟩
  · exact ⟨rfl, by simp [maxLen], by simp, by simp⟩
  · have hlen : (zs.take len).length = len := by simp; omega
    refine ⟨hlen, by omega, fun y hy => hw y (List.mem_of_mem_take hy), fun h0 => ?_⟩
    obtain ⟨b, off, spot⟩ := x
    have hc0 := hc 0 (by omega)
    have hsp : spot = none := by simpa [Addr.add] using World.cell?_spot hc0
    subst hsp
    refine ⟨b, off, rfl, block_of_cell (by simpa [Addr.add] using hc0), fun i hi => ?_⟩
    have := hc i (by rw [hlen] at hi; omega)
    rw [add_off] at this
    rw [this]
    have h1 : i < zs.length := by rw [hlen] at hi; omega
    simp [List.getD, List.getElem?_eq_getElem h1]

/-- .. the strings ys. -/
def RowS (w : World) (a : Option Addr) (len : Nat) (ys : List ByteArray) : Prop :=
  ys.length = len ∧ len ≤ maxLen ∧ (∀ y ∈ ys, y.size ≤ maxLen) ∧ (0 < len → ∃ b off, a = some ⟨b, off, none⟩ ∧ b < w.heap.size ∧ ∀ i (h : i < ys.length), w.cell? ⟨b, off + i, none⟩ = some (.string ys[i]))
theorem rowS_of {w : World} {a : Option Addr} {len cap : Nat} {zs : List ByteArray} (h : IsStrs w a len cap zs) : RowS w a len (zs.take len) := by
  rcases h with ⟨rfl, rfl, rfl, rfl⟩ | ⟨x, rfl, hl, hm, hz, hc, hw⟩
  · exact ⟨rfl, by simp [maxLen], by simp, by simp⟩
  · have hlen : (zs.take len).length = len := by simp; omega
    refine ⟨hlen, by omega, fun y hy => hw y (List.mem_of_mem_take hy), fun h0 => ?_⟩
    obtain ⟨b, off, spot⟩ := x
    have hc0 := hc 0 (by omega)
    have hsp : spot = none := by simpa [Addr.add] using World.cell?_spot hc0
    subst hsp
    refine ⟨b, off, rfl, block_of_cell (by simpa [Addr.add] using hc0), fun i hi => ?_⟩
    have := hc i (by rw [hlen] at hi; omega)
    rw [add_off] at this
    rw [this]
    have h1 : i < zs.length := by rw [hlen] at hi; omega
    simp [List.getD, List.getElem?_eq_getElem h1]

end Go.Proofs.Ytieekahlknmkfaa
