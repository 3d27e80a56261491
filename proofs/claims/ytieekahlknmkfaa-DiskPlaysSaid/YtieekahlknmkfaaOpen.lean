/- Slices of structs that came in, read as lists. -/
import Derived.Test.YtieekahlknmkfaaRowV
import Derived.Deep.Slices
namespace Go.Proofs.Ytieekahlknmkfaa
open Go.RowKit Go.Shelf Go.ChangeShapes Go.WideShapes Go.Deep
set_option linter.unusedVariables false

theorem isInts_cap {k : IntKind} {w : World} {a : Option Addr} {len cap : Nat} {zs : List Int} (h : IsInts k w a len cap zs) : len ≤ cap := by
  rcases h with ⟨_, rfl, rfl, _⟩ | ⟨_, _, hl, _⟩
  · exact Nat.le_refl _
  · exact hl

/-- A field of a struct that reads. -/
theorem trod_field {H : Type} {enc : TypeId × Value → H} {P : Program} {W : World} {base : Nat} {sp : Nat → Bool} {held : Bool} {n : Nat} {cs : List Value} {fs : Array Field} {xs : List (DataW H × List MemPlace)}
    (hf : ∀ (i : Nat) (f : Field), fs[i]? = some f → DataW.trod enc P W base sp held n f.type ((cs.drop f.offset).take (P.cellsOf f.type)) = xs[i]?) (i off k : Nat) (T : TypeId) (hi : (fs[i]?).map (fun f => (f.type, f.offset)) = some (T, off)) (hk : P.cellsOf T = k) :
    DataW.trod enc P W base sp held n T ((cs.drop off).take k) = xs[i]? := by
  cases h : fs[i]? with
  | none => rw [h] at hi; cases hi
  | some f =>
    rw [h] at hi
    simp only [Option.map_some, Option.some.injEq, Prod.mk.injEq] at hi
    obtain ⟨rfl, rfl⟩ := hi
    rw [← hk]
    exact hf i f h

/-- A slice whose elements are rows of sz cells, each of which reads as something of α. -/
theorem open_rows {H : Type} {enc : TypeId × Value → H} {P : Program} {W : World} {t e : TypeId} {a : Option Addr} {len cap : Nat} {d : DataW H} {ps : List MemPlace} {α : Type} (cells : α → List Value) (good : α → Prop) (sz : Nat) (hsz : 0 < sz) (ht : P.underlying t = some (.slice e)) (hC : P.cellsOf e = sz)
    (hcl : ∀ x, (cells x).length = sz)
    (hel : ∀ (n : Nat) (cs : List Value) (x : DataW H × List MemPlace), cs.length = sz → DataW.trod enc P W 0 (fun _ => true) true n e cs = some x → ∃ f : α, cells f = cs ∧ good f)
    (h : DataW.Trod enc P W 0 (fun _ => true) true t (.slice a len cap) d ps) : ∃ l : List α, l.length = len ∧ len ≤ cap ∧ RowV W a len sz ((l.map cells).flatten) ∧ ∀ f ∈ l, good f := by
  obtain ⟨fuel, hf⟩ := h
  rcases open_slice ht hf with ⟨hcs, _⟩ | ⟨ad, len', cap', m, n, D, Pl, hcs, hb, hl, hm, hmm, hx, hi⟩
  · simp [Value.cells] at hcs
    obtain ⟨rfl, rfl, rfl⟩ := hcs
    exact ⟨[], rfl, Nat.le_refl _, by simpa using RowV.nil W sz none, by simp⟩
  · simp [Value.cells] at hcs
    obtain ⟨rfl, rfl, rfl⟩ := hcs
    rw [if_pos rfl] at hmm
    have key : ∀ i : Fin len, ∃ f : α, good f ∧ ∀ j, j < sz → W.cell? ((ad.add (i.val * sz)).add j) = (cells f)[j]? := fun i => by
      obtain ⟨cs', hc, htr⟩ := hi i.val (by have := i.isLt; omega)
      rw [hC] at hc
      obtain ⟨_, hcl', hat⟩ := World.cells?_some hc
      obtain ⟨f, rfl, hg⟩ := hel n cs' _ hcl' htr
      exact ⟨f, hg, hat⟩
    let l : List α := List.ofFn fun i : Fin len => Classical.choose (key i)
    have hll : l.length = len := by simp [l]
    have hlg : ∀ (i : Nat) (h : i < l.length), good l[i] ∧ ∀ j, j < sz → W.cell? ((ad.add (i * sz)).add j) = (cells l[i])[j]? := fun i h => by
      have hi' : i < len := by rw [hll] at h; exact h
      have := Classical.choose_spec (key ⟨i, hi'⟩)
      simpa [l] using this
    refine ⟨l, hll, hl, ⟨by rw [flat_len cells sz hcl, hll], by omega, fun h0 => ?_⟩, fun f hf => ?_⟩
    · obtain ⟨b, off, spot⟩ := ad
      have h1 := (hlg 0 (by omega)).2 0 hsz
      have hcz : 0 < (cells l[0]).length := by rw [hcl]; exact hsz
      rw [List.getElem?_eq_getElem hcz] at h1
      simp only [Nat.zero_mul] at h1
      have hsp : spot = none := by simpa [Addr.add] using World.cell?_spot h1
      subst hsp
      refine ⟨b, off, rfl, block_of_cell (by simpa [Addr.add] using h1), fun j hj => ?_⟩
      have hfl := flat_len cells sz hcl l
      have hk : j / sz < l.length := by rw [hfl] at hj; exact Nat.div_lt_of_lt_mul (by rw [Nat.mul_comm]; exact hj)
      have hr : j % sz < sz := Nat.mod_lt _ hsz
      have hjj : j / sz * sz + j % sz = j := by rw [Nat.mul_comm]; exact Nat.div_add_mod j sz
      have h2 := (hlg _ hk).2 _ hr
      rw [add_off, add_off, Nat.add_assoc, hjj] at h2
      rw [h2, ← flat_at cells sz hcl l _ _ hk hr, hjj, List.getElem?_eq_getElem hj]
    · obtain ⟨i, hi', rfl⟩ := List.getElem_of_mem hf
      exact (hlg i hi').1

end Go.Proofs.Ytieekahlknmkfaa
