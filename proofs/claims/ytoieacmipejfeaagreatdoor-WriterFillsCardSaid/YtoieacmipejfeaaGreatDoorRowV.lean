/- Reads, RowV, Open: in one text. -/
import Derived.Test.YtoieacmipejfeaaGreatDoorLaw
import Derived.Test.YtoieacmipejfeaaGreatDoorKit
import Derived.Deep.AppendLies
import Derived.Deep.Slices
/- Slices that came in, read as lists: of integers, of strings. -/
namespace Go.Proofs.YtoieacmipejfeaaGreatDoor
open Go.RowKit Go.Shelf
set_option linter.unusedVariables false

theorem block_of_cell {w : World} {a : Addr} {v : Value} (h : w.cell? a = some v) : a.block < w.heap.size := by
  obtain ⟨o, ho, _⟩ := isCells_of_cell h
  exact (Array.getElem?_eq_some_iff.1 ho).1
theorem add_off (b off i : Nat) : (⟨b, off, none⟩ : Addr).add i = ⟨b, off + i, none⟩ := by
  unfold Addr.add
  split
  · rename_i h; subst h; rfl
  · rfl

/-- The first 'len' places from a on hold the integers ys. -/
def RowI (k : IntKind) (w : World) (a : Option Addr) (len : Nat) (ys : List Int) : Prop :=
  ys.length = len ∧ len ≤ maxLen ∧ (∀ y ∈ ys, (Lit.int k y).wf = true) ∧ (0 < len → ∃ b off, a = some ⟨b, off, none⟩ ∧ b < w.heap.size ∧ ∀ i (h : i < ys.length), w.cell? ⟨b, off + i, none⟩ = some (.int k ys[i]))
theorem rowI_of {k : IntKind} {w : World} {a : Option Addr} {len cap : Nat} {zs : List Int} (h : IsInts k w a len cap zs) : RowI k w a len (zs.take len) := by
  rcases h with ⟨rfl, rfl, rfl, rfl⟩ | ⟨x, rfl, hl, hm, hz, hc, hw⟩
  · exact ⟨rfl, by simp [maxLen], by simp, by simp⟩
  · have hlen : (zs.take len).length = len := by simp; omega
    refine ⟨hlen, by omega, fun y hy => hw y (List.mem_of_mem_take hy), fun h0 => ?_⟩
    obtain ⟨b, off, spot⟩ := x
    have hc0 := hc 0 (by omega)
    have hsp : spot = none := by simpa [Addr.add] using World.cell?_spot hc0
    subst hsp
    refine ⟨b, off, rfl, block_of_cell (by simpa [Addr.add] using hc0), fun i hi => ?_⟩
    have := hc i (by rw [hlen] at hi; omega)
    rw [add_off] at this
    rw [this]
    have h1 : i < zs.length := by rw [hlen] at hi; omega
    simp [List.getD, List.getElem?_eq_getElem h1]

/-- .. the strings ys. -/
def RowS (w : World) (a : Option Addr) (len : Nat) (ys : List ByteArray) : Prop :=
  ys.length = len ∧ len ≤ maxLen ∧ (∀ y ∈ ys, y.size ≤ maxLen) ∧ (0 < len → ∃ b off, a = some ⟨b, off, none⟩ ∧ b < w.heap.size ∧ ∀ i (h : i < ys.length), w.cell? ⟨b, off + i, none⟩ = some (.string ys[i]))
theorem rowS_of {w : World} {a : Option Addr} {len cap : Nat} {zs : List ByteArray} (h : IsStrs w a len cap zs) : RowS w a len (zs.take len) := by
  rcases h with ⟨rfl, rfl, rfl, rfl⟩ | ⟨x, rfl, hl, hm, hz, hc, hw⟩
  · exact ⟨rfl, by simp [maxLen], by simp, by simp⟩
  · have hlen : (zs.take len).length = len := by simp; omega
    refine ⟨hlen, by omega, fun y hy => hw y (List.mem_of_mem_take hy), fun h0 => ?_⟩
    obtain ⟨b, off, spot⟩ := x
    have hc0 := hc 0 (by omega)
    have hsp : spot = none := by simpa [Addr.add] using World.cell?_spot hc0
    subst hsp
    refine ⟨b, off, rfl, block_of_cell (by simpa [Addr.add] using hc0), fun i hi => ?_⟩
    have := hc i (by rw [hlen] at hi; omega)
    rw [add_off] at this
    rw [this]
    have h1 : i < zs.length := by rw [hlen] at hi; omega
    simp [List.getD, List.getElem?_eq_getElem h1]

end Go.Proofs.YtoieacmipejfeaaGreatDoor

/- Slices of structs, read as lists of cells: that came in, that a call has made. -/
namespace Go.Proofs.YtoieacmipejfeaaGreatDoor
open Go.RowKit Go.Shelf
set_option linter.unusedVariables false

/-- The first len elements from a on, of sz cells each, hold the cells xs. -/
def RowV (w : World) (a : Option Addr) (len sz : Nat) (xs : List Value) : Prop :=
  xs.length = len * sz ∧ len ≤ maxLen ∧ (0 < len → ∃ b off, a = some ⟨b, off, none⟩ ∧ b < w.heap.size ∧ ∀ j (h : j < xs.length), w.cell? ⟨b, off + j, none⟩ = some xs[j])
theorem RowV.below {w w' : World} {a : Option Addr} {len sz : Nat} {xs : List Value} (h : RowV w a len sz xs) (hb : Below w.heap.size w w') : RowV w' a len sz xs :=
  ⟨h.1, h.2.1, fun h0 => by
    obtain ⟨b, off, e, hlt, hc⟩ := h.2.2 h0
    exact ⟨b, off, e, Nat.lt_of_lt_of_le hlt hb.size, fun j hj => (hb.cell (p := ⟨b, off + j, none⟩) hlt).trans (hc j hj)⟩⟩
theorem RowV.nil (w : World) (sz : Nat) (a : Option Addr) : RowV w a 0 sz [] := ⟨by simp, by simp [maxLen], fun h => absurd h (by omega)⟩
theorem RowV.drew {w : World} {a : Option Addr} {len sz : Nat} {xs : List Value} (h : RowV w a len sz xs) : RowV w.drew a len sz xs := h
/-- A row of the call's own is such a slice. -/
theorem rowV_own {w : World} {base : Nat} {e : TypeId} {sz n : Nat} {v : Value} {xs : List Value} (h : w.ownsRow base e sz v n xs) : ∃ a cap, v = .slice a n cap ∧ n ≤ cap ∧ RowV w a n sz xs := by
  rcases h.2 with ⟨rfl, rfl⟩ | ⟨g, cap, cur, rfl, _, hg, hn, hm, _, ht⟩
  · obtain rfl : xs = [] := List.eq_nil_of_length_eq_zero (by simpa using h.1)
    exact ⟨none, 0, rfl, Nat.le_refl _, RowV.nil _ _ _⟩
  · refine ⟨_, cap, rfl, hn, h.1, Nat.le_trans hn hm, fun _ => ⟨g, 0, rfl, (Array.getElem?_eq_some_iff.1 hg).1, fun j hj => ?_⟩⟩
    have := h.cells (g := g) rfl j xs[j] (List.getElem?_eq_getElem hj)
    rwa [add_off] at this
/-- .. and a block of a literal. -/
theorem rowV_block {w : World} {g : Nat} {e : TypeId} {n sz : Nat} {cs : Array Value} (h : w.heap[g]? = some (.cells cs e (0, 0))) (hn : cs.size = n * sz) (hm : n ≤ maxLen) : RowV w (some ⟨g, 0, none⟩) n sz cs.toList :=
  ⟨by simpa using hn, hm, fun _ => ⟨g, 0, rfl, (Array.getElem?_eq_some_iff.1 h).1, fun j hj => by
    rw [Nat.zero_add, cell_of_row w g j cs e (0, 0) h]
    simp at hj
    simp [hj]⟩⟩
theorem rowV_new (w : World) (e : TypeId) (cs : Array Value) (n sz : Nat) (hn : cs.size = n * sz) (hm : n ≤ maxLen) : RowV (w.alloc (.cells cs e)) (some ⟨w.heap.size, 0, none⟩) n sz cs.toList :=
  rowV_block (e := e) (heap_alloc_new w _) hn hm
/-- The cells of element k, j of them in. -/
theorem RowV.at_ {w : World} {b off len sz : Nat} {xs : List Value} (hc : ∀ j (h : j < xs.length), w.cell? ⟨b, off + j, none⟩ = some xs[j]) {j : Nat} {v : Value} (h : xs[j]? = some v) : w.cell? ⟨b, off + j, none⟩ = some v := by
  obtain ⟨hlt, rfl⟩ := List.getElem?_eq_some_iff.1 h
  exact hc j hlt
/-- Cell i of the k-th of rows of sz cells each. -/
theorem flat_at {α : Type} (f : α → List Value) (sz : Nat) (hf : ∀ x, (f x).length = sz) : ∀ (l : List α) (k i : Nat) (h : k < l.length), i < sz → ((l.map f).flatten)[k * sz + i]? = (f l[k])[i]?
  | [], k, i, h, _ => by simp at h
  | x :: l, 0, i, h, hi => by
    simp only [List.map_cons, List.flatten_cons, Nat.zero_mul, Nat.zero_add, List.getElem_cons_zero]
    rw [List.getElem?_append_left (by rw [hf]; exact hi)]
  | x :: l, k + 1, i, h, hi => by
    simp only [List.map_cons, List.flatten_cons, List.getElem_cons_succ]
    rw [List.getElem?_append_right (by rw [hf, Nat.succ_mul]; omega), hf, show (k + 1) * sz + i - sz = k * sz + i by rw [Nat.succ_mul]; omega]
    exact flat_at f sz hf l k i (by simpa using h) hi
theorem flat_len {α : Type} (f : α → List Value) (sz : Nat) (hf : ∀ x, (f x).length = sz) (l : List α) : ((l.map f).flatten).length = l.length * sz := by
  induction l with
  | nil => simp
  | cons x l ih => simp [ih, hf, Nat.succ_mul]; omega
/-- What a literal of one element has laid. -/
theorem news_new (w : World) (e : TypeId) (news : List Value) : ∀ j u, news[j]? = some u → (w.alloc (.cells news.toArray e)).cell? ((⟨w.heap.size, 0, none⟩ : Addr).add j) = some u := fun j u h =>
  World.news_of_block (heap_alloc_new w _) j u (by simpa using h)

end Go.Proofs.YtoieacmipejfeaaGreatDoor

/- Slices of structs that came in, read as lists. -/
namespace Go.Proofs.YtoieacmipejfeaaGreatDoor
open Go.RowKit Go.Shelf Go.ChangeShapes Go.WideShapes Go.Deep
set_option linter.unusedVariables false

theorem isInts_cap {k : IntKind} {w : World} {a : Option Addr} {len cap : Nat} {zs : List Int} (h : IsInts k w a len cap zs) : len ≤ cap := by
  rcases h with ⟨_, rfl, rfl, _⟩ | ⟨_, _, hl, _⟩
  · exact Nat.le_refl _
  · exact hl

/-- A field of a struct that reads. -/
theorem trod_field {H : Type} {enc : TypeId × Value → H} {P : Program} {W : World} {base : Nat} {sp : Nat → Bool} {held : Bool} {n : Nat} {cs : List Value} {fs : Array Field} {xs : List (DataW H × List MemPlace)}
    (hf : ∀ (i : Nat) (f : Field), fs[i]? = some f → DataW.trod enc P W base sp held n f.type ((cs.drop f.offset).take (P.cellsOf f.type)) = xs[i]?) (i off k : Nat) (T : TypeId) (hi : (fs[i]?).map (fun f => (f.type, f.offset)) = some (T, off)) (hk : P.cellsOf T = k) :
    DataW.trod enc P W base sp held n T ((cs.drop off).take k) = xs[i]? := by
  cases h : fs[i]? with
  | none => rw [h] at hi; cases hi
  | some f =>
    rw [h] at hi
    simp only [Option.map_some, Option.some.injEq, Prod.mk.injEq] at hi
    obtain ⟨rfl, rfl⟩ := hi
    rw [← hk]
    exact hf i f h

/-- A slice whose elements are rows of sz cells, each of which reads as something of α. -/
theorem open_rows {H : Type} {enc : TypeId × Value → H} {P : Program} {W : World} {t e : TypeId} {a : Option Addr} {len cap : Nat} {d : DataW H} {ps : List MemPlace} {α : Type} (cells : α → List Value) (good : α → Prop) (sz : Nat) (hsz : 0 < sz) (ht : P.underlying t = some (.slice e)) (hC : P.cellsOf e = sz)
    (hcl : ∀ x, (cells x).length = sz)
    (hel : ∀ (n : Nat) (cs : List Value) (x : DataW H × List MemPlace), cs.length = sz → DataW.trod enc P W 0 (fun _ => true) true n e cs = some x → ∃ f : α, cells f = cs ∧ good f)
    (h : DataW.Trod enc P W 0 (fun _ => true) true t (.slice a len cap) d ps) : ∃ l : List α, l.length = len ∧ len ≤ cap ∧ RowV W a len sz ((l.map cells).flatten) ∧ ∀ f ∈ l, good f := by
  obtain ⟨fuel, hf⟩ := h
  rcases open_slice ht hf with ⟨hcs, _⟩ | ⟨ad, len', cap', m, n, D, Pl, hcs, hb, hl, hm, hmm, hx, hi⟩
  · simp [Value.cells] at hcs
    obtain ⟨rfl, rfl, rfl⟩ := hcs
    exact ⟨[], rfl, Nat.le_refl _, by simpa using RowV.nil W sz none, by simp⟩
  · simp [Value.cells] at hcs
    obtain ⟨rfl, rfl, rfl⟩ := hcs
    rw [if_pos rfl] at hmm
    have key : ∀ i : Fin len, ∃ f : α, good f ∧ ∀ j, j < sz → W.cell? ((ad.add (i.val * sz)).add j) = (cells f)[j]? := fun i => by
      obtain ⟨cs', hc, htr⟩ := hi i.val (by have := i.isLt; omega)
      rw [hC] at hc
      obtain ⟨_, hcl', hat⟩ := World.cells?_some hc
      obtain ⟨f, rfl, hg⟩ := hel n cs' _ hcl' htr
      exact ⟨f, hg, hat⟩
    let l : List α := List.ofFn fun i : Fin len => Classical.choose (key i)
    have hll : l.length = len := by simp [l]
    have hlg : ∀ (i : Nat) (h : i < l.length), good l[i] ∧ ∀ j, j < sz → W.cell? ((ad.add (i * sz)).add j) = (cells l[i])[j]? := fun i h => by
      have hi' : i < len := by rw [hll] at h; exact h
      have := Classical.choose_spec (key ⟨i, hi'⟩)
      simpa [l] using this
    refine ⟨l, hll, hl, ⟨by rw [flat_len cells sz hcl, hll], by omega, fun h0 => ?_⟩, fun f hf => ?_⟩
    · obtain ⟨b, off, spot⟩ := ad
      have h1 := (hlg 0 (by omega)).2 0 hsz
      have hcz : 0 < (cells l[0]).length := by rw [hcl]; exact hsz
      rw [List.getElem?_eq_getElem hcz] at h1
      simp only [Nat.zero_mul] at h1
      have hsp : spot = none := by simpa [Addr.add] using World.cell?_spot h1
      subst hsp
      refine ⟨b, off, rfl, block_of_cell (by simpa [Addr.add] using h1), fun j hj => ?_⟩
      have hfl := flat_len cells sz hcl l
      have hk : j / sz < l.length := by rw [hfl] at hj; exact Nat.div_lt_of_lt_mul (by rw [Nat.mul_comm]; exact hj)
      have hr : j % sz < sz := Nat.mod_lt _ hsz
      have hjj : j / sz * sz + j % sz = j := by rw [Nat.mul_comm]; exact Nat.div_add_mod j sz
      have h2 := (hlg _ hk).2 _ hr
      rw [add_off, add_off, Nat.add_assoc, hjj] at h2
      rw [h2, ← flat_at cells sz hcl l _ _ hk hr, hjj, List.getElem?_eq_getElem hj]
    · obtain ⟨i, hi', rfl⟩ := List.getElem_of_mem hf
      exact (hlg i hi').1

end Go.Proofs.YtoieacmipejfeaaGreatDoor
