/- Reads, RowV: in one text. -/
import Derived.Test.YtflaanffjjidaaaLaw
import Derived.Test.YtflaanffjjidaaaKit
import Derived.Deep.AppendLies
/- Slices that came in, read as lists: of integers, of strings. -/
namespace Go.Proofs.Ytflaanffjjidaaa
open Go.RowKit Go.Shelf
set_option linter.unusedVariables false

theorem block_of_cell {w : World} {a : Addr} {v : Value} (h : w.cell? a = some v) : a.block < w.heap.size := by
  obtain ⟨o, ho, _⟩ := isCells_of_cell h
  exact (Array.getElem?_eq_some_iff.1 ho).1
theorem add_off (b off i : Nat) : (⟨b, off, none⟩ : Addr).add i = ⟨b, off + i, none⟩ := by
  unfold Addr.add
  split
  · rename_i h; subst h; rfl
  · rfl

end Go.Proofs.Ytflaanffjjidaaa

/- Slices of structs, read as lists of cells: that came in, that a call has made. -/
namespace Go.Proofs.Ytflaanffjjidaaa
open Go.RowKit Go.Shelf
set_option linter.unusedVariables false

/-- The first len elements from a on, of sz cells each, hold the cells xs. -/
def RowV (w : World) (a : Option Addr) (len sz : Nat) (xs : List Value) : Prop :=
  xs.length = len * sz ∧ len ≤ maxLen ∧ (0 < len → ∃ b off, a = some ⟨b, off, none⟩ ∧ b < w.heap.size ∧ ∀ j (h : j < xs.length), w.cell? ⟨b, off + j, none⟩ = some xs[j])
theorem RowV.below {w w' : World} {a : Option Addr} {len sz : Nat} {xs : List Value} (h : RowV w a len sz xs) (hb : Below w.heap.size w w') : RowV w' a len sz xs :=
  ⟨h.1, h.2.1, fun h0 => by
    obtain ⟨b, off, e, hlt, hc⟩ := h.2.2 h0
    exact ⟨b, off, e, Nat.lt_of_lt_of_le hlt hb.size, fun j hj => (hb.cell (p := ⟨b, off + j, none⟩) hlt).trans (hc j hj)⟩⟩
theorem RowV.nil (w : World) (sz : Nat) (a : Option Addr) : RowV w a 0 sz [] := ⟨by simp, by simp [maxLen], fun h => absurd h (by omega)⟩
theorem RowV.drew {w : World} {a : Option Addr} {len sz : Nat} {xs : List Value} (h : RowV w a len sz xs) : RowV w.drew a len sz xs := h
/-- A row of the call's own is such a slice. -/
theorem rowV_own {w : World} {base : Nat} {e : TypeId} {sz n : Nat} {v : Value} {xs : List Value} (h : w.ownsRow base e sz v n xs) : ∃ a cap, v = .slice a n cap ∧ n ≤ cap ∧ RowV w a n sz xs := by
  rcases h.2 with ⟨rfl, rfl⟩ | ⟨g, cap, cur, rfl, _, hg, hn, hm, _, ht⟩
  · obtain rfl : xs = [] := List.eq_nil_of_length_eq_zero (by simpa using h.1)
    exact ⟨none, 0, rfl, Nat.le_refl _, RowV.nil _ _ _⟩
  · refine ⟨_, cap, rfl, hn, h.1, Nat.le_trans hn hm, fun _ => ⟨g, 0, rfl, (Array.getElem?_eq_some_iff.1 hg).1, fun j hj => ?_⟩⟩
    have := h.cells (g := g) rfl j xs[j] (List.getElem?_eq_getElem hj)
    rwa [add_off] at this
/-- .. and a block of a literal. -/
theorem rowV_block {w : World} {g : Nat} {e : TypeId} {n sz : Nat} {cs : Array Value} (h : w.heap[g]? = some (.cells cs e (0, 0))) (hn : cs.size = n * sz) (hm : n ≤ maxLen) : RowV w (some ⟨g, 0, none⟩) n sz cs.toList :=
  ⟨by simpa using hn, hm, fun _ => ⟨g, 0, rfl, (Array.getElem?_eq_some_iff.1 h).1, fun j hj => by
    rw [Nat.zero_add, cell_of_row w g j cs e (0, 0) h]
    simp at hj
    simp [hj]⟩⟩
theorem rowV_new (w : World) (e : TypeId) (cs : Array Value) (n sz : Nat) (hn : cs.size = n * sz) (hm : n ≤ maxLen) : RowV (w.alloc (.cells cs e)) (some ⟨w.heap.size, 0, none⟩) n sz cs.toList :=
  rowV_block (e := e) (heap_alloc_new w _) hn hm
/-- The cells of element k, j of them in. -/
theorem RowV.at_ {w : World} {b off len sz : Nat} {xs : List Value} (hc : ∀ j (h : j < xs.length), w.cell? ⟨b, off + j, none⟩ = some xs[j]) {j : Nat} {v : Value} (h : xs[j]? = some v) : w.cell? ⟨b, off + j, none⟩ = some v := by
  obtain ⟨hlt, rfl⟩ := List.getElem?_eq_some_iff.1 h
  exact hc j hlt
/-- Cell i of the k-th of rows of sz cells each. -/
theorem flat_at {α : Type} (f : α → List Value) (sz : Nat) (hf : ∀ x, (f x).length = sz) : ∀ (l : List α) (k i : Nat) (h : k < l.length), i < sz → ((l.map f).flatten)[k * sz + i]? = (f l[k])[i]?
  | [], k, i, h, _ => by simp at h
  | x :: l, 0, i, h, hi => by
    simp only [List.map_cons, List.flatten_cons, Nat.zero_mul, Nat.zero_add, List.getElem_cons_zero]
    rw [List.getElem?_append_left (by rw [hf]; exact hi)]
  | x :: l, k + 1, i, h, hi => by
    simp only [List.map_cons, List.flatten_cons, List.getElem_cons_succ]
    rw [List.getElem?_append_right (by rw [hf, Nat.succ_mul]; omega), hf, show (k + 1) * sz + i - sz = k * sz + i by rw [Nat.succ_mul]; omega]
    exact flat_at f sz hf l k i (by simpa using h) hi
theorem flat_len {α : Type} (f : α → List Value) (sz : Nat) (hf : ∀ x, (f x).length = sz) (l : List α) : ((l.map f).flatten).length = l.length * sz := by
  induction l with
  | nil => simp
  | cons x l ih => simp [ih, hf, Nat.succ_mul]; omega
/-- What a literal of one element has laid. -/
theorem news_new (w : World) (e : TypeId) (news : List Value) : ∀ j u, news[j]? = some u → (w.alloc (.cells news.toArray e)).cell? ((⟨w.heap.size, 0, none⟩ : Addr).add j) = some u := fun j u h =>
  World.news_of_block (heap_alloc_new w _) j u (by simpa using h)

end Go.Proofs.Ytflaanffjjidaaa
