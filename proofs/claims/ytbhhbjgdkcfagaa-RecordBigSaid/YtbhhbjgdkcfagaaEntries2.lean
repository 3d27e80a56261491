/- What part's entries makes, and what Collect's row is good for. -/
import Derived.Test.YtbhhbjgdkcfagaaEntries
import Derived.Test.YtbhhbjgdkcfagaaPartSteps
namespace Go.Proofs.Ytbhhbjgdkcfagaa
open Go.RowKit Go.Shelf
set_option linter.unusedVariables false
attribute [local go_sem] Oper.semAt_some wide_fn wide_round_fn

theorem three_boxes (w : World) (v1 v2 v3 : Value) (T1 T2 T3 : TypeId) :
    (((w.alloc (.cells #[v1] T1)).alloc (.cells #[v2] T2)).alloc (.cells #[v3] T3)).cell? ⟨w.heap.size, 0, none⟩ = some v1 ∧ (((w.alloc (.cells #[v1] T1)).alloc (.cells #[v2] T2)).alloc (.cells #[v3] T3)).cell? ⟨w.heap.size + 1, 0, none⟩ = some v2 ∧
    (((w.alloc (.cells #[v1] T1)).alloc (.cells #[v2] T2)).alloc (.cells #[v3] T3)).cell? ⟨w.heap.size + 1 + 1, 0, none⟩ = some v3 ∧ Below w.heap.size w (((w.alloc (.cells #[v1] T1)).alloc (.cells #[v2] T2)).alloc (.cells #[v3] T3)) ∧
    (((w.alloc (.cells #[v1] T1)).alloc (.cells #[v2] T2)).alloc (.cells #[v3] T3)).heap.size = w.heap.size + 3 := by
  refine ⟨(((Boxed.new w T1 v1).alloc _).alloc _).cell, ?_, ?_, bel_alloc (bel_alloc (bel_alloc (Below.refl _ _) _) _) _, by simp⟩
  · have := ((Boxed.new (w.alloc (.cells #[v1] T1)) T2 v2).alloc (.cells #[v3] T3)).cell
    rwa [World.size_alloc] at this
  · have := (Boxed.new ((w.alloc (.cells #[v1] T1)).alloc (.cells #[v2] T2)) T3 v3).cell
    rwa [World.size_alloc, World.size_alloc] at this

set_option maxRecDepth 100000 in
theorem entFrom_makes (b c m : Nat) (s : ByteArray) (hs : s.size < 4611686018427387904) (first : Nat) (hf : first < 9223372036854775808) (hm : m ≤ 6) (st0 : RSt) (hok0 : st0.ok s) (hcb : c ≠ b) (w : World) (hb : RdAt b s st0 w) (hc : w.cell? ⟨c, 0, none⟩ = some (.int .i64 first)) :
    Calls Try.prog 73 #[.pointer (some ⟨b, 0, none⟩), .int .i64 m, .func (.func 74) #[] #[.pointer (some ⟨c, 0, none⟩)]] w fun e w' => ∃ lb, e = .returned (.func (.func 81) #[] lb) ∧ Below w.heap.size w w' ∧
      IterK Try.prog 81 lb EntryC.enc (entM s (idxFrom first) m 0 st0).1 (fun k => k < w'.heap.size) (fun k => k = b) (RdAt b s (entM s (idxFrom first) m 0 st0).2) w' := by
  have HB := Lib.hid hb
  have hbl := hb.lt
  have hcl : c < w.heap.size := by obtain ⟨o, ho, _⟩ := isCells_of_cell hc; exact (Array.getElem?_eq_some_iff.1 ho).1
  have HC := Lib.hid hc
  clear hb hc
  go_enter Try.func73, Try.ntmps73
  go_wp2
  go_ret
  have h3 := three_boxes w (.pointer (some ⟨b, 0, none⟩)) (.int .i64 m) (.func (.func 74) #[] #[.pointer (some ⟨c, 0, none⟩)]) 114 3 76
  refine ⟨_, rfl, h3.2.2.2.1, ?_⟩
  exact entFrom_iter b c (w.heap.size + 1) (w.heap.size + 1 + 1) w.heap.size m s hs first hf hm st0 hok0 (fun k => k < (((w.alloc (.cells #[.pointer (some ⟨b, 0, none⟩)] 114)).alloc (.cells #[.int .i64 m] 3)).alloc (.cells #[.func (.func 74) #[] #[.pointer (some ⟨c, 0, none⟩)]] 76)).heap.size) (Nat.lt_of_lt_of_le hbl h3.2.2.2.1.size) (by show _ < _; rw [h3.2.2.2.2]; omega) (by show _ < _; rw [h3.2.2.2.2]; omega) (by show _ < _; rw [h3.2.2.2.2]; omega) (Nat.lt_of_lt_of_le hcl h3.2.2.2.1.size)
    (by omega) (by omega) (by omega) hcb _ h3.2.1 h3.2.2.1 h3.1 ((h3.2.2.2.1.cell (p := ⟨c, 0, none⟩) hcl).trans HC.out) (HB.out.below h3.2.2.2.1)

set_option maxRecDepth 100000 in
theorem entRead_makes (b c m : Nat) (s : ByteArray) (hs : s.size < 4611686018427387904)  (hm : m ≤ 6) (st0 : RSt) (hok0 : st0.ok s) (hcb : c ≠ b) (w : World) (hb : RdAt b s st0 w) (hc : w.cell? ⟨c, 0, none⟩ = some (.pointer (some ⟨b, 0, none⟩))) :
    Calls Try.prog 73 #[.pointer (some ⟨b, 0, none⟩), .int .i64 m, .func (.func 83) #[] #[.pointer (some ⟨c, 0, none⟩)]] w fun e w' => ∃ lb, e = .returned (.func (.func 81) #[] lb) ∧ Below w.heap.size w w' ∧
      IterK Try.prog 81 lb EntryC.enc (entM s (idxRead s) m 0 st0).1 (fun k => k < w'.heap.size) (fun k => k = b) (RdAt b s (entM s (idxRead s) m 0 st0).2) w' := by
  have HB := Lib.hid hb
  have hbl := hb.lt
  have hcl : c < w.heap.size := by obtain ⟨o, ho, _⟩ := isCells_of_cell hc; exact (Array.getElem?_eq_some_iff.1 ho).1
  have HC := Lib.hid hc
  clear hb hc
  go_enter Try.func73, Try.ntmps73
  go_wp2
  go_ret
  have h3 := three_boxes w (.pointer (some ⟨b, 0, none⟩)) (.int .i64 m) (.func (.func 83) #[] #[.pointer (some ⟨c, 0, none⟩)]) 114 3 76
  refine ⟨_, rfl, h3.2.2.2.1, ?_⟩
  exact entRead_iter b c (w.heap.size + 1) (w.heap.size + 1 + 1) w.heap.size m s hs  hm st0 hok0 (fun k => k < (((w.alloc (.cells #[.pointer (some ⟨b, 0, none⟩)] 114)).alloc (.cells #[.int .i64 m] 3)).alloc (.cells #[.func (.func 83) #[] #[.pointer (some ⟨c, 0, none⟩)]] 76)).heap.size) (Nat.lt_of_lt_of_le hbl h3.2.2.2.1.size) (by show _ < _; rw [h3.2.2.2.2]; omega) (by show _ < _; rw [h3.2.2.2.2]; omega) (by show _ < _; rw [h3.2.2.2.2]; omega) (Nat.lt_of_lt_of_le hcl h3.2.2.2.1.size)
    (by omega) (by omega) (by omega) hcb _ h3.2.1 h3.2.2.1 h3.1 ((h3.2.2.2.1.cell (p := ⟨c, 0, none⟩) hcl).trans HC.out) (HB.out.below h3.2.2.2.1)

/-- What a row of the call's own is good for: a part's entries. -/
theorem own_ent {w : World} {base n : Nat} {v : Value} {xs : List EntryC} (h : w.ownsRow base 37 3 v n (entryCells xs)) : ∃ a cap, v = .slice a n cap ∧ RowV w a n 3 (entryCells xs) ∧ ∀ k, inBlkE a n k → base ≤ k := by
  obtain ⟨a, cap, e, _, hr⟩ := rowV_own h
  refine ⟨a, cap, e, hr, ?_⟩
  rintro k ⟨g, off, rfl, _, rfl⟩
  rcases h.2 with ⟨hv, _⟩ | ⟨g', cap', cur, hv, hg, _⟩
  · rw [e] at hv; cases hv
  · rw [e] at hv; cases hv; exact hg

end Go.Proofs.Ytbhhbjgdkcfagaa
