/- Rows of bytes that a call has made: '[]byte(s)', 'make([]byte, n)'; a store into one; 'string(b)'. -/
import Derived.Test.YtflaanffjjidaaaKit
import Derived.Test.YtflaanffjjidaaaProg
import Derived.Laws.IdiomStrings
import Derived.Laws.OwnMore
namespace Go.Proofs.Ytflaanffjjidaaa
open Go.RowKit Go.Shelf
set_option linter.unusedVariables false

/-- Block g holds the bytes l from its beginning on; none of them is frozen. -/
structure BytesAt (W : World) (g : Nat) (l : List UInt8) : Prop where
  lt : g < W.heap.size
  cell : ∀ j (h : j < l.length), W.cell? ⟨g, j, none⟩ = some (vb l[j])
  frozen : ∀ j, j < l.length → W.frozen? ⟨g, j, none⟩ = false

theorem BytesAt.below {W W' : World} {g : Nat} {l : List UInt8} (h : BytesAt W g l) (hb : Below W.heap.size W W') : BytesAt W' g l :=
  ⟨Nat.lt_of_lt_of_le h.lt hb.size, fun j hj => (hb.cell (p := ⟨g, j, none⟩) h.lt).trans (h.cell j hj), fun j hj => (hb.frozen (p := ⟨g, j, none⟩) h.lt).trans (h.frozen j hj)⟩
theorem BytesAt.drew {W : World} {g : Nat} {l : List UInt8} (h : BytesAt W g l) : BytesAt W.drew g l := ⟨h.lt, h.cell, h.frozen⟩
theorem BytesAt.set {W : World} {g : Nat} {l : List UInt8} (h : BytesAt W g l) (j : Nat) (hj : j < l.length) (x : UInt8) : BytesAt (W.setCell ⟨g, j, none⟩ (vb x)) g (l.set j x) := by
  refine ⟨by simpa using h.lt, fun k hk => ?_, fun k hk => by rw [World.frozen?_setCell]; exact h.frozen k (by simpa using hk)⟩
  rw [List.length_set] at hk
  by_cases e : k = j
  · subst e
    rw [List.getElem_set_self]
    exact World.cell?_setCell_same _ _ _ (h.cell k hj)
  · rw [List.getElem_set_ne (Ne.symm e)]
    refine Eq.trans ?_ (h.cell k hk)
    exact World.cell?_setCell_other _ _ _ _ (fun e2 => e (by cases e2; rfl))

/-- '[]byte(s)'. -/
theorem bytes_of {P : Program} {src dst e : TypeId} (hs : P.underlying src = some .string) (hd : P.underlying dst = some (.slice e)) (he : P.underlying e = some (.int .u8)) (s : ByteArray) (W : World) :
    ∃ cap W', s.size ≤ cap ∧ (convert src dst (.string s)).run P W = .ok (.slice (some ⟨W.heap.size, 0, none⟩) s.size cap) W' ∧ Below W.heap.size W W' ∧ BytesAt W' W.heap.size s.data.toList := by
  refine ⟨_, _, ?_, run_bytes_of_string W src dst e s hs hd he, ?_, ?_⟩
  · exact grownCap_ge _ _ _ _
  · exact ((Below.refl _ W).drew).alloc (Nat.le_refl _) _
  · have hsz : s.data.toList.length = s.data.size := by simp
    refine ⟨by simp, fun j hj => ?_, fun j hj => ?_⟩
    · rw [hsz] at hj
      have h1 := World.cell?_alloc_mark W.drew (bytesRow s (grownCap W s.size 0 e)) e ((bytesRow s (grownCap W s.size 0 e)).size, (bytesRow s (grownCap W s.size 0 e)).size + 1) j
      rw [bytesRow_at s _ j hj] at h1
      exact h1
    · rw [hsz] at hj
      have h1 := World.frozen?_alloc_mark W.drew (bytesRow s (grownCap W s.size 0 e)) e (bytesRow s (grownCap W s.size 0 e)).size ((bytesRow s (grownCap W s.size 0 e)).size + 1) j
      refine h1.trans ?_
      have h2 : j < (bytesRow s (grownCap W s.size 0 e)).size := by unfold bytesRow; rw [Array.size_append, Array.size_map]; omega
      rw [decide_eq_false (by omega)]; rfl
/-- 'string(b)'. -/
theorem string_of {P : Program} {src dst e : TypeId} (hs : P.underlying src = some (.slice e)) (he : P.underlying e = some (.int .u8)) (hd : P.underlying dst = some .string) {W : World} {g : Nat} {l : List UInt8} (h : BytesAt W g l) (n cap : Nat) (hn : l.length = n) :
    (convert src dst (.slice (some ⟨g, 0, none⟩) n cap)).run P W = .ok (.string ⟨l.toArray⟩) W := by
  subst hn
  refine run_convert_bytes_back W src dst e _ cap l hs he hd fun j hj => ?_
  rw [show (⟨g, 0, none⟩ : Addr).add j = ⟨g, j, none⟩ from by cases j <;> simp [Addr.add]]
  exact h.cell j hj

end Go.Proofs.Ytflaanffjjidaaa
