/- Rows of bytes that a call has made: '[]byte(s)', 'make([]byte, n)'; a store into one; 'string(b)'. -/
import Derived.Test.YtoieacmipejfeaaGreatDoorKit
import Derived.Test.YtoieacmipejfeaaGreatDoorProg
import Derived.Laws.IdiomStrings
import Derived.Laws.OwnMore
namespace Go.Proofs.YtoieacmipejfeaaGreatDoor
open Go.RowKit Go.Shelf
set_option linter.unusedVariables false

/-- Block g holds the bytes l from its beginning on; none of them is frozen. -/
structure BytesAt (W : World) (g : Nat) (l : List UInt8) : Prop where
  lt : g < W.heap.size
  cell : ∀ j (h : j < l.length), W.cell? ⟨g, j, none⟩ = some (vb l[j])
  frozen : ∀ j, j < l.length → W.frozen? ⟨g, j, none⟩ = false

theorem BytesAt.below {W W' : World} {g : Nat} {l : List UInt8} (h : BytesAt W g l) (hb : Below W.heap.size W W') : BytesAt W' g l :=
  ⟨Nat.lt_of_lt_of_le h.lt hb.size, fun j hj => (hb.cell (p := ⟨g, j, none⟩) h.lt).trans (h.cell j hj), fun j hj => (hb.frozen (p := ⟨g, j, none⟩) h.lt).trans (h.frozen j hj)⟩
theorem BytesAt.drew {W : World} {g : Nat} {l : List UInt8} (h : BytesAt W g l) : BytesAt W.drew g l := ⟨h.lt, h.cell, h.frozen⟩
theorem BytesAt.drewN {W : World} {g : Nat} {l : List UInt8} (n : Nat) (h : BytesAt W g l) : BytesAt (W.drewN n) g l := ⟨h.lt, h.cell, h.frozen⟩
theorem BytesAt.set {W : World} {g : Nat} {l : List UInt8} (h : BytesAt W g l) (j : Nat) (hj : j < l.length) (x : UInt8) : BytesAt (W.setCell ⟨g, j, none⟩ (vb x)) g (l.set j x) := by
  refine ⟨by simpa using h.lt, fun k hk => ?_, fun k hk => by rw [World.frozen?_setCell]; exact h.frozen k (by simpa using hk)⟩
  rw [List.length_set] at hk
  by_cases e : k = j
  · subst e
    rw [List.getElem_set_self]
    exact World.cell?_setCell_same _ _ _ (h.cell k hj)
  · rw [List.getElem_set_ne (Ne.symm e)]
    refine Eq.trans ?_ (h.cell k hk)
    exact World.cell?_setCell_other _ _ _ _ (fun e2 => e (by cases e2; rfl))

/-- '[]byte(s)'. -/
theorem bytes_of {P : Program} {src dst e : TypeId} (hs : P.underlying src = some .string) (hd : P.underlying dst = some (.slice e)) (he : P.underlying e = some (.int .u8)) (s : ByteArray) (W : World) :
    ∃ cap W', s.size ≤ cap ∧ (convert src dst (.string s)).run P W = .ok (.slice (some ⟨W.heap.size, 0, none⟩) s.size cap) W' ∧ Below W.heap.size W W' ∧ BytesAt W' W.heap.size s.data.toList := by
  refine ⟨_, _, ?_, run_bytes_of_string W src dst e s hs hd he, ?_, ?_⟩
  · exact grownCap_ge _ _ _ _
  · exact ((Below.refl _ W).drew).alloc (Nat.le_refl _) _
  · have hsz : s.data.toList.length = s.data.size := by simp
    refine ⟨by simp, fun j hj => ?_, fun j hj => ?_⟩
    · rw [hsz] at hj
      have h1 := World.cell?_alloc_mark W.drew (bytesRow s (grownCap W s.size 0 e)) e ((bytesRow s (grownCap W s.size 0 e)).size, (bytesRow s (grownCap W s.size 0 e)).size + 1) j
      rw [bytesRow_at s _ j hj] at h1
      exact h1
    · rw [hsz] at hj
      have h1 := World.frozen?_alloc_mark W.drew (bytesRow s (grownCap W s.size 0 e)) e (bytesRow s (grownCap W s.size 0 e)).size ((bytesRow s (grownCap W s.size 0 e)).size + 1) j
      refine h1.trans ?_
      have h2 : j < (bytesRow s (grownCap W s.size 0 e)).size := by unfold bytesRow; rw [Array.size_append, Array.size_map]; omega
      rw [decide_eq_false (by omega)]; rfl
/-- 'make([]byte, n)'. -/
theorem bytes_made {P : Program} {t e : TypeId} (i : TypeInfo) (ht : P.underlying t = some (.slice e)) (hi : P.info? e = some i) (hz : i.zero = some (.int .u8 0)) (h1 : i.size = 1) (h2 : i.bytes = 1) (n : Nat) (hn : n ≤ 16777216) (W : World) :
    ∃ W', (Instr.makeSlice t (.int .i64 n) (.int .i64 n)).run P W = .ok (.slice (some ⟨W.heap.size, 0, none⟩) n n) W' ∧ Below W.heap.size W W' ∧ BytesAt W' W.heap.size (List.replicate n 0) := by
  obtain ⟨W', hr, hown, hg⟩ := run_makeSlice_full (P := P) W W.heap.size t e i (.int .u8 0) 1 ht hi hz h1 .i64 .i64 n (by omega) (by rw [h2]; omega) (by unfold maxLen; omega) (Nat.le_refl _)
  refine ⟨W', hr, (Below.refl _ _).grown hg (Nat.le_refl _) (fun k e => by cases e), ?_, fun j hj => ?_, fun j hj => hown.frozenAt j⟩
  · have := hown.lt W.heap.size rfl
    exact this.2
  · rw [List.length_replicate] at hj
    rw [hown.cellAt j (by omega)]
    rw [Nat.mul_one, show (Value.int .u8 0).cells = #[.int .u8 0] from rfl, toList_madeCells_one]
    simp [hj]
/-- 'string(b)'. -/
theorem string_of {P : Program} {src dst e : TypeId} (hs : P.underlying src = some (.slice e)) (he : P.underlying e = some (.int .u8)) (hd : P.underlying dst = some .string) {W : World} {g : Nat} {l : List UInt8} (h : BytesAt W g l) (n cap : Nat) (hn : l.length = n) :
    (convert src dst (.slice (some ⟨g, 0, none⟩) n cap)).run P W = .ok (.string ⟨l.toArray⟩) W := by
  subst hn
  refine run_convert_bytes_back W src dst e _ cap l hs he hd fun j hj => ?_
  rw [show (⟨g, 0, none⟩ : Addr).add j = ⟨g, j, none⟩ from by cases j <;> simp [Addr.add]]
  exact h.cell j hj

end Go.Proofs.YtoieacmipejfeaaGreatDoor
