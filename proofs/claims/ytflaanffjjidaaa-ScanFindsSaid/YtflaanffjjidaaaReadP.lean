/- Words for the contract of part.Read: what it answers. -/
import Derived.Test.YtflaanffjjidaaaEntries
import Derived.Test.YtflaanffjjidaaaReadM
namespace Go.Proofs.Ytflaanffjjidaaa
open Go.RowKit Go.Shelf
set_option linter.unusedVariables false
attribute [local go_sem] Oper.semAt_some wide_fn wide_round_fn

theorem rst0_ok (s : ByteArray) : (⟨0, 0⟩ : RSt).ok s := ⟨Nat.zero_le _, Nat.zero_le _⟩
def ReadPost (s : ByteArray) (w : World) (e : Ending) (w' : World) : Prop :=
  ∃ a cap, e = .returned (.tuple #[((readM s).1.part a cap).val, .int .i64 (readM s).2.1, .int .i64 (readM s).2.2]) ∧ HasE w' ((readM s).1.part a cap) (readM s).1.l ∧ Below w.heap.size w w' ∧ ∀ k, inBlkE a (readM s).1.l.length k → w.heap.size < k
/-- The world behind which the kinds meet: the reader at b, the part at X, the result's cells at R. -/
structure MidW (w : World) (s : ByteArray) (b X : Nat) (P : PartC) (l : List EntryC) (st : RSt) (W : World) : Prop where
  rd : RdAt b s st W
  part : W.heap[X]? = some (.cells P.arr 70 (0, 0))
  res : W.heap[w.heap.size]? = some (.cells #[.int .i64 0, .int .i64 0, .slice none 0 0, .int .i64 0, .int .i64 0, .int .i64 0, .int .i64 0, .int .i64 0, .bool false, .bool false] 70 (0, 0))
  ent : HasE W P l
  off : ∀ k, inBlkE P.a P.len k → w.heap.size < k
  below : Below w.heap.size w W
theorem readPost_err {s : ByteArray} {w W : World} {e : Ending} (E : Nat) (hE : errM (rawM s) = E) (h0 : E ≠ 0) (he : e = .returned (.tuple #[.agg #[.int .i64 0, .int .i64 0, .slice none 0 0, .int .i64 0, .int .i64 0, .int .i64 0, .int .i64 0, .int .i64 0, .bool false, .bool false], .int .i64 0, .int .i64 E])) (hB : Below w.heap.size w W) : ReadPost s w e W := by
  have hv : readM s = (zeroR, 0, E) := by unfold readM; rw [if_pos (by rw [hE]; exact h0), hE]
  refine ⟨none, 0, ?_, ?_, hB, ?_⟩
  · rw [he, hv]; rfl
  · rw [hv]; exact hasE_nil rfl rfl
  · rintro k ⟨_, _, h, _⟩; cases h
theorem readPost_ok {s : ByteArray} {w W : World} {e : Ending} (P : PartC) (l : List EntryC) (A : Nat) (hE : errM (rawM s) = 0) (hP : P = (rawM s).1.part P.a P.cap) (hl : l = (rawM s).1.l) (hA : A = (rawM s).2.at_) (he : e = .returned (.tuple #[P.val, .int .i64 A, .int .i64 0])) (hH : HasE W P l) (hB : Below w.heap.size w W) (hO : ∀ k, inBlkE P.a P.len k → w.heap.size < k) : ReadPost s w e W := by
  have hv : readM s = ((rawM s).1, (rawM s).2.at_, 0) := by unfold readM; rw [if_neg (by rw [hE]; simp)]
  refine ⟨P.a, P.cap, ?_, ?_, hB, ?_⟩
  · rw [he, hv, ← hP, hA]; rfl
  · rw [hv]; dsimp only; rw [← hP, ← hl]; exact hH
  · rw [hv]; dsimp only; intro k hk; refine hO k ?_; rwa [← hH.1, hl]

theorem MidW.cells {w : World} {s : ByteArray} {b X : Nat} {P : PartC} {l : List EntryC} {st : RSt} {W : World} (h : MidW w s b X P l st W) :
    W.cell? ⟨b, 1, none⟩ = some (.int .i64 st.at_) ∧ W.cell? ⟨b, 2, none⟩ = some (.int .i64 st.e) ∧ W.frozen? ⟨b, 2, none⟩ = false ∧ W.cell? ⟨X, 0, none⟩ = some (.int .i64 P.g) ∧ W.cell? ⟨X, 1, none⟩ = some (.int .i64 P.k) ∧ W.cell? ⟨X, 2, none⟩ = some (.slice P.a P.len P.cap) ∧ W.cell? ⟨X, 3, none⟩ = some (.int .i64 P.ht) ∧ W.cell? ⟨X, 4, none⟩ = some (.int .i64 P.hv) ∧ W.cell? ⟨X, 5, none⟩ = some (.int .i64 P.hc) ∧ W.cell? ⟨X, 6, none⟩ = some (.int .i64 P.i) ∧ W.cell? ⟨X, 7, none⟩ = some (.int .i64 P.t) ∧ W.cell? ⟨X, 8, none⟩ = some (.bool P.m) ∧ W.cell? ⟨X, 9, none⟩ = some (.bool P.h) ∧ W.cell? ⟨w.heap.size, 0, none⟩ = some (.int .i64 0) ∧ W.cell? ⟨w.heap.size, 1, none⟩ = some (.int .i64 0) ∧ W.cell? ⟨w.heap.size, 2, none⟩ = some (.slice none 0 0) ∧ W.cell? ⟨w.heap.size, 3, none⟩ = some (.int .i64 0) ∧ W.cell? ⟨w.heap.size, 4, none⟩ = some (.int .i64 0) ∧ W.cell? ⟨w.heap.size, 5, none⟩ = some (.int .i64 0) ∧ W.cell? ⟨w.heap.size, 6, none⟩ = some (.int .i64 0) ∧ W.cell? ⟨w.heap.size, 7, none⟩ = some (.int .i64 0) ∧ W.cell? ⟨w.heap.size, 8, none⟩ = some (.bool false) ∧ W.cell? ⟨w.heap.size, 9, none⟩ = some (.bool false) ∧ W.frozen? ⟨w.heap.size, 0, none⟩ = false ∧ W.frozen? ⟨w.heap.size, 1, none⟩ = false ∧ W.frozen? ⟨w.heap.size, 2, none⟩ = false ∧ W.frozen? ⟨w.heap.size, 3, none⟩ = false ∧ W.frozen? ⟨w.heap.size, 4, none⟩ = false ∧ W.frozen? ⟨w.heap.size, 5, none⟩ = false ∧ W.frozen? ⟨w.heap.size, 6, none⟩ = false ∧ W.frozen? ⟨w.heap.size, 7, none⟩ = false ∧ W.frozen? ⟨w.heap.size, 8, none⟩ = false ∧ W.frozen? ⟨w.heap.size, 9, none⟩ = false :=
  ⟨h.rd.cells.2.1, h.rd.cells.2.2.1, h.rd.cells.2.2.2.2, cell_of_row _ _ 0 _ _ _ h.part, cell_of_row _ _ 1 _ _ _ h.part, cell_of_row _ _ 2 _ _ _ h.part, cell_of_row _ _ 3 _ _ _ h.part, cell_of_row _ _ 4 _ _ _ h.part, cell_of_row _ _ 5 _ _ _ h.part, cell_of_row _ _ 6 _ _ _ h.part, cell_of_row _ _ 7 _ _ _ h.part, cell_of_row _ _ 8 _ _ _ h.part, cell_of_row _ _ 9 _ _ _ h.part, cell_of_row _ _ 0 _ _ _ h.res, cell_of_row _ _ 1 _ _ _ h.res, cell_of_row _ _ 2 _ _ _ h.res, cell_of_row _ _ 3 _ _ _ h.res, cell_of_row _ _ 4 _ _ _ h.res, cell_of_row _ _ 5 _ _ _ h.res, cell_of_row _ _ 6 _ _ _ h.res, cell_of_row _ _ 7 _ _ _ h.res, cell_of_row _ _ 8 _ _ _ h.res, cell_of_row _ _ 9 _ _ _ h.res, frozen_of_row _ _ 0 _ _ h.res, frozen_of_row _ _ 1 _ _ h.res, frozen_of_row _ _ 2 _ _ h.res, frozen_of_row _ _ 3 _ _ h.res, frozen_of_row _ _ 4 _ _ h.res, frozen_of_row _ _ 5 _ _ h.res, frozen_of_row _ _ 6 _ _ h.res, frozen_of_row _ _ 7 _ _ h.res, frozen_of_row _ _ 8 _ _ h.res, frozen_of_row _ _ 9 _ _ h.res⟩
theorem MidW.after {w : World} {s : ByteArray} {b X : Nat} {P : PartC} {l : List EntryC} {st : RSt} {W W' : World} (h : MidW w s b X P l st W) (hB : Below W.heap.size W W') : MidW w s b X P l st W' :=
  ⟨h.rd.below hB, (hB.block _ (Array.getElem?_eq_some_iff.1 h.part).1).trans h.part, (hB.block _ (Array.getElem?_eq_some_iff.1 h.res).1).trans h.res, h.ent.below hB, h.off, h.below.trans (hB.mono h.below.size)⟩
theorem heap_ltP {w : World} {k : Nat} {o : Obj} (h : w.heap[k]? = some o) : k < w.heap.size := (Array.getElem?_eq_some_iff.1 h).1

theorem inBlkE_nil {k : Nat} : ¬ inBlkE none 0 k := by rintro ⟨_, _, h, _⟩; cases h
theorem HasE.off {W W' : World} {P : PartC} {l : List EntryC} {R : Nat} (h : HasE W P l) (hne : ∀ k, inBlkE P.a P.len k → k ≠ R) (hb : ∀ k, k ≠ R → W'.heap[k]? = W.heap[k]?) (hs : W.heap.size ≤ W'.heap.size) : HasE W' P l := by
  refine ⟨h.1, h.2.1, h.2.2.1, h.2.2.2.1, fun h0 => ?_⟩
  obtain ⟨b, off, e, hlt, hc⟩ := h.2.2.2.2 h0
  refine ⟨b, off, e, Nat.lt_of_lt_of_le hlt hs, fun j hj => ?_⟩
  exact (World.cell?_of_block (w := W) (hb b (hne b ⟨b, off, e, h0, rfl⟩))).trans (hc j hj)

theorem HasE.drew {W : World} {P : PartC} {l : List EntryC} (h : HasE W P l) : HasE W.drew P l := h
theorem HasE.put10 {W : World} {P : PartC} {l : List EntryC} {R : Nat} (h : HasE W P l) (hne : ∀ k, inBlkE P.a P.len k → R < k) (v0 v1 v2 v3 v4 v5 v6 v7 v8 v9 : Value) : HasE (st10 W R v0 v1 v2 v3 v4 v5 v6 v7 v8 v9).drew P l := by
  refine HasE.drew ?_
  have h1 : ∀ k, k ≠ R → (st10 W R v0 v1 v2 v3 v4 v5 v6 v7 v8 v9).heap[k]? = W.heap[k]? := fun k hk => st10_other hk v0 v1 v2 v3 v4 v5 v6 v7 v8 v9
  have h2 : W.heap.size ≤ (st10 W R v0 v1 v2 v3 v4 v5 v6 v7 v8 v9).heap.size := Nat.le_of_eq (st10_size v0 v1 v2 v3 v4 v5 v6 v7 v8 v9).symm
  generalize st10 W R v0 v1 v2 v3 v4 v5 v6 v7 v8 v9 = W' at h1 h2 ⊢
  exact h.off (fun k hk => Nat.ne_of_gt (hne k hk)) h1 h2

theorem blk_st {W : World} {R X i : Nat} {o : Obj} {v : Value} (h : W.heap[R]? = some o) (hne : R ≠ X) : (W.setCell ⟨X, i, none⟩ v).heap[R]? = some o := (heap_setCell_other W ⟨X, i, none⟩ R v hne).trans h
theorem RdAt.st {b X i : Nat} {s : ByteArray} {q : RSt} {W : World} {v : Value} (h : RdAt b s q W) (hne : b ≠ X) : RdAt b s q (W.setCell ⟨X, i, none⟩ v) := blk_st h hne

end Go.Proofs.Ytflaanffjjidaaa
