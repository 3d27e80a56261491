/- Reader, Entries, Entries2, ReadP, FwdAny, Read0, Read1, Read2, Read3, Read6, ReadAny: in one text. -/
import Derived.Test.YtdncdlbhgaehmaaReadM
import Derived.Test.YtdncdlbhgaehmaaIterK
import Derived.Deep.RegionHeld3
import Derived.Lib.SmallJoins
import Derived.Deep.QuietTactic
import Derived.BigQuiet
import Derived.Test.YtdncdlbhgaehmaaGrp
import Derived.Test.YtdncdlbhgaehmaaPart
import Derived.RegionTactic
/- The contracts of package part's reader: number, numberTo, text, hard. -/
namespace Go.Proofs.Ytdncdlbhgaehmaa
open Go.RowKit Go.Shelf
set_option linter.unusedVariables false
attribute [local go_sem] Oper.semAt_some wide_fn wide_round_fn

abbrev rdArr (s : ByteArray) (st : RSt) : Array Value := #[.string s, .int .i64 st.at_, .int .i64 st.e]
theorem put_frame (w : World) (b : Nat) (u v : Value) : FrameT (fun k => k = b) w ((w.setCell ⟨b, 1, none⟩ u).setCell ⟨b, 2, none⟩ v) := (FrameT.setCell w b 1 u).trans (FrameT.setCell _ b 2 v)
end Go.Proofs.Ytdncdlbhgaehmaa

/- The iterator of part's reader over entries: what it hands out, how far the reader has come behind it. -/
namespace Go.Proofs.Ytdncdlbhgaehmaa
open Go.RowKit Go.Shelf
set_option linter.unusedVariables false
attribute [local go_sem] Oper.semAt_some wide_fn wide_round_fn

theorem FrameT.strip {T : Nat → Prop} {w w' : World} (h : FrameT (fun k => T k ∨ w.heap.size ≤ k) w w') : FrameT T w w' :=
  ⟨h.os, h.tape, h.output, h.size, fun k hk hT => h.block k hk (fun x => x.elim hT (fun x => by omega))⟩
theorem FrameT.rd {b B : Nat} {S : Nat → Prop} {w w' : World} (h : FrameT (fun k => k = b) w w') (hc : ∃ o : Obj, w.heap[b]? = some o ∧ o.isCells = true) : Rd B (fun k => S k ∧ k ≠ b) w w' :=
  ⟨h.os, h.tape, h.output, h.size, fun k o ho hk => h.get ho (by
    rintro rfl
    rcases hk with hk | hk
    · exact hk.2 rfl
    · obtain ⟨o', ho', hc'⟩ := hc
      rw [ho] at ho'; cases ho'; rw [hk.2] at hc'; cases hc')⟩
end Go.Proofs.Ytdncdlbhgaehmaa

/- What part's entries makes, and what Collect's row is good for. -/
namespace Go.Proofs.Ytdncdlbhgaehmaa
open Go.RowKit Go.Shelf
set_option linter.unusedVariables false
attribute [local go_sem] Oper.semAt_some wide_fn wide_round_fn

theorem three_boxes (w : World) (v1 v2 v3 : Value) (T1 T2 T3 : TypeId) :
    (((w.alloc (.cells #[v1] T1)).alloc (.cells #[v2] T2)).alloc (.cells #[v3] T3)).cell? ⟨w.heap.size, 0, none⟩ = some v1 ∧ (((w.alloc (.cells #[v1] T1)).alloc (.cells #[v2] T2)).alloc (.cells #[v3] T3)).cell? ⟨w.heap.size + 1, 0, none⟩ = some v2 ∧
    (((w.alloc (.cells #[v1] T1)).alloc (.cells #[v2] T2)).alloc (.cells #[v3] T3)).cell? ⟨w.heap.size + 1 + 1, 0, none⟩ = some v3 ∧ Below w.heap.size w (((w.alloc (.cells #[v1] T1)).alloc (.cells #[v2] T2)).alloc (.cells #[v3] T3)) ∧
    (((w.alloc (.cells #[v1] T1)).alloc (.cells #[v2] T2)).alloc (.cells #[v3] T3)).heap.size = w.heap.size + 3 := by
  refine ⟨(((Boxed.new w T1 v1).alloc _).alloc _).cell, ?_, ?_, bel_alloc (bel_alloc (bel_alloc (Below.refl _ _) _) _) _, by simp⟩
  · have := ((Boxed.new (w.alloc (.cells #[v1] T1)) T2 v2).alloc (.cells #[v3] T3)).cell
    rwa [World.size_alloc] at this
  · have := (Boxed.new ((w.alloc (.cells #[v1] T1)).alloc (.cells #[v2] T2)) T3 v3).cell
    rwa [World.size_alloc, World.size_alloc] at this

/-- What a row of the call's own is good for: a part's entries. -/
theorem own_ent {w : World} {base n : Nat} {v : Value} {xs : List EntryC} (h : w.ownsRow base 115 3 v n (entryCells xs)) : ∃ a cap, v = .slice a n cap ∧ RowV w a n 3 (entryCells xs) ∧ ∀ k, inBlkE a n k → base ≤ k := by
  obtain ⟨a, cap, e, _, hr⟩ := rowV_own h
  refine ⟨a, cap, e, hr, ?_⟩
  rintro k ⟨g, off, rfl, _, rfl⟩
  rcases h.2 with ⟨hv, _⟩ | ⟨g', cap', cur, hv, hg, _⟩
  · rw [e] at hv; cases hv
  · rw [e] at hv; cases hv; exact hg

end Go.Proofs.Ytdncdlbhgaehmaa

/- Words for the contract of part.Read: what it answers. -/
namespace Go.Proofs.Ytdncdlbhgaehmaa
open Go.RowKit Go.Shelf
set_option linter.unusedVariables false
attribute [local go_sem] Oper.semAt_some wide_fn wide_round_fn

theorem rst0_ok (s : ByteArray) : (⟨0, 0⟩ : RSt).ok s := ⟨Nat.zero_le _, Nat.zero_le _⟩
def ReadPost (s : ByteArray) (w : World) (e : Ending) (w' : World) : Prop :=
  ∃ a cap, e = .returned (.tuple #[((readM s).1.part a cap).val, .int .i64 (readM s).2.1, .int .i64 (readM s).2.2]) ∧ HasE w' ((readM s).1.part a cap) (readM s).1.l ∧ Below w.heap.size w w' ∧ ∀ k, inBlkE a (readM s).1.l.length k → w.heap.size < k
theorem readPost_err {s : ByteArray} {w W : World} {e : Ending} (E : Nat) (hE : errM (rawM s) = E) (h0 : E ≠ 0) (he : e = .returned (.tuple #[.agg #[.int .i64 0, .int .i64 0, .slice none 0 0, .int .i64 0, .int .i64 0, .int .i64 0, .int .i64 0, .int .i64 0, .bool false, .bool false], .int .i64 0, .int .i64 E])) (hB : Below w.heap.size w W) : ReadPost s w e W := by
  have hv : readM s = (zeroR, 0, E) := by unfold readM; rw [if_pos (by rw [hE]; exact h0), hE]
  refine ⟨none, 0, ?_, ?_, hB, ?_⟩
  · rw [he, hv]; rfl
  · rw [hv]; exact hasE_nil rfl rfl
  · rintro k ⟨_, _, h, _⟩; cases h
theorem readPost_ok {s : ByteArray} {w W : World} {e : Ending} (P : PartC) (l : List EntryC) (A : Nat) (hE : errM (rawM s) = 0) (hP : P = (rawM s).1.part P.a P.cap) (hl : l = (rawM s).1.l) (hA : A = (rawM s).2.at_) (he : e = .returned (.tuple #[P.val, .int .i64 A, .int .i64 0])) (hH : HasE W P l) (hB : Below w.heap.size w W) (hO : ∀ k, inBlkE P.a P.len k → w.heap.size < k) : ReadPost s w e W := by
  have hv : readM s = ((rawM s).1, (rawM s).2.at_, 0) := by unfold readM; rw [if_neg (by rw [hE]; simp)]
  refine ⟨P.a, P.cap, ?_, ?_, hB, ?_⟩
  · rw [he, hv, ← hP, hA]; rfl
  · rw [hv]; dsimp only; rw [← hP, ← hl]; exact hH
  · rw [hv]; dsimp only; intro k hk; refine hO k ?_; rwa [← hH.1, hl]

theorem heap_ltP {w : World} {k : Nat} {o : Obj} (h : w.heap[k]? = some o) : k < w.heap.size := (Array.getElem?_eq_some_iff.1 h).1

theorem inBlkE_nil {k : Nat} : ¬ inBlkE none 0 k := by rintro ⟨_, _, h, _⟩; cases h
theorem HasE.off {W W' : World} {P : PartC} {l : List EntryC} {R : Nat} (h : HasE W P l) (hne : ∀ k, inBlkE P.a P.len k → k ≠ R) (hb : ∀ k, k ≠ R → W'.heap[k]? = W.heap[k]?) (hs : W.heap.size ≤ W'.heap.size) : HasE W' P l := by
  refine ⟨h.1, h.2.1, h.2.2.1, h.2.2.2.1, fun h0 => ?_⟩
  obtain ⟨b, off, e, hlt, hc⟩ := h.2.2.2.2 h0
  refine ⟨b, off, e, Nat.lt_of_lt_of_le hlt hs, fun j hj => ?_⟩
  exact (World.cell?_of_block (w := W) (hb b (hne b ⟨b, off, e, h0, rfl⟩))).trans (hc j hj)

theorem HasE.drew {W : World} {P : PartC} {l : List EntryC} (h : HasE W P l) : HasE W.drew P l := h
theorem HasE.put10 {W : World} {P : PartC} {l : List EntryC} {R : Nat} (h : HasE W P l) (hne : ∀ k, inBlkE P.a P.len k → R < k) (v0 v1 v2 v3 v4 v5 v6 v7 v8 v9 : Value) : HasE (st10 W R v0 v1 v2 v3 v4 v5 v6 v7 v8 v9).drew P l := by
  refine HasE.drew ?_
  have h1 : ∀ k, k ≠ R → (st10 W R v0 v1 v2 v3 v4 v5 v6 v7 v8 v9).heap[k]? = W.heap[k]? := fun k hk => st10_other hk v0 v1 v2 v3 v4 v5 v6 v7 v8 v9
  have h2 : W.heap.size ≤ (st10 W R v0 v1 v2 v3 v4 v5 v6 v7 v8 v9).heap.size := Nat.le_of_eq (st10_size v0 v1 v2 v3 v4 v5 v6 v7 v8 v9).symm
  generalize st10 W R v0 v1 v2 v3 v4 v5 v6 v7 v8 v9 = W' at h1 h2 ⊢
  exact h.off (fun k hk => Nat.ne_of_gt (hne k hk)) h1 h2

theorem blk_st {W : World} {R X i : Nat} {o : Obj} {v : Value} (h : W.heap[R]? = some o) (hne : R ≠ X) : (W.setCell ⟨X, i, none⟩ v).heap[R]? = some o := (heap_setCell_other W ⟨X, i, none⟩ R v hne).trans h
end Go.Proofs.Ytdncdlbhgaehmaa

/- The contract of part's reader.forward. -/
namespace Go.Proofs.Ytdncdlbhgaehmaa
open Go.RowKit Go.Shelf
set_option linter.unusedVariables false
attribute [local go_sem] Oper.semAt_some wide_fn wide_round_fn

theorem cell_st1 {W : World} {X j c : Nat} {u v : Value} (h : W.cell? ⟨c, 0, none⟩ = some v) (hcX : c ≠ X) : (W.setCell ⟨X, j, none⟩ u).cell? ⟨c, 0, none⟩ = some v := (FrameT.setCell W X j u).cell h hcX
theorem fwdM_len (s : ByteArray) (g : Int) (st : RSt) : (fwdM s g st).1.l.length ≤ 6 := by
  unfold fwdM
  exact Nat.le_trans (entM_len _ _ _) (numTo_le _ _ _)
theorem fwdM_kind (s : ByteArray) (g : Int) (st : RSt) : (fwdM s g st).1.k = 6 ∧ (fwdM s g st).1.g = g := ⟨rfl, rfl⟩


end Go.Proofs.Ytdncdlbhgaehmaa

/- The contract of part.Read: kind 0. -/
namespace Go.Proofs.Ytdncdlbhgaehmaa
open Go.RowKit Go.Shelf
set_option linter.unusedVariables false
attribute [local go_sem] Oper.semAt_some wide_fn wide_round_fn

end Go.Proofs.Ytdncdlbhgaehmaa

/- The contract of part.Read: kind 1. -/
namespace Go.Proofs.Ytdncdlbhgaehmaa
open Go.RowKit Go.Shelf
set_option linter.unusedVariables false
attribute [local go_sem] Oper.semAt_some wide_fn wide_round_fn

end Go.Proofs.Ytdncdlbhgaehmaa

/- The contract of part.Read: kind 2. -/
namespace Go.Proofs.Ytdncdlbhgaehmaa
open Go.RowKit Go.Shelf
set_option linter.unusedVariables false
attribute [local go_sem] Oper.semAt_some wide_fn wide_round_fn

end Go.Proofs.Ytdncdlbhgaehmaa

/- The contract of part.Read: kind 3. -/
namespace Go.Proofs.Ytdncdlbhgaehmaa
open Go.RowKit Go.Shelf
set_option linter.unusedVariables false
attribute [local go_sem] Oper.semAt_some wide_fn wide_round_fn

end Go.Proofs.Ytdncdlbhgaehmaa

/- The contract of part.Read: kind 6. -/
namespace Go.Proofs.Ytdncdlbhgaehmaa
open Go.RowKit Go.Shelf
set_option linter.unusedVariables false
attribute [local go_sem] Oper.semAt_some wide_fn wide_round_fn

end Go.Proofs.Ytdncdlbhgaehmaa

/- The contract of part.Read. -/
namespace Go.Proofs.Ytdncdlbhgaehmaa
open Go.RowKit Go.Shelf
set_option linter.unusedVariables false

end Go.Proofs.Ytdncdlbhgaehmaa
