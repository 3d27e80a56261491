/- What ladelaw6.app makes. -/
import Derived.Test.YtfmcebmkclaafaaGrpDo
import Derived.Test.YtfmcebmkclaafaaFew6
namespace Go.Proofs.Ytfmcebmkclaafaa
open Go.RowKit Go.Shelf Go.ChangeShapes Go.WideShapes Go.ChangeAt
set_option linter.unusedVariables false
attribute [local go_sem] Oper.semAt_some wide_fn wide_round_fn

def appL (i t : Int) (n : Nat) : List EntryC := (List.range n).map fun (q : Nat) => (⟨i + (q : Int), t, ⟨#[]⟩⟩ : EntryC)
theorem appL_len (i t : Int) (n : Nat) : (appL i t n).length = n := by simp [appL]
theorem appL_snoc (i t : Int) (n : Nat) : appL i t (n + 1) = appL i t n ++ [⟨i + (n : Int), t, ⟨#[]⟩⟩] := by simp [appL, List.range_succ]
theorem st10_frame (W : World) (b : Nat) (v0 v1 v2 v3 v4 v5 v6 v7 v8 v9 : Value) : FrameT (fun k => k = b) W (st10 W b v0 v1 v2 v3 v4 v5 v6 v7 v8 v9) :=
  (((((((((FrameT.setCell W b 0 v0).trans (FrameT.setCell _ b 1 v1)).trans (FrameT.setCell _ b 2 v2)).trans (FrameT.setCell _ b 3 v3)).trans (FrameT.setCell _ b 4 v4)).trans (FrameT.setCell _ b 5 v5)).trans (FrameT.setCell _ b 6 v6)).trans (FrameT.setCell _ b 7 v7)).trans (FrameT.setCell _ b 8 v8)).trans (FrameT.setCell _ b 9 v9)
def AppPost (w : World) (id i t : Int) (n : Nat) (e : Ending) (w' : World) : Prop := ∃ a cap, e = .returned (.agg #[.int .i64 id, .int .i64 1, .slice a n cap, .int .i64 0, .int .i64 0, .int .i64 0, .int .i64 0, .int .i64 0, .bool false, .bool false]) ∧ HasE w' (⟨id, 1, a, n, cap, 0, 0, 0, 0, 0, false, false⟩ : PartC) (appL i t n) ∧ Below w.heap.size w w' ∧ ∀ k, inBlkE a n k → w.heap.size ≤ k

set_option maxRecDepth 100000 in
set_option maxHeartbeats 4000000 in
theorem app_any (id i t : Int) (n : Nat) (hn : n ≤ 1000) (hi0 : 0 ≤ i) (hi1 : i ≤ 2199023255552) (w : World) : Calls Try.prog 34 #[.int .i64 id, .int .i64 i, .int .i64 t, .int .i64 n] w (AppPost w id i t n) := by
  obtain ⟨i9, hi, hz0, hz1, hz2⟩ := info_parts infoEntry
  go_enter Try.func34, Try.ntmps34
  go_wp2
  go_loopw [10] (fun q wr => ∃ (j : Nat) (v : Value), j ≤ n ∧ q = .int .i64 j ∧ wr.heap[w.heap.size + 1]? = some (.cells #[.int .i64 id, .int .i64 1, v, .int .i64 0, .int .i64 0, .int .i64 0, .int .i64 0, .int .i64 0, .bool false, .bool false] 28 (0, 0)) ∧ wr.heap[w.heap.size]? = some (.cells #[.int .i64 0, .int .i64 0, .slice none 0 0, .int .i64 0, .int .i64 0, .int .i64 0, .int .i64 0, .int .i64 0, .bool false, .bool false] 28 (0, 0)) ∧ wr.ownsRow (w.heap.size + 2) 55 3 v j (entryCells (appL i t j)) ∧ Below w.heap.size w wr) (fun q _ => n - (intOf q).toNat)
  case atStart => exact ⟨0, .slice none 0 0, by omega, rfl, two_b w _ _ _ _, two_a w _ _ _ _, World.ownsRow_nil _ _ _ _, gp_bel w _ _ _ _⟩
  case round =>
    obtain ⟨j, v, hj, rfl, hblk, hres, hown, hB⟩ := hrel
    have hXlt := heap_lt hblk
    have hRlt := heap_lt hres
    by_cases hlt : j < n
    · have hlt' : (j : Int) < (n : Int) := by omega
      have hw9 : IntKind.i64.wrap (i + (j : Int)) = i + (j : Int) := IntWalk.i64_in _ (by omega)
      have c2 : wr.cell? ⟨w.heap.size + 1, 2, none⟩ = some v := cell_of_row _ _ 2 _ _ _ hblk
      have HS := Lib.hid (show entryCells (appL i t (j + 1)) = entryCells (appL i t j) ++ [.int .i64 (i + (j : Int)), .int .i64 t, .string ⟨#[]⟩] by rw [appL_snoc, entryCells_snoc]; rfl)
      go_wp2_with (at_builtin; refine wpList_append_own _ rfl _ _ 24 rfl (w.heap.size + 2) 55 i9 (.agg #[.int .i64 0, .int .i64 0, .string ⟨#[]⟩]) 3 32 Try.underlying24 hi hz0 hz1 hz2 rfl (by decide) _ _ _ rfl (hown.alloc _) ⟨wr.heap.size, 0, none⟩ 1 1 [.int .i64 (i + (j : Int)), .int .i64 t, .string ⟨#[]⟩] rfl rfl (news_new _ _ _) (by simp [Value.oneCell']) (by unfold maxLen; omega) (by omega) (by simp; omega) ?_; intro v' w3 hown3 hgrow _; obtain ⟨g', cap', rfl⟩ := ownsRow_succ hown3; have hne : v.ownBlock ≠ some (w.heap.size + 1) := (fun e => by have := ownBlock_ge hown e; omega); have hneR : v.ownBlock ≠ some w.heap.size := (fun e => by have := ownBlock_ge hown e; omega); have hA1 := bel_alloc (Below.refl wr.heap.size wr) (.cells [.int .i64 (i + (j : Int)), .int .i64 t, .string ⟨#[]⟩].toArray 55); have hb3 := (hgrow.block (w.heap.size + 1) (by simp; omega) (fun e => hne e.symm)).trans ((hA1.block _ hXlt).trans hblk); have hr3 := (hgrow.block w.heap.size (by simp; omega) (fun e => hneR e.symm)).trans ((hA1.block _ hRlt).trans hres); have f2 := frozen_of_row _ _ 2 _ _ hb3; have k2 : w3.cell? ⟨w.heap.size + 1, 2, none⟩ = some v := cell_of_row _ _ 2 _ _ _ hb3; have hb4 := Go.Joins.block_setCell hb3 (.slice (some ⟨g', 0, none⟩) (j + 1) cap') (i := 2); simp only [List.setIfInBounds_toArray, List.set_cons_succ, List.set_cons_zero] at hb4; have hF4 := FrameT.setCell w3 (w.heap.size + 1) 2 (.slice (some ⟨g', 0, none⟩) (j + 1) cap'); have hr4 := hF4.get hr3 (show ¬ (w.heap.size = w.heap.size + 1) by omega); have hown4 := own_frame hown3 hF4 (fun k hk h => by omega); have hB3 := ((hB.trans (hA1.mono hB.size)).grown hgrow (by simp; omega) (fun k hk => by have := ownBlock_ge hown hk; omega)).setCell (p := ⟨w.heap.size + 1, 2, none⟩) (Nat.le_succ _) (.slice (some ⟨g', 0, none⟩) (j + 1) cap'))
      go_roundw
      case rel => exact ⟨j + 1, _, by omega, by go_num, hb4, hr4, by rw [HS.out]; exact hown4, hB3⟩
      case measure => simp [intOf]; omega
    · obtain rfl : j = n := by omega
      obtain ⟨va, vc, rfl, -, hrow⟩ := rowV_own hown
      have hoff := own_new hown
      obtain ⟨y0, y1, y2, y3, y4, y5, y6, y7, y8, y9⟩ := cells10a hblk
      obtain ⟨r0, r1, r2, r3, r4, r5, r6, r7, r8, r9⟩ := cells10a hres
      have fr : ∀ i, wr.frozen? ⟨w.heap.size, i, none⟩ = false := fun i => frozen_of_row _ _ i _ _ hres
      have hq := st10_block hres (.int .i64 id) (.int .i64 1) (.slice va j vc) (.int .i64 0) (.int .i64 0) (.int .i64 0) (.int .i64 0) (.int .i64 0) (.bool false) (.bool false)
      have hF := st10_frame wr w.heap.size (.int .i64 id) (.int .i64 1) (.slice va j vc) (.int .i64 0) (.int .i64 0) (.int .i64 0) (.int .i64 0) (.int .i64 0) (.bool false) (.bool false)
      have hrow2 := rowV_frame hrow hF (fun k hk h => by have := hoff k hk; omega)
      have hB2 := st10_below hB (Nat.le_refl _) (.int .i64 id) (.int .i64 1) (.slice va j vc) (.int .i64 0) (.int .i64 0) (.int .i64 0) (.int .i64 0) (.int .i64 0) (.bool false) (.bool false)
      clear hown hlt hF hB hblk hres
      go_wp2
      obtain ⟨c0, c1, c2, c3, c4, c5, c6, c7, c8, c9⟩ := cells10a hq
      refine bodyPost_ret (v := .agg #[.int .i64 id, .int .i64 1, .slice va j vc, .int .i64 0, .int .i64 0, .int .i64 0, .int .i64 0, .int .i64 0, .bool false, .bool false]) (by simp [results, Try.results34, go_sem, c0, c1, c2, c3, c4, c5, c6, c7, c8, c9]) rfl ?_
      exact ⟨va, vc, rfl, ⟨appL_len _ _ _, by show j < 1000000; omega, hrow2⟩, hB2, fun k hk => Nat.le_trans (by omega) (hoff k hk)⟩

end Go.Proofs.Ytfmcebmkclaafaa
