/- What the law of package cut holds by itself: the example. -/
import Derived.Test.YthedmemkckclpaaGreatCutM
namespace Go.Proofs.YthedmemkckclpaaGreat
open Go.RowKit Go.Shelf
set_option linter.unusedVariables false
attribute [local go_sem] Oper.semAt_some wide_fn wide_round_fn

def k26M : List (List PL) := [[(bareP 1 2, [])], [(bareP 2 2, [])]]
theorem k26_0 : cutL [] k26M 0 = [] := rfl
theorem k26_1 : cutL [] k26M 1 = [newG 1] := by kernel_rfl
theorem k26_9 : ∀ k, k ≤ k26M.length → cutL [] k26M k ≠ [newG 9] := fun k hk => by
  have h : k = 0 ∨ k = 1 ∨ k = 2 := by
    have : k26M.length = 2 := rfl
    omega
  rcases h with rfl | rfl | rfl
  · exact fun h => by cases h
  · rw [k26_1]; exact fun h => by cases h
  · rw [show cutL [] k26M 2 = [newG 1, newG 2] by kernel_rfl]; exact fun h => by cases h
theorem fit_no {L T : List GM} {M : List (List PL)} {n : Int} {b : Bool} (h : fitP L T M n b) (hn : ∀ k, k ≤ M.length → cutL L M k ≠ T) : n = -1 ∧ b = false := by
  rcases h with ⟨rfl, k, rfl, hk, he, hl⟩ | ⟨rfl, rfl, hl⟩
  · exact absurd he (hn k hk)
  · exact ⟨rfl, rfl⟩
/-- Two lists, laid one behind the other, and the row of both. -/
theorem k26_lists (W : World) : ListsAt (((W.alloc (.cells #[.int .i64 1, .int .i64 2, .slice none 0 0, .int .i64 0, .int .i64 0, .int .i64 0, .int .i64 0, .int .i64 0, .bool false, .bool false] 30)).alloc (.cells #[.int .i64 2, .int .i64 2, .slice none 0 0, .int .i64 0, .int .i64 0, .int .i64 0, .int .i64 0, .int .i64 0, .bool false, .bool false] 30)).alloc (.cells #[.slice (some ⟨W.heap.size, 0, none⟩) 1 1, .slice (some ⟨W.heap.size + 1, 0, none⟩) 1 1] 31)) (some ⟨W.heap.size + 1 + 1, 0, none⟩) 2 [lcOf W.heap.size 1 2, lcOf (W.heap.size + 1) 2 2] := by
  have e2 : ((W.alloc (.cells #[.int .i64 1, .int .i64 2, .slice none 0 0, .int .i64 0, .int .i64 0, .int .i64 0, .int .i64 0, .int .i64 0, .bool false, .bool false] 30)).alloc (.cells #[.int .i64 2, .int .i64 2, .slice none 0 0, .int .i64 0, .int .i64 0, .int .i64 0, .int .i64 0, .int .i64 0, .bool false, .bool false] 30)).heap.size = W.heap.size + 1 + 1 := by simp
  have e1 : (W.alloc (.cells #[.int .i64 1, .int .i64 2, .slice none 0 0, .int .i64 0, .int .i64 0, .int .i64 0, .int .i64 0, .int .i64 0, .bool false, .bool false] 30)).heap.size = W.heap.size + 1 := by simp
  have hr := rowV_new ((W.alloc (.cells #[.int .i64 1, .int .i64 2, .slice none 0 0, .int .i64 0, .int .i64 0, .int .i64 0, .int .i64 0, .int .i64 0, .bool false, .bool false] 30)).alloc (.cells #[.int .i64 2, .int .i64 2, .slice none 0 0, .int .i64 0, .int .i64 0, .int .i64 0, .int .i64 0, .int .i64 0, .bool false, .bool false] 30)) 31 #[.slice (some ⟨W.heap.size, 0, none⟩) 1 1, .slice (some ⟨W.heap.size + 1, 0, none⟩) 1 1] 2 1 rfl (by decide)
  rw [e2] at hr
  have h1 := hasP_bare W 1 2
  have h2 := hasP_bare (W.alloc (.cells #[.int .i64 1, .int .i64 2, .slice none 0 0, .int .i64 0, .int .i64 0, .int .i64 0, .int .i64 0, .int .i64 0, .bool false, .bool false] 30)) 2 2
  rw [e1] at h2
  refine ⟨rfl, by decide, hr, fun x hx => ?_⟩
  simp only [List.mem_cons, List.not_mem_nil, or_false] at hx
  rcases hx with rfl | rfl
  · exact ⟨h1.below (bel_alloc (bel_alloc (Below.refl _ _) _) _), by show 1 ≤ 6; decide, fun y hy => by rw [List.mem_singleton.1 hy]; exact ⟨by show (-9223372036854775808 : Int) ≤ 1; decide, by show (1 : Int) < _; decide⟩⟩
  · exact ⟨h2.below (bel_alloc (Below.refl _ _) _), by show 1 ≤ 6; decide, fun y hy => by rw [List.mem_singleton.1 hy]; exact ⟨by show (-9223372036854775808 : Int) ≤ 2; decide, by show (2 : Int) < _; decide⟩⟩
theorem k26_got (W : World) : RowV (W.alloc (.cells #[.int .i64 9, .int .i64 1, .int .i64 0, .int .i64 0, .int .i64 0, .int .i64 0, .slice none 0 0] 39)) (some ⟨W.heap.size, 0, none⟩) 1 7 (gvCells [⟨newG 9, none, 0⟩]) := rowV_new W 39 _ 1 7 rfl (by decide)
set_option maxRecDepth 100000 in
set_option maxHeartbeats 4000000 in
theorem cut_known (w : World) : Gives Tryz.prog 4 #[] w (.bool true) := by
  have hM := k26_lists w
  have hBl := bel_alloc (bel_alloc (bel_alloc (Below.refl w.heap.size w) (.cells #[.int .i64 1, .int .i64 2, .slice none 0 0, .int .i64 0, .int .i64 0, .int .i64 0, .int .i64 0, .int .i64 0, .bool false, .bool false] 30)) (.cells #[.int .i64 2, .int .i64 2, .slice none 0 0, .int .i64 0, .int .i64 0, .int .i64 0, .int .i64 0, .int .i64 0, .bool false, .bool false] 30)) (.cells #[.slice (some ⟨w.heap.size, 0, none⟩) 1 1, .slice (some ⟨w.heap.size + 1, 0, none⟩) 1 1] 31)
  have HBL := Lib.hid hBl
  have HLS := Lib.hid hM
  have GN := Lib.hid (ms_new hBl)
  have HMM := Lib.hid (show ([lcOf w.heap.size 1 2, lcOf (w.heap.size + 1) 2 2].map LC.L) = k26M from rfl)
  have GA := Lib.hid (fun W d (h : MS w d [] W) (hL : ListsAt W (some ⟨w.heap.size + 1 + 1, 0, none⟩) 2 [lcOf w.heap.size 1 2, lcOf (w.heap.size + 1) 2 2]) => (show Calls Tryz.prog 6 #[.pointer (some ⟨d, 0, none⟩), .slice (some ⟨w.heap.size + 1 + 1, 0, none⟩) 2 2, .int .i64 1] W fun e w' => ∃ c, e = .returned (.pointer (some ⟨c, 0, none⟩)) ∧ MS w c [newG 1] w' ∧ Below W.heap.size W w' from by
    have := after_any (lcap := 2) hL h (manOK_nil 0) (by decide) 1 1 rfl (by decide)
    rw [HMM.out, k26_1] at this
    exact this.mono fun e w' ⟨c, h1, _, h2, h3⟩ => ⟨c, h1, h2, h3⟩))
  have GL1 := Lib.hid (fun W d (h : MS w d [newG 1] W) => cut_all h (newG_ok 1 (by decide)) (by kernel_rfl) (Nat.le_refl _))
  have GL0 := Lib.hid (fun W d (h : MS w d [] W) => cut_all h (manOK_nil 1) rfl (Nat.zero_le _))
  have GF := Lib.hid (fun W d ga gc Gl (h : MS w d [] W) (hL : ListsAt W (some ⟨w.heap.size + 1 + 1, 0, none⟩) 2 [lcOf w.heap.size 1 2, lcOf (w.heap.size + 1) 2 2]) (h1 : Gl.length = 1) (h2 : RowV W ga 1 7 (gvCells Gl)) (h3 : ∀ x ∈ Gl, HasG W x.a x.g ∧ in64 x.g.id) (h4 : ofL (Gl.map GV.g) = [newG 1]) (h5 : ∀ x ∈ Gl, getZ GM.id [newG 1] x.g.id = some x.g) => (show Calls Tryz.prog 7 #[.slice ga 1 gc, .pointer (some ⟨d, 0, none⟩), .slice (some ⟨w.heap.size + 1 + 1, 0, none⟩) 2 2] W fun e w' => e = .returned (.tuple #[.int .i64 1, .bool true]) ∧ Below W.heap.size W w' from by
    have := fits_any (lcap := 2) hL h (manOK_nil 0) (by decide) ga 1 gc Gl h1 (by decide) h2 h3 h4 (manOK_mono (newG_ok 1 (by decide)) (by decide)) h5
    rw [HMM.out] at this
    refine this.mono ?_
    rintro e w' ⟨n, b, rfl, hf, hB⟩
    obtain ⟨rfl, rfl⟩ := fit_one (by decide) k26_1 hf
    exact ⟨rfl, hB⟩))
  have GF9 := Lib.hid (fun W d (h : MS w d [] W) (hL : ListsAt W (some ⟨w.heap.size + 1 + 1, 0, none⟩) 2 [lcOf w.heap.size 1 2, lcOf (w.heap.size + 1) 2 2]) => (show Calls Tryz.prog 7 #[.slice (some ⟨W.heap.size, 0, none⟩) 1 1, .pointer (some ⟨d, 0, none⟩), .slice (some ⟨w.heap.size + 1 + 1, 0, none⟩) 2 2] (W.alloc (.cells #[.int .i64 9, .int .i64 1, .int .i64 0, .int .i64 0, .int .i64 0, .int .i64 0, .slice none 0 0] 39)) fun e w' => e = .returned (.tuple #[.int .i64 (-1), .bool false]) ∧ Below W.heap.size W w' from by
    have hB := bel_alloc (Below.refl W.heap.size W) (.cells #[.int .i64 9, .int .i64 1, .int .i64 0, .int .i64 0, .int .i64 0, .int .i64 0, .slice none 0 0] 39)
    have := fits_any (lcap := 2) (hL.below hB) (h.below hB) (manOK_nil 0) (by decide) (some ⟨W.heap.size, 0, none⟩) 1 1 [⟨newG 9, none, 0⟩] rfl (by decide) (k26_got W) (fun x hx => by rw [List.mem_singleton.1 hx]; exact ⟨⟨by show 0 < 1000000; decide, RowV.nil _ _ _⟩, by show in64 9; unfold in64; decide⟩) (T := [newG 9]) (by kernel_rfl) (manOK_mono (newG_ok 9 (by decide)) (by decide)) (fun x hx => by rw [List.mem_singleton.1 hx]; kernel_rfl)
    rw [HMM.out] at this
    refine this.mono ?_
    rintro e w' ⟨n, b, rfl, hf, hB2⟩
    obtain ⟨rfl, rfl⟩ := fit_no hf k26_9
    exact ⟨rfl, bel2 hB hB2⟩))
  clear hM hBl
  unfold Gives
  go_enter Tryz.func4, Tryz.ntmps4
  go_wp2_with (first
    | (go_at_call 5; ((with_reducible refine GN.out.mono ?_); rintro e w1 ⟨d, rfl, -, hM1, hB⟩; have hL1 := HLS.out.below hB; clear hB))
    | (go_at_call 6; ((with_reducible refine (GA.out _ _ hM1 hL1).mono ?_); rintro e w2 ⟨c, rfl, hC2, hB⟩; have hM2 := hM1.below hB; have hL2 := hL1.below hB; clear hB hM1 hL1))
    | (go_at_call 8; ((with_reducible refine (GL1.out _ _ hC2).mono ?_); rintro e w3 ⟨ga3, gc3, Gl3, rfl, -, -, -, -, -, hB⟩; have hM3 := hM2.below hB; have hL3 := hL2.below hB; have hC3 := hC2.below hB; clear hB hM2 hL2 hC2))
    | (go_at_call 8; ((with_reducible refine (GL0.out _ _ hM3).mono ?_); rintro e w4 ⟨ga4, gc4, Gl4, rfl, -, -, -, -, -, hB⟩; have hM4 := hM3.below hB; have hL4 := hL3.below hB; have hC4 := hC3.below hB; clear hB hM3 hL3 hC3))
    | (go_at_call 8; ((with_reducible refine (GL1.out _ _ hC4).mono ?_); rintro e w5 ⟨ga5, gc5, Gl5, rfl, a1, a2, a3, a4, a5, hB⟩; have hM5 := hM4.below hB; have hL5 := hL4.below hB; clear hB hM4 hL4 hC4))
    | (go_at_call 7; ((with_reducible refine (GF.out _ _ _ _ _ hM5 hL5 a1 a2 a3 a4 a5).mono ?_); rintro e w6 ⟨rfl, hB⟩; have hM6 := hM5.below hB; have hL6 := hL5.below hB; clear hB hM5 hL5 a1 a2 a3 a4 a5))
    | (go_at_call 7; ((refine (GF9.out _ _ hM6 hL6).mono ?_); rintro e w7 ⟨rfl, hB⟩; have hM7 := hM6.below hB; clear hB hM6 hL6)))
  go_ret
  exact ⟨rfl, hM7.bel⟩

end Go.Proofs.YthedmemkckclpaaGreat
