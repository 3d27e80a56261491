/- What ladelaw6.grown makes. -/
import Derived.Test.YtfmcebmkclaafaaGrownM
import Derived.Test.YtfmcebmkclaafaaGrpDo2
import Derived.Deep.RegionHeld3
namespace Go.Proofs.Ytfmcebmkclaafaa
open Go.RowKit Go.Shelf Go.ChangeShapes Go.WideShapes Go.ChangeAt
set_option linter.unusedVariables false
attribute [local go_sem] Oper.semAt_some wide_fn wide_round_fn

attribute [local irreducible] wpQuiet
def GrownPost (w : World) (id : Int) (n : Nat) (e : Ending) (w' : World) : Prop := ∃ a cap, e = .returned (.tuple #[.agg #[.int .i64 id, .int .i64 1, .int .i64 0, .int .i64 0, .int .i64 0, .int .i64 0, .slice a (grL n).length cap], .bool true]) ∧ HasG w' a ⟨id, 1, 0, 0, 0, 0, grL n⟩ ∧ Below w.heap.size w w' ∧ ∀ k, inBlkE a (grL n).length k → w.heap.size ≤ k
theorem below_off {n : Nat} {w W : World} (h : Below n w W) {k : Nat} (hk : k ≤ n) : Below k w W := h.mono hk

set_option maxRecDepth 100000 in
set_option maxHeartbeats 4000000 in
theorem grown_any (id : Int) (hid : 0 ≤ id ∧ id ≤ 999) (n : Nat) (hn : n ≤ 1000) (w : World) : Calls Try.prog 33 #[.int .i64 id, .int .i64 n] w (GrownPost w id n) := by
  have GN := Lib.hid (new_any id)
  go_enter Try.func33, Try.ntmps33
  go_wp2_with (go_at_call 19; ((with_reducible refine (GN.out _).mono ?_); rintro e w1 ⟨rfl, hB1⟩))
  have hA2 := bel_alloc (Below.refl w1.heap.size w1) (.cells #[.int .i64 id, .int .i64 1, .int .i64 0, .int .i64 0, .int .i64 0, .int .i64 0, .slice none 0 0] 26)
  have hblk0 := World.alloc_heap_new w1 (.cells #[.int .i64 id, .int .i64 1, .int .i64 0, .int .i64 0, .int .i64 0, .int .i64 0, .slice none 0 0] 26)
  have hres0 : (w1.alloc (.cells #[.int .i64 id, .int .i64 1, .int .i64 0, .int .i64 0, .int .i64 0, .int .i64 0, .slice none 0 0] 26)).heap[w.heap.size]? = some (.cells #[.int .i64 0, .int .i64 0, .int .i64 0, .int .i64 0, .int .i64 0, .int .i64 0, .slice none 0 0] 26 (0, 0)) := (hA2.block _ (Nat.lt_of_lt_of_le (by simp) hB1.size)).trans ((hB1.block _ (by simp)).trans (World.alloc_heap_new w _))
  have hXR : w.heap.size < w1.heap.size := Nat.lt_of_lt_of_le (by simp) hB1.size
  have hBel0 : Below w.heap.size w (w1.alloc (.cells #[.int .i64 id, .int .i64 1, .int .i64 0, .int .i64 0, .int .i64 0, .int .i64 0, .slice none 0 0] 26)) := bel2 (bel2 (bel_alloc (Below.refl _ _) _) hB1) hA2
  clear hA2 hB1 GN
  obtain ⟨X, hX⟩ : ∃ X, X = w1.heap.size := ⟨_, rfl⟩
  generalize (w1.alloc (.cells #[.int .i64 id, .int .i64 1, .int .i64 0, .int .i64 0, .int .i64 0, .int .i64 0, .slice none 0 0] 26)) = w2 at *
  rw [← hX] at hblk0 hXR ⊢
  clear hX
  go_loopw [7, 8, 9] (fun q _ _ wr => ∃ (k : Nat) (a : Option Addr) (cap : Nat), k ≤ n ∧ q = .int .i64 ((k : Int) + 1) ∧ wr.heap[X]? = some (.cells #[.int .i64 id, .int .i64 1, .int .i64 0, .int .i64 0, .int .i64 0, .int .i64 0, .slice a (grL k).length cap] 26 (0, 0)) ∧ wr.heap[w.heap.size]? = some (.cells #[.int .i64 0, .int .i64 0, .int .i64 0, .int .i64 0, .int .i64 0, .int .i64 0, .slice none 0 0] 26 (0, 0)) ∧ HasG wr a ⟨id, 1, 0, 0, 0, 0, grL k⟩ ∧ (∀ b, inBlkE a (grL k).length b → w.heap.size < b) ∧ Below w.heap.size w wr) (fun q _ _ _ => n + 1 - (intOf q).toNat)
  case atStart => exact ⟨0, none, 0, by omega, rfl, hblk0, hres0, hasG_nil _ _ _ _ _ _ _ _, (fun b hb => by obtain ⟨_, _, e, _⟩ := hb; cases e), hBel0⟩
  case round =>
    clear hblk0 hres0 hBel0
    obtain ⟨k, a, cap, hk, rfl, hblk, hres, hHG, hnew, hB⟩ := hrel
    have hXlt := heap_lt hblk
    have hRlt := heap_lt hres
    by_cases hlt : k < n
    · have hlt' : (k : Int) + 1 ≤ (n : Int) := by omega
      have hk1000 : (k : Int) + 1 ≤ 1000 := by omega
      have hk0 : (0 : Int) ≤ (k : Int) := by omega
      have GA := Lib.hid (fun W => (show Calls Try.prog 34 #[.int .i64 id, .int .i64 ((k : Int) + 1), .int .i64 ((k : Int) + 1), .int .i64 1] W (fun e w' => ∃ pa pcap, e = .returned (.agg #[.int .i64 id, .int .i64 1, .slice pa 1 pcap, .int .i64 0, .int .i64 0, .int .i64 0, .int .i64 0, .int .i64 0, .bool false, .bool false]) ∧ HasE w' (⟨id, 1, pa, 1, pcap, 0, 0, 0, 0, 0, false, false⟩ : PartC) (appL ((k : Int) + 1) ((k : Int) + 1) 1) ∧ Below W.heap.size W w' ∧ ∀ b, inBlkE pa 1 b → W.heap.size ≤ b) from app_any id ((k : Int) + 1) ((k : Int) + 1) 1 (by omega) (by omega) (by omega) W))
      have GD := Lib.hid (fun W pa pcap (hb : Below wr.heap.size wr W) (hp : HasE W (⟨id, 1, pa, 1, pcap, 0, 0, 0, 0, 0, false, false⟩ : PartC) (appL ((k : Int) + 1) ((k : Int) + 1) 1)) => (show Calls Try.prog 22 #[.agg #[.int .i64 id, .int .i64 1, .int .i64 0, .int .i64 0, .int .i64 0, .int .i64 0, .slice a (grL k).length cap], .agg #[.int .i64 id, .int .i64 1, .slice pa 1 pcap, .int .i64 0, .int .i64 0, .int .i64 0, .int .i64 0, .int .i64 0, .bool false, .bool false]] W (fun e w' => ∃ ha hcp, e = .returned (.tuple #[.agg #[.int .i64 id, .int .i64 1, .int .i64 0, .int .i64 0, .int .i64 0, .int .i64 0, .slice ha (grL (k + 1)).length hcp], .int .i64 0]) ∧ HasG w' ha ⟨id, 1, 0, 0, 0, 0, grL (k + 1)⟩ ∧ Below W.heap.size W w' ∧ ∀ b, inBlkE ha (grL (k + 1)).length b → W.heap.size ≤ b) from by
        have := do_any id 1 0 0 0 0 (grL k) a cap id 1 pa 1 pcap 0 0 0 0 0 false false (appL ((k : Int) + 1) ((k : Int) + 1) 1) W (hHG.below hb) (gr_isG hid (by omega)) hp (by rw [grL_len]; omega)
        rw [(gr_do hid (by omega) pa pcap).1, (gr_do hid (by omega) pa pcap).2] at this
        exact this))
      have HNX := Lib.hid (show ∀ q : Nat, grL q = grL q from fun _ => rfl)
      obtain ⟨l2, hl2⟩ : ∃ l2, l2 = grL (k + 1) := ⟨_, rfl⟩
      rw [← hl2] at GD
      have HL2 := Lib.hid hl2
      clear hl2
      have hH2 := hHG
      clear hHG hnew
      generalize grL k = l at *
      obtain ⟨x0, x1, x2, x3, x4, x5, x6, -⟩ := cells7 hblk
      have KH := Lib.hid (fun W' (hW : Below wr.heap.size wr W') => cells7 ((hW.block _ hXlt).trans hblk))
      clear hH2 HNX
      have hXn : X ≠ wr.heap.size := by omega
      have hXn2 : wr.heap.size ≠ X := by omega
      go_wp2
      go_region_held3 (fun W' => W'.cell? ⟨X, 0, none⟩ = some (.int .i64 id) ∧ W'.cell? ⟨X, 1, none⟩ = some (.int .i64 1) ∧ W'.cell? ⟨X, 2, none⟩ = some (.int .i64 0) ∧ W'.cell? ⟨X, 3, none⟩ = some (.int .i64 0) ∧ W'.cell? ⟨X, 4, none⟩ = some (.int .i64 0) ∧ W'.cell? ⟨X, 5, none⟩ = some (.int .i64 0) ∧ W'.cell? ⟨X, 6, none⟩ = some (.slice a l.length cap)) (go_keep) (first
        | (go_at_call 34; ((with_reducible refine (GA.out _).mono ?_); rintro e w7 ⟨pa, pcap, rfl, hPE, hB7, hPN⟩; have hX7 : Below wr.heap.size wr w7 := (by first | exact hB7 | exact bel2 (Below.refl _ _).drew hB7 | exact bel2 (bel_alloc (Below.refl _ _) _) hB7 | exact bel2 (bel_alloc (Below.refl _ _).drew _) hB7); have n3 : X ≠ w7.heap.size := (by have := hX7.size; omega); have n4 : w7.heap.size ≠ X := (by have := hX7.size; omega); obtain ⟨z0, z1, z2, z3, z4, z5, z6, -⟩ := KH.out w7 hX7; try (have hz7 : w7.heap[wr.heap.size]? = some (.cells #[.int .i64 0, .int .i64 0, .int .i64 0, .int .i64 0, .int .i64 0, .int .i64 0, .slice none 0 0] 26 (0, 0)) := (by first | exact (hB7.block _ (by simp)).trans (World.alloc_heap_new wr _) | exact (hB7.block _ (by simp)).trans (World.alloc_heap_new wr.drew _)))))
        | (go_at_call 22; ((with_reducible refine (GD.out _ _ _ ?hb ?hp).mono ?_); (case hb => first | exact hX7 | exact hX7.drew | exact hX7.trans (bel_alloc (Below.refl w7.heap.size w7) _ |>.mono hX7.size)); (case hp => first | exact hPE | exact hPE.below (Below.refl _ _).drew | exact hPE.below (bel_alloc (Below.refl _ _) _)); rintro e w9 ⟨ha, hcp, rfl, hHH, hB9, hHN⟩; have hX9 : Below wr.heap.size wr w9 := (by first | exact bel2 hX7 hB9 | exact bel2 hX7.drew hB9 | exact bel2 (hX7.trans (bel_alloc (Below.refl w7.heap.size w7) _ |>.mono hX7.size)) hB9); obtain ⟨y0, y1, y2, y3, y4, y5, y6, -⟩ := KH.out w9 hX9; have hHN6 : (∀ k, inBlkE ha l2.length k → w7.heap.size ≤ k) := (fun k hk => Nat.le_trans (by first | exact Nat.le_refl _ | simp) (hHN k hk)); (first | (have hz9 : w9.heap[wr.heap.size]? = some (.cells #[.int .i64 0, .int .i64 0, .int .i64 0, .int .i64 0, .int .i64 0, .int .i64 0, .slice none 0 0] 26 (0, 0)) := (hB9.block _ (by have := heap_lt hz7; simp; omega)).trans hz7; have hHn9 : (∀ k, inBlkE ha l2.length k → ¬ k = wr.heap.size) := (fun k hk e => by have h1 := hHN6 k hk; have h2 := heap_lt hz7; omega); obtain ⟨q0, q1, q2, q3, q4, q5, q6, -⟩ := cells7 hz9; have fq : (∀ i, w9.frozen? ⟨wr.heap.size, i, none⟩ = false) := (fun i => frozen_of_row _ _ i _ _ hz9)) | (have hz9 : w9.heap[w7.heap.size]? = some (.cells #[.int .i64 0, .int .i64 0, .int .i64 0, .int .i64 0, .int .i64 0, .int .i64 0, .slice none 0 0] 26 (0, 0)) := (by first | exact (hB9.block _ (by simp)).trans (World.alloc_heap_new w7 _)); have hHn9 : (∀ k, inBlkE ha l2.length k → ¬ k = w7.heap.size) := (fun k hk e => by have h1 := hHN k hk; simp at h1; omega); obtain ⟨q0, q1, q2, q3, q4, q5, q6, -⟩ := cells7 hz9; have fq : (∀ i, w9.frozen? ⟨w7.heap.size, i, none⟩ = false) := (fun i => frozen_of_row _ _ i _ _ hz9)) | skip))))
      all_goals first
        | (have hBz := bel_alloc (Below.refl w9.heap.size w9) (.cells #[.int .i64 id, .int .i64 1, .int .i64 0, .int .i64 0, .int .i64 0, .int .i64 0, .slice ha l2.length hcp] 26)
           have hh8 := World.alloc_heap_new w9 (.cells #[.int .i64 id, .int .i64 1, .int .i64 0, .int .i64 0, .int .i64 0, .int .i64 0, .slice ha l2.length hcp] 26)
           have hFz : FrameT (fun k => k = w9.heap.size) w9 (w9.alloc (.cells #[.int .i64 id, .int .i64 1, .int .i64 0, .int .i64 0, .int .i64 0, .int .i64 0, .slice ha l2.length hcp] 26)) := FrameT.below hBz
           have hHn : (∀ k, inBlkE ha l2.length k → ¬ k = w9.heap.size) := fun k hk e => by have h1 := btw_lt hHH.2 hk; omega
           have hHz : wr.heap.size ≤ w9.heap.size := hX9.size
           generalize (w9.alloc (.cells #[.int .i64 id, .int .i64 1, .int .i64 0, .int .i64 0, .int .i64 0, .int .i64 0, .slice ha l2.length hcp] 26)) = w8 at *
           obtain ⟨Hb, hHbe⟩ : ∃ Hb, Hb = w9.heap.size := ⟨_, rfl⟩
           have hHb : wr.heap.size ≤ Hb := by omega
           rw [← hHbe] at hh8 hFz hHn ⊢
           clear hBz hHbe)
        | (have hh8 := st7_block (b := w7.heap.size) hz9 (.int .i64 id) (.int .i64 1) (.int .i64 0) (.int .i64 0) (.int .i64 0) (.int .i64 0) (.slice ha l2.length hcp)
           have hFz := st7_frame w9 w7.heap.size (.int .i64 id) (.int .i64 1) (.int .i64 0) (.int .i64 0) (.int .i64 0) (.int .i64 0) (.slice ha l2.length hcp)
           simp only [st7] at hh8 hFz
           have hHn : (∀ k, inBlkE ha l2.length k → ¬ k = w7.heap.size) := hHn9
           have hHz : wr.heap.size ≤ w7.heap.size := hX7.size
           generalize (((((((w9.setCell ⟨w7.heap.size, 0, none⟩ (.int .i64 id)).setCell ⟨w7.heap.size, 1, none⟩ (.int .i64 1)).setCell ⟨w7.heap.size, 2, none⟩ (.int .i64 0)).setCell ⟨w7.heap.size, 3, none⟩ (.int .i64 0)).setCell ⟨w7.heap.size, 4, none⟩ (.int .i64 0)).setCell ⟨w7.heap.size, 5, none⟩ (.int .i64 0)).setCell ⟨w7.heap.size, 6, none⟩ (.slice ha l2.length hcp)) = w8 at *
           obtain ⟨Hb, hHbe⟩ : ∃ Hb, Hb = w7.heap.size := ⟨_, rfl⟩
           have hHb : wr.heap.size ≤ Hb := by omega
           rw [← hHbe] at hh8 hFz hHn ⊢
           clear hHbe)
        | (have hh8 := st7_block (b := wr.heap.size) hz9 (.int .i64 id) (.int .i64 1) (.int .i64 0) (.int .i64 0) (.int .i64 0) (.int .i64 0) (.slice ha l2.length hcp)
           have hFz := st7_frame w9 wr.heap.size (.int .i64 id) (.int .i64 1) (.int .i64 0) (.int .i64 0) (.int .i64 0) (.int .i64 0) (.slice ha l2.length hcp)
           simp only [st7] at hh8 hFz
           have hHn : (∀ k, inBlkE ha l2.length k → ¬ k = wr.heap.size) := hHn9
           have hHz : wr.heap.size ≤ wr.heap.size := Nat.le_refl _
           generalize (((((((w9.setCell ⟨wr.heap.size, 0, none⟩ (.int .i64 id)).setCell ⟨wr.heap.size, 1, none⟩ (.int .i64 1)).setCell ⟨wr.heap.size, 2, none⟩ (.int .i64 0)).setCell ⟨wr.heap.size, 3, none⟩ (.int .i64 0)).setCell ⟨wr.heap.size, 4, none⟩ (.int .i64 0)).setCell ⟨wr.heap.size, 5, none⟩ (.int .i64 0)).setCell ⟨wr.heap.size, 6, none⟩ (.slice ha l2.length hcp)) = w8 at *
           obtain ⟨Hb, hHbe⟩ : ∃ Hb, Hb = wr.heap.size := ⟨_, rfl⟩
           have hHb : wr.heap.size ≤ Hb := by omega
           rw [← hHbe] at hh8 hFz hHn ⊢
           clear hHbe)
      all_goals
        have hblk8 := hFz.get ((hX9.block _ hXlt).trans hblk) (show ¬ X = Hb by omega)
        have hres8 := hFz.get ((hX9.block _ hRlt).trans hres) (show ¬ w.heap.size = Hb by omega)
        have hX8 : Below wr.heap.size wr w8 := hX9.trans (hFz.toBelow hX9.size (fun k h => by omega))
        have hrow8 := rowV_frame hHH.2 hFz hHn
        have hX9s := hX7.size
        have hb9 := st7_block hblk8 (.int .i64 id) (.int .i64 1) (.int .i64 0) (.int .i64 0) (.int .i64 0) (.int .i64 0) (.slice ha l2.length hcp)
        have hF9 := st7_frame w8 X (.int .i64 id) (.int .i64 1) (.int .i64 0) (.int .i64 0) (.int .i64 0) (.int .i64 0) (.slice ha l2.length hcp)
        have hres9 := hF9.get hres8 (show ¬ w.heap.size = X by omega)
        have hHH9 : HasG (st7 w8 X (.int .i64 id) (.int .i64 1) (.int .i64 0) (.int .i64 0) (.int .i64 0) (.int .i64 0) (.slice ha l2.length hcp)) ha ⟨id, 1, 0, 0, 0, 0, l2⟩ := ⟨hHH.1, rowV_frame hrow8 hF9 (fun b hb h => by have := hHN6 b hb; omega)⟩
        have hB9f := (bel2 hB hX8).trans (hF9.toBelow (bel2 hB hX8).size (fun b h => by omega))
        have hnew9 : ∀ b, inBlkE ha l2.length b → w.heap.size < b := fun b hb => by have := hHN6 b hb; omega
        have HR := Lib.hid (And.intro hb9 (And.intro hres9 (And.intro hHH9 hB9f)))
        clear z0 z1 z2 z3 z4 z5 z6 y0 y1 y2 y3 y4 y5 y6 x0 x1 x2 x3 x4 x5 x6 KH hb9 hF9 hres9 hHH9 hB9f hrow8 hFz hHn hHN hHH hB9 hX9 hX7 hB7 hPE hPN GA GD hX8 hres8 hHN6
        obtain ⟨x0, x1, x2, x3, x4, x5, x6, fx⟩ := cells7 hblk8
        obtain ⟨c0, c1, c2, c3, c4, c5, c6, -⟩ := cells7 hh8
        have hwr9 : IntKind.i64.wrap ((k : Int) + 1 + 1) = ((k + 1 : Nat) : Int) + 1 := (IntWalk.i64_in _ (by omega)).trans (by push_cast; rfl)
        clear hblk8 hh8
        go_wp2
        go_roundw
        case rel => exact ⟨k + 1, ha, hcp, by omega, by go_num, by rw [← HL2.out]; exact HR.out.1, HR.out.2.1, by rw [← HL2.out]; exact HR.out.2.2.1, by rw [← HL2.out]; exact hnew9, HR.out.2.2.2⟩
        case measure => simp [intOf]; omega
    · obtain rfl : k = n := by omega
      have hge : ¬ (k : Int) + 1 ≤ (k : Int) := by omega
      obtain ⟨x0, x1, x2, x3, x4, x5, x6, -⟩ := cells7 hblk
      obtain ⟨r0, r1, r2, r3, r4, r5, r6, -⟩ := cells7 hres
      have fr : ∀ i, wr.frozen? ⟨w.heap.size, i, none⟩ = false := fun i => frozen_of_row _ _ i _ _ hres
      have hq := st7_block hres (.int .i64 id) (.int .i64 1) (.int .i64 0) (.int .i64 0) (.int .i64 0) (.int .i64 0) (.slice a (grL k).length cap)
      have hF := st7_frame wr w.heap.size (.int .i64 id) (.int .i64 1) (.int .i64 0) (.int .i64 0) (.int .i64 0) (.int .i64 0) (.slice a (grL k).length cap)
      have hHG2 : HasG _ a ⟨id, 1, 0, 0, 0, 0, grL k⟩ := ⟨hHG.1, rowV_frame hHG.2 hF (fun b hb h => by have := hnew b hb; omega)⟩
      have hB2 := hB.trans (hF.toBelow hB.size (fun b h => Nat.le_of_eq h.symm))
      have HF := Lib.hid (And.intro hHG2 hB2)
      clear hHG2 hB2 hF hHG hB hblk hres
      go_wp2
      obtain ⟨c0, c1, c2, c3, c4, c5, c6, -⟩ := cells7 hq
      refine bodyPost_ret (v := .tuple #[.agg #[.int .i64 id, .int .i64 1, .int .i64 0, .int .i64 0, .int .i64 0, .int .i64 0, .slice a (grL k).length cap], .bool true]) (by simp [results, Try.results33, go_sem, c0, c1, c2, c3, c4, c5, c6]) rfl ?_
      exact ⟨a, cap, rfl, HF.out.1, HF.out.2, fun b hb => Nat.le_of_lt (hnew b hb)⟩

end Go.Proofs.Ytfmcebmkclaafaa
