/- Law GroupHards: for every input the call answers true; its arguments read as they did. No condition. -/
import Derived.Test.YtfmcebmkclaafaaLaw
import Derived.Test.YtfmcebmkclaafaaKnown6
import Derived.Test.YtfmcebmkclaafaaGrown6
namespace Go.Proofs.Ytfmcebmkclaafaa.groupHards
open Go.ChangeShapes Go.WideShapes Go.ChangeAt Go.RowKit Go.Shelf
open Go.ChangeMaps (open_string shut_string)
set_option linter.unusedVariables false
attribute [local go_sem] Oper.semAt_some wide_fn wide_round_fn

attribute [local irreducible] wpQuiet
theorem hard_do {A B C : Int} {l : List EntryC} (hA : 0 ≤ A ∧ A ≤ 1099511627776) (hB : 0 ≤ B ∧ B ≤ 1000) (hC : 0 ≤ C ∧ C ≤ 1099511627776) (hd : denseB l 1 = true) (hl : l.length ≤ 1000) :
    chkG ⟨5, 1, 0, 0, 0, 0, l⟩ ⟨5, 2, none, 0, 0, A, B, C, 0, 0, false, false⟩ [] = 0 ∧ doG ⟨5, 1, 0, 0, 0, 0, l⟩ ⟨5, 2, none, 0, 0, A, B, C, 0, 0, false, false⟩ [] = ⟨5, 1, 0, A, B, C, l⟩ ∧ isG ⟨5, 1, 0, A, B, C, l⟩ = true := by
  have hH : hardB A B C = true := by simp only [hardB, wB, Bool.and_eq_true, decide_eq_true_eq]; exact ⟨hA, hB, hC⟩
  have hI : isB ⟨5, 2, none, 0, 0, A, B, C, 0, 0, false, false⟩ [] = true := (isB_iff _ _).2 ⟨by simp, .inr (.inl ⟨rfl, hH, rfl, rfl, rfl, rfl, rfl⟩)⟩
  have hc : chkG ⟨5, 1, 0, 0, 0, 0, l⟩ ⟨5, 2, none, 0, 0, A, B, C, 0, 0, false, false⟩ [] = 0 := by
    unfold chkG
    rw [if_neg (by rw [hI]; simp), if_neg (by simp), if_neg (by simp), if_neg (by simp)]
  refine ⟨hc, ?_, isG_iff.2 ⟨⟨by simp, by simp, by simp⟩, hH, hd⟩⟩
  unfold doG
  rw [hc, if_neg (by simp), if_neg (by simp), if_pos rfl]
  dsimp only
  rw [btw_all hd ⟨by decide, by decide⟩ (by omega), List.append_nil]
theorem hard_no {g : GM} {p : PartC} (h : isB p [] = false ∨ p.g ≠ g.id) : chkG g p [] = 11 ∧ doG g p [] = g := by
  have hc : chkG g p [] = 11 := by unfold chkG; exact if_pos (by rcases h with h | h; exact .inl h; exact .inr (.inr (.inr h)))
  exact ⟨hc, by unfold doG; rw [hc]; exact if_pos (by simp)⟩
theorem hard_bad : isB ⟨5, 2, none, 0, 0, 0, 1001, 0, 0, 0, false, false⟩ [] = false := by
  rw [Bool.eq_false_iff]; intro h
  rcases (isB_iff _ _).1 h with ⟨_, h | h | h | h | h | h⟩
  · simp at h
  · have := h.2.1; simp [hardB, wB] at this
  all_goals simp at h
theorem cells3h {W : World} {b : Nat} {T : TypeId} {v0 v1 v2 : Value} (h : W.heap[b]? = some (.cells #[v0, v1, v2] T (0, 0))) :
    W.cell? ⟨b, 0, none⟩ = some v0 ∧ W.cell? ⟨b, 1, none⟩ = some v1 ∧ W.cell? ⟨b, 2, none⟩ = some v2 ∧ True := ⟨cell_of_row _ _ 0 _ _ _ h, cell_of_row _ _ 1 _ _ _ h, cell_of_row _ _ 2 _ _ _ h, trivial⟩

set_option maxRecDepth 100000 in
set_option maxHeartbeats 4000000 in
theorem hards (n a9 b9 c9 : Nat) (hn : n < 256) (ha9 : a9 < 65536) (hb9 : b9 < 65536) (hc9 : c9 < 65536) (w : World) : Calls Try.prog 10 #[.int .u8 n, .int .u16 a9, .int .u16 b9, .int .u16 c9] w fun e w' => e = .returned (.bool true) ∧ Below w.heap.size w w' := by
  have GK := Lib.hid group_known
  have GG := Lib.hid (fun W => grown_any 5 ⟨by omega, by omega⟩ (n % 8) (by omega) W)
  rw [show ((n % 8 : Nat) : Int) = ((n : Int) % 8) by omega] at GG
  obtain ⟨k, hk⟩ : ∃ k, k = n % 8 := ⟨_, rfl⟩
  rw [← hk] at GG
  have hkI : ((n : Int) % 8) = (k : Int) := by omega
  have hk7 : k ≤ 7 := by omega
  have hd := grL_dense k (by omega)
  have hll := grL_len k
  have hIG := gr_isG (id := 5) ⟨by omega, by omega⟩ (k := k) (by omega)
  unfold GrownPost at GG
  generalize grL k = l at *
  have hAb : (0 : Int) ≤ (a9 : Int) ∧ (a9 : Int) ≤ 1099511627776 := by omega
  have hBb : (0 : Int) ≤ (b9 : Int) % 1001 ∧ (b9 : Int) % 1001 ≤ 1000 := by omega
  have hCb : (0 : Int) ≤ (c9 : Int) ∧ (c9 : Int) ≤ 1099511627776 := by omega
  have GD := Lib.hid (fun a cap W (hg : HasG W a ⟨5, 1, 0, 0, 0, 0, l⟩) => (show Calls Try.prog 22 #[.agg #[.int .i64 5, .int .i64 1, .int .i64 0, .int .i64 0, .int .i64 0, .int .i64 0, .slice a l.length cap], .agg #[.int .i64 5, .int .i64 2, .slice none 0 0, .int .i64 ((a9 : Int)), .int .i64 ((b9 : Int) % 1001), .int .i64 ((c9 : Int)), .int .i64 0, .int .i64 0, .bool false, .bool false]] W (fun e w' => ∃ ha hcp, e = .returned (.tuple #[.agg #[.int .i64 5, .int .i64 1, .int .i64 0, .int .i64 ((a9 : Int)), .int .i64 ((b9 : Int) % 1001), .int .i64 ((c9 : Int)), .slice ha l.length hcp], .int .i64 0]) ∧ HasG w' ha ⟨5, 1, 0, ((a9 : Int)), ((b9 : Int) % 1001), ((c9 : Int)), l⟩ ∧ Below W.heap.size W w' ∧ ∀ b, inBlkE ha l.length b → W.heap.size ≤ b) from by
    have := do_any 5 1 0 0 0 0 l a cap 5 2 none 0 0 ((a9 : Int)) ((b9 : Int) % 1001) ((c9 : Int)) 0 0 false false [] W hg hIG (hasE_nil rfl rfl) (by omega)
    rw [(hard_do hAb hBb hCb hd (by omega)).1, (hard_do hAb hBb hCb hd (by omega)).2.1] at this
    exact this))
  have hIH := (hard_do hAb hBb hCb hd (by omega)).2.2
  have GA := Lib.hid (fun W => (show Calls Try.prog 34 #[.int .i64 5, .int .i64 (((n : Int) % 8) + 1), .int .i64 9, .int .i64 2] W (AppPost W 5 (((n : Int) % 8) + 1) 9 2) from app_any 5 (((n : Int) % 8) + 1) 9 2 (by omega) (by omega) (by omega) W))
  obtain ⟨l2, hl2⟩ : ∃ l2, l2 = l ++ appL (((n : Int) % 8) + 1) 9 2 := ⟨_, rfl⟩
  have GD2 := Lib.hid (fun a cap W pa pcap (hg : HasG W a ⟨5, 1, 0, ((a9 : Int)), ((b9 : Int) % 1001), ((c9 : Int)), l⟩) (hp : HasE W (⟨5, 1, pa, 2, pcap, 0, 0, 0, 0, 0, false, false⟩ : PartC) (appL (((n : Int) % 8) + 1) 9 2)) => (show Calls Try.prog 22 #[.agg #[.int .i64 5, .int .i64 1, .int .i64 0, .int .i64 ((a9 : Int)), .int .i64 ((b9 : Int) % 1001), .int .i64 ((c9 : Int)), .slice a l.length cap], .agg #[.int .i64 5, .int .i64 1, .slice pa 2 pcap, .int .i64 0, .int .i64 0, .int .i64 0, .int .i64 0, .int .i64 0, .bool false, .bool false]] W (fun e w' => ∃ ha hcp, e = .returned (.tuple #[.agg #[.int .i64 5, .int .i64 1, .int .i64 0, .int .i64 ((a9 : Int)), .int .i64 ((b9 : Int) % 1001), .int .i64 ((c9 : Int)), .slice ha l2.length hcp], .int .i64 0]) ∧ HasG w' ha ⟨5, 1, 0, ((a9 : Int)), ((b9 : Int) % 1001), ((c9 : Int)), l2⟩ ∧ Below W.heap.size W w' ∧ ∀ b, inBlkE ha l2.length b → W.heap.size ≤ b) from by
    have := do_any 5 1 0 ((a9 : Int)) ((b9 : Int) % 1001) ((c9 : Int)) l a cap 5 1 pa 2 pcap 0 0 0 0 0 false false (appL (((n : Int) % 8) + 1) 9 2) W hg hIH hp (by omega)
    have hz := app_do (te := 0) (ht := ((a9 : Int))) (hv := ((b9 : Int) % 1001)) (hc := ((c9 : Int))) (i := (((n : Int) % 8) + 1)) (t := 9) (n := 2) pa pcap (id := 5) ⟨by omega, by omega⟩ (fi := 1) ⟨by omega, by omega⟩ hd ⟨by omega, by omega⟩ (by omega) (by omega) (by omega) (by omega) (by omega)
    rw [hz.1, hz.2, show ((((n : Int) % 8) + 1) - 1).toNat = k by omega, List.take_of_length_le (by omega), ← hl2] at this
    exact this))
  have GD3 := Lib.hid (fun a cap W (hg : HasG W a ⟨5, 1, 0, ((a9 : Int)), ((b9 : Int) % 1001), ((c9 : Int)), l⟩) => (show Calls Try.prog 22 #[.agg #[.int .i64 5, .int .i64 1, .int .i64 0, .int .i64 ((a9 : Int)), .int .i64 ((b9 : Int) % 1001), .int .i64 ((c9 : Int)), .slice a l.length cap], .agg #[.int .i64 5, .int .i64 2, .slice none 0 0, .int .i64 0, .int .i64 1001, .int .i64 0, .int .i64 0, .int .i64 0, .bool false, .bool false]] W (fun e w' => ∃ ha hcp, e = .returned (.tuple #[.agg #[.int .i64 5, .int .i64 1, .int .i64 0, .int .i64 ((a9 : Int)), .int .i64 ((b9 : Int) % 1001), .int .i64 ((c9 : Int)), .slice ha l.length hcp], .int .i64 11]) ∧ HasG w' ha ⟨5, 1, 0, ((a9 : Int)), ((b9 : Int) % 1001), ((c9 : Int)), l⟩ ∧ Below W.heap.size W w' ∧ ∀ b, inBlkE ha l.length b → W.heap.size ≤ b) from by
    have := do_any 5 1 0 ((a9 : Int)) ((b9 : Int) % 1001) ((c9 : Int)) l a cap 5 2 none 0 0 0 1001 0 0 0 false false [] W hg hIH (hasE_nil rfl rfl) (by omega)
    rw [(hard_no (.inl hard_bad)).1, (hard_no (.inl hard_bad)).2] at this
    exact this))
  have GD4 := Lib.hid (fun a cap W (hg : HasG W a ⟨5, 1, 0, ((a9 : Int)), ((b9 : Int) % 1001), ((c9 : Int)), l⟩) => (show Calls Try.prog 22 #[.agg #[.int .i64 5, .int .i64 1, .int .i64 0, .int .i64 ((a9 : Int)), .int .i64 ((b9 : Int) % 1001), .int .i64 ((c9 : Int)), .slice a l.length cap], .agg #[.int .i64 6, .int .i64 2, .slice none 0 0, .int .i64 0, .int .i64 0, .int .i64 0, .int .i64 0, .int .i64 0, .bool false, .bool false]] W (fun e w' => ∃ ha hcp, e = .returned (.tuple #[.agg #[.int .i64 5, .int .i64 1, .int .i64 0, .int .i64 ((a9 : Int)), .int .i64 ((b9 : Int) % 1001), .int .i64 ((c9 : Int)), .slice ha l.length hcp], .int .i64 11]) ∧ HasG w' ha ⟨5, 1, 0, ((a9 : Int)), ((b9 : Int) % 1001), ((c9 : Int)), l⟩ ∧ Below W.heap.size W w' ∧ ∀ b, inBlkE ha l.length b → W.heap.size ≤ b) from by
    have := do_any 5 1 0 ((a9 : Int)) ((b9 : Int) % 1001) ((c9 : Int)) l a cap 6 2 none 0 0 0 0 0 0 0 false false [] W hg hIH (hasE_nil rfl rfl) (by omega)
    rw [(hard_no (.inr (by simp))).1, (hard_no (.inr (by simp))).2] at this
    exact this))
  have HQ := Lib.hid (fun W => beqHard ((a9 : Int)) ((b9 : Int) % 1001) ((c9 : Int)) ((a9 : Int)) ((b9 : Int) % 1001) ((c9 : Int)) W)
  clear hl2 hIH hIG hd hkI hll hk hAb hBb hCb
  go_enter Try.func10, Try.ntmps10
  go_wp2_with (first
    | (go_at_call 12; ((with_reducible refine (GK.out _).mono ?_); rintro e w1 ⟨rfl, hB1⟩))
    | (go_at_call 33; ((with_reducible refine (GG.out _).mono ?_); rintro e w2 ⟨a, cap, rfl, hHG, hB2, -⟩))
    | (go_at_call 22; ((with_reducible refine (GD.out _ _ _ (hHG.below (gp_bel w2 _ _ _ _))).mono ?_); rintro e w3 ⟨ha, hcp, rfl, hHH, hB3, -⟩)))
  have hG4 := (hB3.block _ (heap_lt (two_a w2 _ _ _ _))).trans (two_a w2 #[.int .i64 5, .int .i64 1, .int .i64 0, .int .i64 0, .int .i64 0, .int .i64 0, .slice a l.length cap] #[.int .i64 ((a9 : Int)), .int .i64 ((b9 : Int) % 1001), .int .i64 ((c9 : Int))] 26 23)
  have hX4 := (hB3.block _ (heap_lt (two_b w2 _ _ _ _))).trans (two_b w2 #[.int .i64 5, .int .i64 1, .int .i64 0, .int .i64 0, .int .i64 0, .int .i64 0, .slice a l.length cap] #[.int .i64 ((a9 : Int)), .int .i64 ((b9 : Int) % 1001), .int .i64 ((c9 : Int))] 26 23)
  have hA3 := bel_alloc (Below.refl w3.heap.size w3) (.cells #[.int .i64 5, .int .i64 1, .int .i64 0, .int .i64 ((a9 : Int)), .int .i64 ((b9 : Int) % 1001), .int .i64 ((c9 : Int)), .slice ha l.length hcp] 26)
  have hGl := heap_lt hG4
  have hXl := heap_lt hX4
  replace hG4 := (hA3.block _ hGl).trans hG4
  replace hX4 := (hA3.block _ hXl).trans hX4
  have hH4 := World.alloc_heap_new w3 (.cells #[.int .i64 5, .int .i64 1, .int .i64 0, .int .i64 ((a9 : Int)), .int .i64 ((b9 : Int) % 1001), .int .i64 ((c9 : Int)), .slice ha l.length hcp] 26)
  have hA : Below w.heap.size w (w3.alloc (.cells #[.int .i64 5, .int .i64 1, .int .i64 0, .int .i64 ((a9 : Int)), .int .i64 ((b9 : Int) % 1001), .int .i64 ((c9 : Int)), .slice ha l.length hcp] 26)) := bel2 (bel2 (bel2 (bel2 hB1 hB2) (gp_bel w2 _ _ _ _)) hB3) hA3
  replace hHH := hHH.below hA3
  clear hA3 hHG hB1 hB2 hB3 GD GG GK
  generalize (w3.alloc (.cells #[.int .i64 5, .int .i64 1, .int .i64 0, .int .i64 ((a9 : Int)), .int .i64 ((b9 : Int) % 1001), .int .i64 ((c9 : Int)), .slice ha l.length hcp] 26)) = wr at *
  obtain ⟨H, hHe⟩ : ∃ H, H = w3.heap.size := ⟨_, rfl⟩
  obtain ⟨G, hGe⟩ : ∃ G, G = w2.heap.size := ⟨_, rfl⟩
  rw [← hHe] at hH4 hGl hXl
  rw [← hHe]
  rw [← hGe] at hG4 hX4 hGl hXl
  rw [← hGe]
  clear hHe hGe
  have hHlt := heap_lt hH4
  have hwz : IntKind.i64.wrap (IntKind.i64.wrap ((n : Int).tmod 8) + 1) = (((n : Int) % 8) + 1) := by
    rw [Int.tmod_eq_emod_of_nonneg (by omega), IntWalk.i64_in ((n : Int) % 8) (by omega), IntWalk.i64_in _ (by omega)]
  have GA9 := Lib.hid (fun W => (show Calls Try.prog 34 #[.int .i64 5, .int .i64 (IntKind.i64.wrap (IntKind.i64.wrap ((n : Int).tmod 8) + 1)), .int .i64 9, .int .i64 2] W (AppPost W 5 (((n : Int) % 8) + 1) 9 2) from by rw [hwz]; exact GA.out W))
  clear hwz GA
  have KH := Lib.hid (fun W' (hW : Below wr.heap.size wr W') => cells7 ((hW.block _ hHlt).trans hH4))
  have n1 : H ≠ wr.heap.size := by omega
  have n2 : wr.heap.size ≠ H := by omega
  obtain ⟨x0, x1, x2, x3, x4, x5, x6, -⟩ := cells7 hH4
  go_region_held3 (fun W' => W'.cell? ⟨H, 0, none⟩ = some (.int .i64 5) ∧ W'.cell? ⟨H, 1, none⟩ = some (.int .i64 1) ∧ W'.cell? ⟨H, 2, none⟩ = some (.int .i64 0) ∧ W'.cell? ⟨H, 3, none⟩ = some (.int .i64 ((a9 : Int))) ∧ W'.cell? ⟨H, 4, none⟩ = some (.int .i64 ((b9 : Int) % 1001)) ∧ W'.cell? ⟨H, 5, none⟩ = some (.int .i64 ((c9 : Int))) ∧ W'.cell? ⟨H, 6, none⟩ = some (.slice ha l.length hcp)) (go_keep) (first
    | (go_at_call 34; ((with_reducible refine (GA9.out _).mono ?_); rintro e w7 ⟨pa, pcap, rfl, hPE, hB7, -⟩; have hX7 : Below wr.heap.size wr w7 := (by first | exact hB7 | exact bel2 (Below.refl _ _).drew hB7 | exact bel2 (bel_alloc (Below.refl _ _) _) hB7 | exact bel2 (bel_alloc (Below.refl _ _).drew _) hB7); have n3 : H ≠ w7.heap.size := (by have := hX7.size; omega); have n4 : w7.heap.size ≠ H := (by have := hX7.size; omega); obtain ⟨z0, z1, z2, z3, z4, z5, z6, -⟩ := KH.out w7 hX7; try (have hz7 : w7.heap[wr.heap.size]? = some (.cells #[.int .i64 0, .int .i64 0, .int .i64 0, .int .i64 0, .int .i64 0, .int .i64 0, .slice none 0 0] 26 (0, 0)) := (by first | exact (hB7.block _ (by simp)).trans (World.alloc_heap_new wr _) | exact (hB7.block _ (by simp)).trans (World.alloc_heap_new wr.drew _)))))
    | (go_at_call 22; ((with_reducible refine (GD2.out _ _ _ _ _ ?hg ?hp).mono ?_); (case hg => first | exact hHH.below hX7 | exact (hHH.below hX7.drew) | exact hHH.below (hX7.trans (bel_alloc (Below.refl w7.heap.size w7) _ |>.mono hX7.size))); (case hp => first | exact hPE | exact hPE.below (Below.refl _ _).drew | exact hPE.below (bel_alloc (Below.refl _ _) _)); rintro e w9 ⟨ia, icp, rfl, hHI, hB9, hHN⟩; have hX9 : Below wr.heap.size wr w9 := (by first | exact bel2 hX7 hB9 | exact bel2 hX7.drew hB9 | exact bel2 (hX7.trans (bel_alloc (Below.refl w7.heap.size w7) _ |>.mono hX7.size)) hB9); obtain ⟨y0, y1, y2, y3, y4, y5, y6, -⟩ := KH.out w9 hX9; (first | (have hz9 : w9.heap[wr.heap.size]? = some (.cells #[.int .i64 0, .int .i64 0, .int .i64 0, .int .i64 0, .int .i64 0, .int .i64 0, .slice none 0 0] 26 (0, 0)) := (hB9.block _ (by have := heap_lt hz7; simp; omega)).trans hz7; obtain ⟨q0, q1, q2, q3, q4, q5, q6, -⟩ := cells7 hz9; have fq : (∀ i, w9.frozen? ⟨wr.heap.size, i, none⟩ = false) := (fun i => frozen_of_row _ _ i _ _ hz9)) | (have hz9 : w9.heap[w7.heap.size]? = some (.cells #[.int .i64 0, .int .i64 0, .int .i64 0, .int .i64 0, .int .i64 0, .int .i64 0, .slice none 0 0] 26 (0, 0)) := (by first | exact (hB9.block _ (by simp)).trans (World.alloc_heap_new w7 _)); obtain ⟨q0, q1, q2, q3, q4, q5, q6, -⟩ := cells7 hz9; have fq : (∀ i, w9.frozen? ⟨w7.heap.size, i, none⟩ = false) := (fun i => frozen_of_row _ _ i _ _ hz9)) | skip))))
  all_goals first
    | (have hBz := bel_alloc (Below.refl w9.heap.size w9) (.cells #[.int .i64 5, .int .i64 1, .int .i64 0, .int .i64 ((a9 : Int)), .int .i64 ((b9 : Int) % 1001), .int .i64 ((c9 : Int)), .slice ia l2.length icp] 26)
       have hi8 := World.alloc_heap_new w9 (.cells #[.int .i64 5, .int .i64 1, .int .i64 0, .int .i64 ((a9 : Int)), .int .i64 ((b9 : Int) % 1001), .int .i64 ((c9 : Int)), .slice ia l2.length icp] 26)
       have hFz : FrameT (fun k => k = w9.heap.size) w9 (w9.alloc (.cells #[.int .i64 5, .int .i64 1, .int .i64 0, .int .i64 ((a9 : Int)), .int .i64 ((b9 : Int) % 1001), .int .i64 ((c9 : Int)), .slice ia l2.length icp] 26)) := FrameT.below hBz
       have hHz : wr.heap.size ≤ w9.heap.size := hX9.size
       generalize (w9.alloc (.cells #[.int .i64 5, .int .i64 1, .int .i64 0, .int .i64 ((a9 : Int)), .int .i64 ((b9 : Int) % 1001), .int .i64 ((c9 : Int)), .slice ia l2.length icp] 26)) = w8 at *
       obtain ⟨I, hIe⟩ : ∃ I, I = w9.heap.size := ⟨_, rfl⟩
       have hIb : wr.heap.size ≤ I := by omega
       rw [← hIe] at hi8 hFz ⊢
       clear hBz hIe)
    | (have hi8 := st7_block (b := w7.heap.size) hz9 (.int .i64 5) (.int .i64 1) (.int .i64 0) (.int .i64 ((a9 : Int))) (.int .i64 ((b9 : Int) % 1001)) (.int .i64 ((c9 : Int))) (.slice ia l2.length icp)
       have hFz := st7_frame w9 w7.heap.size (.int .i64 5) (.int .i64 1) (.int .i64 0) (.int .i64 ((a9 : Int))) (.int .i64 ((b9 : Int) % 1001)) (.int .i64 ((c9 : Int))) (.slice ia l2.length icp)
       simp only [st7] at hi8 hFz
       have hHz : wr.heap.size ≤ w7.heap.size := hX7.size
       generalize (((((((w9.setCell ⟨w7.heap.size, 0, none⟩ (.int .i64 5)).setCell ⟨w7.heap.size, 1, none⟩ (.int .i64 1)).setCell ⟨w7.heap.size, 2, none⟩ (.int .i64 0)).setCell ⟨w7.heap.size, 3, none⟩ (.int .i64 ((a9 : Int)))).setCell ⟨w7.heap.size, 4, none⟩ (.int .i64 ((b9 : Int) % 1001))).setCell ⟨w7.heap.size, 5, none⟩ (.int .i64 ((c9 : Int)))).setCell ⟨w7.heap.size, 6, none⟩ (.slice ia l2.length icp)) = w8 at *
       obtain ⟨I, hIe⟩ : ∃ I, I = w7.heap.size := ⟨_, rfl⟩
       have hIb : wr.heap.size ≤ I := by omega
       rw [← hIe] at hi8 hFz ⊢
       clear hIe)
    | (have hi8 := st7_block (b := wr.heap.size) hz9 (.int .i64 5) (.int .i64 1) (.int .i64 0) (.int .i64 ((a9 : Int))) (.int .i64 ((b9 : Int) % 1001)) (.int .i64 ((c9 : Int))) (.slice ia l2.length icp)
       have hFz := st7_frame w9 wr.heap.size (.int .i64 5) (.int .i64 1) (.int .i64 0) (.int .i64 ((a9 : Int))) (.int .i64 ((b9 : Int) % 1001)) (.int .i64 ((c9 : Int))) (.slice ia l2.length icp)
       simp only [st7] at hi8 hFz
       have hHz : wr.heap.size ≤ wr.heap.size := Nat.le_refl _
       generalize (((((((w9.setCell ⟨wr.heap.size, 0, none⟩ (.int .i64 5)).setCell ⟨wr.heap.size, 1, none⟩ (.int .i64 1)).setCell ⟨wr.heap.size, 2, none⟩ (.int .i64 0)).setCell ⟨wr.heap.size, 3, none⟩ (.int .i64 ((a9 : Int)))).setCell ⟨wr.heap.size, 4, none⟩ (.int .i64 ((b9 : Int) % 1001))).setCell ⟨wr.heap.size, 5, none⟩ (.int .i64 ((c9 : Int)))).setCell ⟨wr.heap.size, 6, none⟩ (.slice ia l2.length icp)) = w8 at *
       obtain ⟨I, hIe⟩ : ∃ I, I = wr.heap.size := ⟨_, rfl⟩
       have hIb : wr.heap.size ≤ I := by omega
       rw [← hIe] at hi8 hFz ⊢
       clear hIe)
  all_goals
    have hX8 : Below wr.heap.size wr w8 := hX9.trans (hFz.toBelow hX9.size (fun k h => by omega))
    have hG8 := (hX8.block _ (heap_lt hG4)).trans hG4
    have hXx8 := (hX8.block _ (heap_lt hX4)).trans hX4
    have hH8 := (hX8.block _ hHlt).trans hH4
    have hHH8 := hHH.below hX8
    have hA8 := bel2 hA hX8
    have KA := Lib.hid (fun W' (hW : Below w8.heap.size w8 W') => And.intro (cells7 ((hW.block _ (heap_lt hH8)).trans hH8)) (And.intro (cells7 ((hW.block _ (heap_lt hi8)).trans hi8)) (And.intro (cells7 ((hW.block _ (heap_lt hG8)).trans hG8)) (cells3h ((hW.block _ (heap_lt hXx8)).trans hXx8)))))
    have hR8 := Below.refl w8.heap.size w8
    clear x0 x1 x2 x3 x4 x5 x6 y0 y1 y2 y3 y4 y5 y6 z0 z1 z2 z3 z4 z5 z6 KH hFz hX9 hX7 hB9 hB7 hPE hHI hHN GA9 GD2 hX8 hG8 hXx8 hH8 hi8 hG4 hX4 hH4 hHH hA n1 n2 n3 n4
    obtain ⟨⟨x0, x1, x2, x3, x4, x5, x6, -⟩, ⟨y0, y1, y2, y3, y4, y5, y6, -⟩, ⟨z0, z1, z2, z3, z4, z5, z6, -⟩, u0, u1, u2, -⟩ := KA.out _ hR8
    have hq9 := fun W => HQ.out W
    simp only [and_self, decide_true] at hq9
    go_wp2_with (first
      | (go_at_call 22; ((with_reducible refine (GD3.out _ _ _ hHH8).mono ?_); rintro e w10 ⟨ja, jc, rfl, -, hB10, -⟩; have hT10 := (hR8.trans (hB10.mono hR8.size)).trans ((bel_alloc (Below.refl w10.heap.size w10) (.cells #[.int .i64 5, .int .i64 1, .int .i64 0, .int .i64 ((a9 : Int)), .int .i64 ((b9 : Int) % 1001), .int .i64 ((c9 : Int)), .slice ja l.length jc] 26)).mono (Nat.le_trans hR8.size hB10.size)); have hHH10 := hHH8.below hT10; clear x0 x1 x2 x3 x4 x5 x6 y0 y1 y2 y3 y4 y5 y6 z0 z1 z2 z3 z4 z5 z6 u0 u1 u2; obtain ⟨⟨x0, x1, x2, x3, x4, x5, x6, -⟩, ⟨y0, y1, y2, y3, y4, y5, y6, -⟩, ⟨z0, z1, z2, z3, z4, z5, z6, -⟩, u0, u1, u2, -⟩ := KA.out _ hT10))
      | (go_at_call 22; ((with_reducible refine (GD4.out _ _ _ hHH10).mono ?_); rintro e w11 ⟨ka, kc, rfl, -, hB11, -⟩; have hT11 := (hT10.trans (hB11.mono hT10.size)).trans ((bel_alloc (Below.refl w11.heap.size w11) (.cells #[.int .i64 5, .int .i64 1, .int .i64 0, .int .i64 ((a9 : Int)), .int .i64 ((b9 : Int) % 1001), .int .i64 ((c9 : Int)), .slice ka l.length kc] 26)).mono (Nat.le_trans hT10.size hB11.size)); have hHH11 := hHH8.below hT11; clear x0 x1 x2 x3 x4 x5 x6 y0 y1 y2 y3 y4 y5 y6 z0 z1 z2 z3 z4 z5 z6 u0 u1 u2; obtain ⟨⟨x0, x1, x2, x3, x4, x5, x6, -⟩, ⟨y0, y1, y2, y3, y4, y5, y6, -⟩, ⟨z0, z1, z2, z3, z4, z5, z6, -⟩, u0, u1, u2, -⟩ := KA.out _ hT11)))
    go_ret
    exact ⟨by simp, bel2 hA8 hT11⟩

theorem walk (n : Nat) (hn : n < 256) (a9 : Nat) (ha9 : a9 < 65536) (b9 : Nat) (hb9 : b9 < 65536) (c9 : Nat) (hc9 : c9 < 65536) (w : World) : Calls Try.prog 10 #[.int .u8 n, .int .u16 a9, .int .u16 b9, .int .u16 c9] w fun e w' => e = .returned (.bool true) ∧ Below w.heap.size w w' := hards n a9 b9 c9 hn ha9 hb9 hc9 w

set_option maxRecDepth 100000 in
theorem lifted (os : Os) (started : os.Started) (H : Type) (enc : TypeId × Value → H) :
    ReturnsInHanded {} Try.checked os 10 .any (Rows.groupHardsSpec.pre6 enc Try.prog Try.f10 Rows.groupHardsRow.domain false) (Rows.groupHardsSpec.post enc Try.prog Try.f10 false true false false) := by
  refine returnsInHanded_of_change (C := Try.checked) Try.own started (by kernel_rfl) Try.func10
    (ChangeSpec.witness6 (enc := enc) (C := Try.checked) false ⟨#[], #[.int .u8 0, .int .u16 0, .int .u16 0, .int .u16 0], []⟩ 8 (by kernel_rfl) (by kernel_rfl) (by kernel_rfl) (by kernel_rfl)) ?_
  intro W base args ds gs before hval hW _ _
  refine law_contract (T := 4) (n := 4) Try.laid Try.underlying4 rfl rfl ⟨rfl, fun H ds h => by match ds, h with | [_, _, _, _], _ => rfl⟩ (of_all (by kernel_rfl)) hW ?_
  intro ps hA
  rw [Try.params10] at hA hval
  obtain ⟨v0, vs0, d0, ds0, p0, q0, hargs, rfl, rfl, h0, r0⟩ := trodAll_cons hA
  obtain ⟨v1, vs1, d1, ds1, p1, q1, rfl, rfl, rfl, h1, r1⟩ := trodAll_cons r0
  obtain ⟨v2, vs2, d2, ds2, p2, q2, rfl, rfl, rfl, h2, r2⟩ := trodAll_cons r1
  obtain ⟨v3, vs3, d3, ds3, p3, q3, rfl, rfl, rfl, h3, r3⟩ := trodAll_cons r2
  obtain ⟨rfl, rfl, rfl⟩ := trodAll_nil r3
  obtain rfl : args = #[v0, v1, v2, v3] := by cases args; simp_all
  obtain ⟨a0, rfl, rfl, rfl, w0⟩ := open_int Try.underlying5 (hval 0 5 v0 rfl rfl) h0
  obtain ⟨a1, rfl, rfl, rfl, w1⟩ := open_int Try.underlying58 (hval 1 58 v1 rfl rfl) h1
  obtain ⟨a2, rfl, rfl, rfl, w2⟩ := open_int Try.underlying58 (hval 2 58 v2 rfl rfl) h2
  obtain ⟨a3, rfl, rfl, rfl, w3⟩ := open_int Try.underlying58 (hval 3 58 v3 rfl rfl) h3
  obtain ⟨n0, rfl, b0⟩ := nat_of_u8 w0
  obtain ⟨n1, rfl, b1⟩ := nat_of_u16 w1
  obtain ⟨n2, rfl, b2⟩ := nat_of_u16 w2
  obtain ⟨n3, rfl, b3⟩ := nat_of_u16 w3
  exact walk n0 b0 n1 b1 n2 b2 n3 b3 W

theorem holds : Rows.GroupHardsSaid :=
  OpenClaim.holds_of_wide 10 Try.f10 rfl rfl rfl rfl rfl rfl rfl ⟨rfl, rfl, rfl, rfl, rfl⟩ rfl rfl rfl rfl rfl (by kernel_rfl) Try.func10 (by kernel_rfl)
    (of_decide_eq_true (by kernel_rfl)) (by unfold Func.isWrapper; first | (rw [if_pos (by decide +kernel)]; kernel_rfl) | (rw [if_neg (by decide +kernel)]; exact ⟨rfl, rfl⟩))
    (fun os started H enc _ => lifted os started H enc)

end Go.Proofs.Ytfmcebmkclaafaa.groupHards
