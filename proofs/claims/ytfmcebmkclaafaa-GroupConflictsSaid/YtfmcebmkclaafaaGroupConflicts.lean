/- Law GroupConflicts: for every input the call answers true; its arguments read as they did. No condition. -/
import Derived.Test.YtfmcebmkclaafaaLaw
import Derived.Test.YtfmcebmkclaafaaKnown6
import Derived.Test.YtfmcebmkclaafaaGrown6
import Derived.Test.YtfmcebmkclaafaaRef6a
namespace Go.Proofs.Ytfmcebmkclaafaa.groupConflicts
open Go.ChangeShapes Go.WideShapes Go.ChangeAt Go.RowKit Go.Shelf
open Go.ChangeMaps (open_string shut_string)
set_option linter.unusedVariables false
attribute [local go_sem] Oper.semAt_some wide_fn wide_round_fn

attribute [local irreducible] wpQuiet
theorem grL_get (k q : Nat) (h : q < (grL k).length) : (grL k)[q] = ⟨(q : Int) + 1, (q : Int) + 1, ⟨#[]⟩⟩ := by simp [grL]
theorem appL_get (i t : Int) (n q : Nat) (h : q < (appL i t n).length) : (appL i t n)[q] = ⟨i + (q : Int), t, ⟨#[]⟩⟩ := by simp [appL]
theorem conf_t (k mo : Nat) (I T : Int) (h1 : 1 ≤ I) (h2 : I ≤ k + 1) (hd : denseB ((grL k).take (I - 1).toNat ++ appL I T mo) 1 = true) (j : Int) (hj : 1 ≤ j) (hj2 : j ≤ I + mo - 1) :
    entT ((grL k).take (I - 1).toNat ++ appL I T mo) j = if j < I then j else T := by
  have hlen : ((grL k).take (I - 1).toNat).length = (I - 1).toNat := by rw [List.length_take, grL_len]; omega
  rw [entT_dense hd, dif_pos ⟨hj, by rw [List.length_append, hlen, appL_len]; omega⟩]
  by_cases h : j < I
  · rw [if_pos h, List.getElem_append_left (by rw [hlen]; omega), List.getElem_take, grL_get]; show ((j - 1).toNat : Int) + 1 = j; omega
  · rw [if_neg h, List.getElem_append_right (by rw [hlen]; omega), appL_get]

set_option maxRecDepth 100000 in
set_option maxHeartbeats 4000000 in
theorem conflicts (n m q t9 : Nat) (hn : n < 256) (hm : m < 256) (hq : q < 256) (ht : t9 < 65536) (w : World) : Calls Try.prog 7 #[.int .u8 n, .int .u8 m, .int .u8 q, .int .u16 t9] w fun e w' => e = .returned (.bool true) ∧ Below w.heap.size w w' := by
  have GK := Lib.hid group_known
  have GG := Lib.hid (fun W => grown_any 5 ⟨by omega, by omega⟩ (n % 12 + 1) (by omega) W)
  rw [show ((n % 12 + 1 : Nat) : Int) = ((n : Int) % 12 + 1) by omega] at GG
  have hm1 : 0 ≤ (m : Int) % (((n : Int) % 12 + 1) + 1) := Int.emod_nonneg _ (by omega)
  have hm2 : (m : Int) % (((n : Int) % 12 + 1) + 1) < ((n : Int) % 12 + 1) + 1 := Int.emod_lt_of_pos _ (by omega)
  obtain ⟨k, hk⟩ : ∃ k, k = n % 12 + 1 := ⟨_, rfl⟩
  obtain ⟨mo, hmo⟩ : ∃ mo, mo = q % 6 + 1 := ⟨_, rfl⟩
  rw [← hk] at GG
  have hkI : ((n : Int) % 12 + 1) = (k : Int) := by omega
  have hmI : (mo : Int) = ((q : Int) % 6 + 1) := by omega
  have hk12 : k ≤ 12 := by omega
  have hmo6 : mo ≤ 6 ∧ 1 ≤ mo := by omega
  have hIG := gr_isG (id := 5) ⟨by omega, by omega⟩ (k := k) (by omega)
  have hll := grL_len k
  have hd := grL_dense k (by omega)
  unfold GrownPost at GG
  have hwz : (IntKind.i64.wrap (IntKind.i64.wrap (t9 : Int) + 50)) = ((t9 : Int) + 50) := by rw [IntWalk.i64_in (t9 : Int) (by omega), IntWalk.i64_in _ (by omega)]
  have GA1 := Lib.hid (fun W => (show Calls Try.prog 34 #[.int .i64 5, .int .i64 ((m : Int) % (((n : Int) % 12 + 1) + 1) + 1), .int .i64 (IntKind.i64.wrap (IntKind.i64.wrap (t9 : Int) + 50)), .int .i64 ((q : Int) % 6 + 1)] W (AppPost W 5 ((m : Int) % (((n : Int) % 12 + 1) + 1) + 1) ((t9 : Int) + 50) mo) from by rw [hwz, ← hmI]; exact app_any 5 ((m : Int) % (((n : Int) % 12 + 1) + 1) + 1) ((t9 : Int) + 50) mo (by omega) (by omega) (by omega) W))
  obtain ⟨l2, hl2⟩ : ∃ l2, l2 = (grL k).take (((m : Int) % (((n : Int) % 12 + 1) + 1) + 1) - 1).toNat ++ appL ((m : Int) % (((n : Int) % 12 + 1) + 1) + 1) ((t9 : Int) + 50) mo := ⟨_, rfl⟩
  have hdo2 : ∀ pa pcap, chkG ⟨5, 1, 0, 0, 0, 0, grL k⟩ (⟨5, 1, pa, mo, pcap, 0, 0, 0, 0, 0, false, false⟩ : PartC) (appL ((m : Int) % (((n : Int) % 12 + 1) + 1) + 1) ((t9 : Int) + 50) mo) = 0 ∧ doG ⟨5, 1, 0, 0, 0, 0, grL k⟩ (⟨5, 1, pa, mo, pcap, 0, 0, 0, 0, 0, false, false⟩ : PartC) (appL ((m : Int) % (((n : Int) % 12 + 1) + 1) + 1) ((t9 : Int) + 50) mo) = ⟨5, 1, 0, 0, 0, 0, l2⟩ := fun pa pcap => by
    have hz := app_do (te := 0) (ht := 0) (hv := 0) (hc := 0) (i := ((m : Int) % (((n : Int) % 12 + 1) + 1) + 1)) (t := ((t9 : Int) + 50)) (n := mo) (l := grL k) pa pcap (id := 5) ⟨by omega, by omega⟩ (fi := 1) ⟨by omega, by omega⟩ hd ⟨by omega, by omega⟩ (by omega) (by omega) (by omega) (by omega) (by omega)
    exact ⟨hz.1, hz.2.trans (by rw [← hl2])⟩
  have hI2 : isG ⟨5, 1, 0, 0, 0, 0, l2⟩ = true := by
    have := (doG_isG (g := ⟨5, 1, 0, 0, 0, 0, grL k⟩) (p := ⟨5, 1, none, mo, 0, 0, 0, 0, 0, 0, false, false⟩) (pl := appL ((m : Int) % (((n : Int) % 12 + 1) + 1) + 1) ((t9 : Int) + 50) mo) hIG (by show (grL k).length ≤ _; omega) (appL_len _ _ _)).1
    rwa [(hdo2 none 0).2] at this
  have hl2l : (l2.length : Int) = ((m : Int) % (((n : Int) % 12 + 1) + 1) + 1) + ((q : Int) % 6 + 1) - 1 := by rw [hl2, List.length_append, appL_len, List.length_take]; push_cast; omega
  have hd2 := (isG_iff.1 hI2).2.2
  have hEt : ∀ j : Int, 1 ≤ j → j ≤ ((m : Int) % (((n : Int) % 12 + 1) + 1) + 1) + ((q : Int) % 6 + 1) - 1 → entT l2 j = if j < ((m : Int) % (((n : Int) % 12 + 1) + 1) + 1) then j else ((t9 : Int) + 50) := fun j h1 h2 => by
    have hd3 := hd2
    rw [hl2] at hd3 ⊢
    exact conf_t k mo ((m : Int) % (((n : Int) % 12 + 1) + 1) + 1) ((t9 : Int) + 50) (by omega) (by omega) hd3 j h1 (by omega)
  have GD1 := Lib.hid (fun a cap W pa pcap (hg : HasG W a ⟨5, 1, 0, 0, 0, 0, grL k⟩) (hp : HasE W (⟨5, 1, pa, mo, pcap, 0, 0, 0, 0, 0, false, false⟩ : PartC) (appL ((m : Int) % (((n : Int) % 12 + 1) + 1) + 1) ((t9 : Int) + 50) mo)) => (show Calls Try.prog 22 #[.agg #[.int .i64 5, .int .i64 1, .int .i64 0, .int .i64 0, .int .i64 0, .int .i64 0, .slice a (grL k).length cap], .agg #[.int .i64 5, .int .i64 1, .slice pa mo pcap, .int .i64 0, .int .i64 0, .int .i64 0, .int .i64 0, .int .i64 0, .bool false, .bool false]] W (fun e w' => ∃ ha hcp, e = .returned (.tuple #[.agg #[.int .i64 5, .int .i64 1, .int .i64 0, .int .i64 0, .int .i64 0, .int .i64 0, .slice ha l2.length hcp], .int .i64 0]) ∧ HasG w' ha ⟨5, 1, 0, 0, 0, 0, l2⟩ ∧ Below W.heap.size W w' ∧ ∀ b, inBlkE ha l2.length b → W.heap.size ≤ b) from by
    have := do_any 5 1 0 0 0 0 (grL k) a cap 5 1 pa mo pcap 0 0 0 0 0 false false (appL ((m : Int) % (((n : Int) % 12 + 1) + 1) + 1) ((t9 : Int) + 50) mo) W hg hIG hp (by omega)
    rw [(hdo2 pa pcap).1, (hdo2 pa pcap).2] at this
    exact this))
  have GL1 := Lib.hid (fun a cap W (hg : HasG W a ⟨5, 1, 0, 0, 0, 0, grL k⟩) => (show Gives Try.prog 25 #[.agg #[.int .i64 5, .int .i64 1, .int .i64 0, .int .i64 0, .int .i64 0, .int .i64 0, .slice a (grL k).length cap]] W (.int .i64 ((n : Int) % 12 + 1)) from by
    have := last_any 5 1 0 0 0 0 (grL k) a cap W hg hIG
    rwa [show (1 : Int) - 1 + ((grL k).length : Int) = ((n : Int) % 12 + 1) by omega] at this))
  have GL2 := Lib.hid (fun a cap W (hg : HasG W a ⟨5, 1, 0, 0, 0, 0, l2⟩) => (show Gives Try.prog 25 #[.agg #[.int .i64 5, .int .i64 1, .int .i64 0, .int .i64 0, .int .i64 0, .int .i64 0, .slice a l2.length cap]] W (.int .i64 (((m : Int) % (((n : Int) % 12 + 1) + 1) + 1) + ((q : Int) % 6 + 1) - 1)) from by
    have := last_any 5 1 0 0 0 0 l2 a cap W hg hI2
    rwa [show (1 : Int) - 1 + (l2.length : Int) = ((m : Int) % (((n : Int) % 12 + 1) + 1) + 1) + ((q : Int) % 6 + 1) - 1 by omega] at this))
  have GT := Lib.hid (fun j (h1 : 1 ≤ j) (h2 : j ≤ ((m : Int) % (((n : Int) % 12 + 1) + 1) + 1) + ((q : Int) % 6 + 1) - 1) v (hv : (if j < ((m : Int) % (((n : Int) % 12 + 1) + 1) + 1) then j else ((t9 : Int) + 50)) = v) a cap W (hg : HasG W a ⟨5, 1, 0, 0, 0, 0, l2⟩) => (show Gives Try.prog 27 #[.agg #[.int .i64 5, .int .i64 1, .int .i64 0, .int .i64 0, .int .i64 0, .int .i64 0, .slice a l2.length cap], .int .i64 j] W (.tuple #[.int .i64 v, .int .i64 0]) from by
    have := term_any 5 1 0 0 0 0 l2 a cap j W hg hI2
    rwa [show termG ⟨5, 1, 0, 0, 0, 0, l2⟩ j = (v, 0) by unfold termG lastG; dsimp only; rw [if_neg (by omega), if_neg (by omega), if_neg (by omega), if_neg (by omega), hEt j h1 h2, hv]] at this))
  generalize grL k = l at *
  have tl : ((l2.length : Int) != ((m : Int) % (((n : Int) % 12 + 1) + 1) + 1) + ((q : Int) % 6 + 1) - 1) = false := by rw [bne_eq_false_iff_eq]; exact hl2l
  have hIb : 1 ≤ ((m : Int) % (((n : Int) % 12 + 1) + 1) + 1) ∧ ((m : Int) % (((n : Int) % 12 + 1) + 1) + 1) ≤ 13 := by omega
  have hMb : 1 ≤ ((q : Int) % 6 + 1) ∧ ((q : Int) % 6 + 1) ≤ 6 := by omega
  clear hl2 hI2 hIG hkI hll hk hd hd2 hl2l hdo2 hEt hk12 hmo6 hwz hmI hmo
  go_enter Try.func7, Try.ntmps7
  go_wp2_with (first
    | (go_at_call 12; ((with_reducible refine (GK.out _).mono ?_); rintro e w1 ⟨rfl, hB1⟩))
    | (go_at_call 33; ((with_reducible refine (GG.out _).mono ?_); rintro e w2 ⟨a, cap, rfl, hHG, hB2, -⟩)))
  have hH := World.alloc_heap_new w2 (.cells #[.int .i64 5, .int .i64 1, .int .i64 0, .int .i64 0, .int .i64 0, .int .i64 0, .slice a l.length cap] 26)
  have hA : Below w.heap.size w (w2.alloc (.cells #[.int .i64 5, .int .i64 1, .int .i64 0, .int .i64 0, .int .i64 0, .int .i64 0, .slice a l.length cap] 26)) := bel2 (bel2 hB1 hB2) (bel_alloc (Below.refl _ _) _)
  replace hHG := hHG.below (bel_alloc (Below.refl w2.heap.size w2) (.cells #[.int .i64 5, .int .i64 1, .int .i64 0, .int .i64 0, .int .i64 0, .int .i64 0, .slice a l.length cap] 26))
  clear hB1 hB2 GK GG
  generalize (w2.alloc (.cells #[.int .i64 5, .int .i64 1, .int .i64 0, .int .i64 0, .int .i64 0, .int .i64 0, .slice a l.length cap] 26)) = wr at *
  have hHlt := heap_lt hH
  obtain ⟨H, hHe⟩ : ∃ H, H = w2.heap.size := ⟨_, rfl⟩
  rw [← hHe] at hH hHlt
  rw [← hHe]
  clear hHe
  have KHa := Lib.hid (fun W' (hW : Below wr.heap.size wr W') => cells7 ((hW.block _ hHlt).trans hH))
  have n1 : H ≠ wr.heap.size := by omega
  have n2 : wr.heap.size ≠ H := by omega
  obtain ⟨x0, x1, x2, x3, x4, x5, x6, -⟩ := cells7 hH
  go_region_held3 (fun W' => W'.cell? ⟨H, 0, none⟩ = some (.int .i64 5) ∧ W'.cell? ⟨H, 1, none⟩ = some (.int .i64 1) ∧ W'.cell? ⟨H, 2, none⟩ = some (.int .i64 0) ∧ W'.cell? ⟨H, 3, none⟩ = some (.int .i64 0) ∧ W'.cell? ⟨H, 4, none⟩ = some (.int .i64 0) ∧ W'.cell? ⟨H, 5, none⟩ = some (.int .i64 0) ∧ W'.cell? ⟨H, 6, none⟩ = some (.slice a l.length cap)) (go_keep) (first
    | (go_at_call 34; ((with_reducible refine (GA1.out _).mono ?_); rintro e w7a ⟨pa, pcap, rfl, hPE, hB7, -⟩; have hX7 : Below wr.heap.size wr w7a := (by first | exact hB7 | exact bel2 (Below.refl _ _).drew hB7 | exact bel2 (bel_alloc (Below.refl _ _) _) hB7 | exact bel2 (bel_alloc (Below.refl _ _).drew _) hB7); have n3 : H ≠ w7a.heap.size := (by have := hX7.size; omega); have n4 : w7a.heap.size ≠ H := (by have := hX7.size; omega); obtain ⟨z0, z1, z2, z3, z4, z5, z6, -⟩ := KHa.out w7a hX7; try (have hz7 : w7a.heap[wr.heap.size]? = some (.cells #[.int .i64 0, .int .i64 0, .int .i64 0, .int .i64 0, .int .i64 0, .int .i64 0, .slice none 0 0] 26 (0, 0)) := (by first | exact (hB7.block _ (by simp)).trans (World.alloc_heap_new wr _) | exact (hB7.block _ (by simp)).trans (World.alloc_heap_new wr.drew _)))))
    | (go_at_call 22; ((with_reducible refine (GD1.out _ _ _ _ _ ?hg ?hp).mono ?_); (case hg => first | exact hHG.below hX7 | exact (hHG.below hX7.drew) | exact hHG.below (hX7.trans (bel_alloc (Below.refl w7a.heap.size w7a) _ |>.mono hX7.size))); (case hp => first | exact hPE | exact hPE.below (Below.refl _ _).drew | exact hPE.below (bel_alloc (Below.refl _ _) _)); rintro e w9a ⟨iaa, icpa, rfl, hHIa, hB9, hHN⟩; have hX9 : Below wr.heap.size wr w9a := (by first | exact bel2 hX7 hB9 | exact bel2 hX7.drew hB9 | exact bel2 (hX7.trans (bel_alloc (Below.refl w7a.heap.size w7a) _ |>.mono hX7.size)) hB9); obtain ⟨y0, y1, y2, y3, y4, y5, y6, -⟩ := KHa.out w9a hX9; (first | (have hz9 : w9a.heap[wr.heap.size]? = some (.cells #[.int .i64 0, .int .i64 0, .int .i64 0, .int .i64 0, .int .i64 0, .int .i64 0, .slice none 0 0] 26 (0, 0)) := (hB9.block _ (by have := heap_lt hz7; simp; omega)).trans hz7; have hN9 : (∀ k, inBlkE iaa l2.length k → ¬ k = wr.heap.size) := (fun k hk e => by have h1 := hHN k hk; have h2 := heap_lt hz7; (try simp at h1); omega); obtain ⟨q0, q1, q2, q3, q4, q5, q6, -⟩ := cells7 hz9; have fq : (∀ i, w9a.frozen? ⟨wr.heap.size, i, none⟩ = false) := (fun i => frozen_of_row _ _ i _ _ hz9)) | (have hz9 : w9a.heap[w7a.heap.size]? = some (.cells #[.int .i64 0, .int .i64 0, .int .i64 0, .int .i64 0, .int .i64 0, .int .i64 0, .slice none 0 0] 26 (0, 0)) := (by first | exact (hB9.block _ (by simp)).trans (World.alloc_heap_new w7a _)); have hN9 : (∀ k, inBlkE iaa l2.length k → ¬ k = w7a.heap.size) := (fun k hk e => by have h1 := hHN k hk; simp at h1; omega); obtain ⟨q0, q1, q2, q3, q4, q5, q6, -⟩ := cells7 hz9; have fq : (∀ i, w9a.frozen? ⟨w7a.heap.size, i, none⟩ = false) := (fun i => frozen_of_row _ _ i _ _ hz9)) | skip))))
  all_goals first
    | (have hBz := bel_alloc (Below.refl w9a.heap.size w9a) (.cells #[.int .i64 5, .int .i64 1, .int .i64 0, .int .i64 0, .int .i64 0, .int .i64 0, .slice iaa l2.length icpa] 26)
       have hi8a := World.alloc_heap_new w9a (.cells #[.int .i64 5, .int .i64 1, .int .i64 0, .int .i64 0, .int .i64 0, .int .i64 0, .slice iaa l2.length icpa] 26)
       replace hHIa := hHIa.below hBz
       have hFz : FrameT (fun k => k = w9a.heap.size) w9a (w9a.alloc (.cells #[.int .i64 5, .int .i64 1, .int .i64 0, .int .i64 0, .int .i64 0, .int .i64 0, .slice iaa l2.length icpa] 26)) := FrameT.below hBz
       have hHz : wr.heap.size ≤ w9a.heap.size := hX9.size
       generalize (w9a.alloc (.cells #[.int .i64 5, .int .i64 1, .int .i64 0, .int .i64 0, .int .i64 0, .int .i64 0, .slice iaa l2.length icpa] 26)) = w8a at *
       obtain ⟨Ia, hIe⟩ : ∃ Ia, Ia = w9a.heap.size := ⟨_, rfl⟩
       have hIba : wr.heap.size ≤ Ia := by omega
       rw [← hIe] at hi8a hFz ⊢
       clear hBz hIe)
    | (have hi8a := st7_block (b := w7a.heap.size) hz9 (.int .i64 5) (.int .i64 1) (.int .i64 0) (.int .i64 0) (.int .i64 0) (.int .i64 0) (.slice iaa l2.length icpa)
       have hFz := st7_frame w9a w7a.heap.size (.int .i64 5) (.int .i64 1) (.int .i64 0) (.int .i64 0) (.int .i64 0) (.int .i64 0) (.slice iaa l2.length icpa)
       replace hHIa : HasG (st7 w9a w7a.heap.size (.int .i64 5) (.int .i64 1) (.int .i64 0) (.int .i64 0) (.int .i64 0) (.int .i64 0) (.slice iaa l2.length icpa)) iaa _ := ⟨hHIa.1, rowV_frame hHIa.2 hFz (fun k hk h => hN9 k hk h)⟩
       simp only [st7] at hi8a hFz hHIa
       have hHz : wr.heap.size ≤ w7a.heap.size := hX7.size
       generalize (((((((w9a.setCell ⟨w7a.heap.size, 0, none⟩ (.int .i64 5)).setCell ⟨w7a.heap.size, 1, none⟩ (.int .i64 1)).setCell ⟨w7a.heap.size, 2, none⟩ (.int .i64 0)).setCell ⟨w7a.heap.size, 3, none⟩ (.int .i64 0)).setCell ⟨w7a.heap.size, 4, none⟩ (.int .i64 0)).setCell ⟨w7a.heap.size, 5, none⟩ (.int .i64 0)).setCell ⟨w7a.heap.size, 6, none⟩ (.slice iaa l2.length icpa)) = w8a at *
       obtain ⟨Ia, hIe⟩ : ∃ Ia, Ia = w7a.heap.size := ⟨_, rfl⟩
       have hIba : wr.heap.size ≤ Ia := by omega
       rw [← hIe] at hi8a hFz ⊢
       clear hIe)
    | (have hi8a := st7_block (b := wr.heap.size) hz9 (.int .i64 5) (.int .i64 1) (.int .i64 0) (.int .i64 0) (.int .i64 0) (.int .i64 0) (.slice iaa l2.length icpa)
       have hFz := st7_frame w9a wr.heap.size (.int .i64 5) (.int .i64 1) (.int .i64 0) (.int .i64 0) (.int .i64 0) (.int .i64 0) (.slice iaa l2.length icpa)
       replace hHIa : HasG (st7 w9a wr.heap.size (.int .i64 5) (.int .i64 1) (.int .i64 0) (.int .i64 0) (.int .i64 0) (.int .i64 0) (.slice iaa l2.length icpa)) iaa _ := ⟨hHIa.1, rowV_frame hHIa.2 hFz (fun k hk h => hN9 k hk h)⟩
       simp only [st7] at hi8a hFz hHIa
       have hHz : wr.heap.size ≤ wr.heap.size := Nat.le_refl _
       generalize (((((((w9a.setCell ⟨wr.heap.size, 0, none⟩ (.int .i64 5)).setCell ⟨wr.heap.size, 1, none⟩ (.int .i64 1)).setCell ⟨wr.heap.size, 2, none⟩ (.int .i64 0)).setCell ⟨wr.heap.size, 3, none⟩ (.int .i64 0)).setCell ⟨wr.heap.size, 4, none⟩ (.int .i64 0)).setCell ⟨wr.heap.size, 5, none⟩ (.int .i64 0)).setCell ⟨wr.heap.size, 6, none⟩ (.slice iaa l2.length icpa)) = w8a at *
       obtain ⟨Ia, hIe⟩ : ∃ Ia, Ia = wr.heap.size := ⟨_, rfl⟩
       have hIba : wr.heap.size ≤ Ia := by omega
       rw [← hIe] at hi8a hFz ⊢
       clear hIe)
  all_goals
    have hX8a : Below wr.heap.size wr w8a := hX9.trans (hFz.toBelow hX9.size (fun k h => by omega))
    clear x0 x1 x2 x3 x4 x5 x6 y0 y1 y2 y3 y4 y5 y6 z0 z1 z2 z3 z4 z5 z6 KHa hFz hX9 hX7 hB9 hB7 hPE hHN n1 n2 n3 n4 GA1 GD1 hHz
    try clear hz9 hN9 q0 q1 q2 q3 q4 q5 q6 fq
    try clear hz7
    have hH7 := (hX8a.block _ hHlt).trans hH
    have hHG7 := hHG.below hX8a
    have hA7 := bel2 hA hX8a
    clear hX8a hHG hA hH
    have KA := Lib.hid (fun W' (hW : Below w8a.heap.size w8a W') => And.intro (cells7 ((hW.block _ (heap_lt hH7)).trans hH7)) (cells7 ((hW.block _ (heap_lt hi8a)).trans hi8a)))
    obtain ⟨⟨x0, x1, x2, x3, x4, x5, x6, -⟩, ⟨y0, y1, y2, y3, y4, y5, y6, -⟩⟩ := KA.out _ (Below.refl _ _)
    go_wp2_with (first
      | (go_at_call 25; ((with_reducible refine (GL2.out _ _ _ hHIa).mono ?_); rintro e w10 ⟨rfl, hB10⟩; clear x0 x1 x2 x3 x4 x5 x6 y0 y1 y2 y3 y4 y5 y6; obtain ⟨⟨x0, x1, x2, x3, x4, x5, x6, -⟩, ⟨y0, y1, y2, y3, y4, y5, y6, -⟩⟩ := KA.out _ hB10))
      | (go_at_call 25; ((with_reducible refine (GL1.out _ _ _ (hHG7.below hB10)).mono ?_); rintro e w11 ⟨rfl, hB11⟩; have hB12 := bel2 hB10 hB11; clear x0 x1 x2 x3 x4 x5 x6 y0 y1 y2 y3 y4 y5 y6)))
    clear GL1 hH7 hHG7 hB10 hB11 tl
    go_loopw [16, 17, 18, 19] (fun g9 _ _ _ wr => ∃ j : Nat, 1 ≤ j ∧ (j : Int) ≤ ((m : Int) % (((n : Int) % 12 + 1) + 1) + 1) + ((q : Int) % 6 + 1) ∧ g9 = .int .i64 j ∧ Below w8a.heap.size w8a wr) (fun g9 _ _ _ _ => 30 - (intOf g9).toNat)
    case atStart => exact ⟨1, by omega, by omega, rfl, hB12⟩
    case round =>
      clear hB12
      obtain ⟨j, hj1, hj2, rfl, hB⟩ := hrel
      obtain ⟨-, y0, y1, y2, y3, y4, y5, y6, -⟩ := KA.out _ hB
      by_cases hlt : (j : Int) ≤ ((m : Int) % (((n : Int) % 12 + 1) + 1) + 1) + ((q : Int) % 6 + 1) - 1
      · by_cases hji : (j : Int) < ((m : Int) % (((n : Int) % 12 + 1) + 1) + 1)
        · have hTm := Lib.hid (fun W hg => GT.out (j : Int) (by omega) hlt (j : Int) (if_pos hji) iaa icpa W hg)
          go_wp2_with (first
            | (go_at_call 25; ((with_reducible refine (GL2.out _ _ _ (hHIa.below hB)).mono ?_); rintro e w13 ⟨rfl, hB13⟩; have hB14 := bel2 hB hB13; clear y0 y1 y2 y3 y4 y5 y6; obtain ⟨-, y0, y1, y2, y3, y4, y5, y6, -⟩ := KA.out _ hB14))
            | (go_at_call 27; ((with_reducible refine (hTm.out _ (hHIa.below hB14)).mono ?_); rintro e w15 ⟨rfl, hB15⟩; have hB16 := bel2 hB14 hB15; clear y0 y1 y2 y3 y4 y5 y6)))
          go_roundw
          case rel => exact ⟨j + 1, by omega, by push_cast; omega, by go_num, hB16⟩
          case measure => simp [intOf]; omega
        · have hTm := Lib.hid (fun W hg => GT.out (j : Int) (by omega) hlt ((t9 : Int) + 50) (if_neg hji) iaa icpa W hg)
          replace hji : ((m : Int) % (((n : Int) % 12 + 1) + 1) + 1) ≤ (j : Int) := by omega
          go_wp2_with (first
            | (go_at_call 25; ((with_reducible refine (GL2.out _ _ _ (hHIa.below hB)).mono ?_); rintro e w13 ⟨rfl, hB13⟩; have hB14 := bel2 hB hB13; clear y0 y1 y2 y3 y4 y5 y6; obtain ⟨-, y0, y1, y2, y3, y4, y5, y6, -⟩ := KA.out _ hB14))
            | (go_at_call 27; ((with_reducible refine (hTm.out _ (hHIa.below hB14)).mono ?_); rintro e w15 ⟨rfl, hB15⟩; have hB16 := bel2 hB14 hB15; clear y0 y1 y2 y3 y4 y5 y6)))
          go_roundw
          case rel => exact ⟨j + 1, by omega, by push_cast; omega, by go_num, hB16⟩
          case measure => simp [intOf]; omega
      · replace hlt : ((m : Int) % (((n : Int) % 12 + 1) + 1) + 1) + ((q : Int) % 6 + 1) - 1 < (j : Int) := by omega
        go_wp2_with (go_at_call 25; ((with_reducible refine (GL2.out _ _ _ (hHIa.below hB)).mono ?_); rintro e w13 ⟨rfl, hB13⟩))
        go_ret
        exact ⟨rfl, bel2 (bel2 hA7 hB) hB13⟩

theorem walk (n : Nat) (hn : n < 256) (m : Nat) (hm : m < 256) (q : Nat) (hq : q < 256) (t9 : Nat) (ht : t9 < 65536) (w : World) : Calls Try.prog 7 #[.int .u8 n, .int .u8 m, .int .u8 q, .int .u16 t9] w fun e w' => e = .returned (.bool true) ∧ Below w.heap.size w w' := conflicts n m q t9 hn hm hq ht w

set_option maxRecDepth 100000 in
theorem lifted (os : Os) (started : os.Started) (H : Type) (enc : TypeId × Value → H) :
    ReturnsInHanded {} Try.checked os 7 .any (Rows.groupConflictsSpec.pre6 enc Try.prog Try.f7 Rows.groupConflictsRow.domain false) (Rows.groupConflictsSpec.post enc Try.prog Try.f7 false true false false) := by
  refine returnsInHanded_of_change (C := Try.checked) Try.own started (by kernel_rfl) Try.func7
    (ChangeSpec.witness6 (enc := enc) (C := Try.checked) false ⟨#[], #[.int .u8 0, .int .u8 0, .int .u8 0, .int .u16 0], []⟩ 8 (by kernel_rfl) (by kernel_rfl) (by kernel_rfl) (by kernel_rfl)) ?_
  intro W base args ds gs before hval hW _ _
  refine law_contract (T := 4) (n := 4) Try.laid Try.underlying4 rfl rfl ⟨rfl, fun H ds h => by match ds, h with | [_, _, _, _], _ => rfl⟩ (of_all (by kernel_rfl)) hW ?_
  intro ps hA
  rw [Try.params7] at hA hval
  obtain ⟨v0, vs0, d0, ds0, p0, q0, hargs, rfl, rfl, h0, r0⟩ := trodAll_cons hA
  obtain ⟨v1, vs1, d1, ds1, p1, q1, rfl, rfl, rfl, h1, r1⟩ := trodAll_cons r0
  obtain ⟨v2, vs2, d2, ds2, p2, q2, rfl, rfl, rfl, h2, r2⟩ := trodAll_cons r1
  obtain ⟨v3, vs3, d3, ds3, p3, q3, rfl, rfl, rfl, h3, r3⟩ := trodAll_cons r2
  obtain ⟨rfl, rfl, rfl⟩ := trodAll_nil r3
  obtain rfl : args = #[v0, v1, v2, v3] := by cases args; simp_all
  obtain ⟨a0, rfl, rfl, rfl, w0⟩ := open_int Try.underlying5 (hval 0 5 v0 rfl rfl) h0
  obtain ⟨a1, rfl, rfl, rfl, w1⟩ := open_int Try.underlying5 (hval 1 5 v1 rfl rfl) h1
  obtain ⟨a2, rfl, rfl, rfl, w2⟩ := open_int Try.underlying5 (hval 2 5 v2 rfl rfl) h2
  obtain ⟨a3, rfl, rfl, rfl, w3⟩ := open_int Try.underlying58 (hval 3 58 v3 rfl rfl) h3
  obtain ⟨n0, rfl, b0⟩ := nat_of_u8 w0
  obtain ⟨n1, rfl, b1⟩ := nat_of_u8 w1
  obtain ⟨n2, rfl, b2⟩ := nat_of_u8 w2
  obtain ⟨n3, rfl, b3⟩ := nat_of_u16 w3
  exact walk n0 b0 n1 b1 n2 b2 n3 b3 W

theorem holds : Rows.GroupConflictsSaid :=
  OpenClaim.holds_of_wide 7 Try.f7 rfl rfl rfl rfl rfl rfl rfl ⟨rfl, rfl, rfl, rfl, rfl⟩ rfl rfl rfl rfl rfl (by kernel_rfl) Try.func7 (by kernel_rfl)
    (of_decide_eq_true (by kernel_rfl)) (by unfold Func.isWrapper; first | (rw [if_pos (by decide +kernel)]; kernel_rfl) | (rw [if_neg (by decide +kernel)]; exact ⟨rfl, rfl⟩))
    (fun os started H enc _ => lifted os started H enc)

end Go.Proofs.Ytfmcebmkclaafaa.groupConflicts
