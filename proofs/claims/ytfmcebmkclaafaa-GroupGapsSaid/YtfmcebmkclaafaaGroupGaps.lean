/- Law GroupGaps: for every input the call answers true; its arguments read as they did. No condition. -/
import Derived.Test.YtfmcebmkclaafaaLaw
import Derived.Test.YtfmcebmkclaafaaKnown6
import Derived.Test.YtfmcebmkclaafaaGrown6
namespace Go.Proofs.Ytfmcebmkclaafaa.groupGaps
open Go.ChangeShapes Go.WideShapes Go.ChangeAt Go.RowKit Go.Shelf
open Go.ChangeMaps (open_string shut_string)
set_option linter.unusedVariables false
attribute [local go_sem] Oper.semAt_some wide_fn wide_round_fn

attribute [local irreducible] wpQuiet
set_option maxRecDepth 100000 in
set_option maxHeartbeats 4000000 in
theorem gap_1 (n i : Nat) (hn : n < 256) (hi : i < 65536) (w : World) : Calls Try.prog 11 #[.int .u8 n, .int .u16 i, .bool false] w fun e w' => e = .returned (.bool true) ∧ Below w.heap.size w w' := by
  have GK := Lib.hid group_known
  have GG := Lib.hid (fun W => grown_any 5 ⟨by omega, by omega⟩ (n % 10 + 1) (by omega) W)
  rw [show ((n % 10 + 1 : Nat) : Int) = ((n : Int) % 10 + 1) by omega] at GG
  have hKb : 1 ≤ ((n : Int) % 10 + 1) ∧ ((n : Int) % 10 + 1) ≤ 10 := by omega
  obtain ⟨k, hk⟩ : ∃ k, k = n % 10 + 1 := ⟨_, rfl⟩
  rw [← hk] at GG
  have hk10 : k ≤ 10 := by omega
  have HLK := Lib.hid (show (1 : Int) - 1 + ((grL k).length : Int) = ((n : Int) % 10 + 1) by rw [grL_len]; omega)
  clear hk
  have hIG := gr_isG (id := 5) ⟨by omega, by omega⟩ (k := k) (by omega)
  unfold GrownPost at GG
  generalize grL k = l at *
  go_enter Try.func11, Try.ntmps11
  go_wp2_with (first
    | (go_at_call 12; ((with_reducible refine (GK.out _).mono ?_); rintro e w1 ⟨rfl, hB1⟩))
    | (go_at_call 33; ((with_reducible refine (GG.out _).mono ?_); rintro e w2 ⟨a, cap, rfl, hHG, hB2, -⟩)))
  have hblk := World.alloc_heap_new w2 (.cells #[.int .i64 5, .int .i64 1, .int .i64 0, .int .i64 0, .int .i64 0, .int .i64 0, .slice a l.length cap] 26)
  have hA : Below w.heap.size w (w2.alloc (.cells #[.int .i64 5, .int .i64 1, .int .i64 0, .int .i64 0, .int .i64 0, .int .i64 0, .slice a l.length cap] 26)) := bel2 (bel2 hB1 hB2) (bel_alloc (Below.refl _ _) _)
  replace hHG := hHG.below (bel_alloc (Below.refl w2.heap.size w2) (.cells #[.int .i64 5, .int .i64 1, .int .i64 0, .int .i64 0, .int .i64 0, .int .i64 0, .slice a l.length cap] 26))
  have HLL := HLK
  clear hB1 hB2
  generalize (w2.alloc (.cells #[.int .i64 5, .int .i64 1, .int .i64 0, .int .i64 0, .int .i64 0, .int .i64 0, .slice a l.length cap] 26)) = wr at *
  obtain ⟨G, hGe⟩ : ∃ G, G = w2.heap.size := ⟨_, rfl⟩
  rw [← hGe] at hblk ⊢
  have hGlt := heap_lt hblk
  clear hGe
  have HIS := Lib.hid (fun (pa : Option Addr) (pcap : Nat) => app_is (id := 5) (i := ((i : Int) + 1)) (t := 9) (n := 1) pa pcap (by omega) (by omega) (by omega) (by omega) (by omega) (by omega))
  have HCK := Lib.hid (fun (pa : Option Addr) (pcap : Nat) => (show chkG ⟨5, 1, 0, 0, 0, 0, l⟩ (⟨5, 1, pa, 1, pcap, 0, 0, 0, 0, 0, false, false⟩ : PartC) (appL ((i : Int) + 1) 9 1) = chkA ⟨5, 1, 0, 0, 0, 0, l⟩ ((i : Int) + 1) from by unfold chkG; rw [if_neg (by rw [HIS.out]; simp), if_pos rfl, app_head (by omega)]))
  have GA := Lib.hid (fun W => (show Calls Try.prog 34 #[.int .i64 5, .int .i64 ((i : Int) + 1), .int .i64 9, .int .i64 1] W (AppPost W 5 ((i : Int) + 1) 9 1) from app_any 5 ((i : Int) + 1) 9 1 (by omega) (by omega) (by omega) W))
  have GC := Lib.hid (fun W pa pcap (hb : Below wr.heap.size wr W) (hp : HasE W (⟨5, 1, pa, 1, pcap, 0, 0, 0, 0, 0, false, false⟩ : PartC) (appL ((i : Int) + 1) 9 1)) => (show Gives Try.prog 24 #[.agg #[.int .i64 5, .int .i64 1, .int .i64 0, .int .i64 0, .int .i64 0, .int .i64 0, .slice a l.length cap], .agg #[.int .i64 5, .int .i64 1, .slice pa 1 pcap, .int .i64 0, .int .i64 0, .int .i64 0, .int .i64 0, .int .i64 0, .bool false, .bool false]] W (.int .i64 (chkA ⟨5, 1, 0, 0, 0, 0, l⟩ ((i : Int) + 1))) from by have := chk_any 5 1 0 0 0 0 l a cap 5 1 pa 1 pcap 0 0 0 0 0 false false (appL ((i : Int) + 1) 9 1) W (hHG.below hb) hIG hp; rwa [HCK.out] at this))
  have GL := Lib.hid (fun W (hb : Below wr.heap.size wr W) => (show Gives Try.prog 25 #[.agg #[.int .i64 5, .int .i64 1, .int .i64 0, .int .i64 0, .int .i64 0, .int .i64 0, .slice a l.length cap]] W (.int .i64 ((n : Int) % 10 + 1)) from by have := last_any 5 1 0 0 0 0 l a cap W (hHG.below hb) hIG; rwa [show (1 : Int) - 1 + (l.length : Int) = ((n : Int) % 10 + 1) from HLL.out] at this))
  have KH := Lib.hid (fun W' (hW : Below wr.heap.size wr W') => cells7 ((hW.block _ hGlt).trans hblk))
  clear hHG hIG HIS HCK
  obtain ⟨x0, x1, x2, x3, x4, x5, x6, -⟩ := cells7 hblk
  have t0 : ¬ ((i : Int) + 1) < 1 := by omega
  by_cases t1 : ((n : Int) % 10 + 1) + 1 < ((i : Int) + 1)
  · have hcv : chkA ⟨5, 1, 0, 0, 0, 0, l⟩ ((i : Int) + 1) = 14 := by unfold chkA lastG; dsimp only; rw [if_neg (by omega), if_pos (by have := HLL.out; omega)]
    rw [hcv] at GC
    clear hcv
    go_wp2
    go_region_held3 (fun W' => W'.cell? ⟨G, 0, none⟩ = some (.int .i64 5) ∧ W'.cell? ⟨G, 1, none⟩ = some (.int .i64 1) ∧ W'.cell? ⟨G, 2, none⟩ = some (.int .i64 0) ∧ W'.cell? ⟨G, 3, none⟩ = some (.int .i64 0) ∧ W'.cell? ⟨G, 4, none⟩ = some (.int .i64 0) ∧ W'.cell? ⟨G, 5, none⟩ = some (.int .i64 0) ∧ W'.cell? ⟨G, 6, none⟩ = some (.slice a l.length cap)) (go_keep) (first
      | (go_at_call 34; ((with_reducible refine (GA.out _).mono ?_); rintro e w7 ⟨pa, pcap, rfl, hPE, hB7, -⟩; have hX7 : Below wr.heap.size wr w7 := (by first | exact hB7 | exact bel2 (Below.refl _ _).drew hB7); obtain ⟨z0, z1, z2, z3, z4, z5, z6, -⟩ := KH.out w7 hX7))
      | (go_at_call 24; ((with_reducible refine (GC.out _ _ _ ?hb ?hp).mono ?_); (case hb => first | exact hX7 | exact hX7.drew); (case hp => first | exact hPE | exact hPE.below (Below.refl _ _).drew); rintro e w8 ⟨rfl, hB8⟩; have hX8 : Below wr.heap.size wr w8 := (by first | exact bel2 hX7 hB8 | exact bel2 hX7.drew hB8); obtain ⟨y0, y1, y2, y3, y4, y5, y6, -⟩ := KH.out w8 hX8)))
    all_goals
      try clear x0 x1 x2 x3 x4 x5 x6 z0 z1 z2 z3 z4 z5 z6
      go_wp2_with (go_at_call 25; ((with_reducible refine (GL.out _ hX8).mono ?_); rintro e w9 ⟨rfl, hB9⟩; have hX9 := bel2 hX8 hB9))
      go_ret
      exact ⟨by simp, bel2 hA hX9⟩
  · have hcv : chkA ⟨5, 1, 0, 0, 0, 0, l⟩ ((i : Int) + 1) = 0 := by unfold chkA lastG; dsimp only; rw [if_neg (by omega), if_neg (by have := HLL.out; omega)]
    rw [hcv] at GC
    clear hcv
    go_wp2
    go_region_held3 (fun W' => W'.cell? ⟨G, 0, none⟩ = some (.int .i64 5) ∧ W'.cell? ⟨G, 1, none⟩ = some (.int .i64 1) ∧ W'.cell? ⟨G, 2, none⟩ = some (.int .i64 0) ∧ W'.cell? ⟨G, 3, none⟩ = some (.int .i64 0) ∧ W'.cell? ⟨G, 4, none⟩ = some (.int .i64 0) ∧ W'.cell? ⟨G, 5, none⟩ = some (.int .i64 0) ∧ W'.cell? ⟨G, 6, none⟩ = some (.slice a l.length cap)) (go_keep) (first
      | (go_at_call 34; ((with_reducible refine (GA.out _).mono ?_); rintro e w7 ⟨pa, pcap, rfl, hPE, hB7, -⟩; have hX7 : Below wr.heap.size wr w7 := (by first | exact hB7 | exact bel2 (Below.refl _ _).drew hB7); obtain ⟨z0, z1, z2, z3, z4, z5, z6, -⟩ := KH.out w7 hX7))
      | (go_at_call 24; ((with_reducible refine (GC.out _ _ _ ?hb ?hp).mono ?_); (case hb => first | exact hX7 | exact hX7.drew); (case hp => first | exact hPE | exact hPE.below (Below.refl _ _).drew); rintro e w8 ⟨rfl, hB8⟩; have hX8 : Below wr.heap.size wr w8 := (by first | exact bel2 hX7 hB8 | exact bel2 hX7.drew hB8); obtain ⟨y0, y1, y2, y3, y4, y5, y6, -⟩ := KH.out w8 hX8)))
    all_goals
      try clear x0 x1 x2 x3 x4 x5 x6 z0 z1 z2 z3 z4 z5 z6
      go_wp2_with (go_at_call 25; ((with_reducible refine (GL.out _ hX8).mono ?_); rintro e w9 ⟨rfl, hB9⟩; have hX9 := bel2 hX8 hB9))
      go_ret
      exact ⟨by simp, bel2 hA hX9⟩

theorem snap_do {l : List EntryC} (hd : denseB l 1 = true) (hl : l.length ≤ 10) :
    chkG ⟨5, 1, 0, 0, 0, 0, l⟩ ⟨5, 4, none, 0, 0, 0, 0, 0, 40, 1, false, false⟩ [] = 0 ∧ doG ⟨5, 1, 0, 0, 0, 0, l⟩ ⟨5, 4, none, 0, 0, 0, 0, 0, 40, 1, false, false⟩ [] = ⟨5, 41, 1, 0, 0, 0, []⟩ := by
  have hI : isB ⟨5, 4, none, 0, 0, 0, 0, 0, 40, 1, false, false⟩ [] = true := (isB_iff _ _).2 ⟨by simp, .inr (.inr (.inr (.inl ⟨rfl, rfl, rfl, rfl, rfl, rfl, rfl, rfl, rfl⟩)))⟩
  have hc : chkG ⟨5, 1, 0, 0, 0, 0, l⟩ ⟨5, 4, none, 0, 0, 0, 0, 0, 40, 1, false, false⟩ [] = 0 := by
    unfold chkG
    rw [if_neg (by rw [hI]; simp), if_neg (by simp), if_neg (by simp), if_pos rfl, if_neg (by simp)]
  refine ⟨hc, ?_⟩
  unfold doG
  rw [hc, if_neg (by simp), if_neg (by simp), if_neg (by simp), if_neg (by simp)]
  dsimp only
  rw [entT_dense hd, dif_neg (by omega), if_pos (by decide), btw_none hd ⟨by decide, by decide⟩]
  rfl
set_option maxRecDepth 100000 in
set_option maxHeartbeats 4000000 in
theorem gap_2 (n i : Nat) (hn : n < 256) (hi : i < 65536) (w : World) : Calls Try.prog 11 #[.int .u8 n, .int .u16 i, .bool true] w fun e w' => e = .returned (.bool true) ∧ Below w.heap.size w w' := by
  have GK := Lib.hid group_known
  have GG := Lib.hid (fun W => grown_any 5 ⟨by omega, by omega⟩ (n % 10 + 1) (by omega) W)
  rw [show ((n % 10 + 1 : Nat) : Int) = ((n : Int) % 10 + 1) by omega] at GG
  have hKb : 1 ≤ ((n : Int) % 10 + 1) ∧ ((n : Int) % 10 + 1) ≤ 10 := by omega
  obtain ⟨k, hk⟩ : ∃ k, k = n % 10 + 1 := ⟨_, rfl⟩
  rw [← hk] at GG
  have hk10 : k ≤ 10 := by omega
  have HLK := Lib.hid (show (1 : Int) - 1 + ((grL k).length : Int) = ((n : Int) % 10 + 1) by rw [grL_len]; omega)
  clear hk
  have hIG := gr_isG (id := 5) ⟨by omega, by omega⟩ (k := k) (by omega)
  have hD := grL_dense k (by omega)
  have hL10 : (grL k).length ≤ 10 := by rw [grL_len]; exact hk10
  unfold GrownPost at GG
  generalize grL k = l at *
  have GD := Lib.hid (fun a cap W (hg : HasG W a ⟨5, 1, 0, 0, 0, 0, l⟩) => (show Calls Try.prog 22 #[.agg #[.int .i64 5, .int .i64 1, .int .i64 0, .int .i64 0, .int .i64 0, .int .i64 0, .slice a l.length cap], .agg #[.int .i64 5, .int .i64 4, .slice none 0 0, .int .i64 0, .int .i64 0, .int .i64 0, .int .i64 40, .int .i64 1, .bool false, .bool false]] W (fun e w' => ∃ ha hcp, e = .returned (.tuple #[.agg #[.int .i64 5, .int .i64 41, .int .i64 1, .int .i64 0, .int .i64 0, .int .i64 0, .slice ha 0 hcp], .int .i64 0]) ∧ HasG w' ha ⟨5, 41, 1, 0, 0, 0, []⟩ ∧ Below W.heap.size W w' ∧ ∀ b, inBlkE ha 0 b → W.heap.size ≤ b) from by
    have := do_any 5 1 0 0 0 0 l a cap 5 4 none 0 0 0 0 0 40 1 false false [] W hg hIG (hasE_nil rfl rfl) (by omega)
    rw [(snap_do hD hL10).1, (snap_do hD hL10).2] at this
    exact this))
  clear hIG hD hL10
  have hIG : isG ⟨5, 41, 1, 0, 0, 0, []⟩ = true := by rfl
  go_enter Try.func11, Try.ntmps11
  go_wp2_with (first
    | (go_at_call 12; ((with_reducible refine (GK.out _).mono ?_); rintro e w1 ⟨rfl, hB1⟩))
    | (go_at_call 33; ((with_reducible refine (GG.out _).mono ?_); rintro e w2 ⟨a, cap, rfl, hHG, hB2, -⟩))
    | (go_at_call 22; ((with_reducible refine (GD.out _ _ _ (hHG.below (bel_alloc (Below.refl w2.heap.size w2) (.cells #[.int .i64 5, .int .i64 1, .int .i64 0, .int .i64 0, .int .i64 0, .int .i64 0, .slice a l.length cap] 26)))).mono ?_); rintro e w3 ⟨ha, hcp, rfl, hHH, hB3, hHN⟩; have hblk2 := (hB3.block _ (by simp)).trans (World.alloc_heap_new w2 (.cells #[.int .i64 5, .int .i64 1, .int .i64 0, .int .i64 0, .int .i64 0, .int .i64 0, .slice a l.length cap] 26)); have hA3 := bel_alloc (Below.refl w3.heap.size w3) (.cells #[.int .i64 5, .int .i64 41, .int .i64 1, .int .i64 0, .int .i64 0, .int .i64 0, .slice ha 0 hcp] 26); have hblk3 := (hA3.block _ (heap_lt hblk2)).trans hblk2; obtain ⟨g0, g1, g2, g3, g4, g5, g6, fg⟩ := cells7 hblk2; obtain ⟨u0, u1, u2, u3, u4, u5, u6, fu⟩ := cells7 hblk3; obtain ⟨v0, v1, v2, v3, v4, v5, v6, -⟩ := cells7 (World.alloc_heap_new w3 (.cells #[.int .i64 5, .int .i64 41, .int .i64 1, .int .i64 0, .int .i64 0, .int .i64 0, .slice ha 0 hcp] 26)); have hne : w2.heap.size ≠ w3.heap.size := (by have := heap_lt hblk2; omega); have hne2 : w3.heap.size ≠ w2.heap.size := (by have := heap_lt hblk2; omega))))
  have hq := st7_block hblk3 (.int .i64 5) (.int .i64 41) (.int .i64 1) (.int .i64 0) (.int .i64 0) (.int .i64 0) (.slice ha 0 hcp)
  have hF := st7_frame (w3.alloc (.cells #[.int .i64 5, .int .i64 41, .int .i64 1, .int .i64 0, .int .i64 0, .int .i64 0, .slice ha 0 hcp] 26)) w2.heap.size (.int .i64 5) (.int .i64 41) (.int .i64 1) (.int .i64 0) (.int .i64 0) (.int .i64 0) (.slice ha 0 hcp)
  have hHG2 : HasG (st7 (w3.alloc (.cells #[.int .i64 5, .int .i64 41, .int .i64 1, .int .i64 0, .int .i64 0, .int .i64 0, .slice ha 0 hcp] 26)) w2.heap.size (.int .i64 5) (.int .i64 41) (.int .i64 1) (.int .i64 0) (.int .i64 0) (.int .i64 0) (.slice ha 0 hcp)) ha ⟨5, 41, 1, 0, 0, 0, []⟩ := hasG_nil _ _ _ _ _ _ _ _
  have hA : Below w.heap.size w (st7 (w3.alloc (.cells #[.int .i64 5, .int .i64 41, .int .i64 1, .int .i64 0, .int .i64 0, .int .i64 0, .slice ha 0 hcp] 26)) w2.heap.size (.int .i64 5) (.int .i64 41) (.int .i64 1) (.int .i64 0) (.int .i64 0) (.int .i64 0) (.slice ha 0 hcp)) := (bel2 (bel2 (bel2 (bel2 hB1 hB2) (bel_alloc (Below.refl _ _) _)) hB3) hA3).trans (hF.toBelow (bel2 (bel2 (bel2 (bel2 hB1 hB2) (bel_alloc (Below.refl _ _) _)) hB3) hA3).size (fun b h => by have h1 := hB1.size; have h2 := hB2.size; omega))
  simp only [st7] at hq hHG2 hA
  have HLL := Lib.hid (show (41 : Int) - 1 + (([] : List EntryC).length : Int) = 40 from rfl)
  have hblk := hq
  clear hHG
  have hHG := hHG2
  clear hq hHG2 hF hblk2 hblk3 hA3 g0 g1 g2 g3 g4 g5 g6 fg u0 u1 u2 u3 u4 u5 u6 fu v0 v1 v2 v3 v4 v5 v6 hne hne2 hB1 hB2 hB3 hHH hHN HLK GD
  generalize ((((((((w3.alloc (.cells #[.int .i64 5, .int .i64 41, .int .i64 1, .int .i64 0, .int .i64 0, .int .i64 0, .slice ha 0 hcp] 26)).setCell ⟨w2.heap.size, 0, none⟩ (.int .i64 5)).setCell ⟨w2.heap.size, 1, none⟩ (.int .i64 41)).setCell ⟨w2.heap.size, 2, none⟩ (.int .i64 1)).setCell ⟨w2.heap.size, 3, none⟩ (.int .i64 0)).setCell ⟨w2.heap.size, 4, none⟩ (.int .i64 0)).setCell ⟨w2.heap.size, 5, none⟩ (.int .i64 0)).setCell ⟨w2.heap.size, 6, none⟩ (.slice ha 0 hcp)) = wr at *
  obtain ⟨G, hGe⟩ : ∃ G, G = w2.heap.size := ⟨_, rfl⟩
  rw [← hGe] at hblk ⊢
  have hGlt := heap_lt hblk
  clear hGe
  have HIS := Lib.hid (fun (pa : Option Addr) (pcap : Nat) => app_is (id := 5) (i := ((i : Int) + 1)) (t := 9) (n := 1) pa pcap (by omega) (by omega) (by omega) (by omega) (by omega) (by omega))
  have HCK := Lib.hid (fun (pa : Option Addr) (pcap : Nat) => (show chkG ⟨5, 41, 1, 0, 0, 0, ([] : List EntryC)⟩ (⟨5, 1, pa, 1, pcap, 0, 0, 0, 0, 0, false, false⟩ : PartC) (appL ((i : Int) + 1) 9 1) = chkA ⟨5, 41, 1, 0, 0, 0, ([] : List EntryC)⟩ ((i : Int) + 1) from by unfold chkG; rw [if_neg (by rw [HIS.out]; simp), if_pos rfl, app_head (by omega)]))
  have GA := Lib.hid (fun W => (show Calls Try.prog 34 #[.int .i64 5, .int .i64 ((i : Int) + 1), .int .i64 9, .int .i64 1] W (AppPost W 5 ((i : Int) + 1) 9 1) from app_any 5 ((i : Int) + 1) 9 1 (by omega) (by omega) (by omega) W))
  have GC := Lib.hid (fun W pa pcap (hb : Below wr.heap.size wr W) (hp : HasE W (⟨5, 1, pa, 1, pcap, 0, 0, 0, 0, 0, false, false⟩ : PartC) (appL ((i : Int) + 1) 9 1)) => (show Gives Try.prog 24 #[.agg #[.int .i64 5, .int .i64 41, .int .i64 1, .int .i64 0, .int .i64 0, .int .i64 0, .slice ha 0 hcp], .agg #[.int .i64 5, .int .i64 1, .slice pa 1 pcap, .int .i64 0, .int .i64 0, .int .i64 0, .int .i64 0, .int .i64 0, .bool false, .bool false]] W (.int .i64 (chkA ⟨5, 41, 1, 0, 0, 0, ([] : List EntryC)⟩ ((i : Int) + 1))) from by have := chk_any 5 41 1 0 0 0 ([] : List EntryC) ha hcp 5 1 pa 1 pcap 0 0 0 0 0 false false (appL ((i : Int) + 1) 9 1) W (hHG.below hb) hIG hp; rwa [HCK.out] at this))
  have GL := Lib.hid (fun W (hb : Below wr.heap.size wr W) => (show Gives Try.prog 25 #[.agg #[.int .i64 5, .int .i64 41, .int .i64 1, .int .i64 0, .int .i64 0, .int .i64 0, .slice ha 0 hcp]] W (.int .i64 40) from by have := last_any 5 41 1 0 0 0 ([] : List EntryC) ha hcp W (hHG.below hb) hIG; rwa [show (41 : Int) - 1 + (([] : List EntryC).length : Int) = 40 from HLL.out] at this))
  have KH := Lib.hid (fun W' (hW : Below wr.heap.size wr W') => cells7 ((hW.block _ hGlt).trans hblk))
  clear hHG hIG HIS HCK
  obtain ⟨x0, x1, x2, x3, x4, x5, x6, -⟩ := cells7 hblk
  by_cases t0 : ((i : Int) + 1) < 41
  · have hcv : chkA ⟨5, 41, 1, 0, 0, 0, ([] : List EntryC)⟩ ((i : Int) + 1) = 15 := by unfold chkA lastG; dsimp only; rw [if_pos (by omega)]
    rw [hcv] at GC
    clear hcv
    go_wp2
    go_region_held3 (fun W' => W'.cell? ⟨G, 0, none⟩ = some (.int .i64 5) ∧ W'.cell? ⟨G, 1, none⟩ = some (.int .i64 41) ∧ W'.cell? ⟨G, 2, none⟩ = some (.int .i64 1) ∧ W'.cell? ⟨G, 3, none⟩ = some (.int .i64 0) ∧ W'.cell? ⟨G, 4, none⟩ = some (.int .i64 0) ∧ W'.cell? ⟨G, 5, none⟩ = some (.int .i64 0) ∧ W'.cell? ⟨G, 6, none⟩ = some (.slice ha 0 hcp)) (go_keep) (first
      | (go_at_call 34; ((with_reducible refine (GA.out _).mono ?_); rintro e w7 ⟨pa, pcap, rfl, hPE, hB7, -⟩; have hX7 : Below wr.heap.size wr w7 := (by first | exact hB7 | exact bel2 (Below.refl _ _).drew hB7); obtain ⟨z0, z1, z2, z3, z4, z5, z6, -⟩ := KH.out w7 hX7))
      | (go_at_call 24; ((with_reducible refine (GC.out _ _ _ ?hb ?hp).mono ?_); (case hb => first | exact hX7 | exact hX7.drew); (case hp => first | exact hPE | exact hPE.below (Below.refl _ _).drew); rintro e w8 ⟨rfl, hB8⟩; have hX8 : Below wr.heap.size wr w8 := (by first | exact bel2 hX7 hB8 | exact bel2 hX7.drew hB8); obtain ⟨y0, y1, y2, y3, y4, y5, y6, -⟩ := KH.out w8 hX8)))
    all_goals
      try clear x0 x1 x2 x3 x4 x5 x6 z0 z1 z2 z3 z4 z5 z6
      go_wp2_with (go_at_call 25; ((with_reducible refine (GL.out _ hX8).mono ?_); rintro e w9 ⟨rfl, hB9⟩; have hX9 := bel2 hX8 hB9))
      go_ret
      exact ⟨by simp, bel2 hA hX9⟩
  by_cases t1 : 40 + 1 < ((i : Int) + 1)
  · have hcv : chkA ⟨5, 41, 1, 0, 0, 0, ([] : List EntryC)⟩ ((i : Int) + 1) = 14 := by unfold chkA lastG; dsimp only; rw [if_neg (by omega), if_pos (by simp; omega)]
    rw [hcv] at GC
    clear hcv
    have t2 : 41 < ((i : Int) + 1) := by omega
    go_wp2
    go_region_held3 (fun W' => W'.cell? ⟨G, 0, none⟩ = some (.int .i64 5) ∧ W'.cell? ⟨G, 1, none⟩ = some (.int .i64 41) ∧ W'.cell? ⟨G, 2, none⟩ = some (.int .i64 1) ∧ W'.cell? ⟨G, 3, none⟩ = some (.int .i64 0) ∧ W'.cell? ⟨G, 4, none⟩ = some (.int .i64 0) ∧ W'.cell? ⟨G, 5, none⟩ = some (.int .i64 0) ∧ W'.cell? ⟨G, 6, none⟩ = some (.slice ha 0 hcp)) (go_keep) (first
      | (go_at_call 34; ((with_reducible refine (GA.out _).mono ?_); rintro e w7 ⟨pa, pcap, rfl, hPE, hB7, -⟩; have hX7 : Below wr.heap.size wr w7 := (by first | exact hB7 | exact bel2 (Below.refl _ _).drew hB7); obtain ⟨z0, z1, z2, z3, z4, z5, z6, -⟩ := KH.out w7 hX7))
      | (go_at_call 24; ((with_reducible refine (GC.out _ _ _ ?hb ?hp).mono ?_); (case hb => first | exact hX7 | exact hX7.drew); (case hp => first | exact hPE | exact hPE.below (Below.refl _ _).drew); rintro e w8 ⟨rfl, hB8⟩; have hX8 : Below wr.heap.size wr w8 := (by first | exact bel2 hX7 hB8 | exact bel2 hX7.drew hB8); obtain ⟨y0, y1, y2, y3, y4, y5, y6, -⟩ := KH.out w8 hX8)))
    all_goals
      try clear x0 x1 x2 x3 x4 x5 x6 z0 z1 z2 z3 z4 z5 z6
      go_wp2_with (go_at_call 25; ((with_reducible refine (GL.out _ hX8).mono ?_); rintro e w9 ⟨rfl, hB9⟩; have hX9 := bel2 hX8 hB9))
      go_ret
      exact ⟨by simp, bel2 hA hX9⟩
  · have hcv : chkA ⟨5, 41, 1, 0, 0, 0, ([] : List EntryC)⟩ ((i : Int) + 1) = 0 := by unfold chkA lastG; dsimp only; rw [if_neg (by omega), if_neg (by simp; omega)]
    rw [hcv] at GC
    clear hcv
    have t2 : ¬ 41 < ((i : Int) + 1) := by omega
    go_wp2
    go_region_held3 (fun W' => W'.cell? ⟨G, 0, none⟩ = some (.int .i64 5) ∧ W'.cell? ⟨G, 1, none⟩ = some (.int .i64 41) ∧ W'.cell? ⟨G, 2, none⟩ = some (.int .i64 1) ∧ W'.cell? ⟨G, 3, none⟩ = some (.int .i64 0) ∧ W'.cell? ⟨G, 4, none⟩ = some (.int .i64 0) ∧ W'.cell? ⟨G, 5, none⟩ = some (.int .i64 0) ∧ W'.cell? ⟨G, 6, none⟩ = some (.slice ha 0 hcp)) (go_keep) (first
      | (go_at_call 34; ((with_reducible refine (GA.out _).mono ?_); rintro e w7 ⟨pa, pcap, rfl, hPE, hB7, -⟩; have hX7 : Below wr.heap.size wr w7 := (by first | exact hB7 | exact bel2 (Below.refl _ _).drew hB7); obtain ⟨z0, z1, z2, z3, z4, z5, z6, -⟩ := KH.out w7 hX7))
      | (go_at_call 24; ((with_reducible refine (GC.out _ _ _ ?hb ?hp).mono ?_); (case hb => first | exact hX7 | exact hX7.drew); (case hp => first | exact hPE | exact hPE.below (Below.refl _ _).drew); rintro e w8 ⟨rfl, hB8⟩; have hX8 : Below wr.heap.size wr w8 := (by first | exact bel2 hX7 hB8 | exact bel2 hX7.drew hB8); obtain ⟨y0, y1, y2, y3, y4, y5, y6, -⟩ := KH.out w8 hX8)))
    all_goals
      try clear x0 x1 x2 x3 x4 x5 x6 z0 z1 z2 z3 z4 z5 z6
      go_wp2_with (go_at_call 25; ((with_reducible refine (GL.out _ hX8).mono ?_); rintro e w9 ⟨rfl, hB9⟩; have hX9 := bel2 hX8 hB9))
      go_ret
      exact ⟨by simp, bel2 hA hX9⟩

theorem walk (n : Nat) (hn : n < 256) (i : Nat) (hi : i < 65536) (s : Bool) (w : World) : Calls Try.prog 11 #[.int .u8 n, .int .u16 i, .bool s] w fun e w' => e = .returned (.bool true) ∧ Below w.heap.size w w' := by
  cases s
  · exact gap_1 n i hn hi w
  · exact gap_2 n i hn hi w

set_option maxRecDepth 100000 in
theorem lifted (os : Os) (started : os.Started) (H : Type) (enc : TypeId × Value → H) :
    ReturnsInHanded {} Try.checked os 11 .any (Rows.groupGapsSpec.pre6 enc Try.prog Try.f11 Rows.groupGapsRow.domain false) (Rows.groupGapsSpec.post enc Try.prog Try.f11 false true false false) := by
  refine returnsInHanded_of_change (C := Try.checked) Try.own started (by kernel_rfl) Try.func11
    (ChangeSpec.witness6 (enc := enc) (C := Try.checked) false ⟨#[], #[.int .u8 0, .int .u16 0, .bool false], []⟩ 8 (by kernel_rfl) (by kernel_rfl) (by kernel_rfl) (by kernel_rfl)) ?_
  intro W base args ds gs before hval hW _ _
  refine law_contract (T := 4) (n := 3) Try.laid Try.underlying4 rfl rfl ⟨rfl, fun H ds h => by match ds, h with | [_, _, _], _ => rfl⟩ (of_all (by kernel_rfl)) hW ?_
  intro ps hA
  rw [Try.params11] at hA hval
  obtain ⟨v0, vs0, d0, ds0, p0, q0, hargs, rfl, rfl, h0, r0⟩ := trodAll_cons hA
  obtain ⟨v1, vs1, d1, ds1, p1, q1, rfl, rfl, rfl, h1, r1⟩ := trodAll_cons r0
  obtain ⟨v2, vs2, d2, ds2, p2, q2, rfl, rfl, rfl, h2, r2⟩ := trodAll_cons r1
  obtain ⟨rfl, rfl, rfl⟩ := trodAll_nil r2
  obtain rfl : args = #[v0, v1, v2] := by cases args; simp_all
  obtain ⟨a0, rfl, rfl, rfl, w0⟩ := open_int Try.underlying5 (hval 0 5 v0 rfl rfl) h0
  obtain ⟨a1, rfl, rfl, rfl, w1⟩ := open_int Try.underlying58 (hval 1 58 v1 rfl rfl) h1
  obtain ⟨a2, rfl, rfl, rfl⟩ := open_bool Try.underlying4 (hval 2 4 v2 rfl rfl) h2
  obtain ⟨n0, rfl, b0⟩ := nat_of_u8 w0
  obtain ⟨n1, rfl, b1⟩ := nat_of_u16 w1
  exact walk n0 b0 n1 b1 a2 W

theorem holds : Rows.GroupGapsSaid :=
  OpenClaim.holds_of_wide 11 Try.f11 rfl rfl rfl rfl rfl rfl rfl ⟨rfl, rfl, rfl, rfl, rfl⟩ rfl rfl rfl rfl rfl (by kernel_rfl) Try.func11 (by kernel_rfl)
    (of_decide_eq_true (by kernel_rfl)) (by unfold Func.isWrapper; first | (rw [if_pos (by decide +kernel)]; kernel_rfl) | (rw [if_neg (by decide +kernel)]; exact ⟨rfl, rfl⟩))
    (fun os started H enc _ => lifted os started H enc)

end Go.Proofs.Ytfmcebmkclaafaa.groupGaps
