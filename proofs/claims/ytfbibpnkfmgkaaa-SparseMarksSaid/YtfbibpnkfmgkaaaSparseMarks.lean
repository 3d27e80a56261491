/- Law SparseMarks: for every input the call answers true; its arguments read as they did. No condition. -/
import Derived.Test.YtfbibpnkfmgkaaaLaw
import Derived.Test.YtfbibpnkfmgkaaaKnown12
import Derived.Test.YtfbibpnkfmgkaaaSprM
namespace Go.Proofs.Ytfbibpnkfmgkaaa.sparseMarks
open Go.ChangeShapes Go.WideShapes Go.ChangeAt Go.RowKit Go.Shelf
open Go.ChangeMaps (open_string shut_string)
set_option linter.unusedVariables false
attribute [local go_sem] Oper.semAt_some wide_fn wide_round_fn

set_option maxRecDepth 100000 in
set_option maxHeartbeats 4000000 in
theorem marks1 (k m q : Nat) (hk : k < 256) (hm : m < 256) (hq : q < 256) (hgt : ((m : Int) % 20 + 1) < ((q : Int) % 30 + 1)) (w : World) : Calls Try.prog 7 #[.int .u8 k, .int .u8 m, .int .u8 q] w fun e w' => e = .returned (.bool true) ∧ Below w.heap.size w w' := by
  have GK := Lib.hid spr_known
  have hk9 : 0 ≤ (k : Int) ∧ (k : Int) ≤ 999 := ⟨by omega, by omega⟩
  have hm1 : 0 ≤ (m : Int) % 20 ∧ (m : Int) % 20 < 20 := ⟨Int.emod_nonneg _ (by omega), Int.emod_lt_of_pos _ (by omega)⟩
  have hq1 : 0 ≤ (q : Int) % 30 ∧ (q : Int) % 30 < 30 := ⟨Int.emod_nonneg _ (by omega), Int.emod_lt_of_pos _ (by omega)⟩
  have hz0 : isSp ⟨(k : Int), 1, 0, 0, 0, 0, []⟩ = true := spr_new hk9 ⟨by omega, by omega⟩ ⟨by omega, by omega⟩
  have hz1 : isSp ⟨(k : Int), ((m : Int) % 20 + 1) + 1, 7, 0, 0, 0, []⟩ = true := spr_new hk9 ⟨by omega, by omega⟩ ⟨by omega, by omega⟩
  have hc0 : isB ⟨(k : Int), 3, none, 0, 0, 0, 0, 0, ((m : Int) % 20 + 1), 7, false, false⟩ [] = true := cmp_isB hk9 ⟨by omega, by omega⟩ ⟨by omega, by omega⟩
  have hd0 : doSp ⟨(k : Int), 1, 0, 0, 0, 0, []⟩ ⟨(k : Int), 3, none, 0, 0, 0, 0, 0, ((m : Int) % 20 + 1), 7, false, false⟩ [] = ⟨(k : Int), ((m : Int) % 20 + 1) + 1, 7, 0, 0, 0, []⟩ := by
    rw [doSp_3 hz0 hc0 rfl rfl]; unfold cmpG; rw [if_neg (by show ¬ ((m : Int) % 20 + 1) < 1; omega)]; rfl
  have hc1 : ∀ a cap, isB ⟨(k : Int), 6, a, 1, cap, 0, 0, 0, 0, 0, false, false⟩ [⟨((q : Int) % 30 + 1), 2, ⟨#[]⟩⟩] = true := fun a cap => fwd1_is a cap hk9 ⟨by omega, by omega⟩ ⟨by omega, by omega⟩
  have hd1 : ∀ a cap, doSp ⟨(k : Int), ((m : Int) % 20 + 1) + 1, 7, 0, 0, 0, []⟩ ⟨(k : Int), 6, a, 1, cap, 0, 0, 0, 0, 0, false, false⟩ [⟨((q : Int) % 30 + 1), 2, ⟨#[]⟩⟩] = ⟨(k : Int), ((m : Int) % 20 + 1) + 1, 7, 0, 0, 0, [⟨((q : Int) % 30 + 1), 2, ⟨#[]⟩⟩]⟩ := fun a cap => by
    rw [fwd1_do a cap hz1 rfl hk9 ⟨by omega, by omega⟩ ⟨by omega, by omega⟩]
    unfold addG mrg
    rw [show fnd [⟨((q : Int) % 30 + 1), 2, ⟨#[]⟩⟩] (((m : Int) % 20 + 1) + 1) = 0 from fnd_eq (by simp) (fun j hj => by omega) (fun j hj h => by obtain rfl : j = 0 := (by simp at hj; omega); show ((m : Int) % 20 + 1) + 1 ≤ ((q : Int) % 30 + 1); omega)]
    rfl
  have hz2 : isSp ⟨(k : Int), ((m : Int) % 20 + 1) + 1, 7, 0, 0, 0, [⟨((q : Int) % 30 + 1), 2, ⟨#[]⟩⟩]⟩ = true := by
    rw [← hd1 none 0, fwd1_do none 0 hz1 rfl hk9 ⟨by omega, by omega⟩ ⟨by omega, by omega⟩]
    exact addG_isSp hz1 (fun e he => by rw [List.mem_singleton.1 he]; unfold entryB; rw [Bool.and_eq_true, Bool.and_eq_true, wB_iff, wB_iff]; exact ⟨⟨by show 1 ≤ ((q : Int) % 30 + 1); omega, by show ((q : Int) % 30 + 1) ≤ _; omega⟩, ⟨by show (1 : Int) ≤ 2; omega, by show (2 : Int) ≤ _; omega⟩, rfl⟩) (ris_one _)
  have hc2 : isB ⟨(k : Int), 6, none, 0, 0, 0, 0, 0, ((((m : Int) % 20 + 1) + 1) / 2), 3, true, false⟩ [] = true := mrk_isB hk9 ⟨by omega, by omega⟩ ⟨by omega, by omega⟩
  have hd2 : doSp ⟨(k : Int), ((m : Int) % 20 + 1) + 1, 7, 0, 0, 0, [⟨((q : Int) % 30 + 1), 2, ⟨#[]⟩⟩]⟩ ⟨(k : Int), 6, none, 0, 0, 0, 0, 0, ((((m : Int) % 20 + 1) + 1) / 2), 3, true, false⟩ [] = ⟨(k : Int), ((m : Int) % 20 + 1) + 1, 7, 0, 0, 0, [⟨((q : Int) % 30 + 1), 2, ⟨#[]⟩⟩]⟩ := by
    rw [doSp_6 hz2 hc2 rfl rfl, addG_nil, if_neg (by simp), if_pos rfl]
    unfold cmpG
    exact if_pos (by show ((((m : Int) % 20 + 1) + 1) / 2) < ((m : Int) % 20 + 1) + 1; omega)
  have hc3 : isB ⟨(k : Int), 4, none, 0, 0, 0, 0, 0, ((m : Int) % 20 + 1) + 40, 9, false, false⟩ [] = true := snp_isB hk9 ⟨by omega, by omega⟩ ⟨by omega, by omega⟩
  have hd3 : doSp ⟨(k : Int), ((m : Int) % 20 + 1) + 1, 7, 0, 0, 0, [⟨((q : Int) % 30 + 1), 2, ⟨#[]⟩⟩]⟩ ⟨(k : Int), 4, none, 0, 0, 0, 0, 0, ((m : Int) % 20 + 1) + 40, 9, false, false⟩ [] = ⟨(k : Int), ((m : Int) % 20 + 1) + 40 + 1, 9, 0, 0, 0, []⟩ := by
    rw [doSp_4 hz2 hc3 rfl rfl]
    unfold snpG
    exact if_neg (by show ¬ ((m : Int) % 20 + 1) + 40 < ((m : Int) % 20 + 1) + 1; omega)
  have GD0 := Lib.hid (fun W => (show Calls Try.prog 12 #[.agg #[.int .i64 (k : Int), .int .i64 1, .int .i64 0, .int .i64 0, .int .i64 0, .int .i64 0, .slice none 0 0], .agg #[.int .i64 (k : Int), .int .i64 3, .slice none 0 0, .int .i64 0, .int .i64 0, .int .i64 0, .int .i64 ((m : Int) % 20 + 1), .int .i64 7, .bool false, .bool false]] W (SDoP W ⟨(k : Int), ((m : Int) % 20 + 1) + 1, 7, 0, 0, 0, []⟩) from by have := sdo_valid (k : Int) 1 0 0 0 0 [] none 0 3 none 0 0 0 0 0 ((m : Int) % 20 + 1) 7 false false [] W (hasG_nil _ _ _ _ _ _ _ _) (by simp) (hasE_nil rfl rfl) (by simp) (by simp) hz0 hc0; rwa [hd0] at this))
  have GD1 := Lib.hid (fun W a cap X (hc : 0 ≤ cap) (h : W.heap[X]? = some (.cells #[.int .i64 ((q : Int) % 30 + 1), .int .i64 2, .string ⟨#[]⟩] 38 (0, 0))) => (show Calls Try.prog 12 #[.agg #[.int .i64 (k : Int), .int .i64 (((m : Int) % 20 + 1) + 1), .int .i64 7, .int .i64 0, .int .i64 0, .int .i64 0, .slice a 0 cap], .agg #[.int .i64 (k : Int), .int .i64 6, .slice (some ⟨X, 0, none⟩) 1 1, .int .i64 0, .int .i64 0, .int .i64 0, .int .i64 0, .int .i64 0, .bool false, .bool false]] W (SDoP W ⟨(k : Int), ((m : Int) % 20 + 1) + 1, 7, 0, 0, 0, [⟨((q : Int) % 30 + 1), 2, ⟨#[]⟩⟩]⟩) from by have := sdo_valid (k : Int) (((m : Int) % 20 + 1) + 1) 7 0 0 0 [] a cap 6 (some ⟨X, 0, none⟩) 1 1 0 0 0 0 0 false false [⟨((q : Int) % 30 + 1), 2, ⟨#[]⟩⟩] W (hasG_nil _ _ _ _ _ _ _ _) hc ⟨rfl, (by decide : 1 < 1000000), by exact rowV_block (cs := #[.int .i64 ((q : Int) % 30 + 1), .int .i64 2, .string ⟨#[]⟩]) (n := 1) (sz := 3) h rfl (by decide)⟩ (by simp) (by simp) hz1 (hc1 _ _); rwa [hd1] at this))
  have GD2 := Lib.hid (fun W a cap (hg : HasG W a ⟨(k : Int), ((m : Int) % 20 + 1) + 1, 7, 0, 0, 0, [⟨((q : Int) % 30 + 1), 2, ⟨#[]⟩⟩]⟩) (hc : 1 ≤ cap) => (show Calls Try.prog 12 #[.agg #[.int .i64 (k : Int), .int .i64 (((m : Int) % 20 + 1) + 1), .int .i64 7, .int .i64 0, .int .i64 0, .int .i64 0, .slice a 1 cap], .agg #[.int .i64 (k : Int), .int .i64 6, .slice none 0 0, .int .i64 0, .int .i64 0, .int .i64 0, .int .i64 ((((m : Int) % 20 + 1) + 1) / 2), .int .i64 3, .bool true, .bool false]] W (SDoP W ⟨(k : Int), ((m : Int) % 20 + 1) + 1, 7, 0, 0, 0, [⟨((q : Int) % 30 + 1), 2, ⟨#[]⟩⟩]⟩) from by have := sdo_valid (k : Int) (((m : Int) % 20 + 1) + 1) 7 0 0 0 [⟨((q : Int) % 30 + 1), 2, ⟨#[]⟩⟩] a cap 6 none 0 0 0 0 0 ((((m : Int) % 20 + 1) + 1) / 2) 3 true false [] W hg hc (hasE_nil rfl rfl) (by simp) (by simp) hz2 hc2; rwa [hd2] at this))
  have GD3 := Lib.hid (fun W a cap (hg : HasG W a ⟨(k : Int), ((m : Int) % 20 + 1) + 1, 7, 0, 0, 0, [⟨((q : Int) % 30 + 1), 2, ⟨#[]⟩⟩]⟩) (hc : 1 ≤ cap) => (show Calls Try.prog 12 #[.agg #[.int .i64 (k : Int), .int .i64 (((m : Int) % 20 + 1) + 1), .int .i64 7, .int .i64 0, .int .i64 0, .int .i64 0, .slice a 1 cap], .agg #[.int .i64 (k : Int), .int .i64 4, .slice none 0 0, .int .i64 0, .int .i64 0, .int .i64 0, .int .i64 (((m : Int) % 20 + 1) + 40), .int .i64 9, .bool false, .bool false]] W (SDoP W ⟨(k : Int), ((m : Int) % 20 + 1) + 40 + 1, 9, 0, 0, 0, []⟩) from by have := sdo_valid (k : Int) (((m : Int) % 20 + 1) + 1) 7 0 0 0 [⟨((q : Int) % 30 + 1), 2, ⟨#[]⟩⟩] a cap 4 none 0 0 0 0 0 (((m : Int) % 20 + 1) + 40) 9 false false [] W hg hc (hasE_nil rfl rfl) (by simp) (by simp) hz2 hc3; rwa [hd3] at this))
  clear hz0 hz1 hc0 hd0 hc1 hd1 hz2 hc2 hd2 hc3 hd3
  go_enter Try.func7, Try.ntmps7
  go_wp2_with (first
    | (go_at_call 9; ((with_reducible refine (GK.out _).mono ?_); rintro e w1 ⟨rfl, hB1⟩))
    | (go_at_call 12; ((with_reducible refine (GD0.out _).mono ?_); rintro e w2 ⟨ga, gc, rfl, -, hgc, hB, -⟩; have hA := bel2 hB1 hB; clear hB; have hB := bel_alloc (Below.refl w2.heap.size w2) (.cells #[.int .i64 (k : Int), .int .i64 (((m : Int) % 20 + 1) + 1), .int .i64 7, .int .i64 0, .int .i64 0, .int .i64 0, .slice ga 0 gc] 26); have hg := World.alloc_heap_new w2 (.cells #[.int .i64 (k : Int), .int .i64 (((m : Int) % 20 + 1) + 1), .int .i64 7, .int .i64 0, .int .i64 0, .int .i64 0, .slice ga 0 gc] 26); replace hA := bel2 hA hB; obtain ⟨g0, g1, g2, g3, g4, g5, g6, -⟩ := cells7 hg; clear hB))
    | (go_at_call 12; ((with_reducible refine (GD1.out _ _ _ _ hgc (two_b w2 _ _ _ _)).mono ?_); rintro e w3 ⟨ha, hc, rfl, hG1, hhc, hB, -⟩; have hB0 := bel_alloc (Below.refl (w2.alloc (.cells #[.int .i64 (k : Int), .int .i64 (((m : Int) % 20 + 1) + 1), .int .i64 7, .int .i64 0, .int .i64 0, .int .i64 0, .slice ga 0 gc] 26)).heap.size (w2.alloc (.cells #[.int .i64 (k : Int), .int .i64 (((m : Int) % 20 + 1) + 1), .int .i64 7, .int .i64 0, .int .i64 0, .int .i64 0, .slice ga 0 gc] 26))) (.cells #[.int .i64 ((q : Int) % 30 + 1), .int .i64 2, .string ⟨#[]⟩] 38); replace hB := bel2 hB0 hB; clear g0 g1 g2 g3 g4 g5 g6; replace hA := bel2 hA hB; replace hg := (hB.block _ (heap_lt hg)).trans hg; clear hB hB0; have hB := bel_alloc (Below.refl w3.heap.size w3) (.cells #[.int .i64 (k : Int), .int .i64 (((m : Int) % 20 + 1) + 1), .int .i64 7, .int .i64 0, .int .i64 0, .int .i64 0, .slice ha 1 hc] 26); have hh := World.alloc_heap_new w3 (.cells #[.int .i64 (k : Int), .int .i64 (((m : Int) % 20 + 1) + 1), .int .i64 7, .int .i64 0, .int .i64 0, .int .i64 0, .slice ha 1 hc] 26); replace hG1 := hG1.below hB; replace hA := bel2 hA hB; replace hg := (hB.block _ (heap_lt hg)).trans hg; obtain ⟨g0, g1, g2, g3, g4, g5, g6, -⟩ := cells7 hg; obtain ⟨h0, h1, h2, h3, h4, h5, h6, -⟩ := cells7 hh; clear hB))
    | (go_at_call 12; ((with_reducible refine (GD2.out _ _ _ hG1 hhc).mono ?_); rintro e w4 ⟨ea, ec, rfl, -, -, hB, -⟩; clear g0 g1 g2 g3 g4 g5 g6 h0 h1 h2 h3 h4 h5 h6; replace hG1 := hG1.below hB; replace hA := bel2 hA hB; replace hg := (hB.block _ (heap_lt hg)).trans hg; replace hh := (hB.block _ (heap_lt hh)).trans hh; clear hB; have hB := bel_alloc (Below.refl w4.heap.size w4) (.cells #[.int .i64 (k : Int), .int .i64 (((m : Int) % 20 + 1) + 1), .int .i64 7, .int .i64 0, .int .i64 0, .int .i64 0, .slice ea 1 ec] 26); have he := World.alloc_heap_new w4 (.cells #[.int .i64 (k : Int), .int .i64 (((m : Int) % 20 + 1) + 1), .int .i64 7, .int .i64 0, .int .i64 0, .int .i64 0, .slice ea 1 ec] 26); replace hG1 := hG1.below hB; replace hA := bel2 hA hB; replace hg := (hB.block _ (heap_lt hg)).trans hg; replace hh := (hB.block _ (heap_lt hh)).trans hh; obtain ⟨g0, g1, g2, g3, g4, g5, g6, -⟩ := cells7 hg; obtain ⟨h0, h1, h2, h3, h4, h5, h6, -⟩ := cells7 hh; obtain ⟨e0, e1, e2, e3, e4, e5, e6, -⟩ := cells7 he; clear hB))
    | (go_at_call 12; ((with_reducible refine (GD3.out _ _ _ hG1 hhc).mono ?_); rintro e w5 ⟨sa, sc, rfl, -, -, hB, -⟩; clear g0 g1 g2 g3 g4 g5 g6 h0 h1 h2 h3 h4 h5 h6 e0 e1 e2 e3 e4 e5 e6; replace hA := bel2 hA hB; replace hg := (hB.block _ (heap_lt hg)).trans hg; replace hh := (hB.block _ (heap_lt hh)).trans hh; replace he := (hB.block _ (heap_lt he)).trans he; clear hB; have hB := bel_alloc (Below.refl w5.heap.size w5) (.cells #[.int .i64 (k : Int), .int .i64 (((m : Int) % 20 + 1) + 40 + 1), .int .i64 9, .int .i64 0, .int .i64 0, .int .i64 0, .slice sa 0 sc] 26); have hs := World.alloc_heap_new w5 (.cells #[.int .i64 (k : Int), .int .i64 (((m : Int) % 20 + 1) + 40 + 1), .int .i64 9, .int .i64 0, .int .i64 0, .int .i64 0, .slice sa 0 sc] 26); replace hA := bel2 hA hB; replace hg := (hB.block _ (heap_lt hg)).trans hg; replace hh := (hB.block _ (heap_lt hh)).trans hh; replace he := (hB.block _ (heap_lt he)).trans he; obtain ⟨g0, g1, g2, g3, g4, g5, g6, -⟩ := cells7 hg; obtain ⟨h0, h1, h2, h3, h4, h5, h6, -⟩ := cells7 hh; obtain ⟨e0, e1, e2, e3, e4, e5, e6, -⟩ := cells7 he; obtain ⟨s0, s1, s2, s3, s4, s5, s6, -⟩ := cells7 hs; clear hB)))
  go_ret
  exact ⟨by simp <;> omega, hA⟩

set_option maxRecDepth 100000 in
set_option maxHeartbeats 4000000 in
theorem marks0 (k m q : Nat) (hk : k < 256) (hm : m < 256) (hq : q < 256) (hgt : ((q : Int) % 30 + 1) ≤ ((m : Int) % 20 + 1)) (w : World) : Calls Try.prog 7 #[.int .u8 k, .int .u8 m, .int .u8 q] w fun e w' => e = .returned (.bool true) ∧ Below w.heap.size w w' := by
  have GK := Lib.hid spr_known
  have hk9 : 0 ≤ (k : Int) ∧ (k : Int) ≤ 999 := ⟨by omega, by omega⟩
  have hm1 : 0 ≤ (m : Int) % 20 ∧ (m : Int) % 20 < 20 := ⟨Int.emod_nonneg _ (by omega), Int.emod_lt_of_pos _ (by omega)⟩
  have hq1 : 0 ≤ (q : Int) % 30 ∧ (q : Int) % 30 < 30 := ⟨Int.emod_nonneg _ (by omega), Int.emod_lt_of_pos _ (by omega)⟩
  have hz0 : isSp ⟨(k : Int), 1, 0, 0, 0, 0, []⟩ = true := spr_new hk9 ⟨by omega, by omega⟩ ⟨by omega, by omega⟩
  have hz1 : isSp ⟨(k : Int), ((m : Int) % 20 + 1) + 1, 7, 0, 0, 0, []⟩ = true := spr_new hk9 ⟨by omega, by omega⟩ ⟨by omega, by omega⟩
  have hc0 : isB ⟨(k : Int), 3, none, 0, 0, 0, 0, 0, ((m : Int) % 20 + 1), 7, false, false⟩ [] = true := cmp_isB hk9 ⟨by omega, by omega⟩ ⟨by omega, by omega⟩
  have hd0 : doSp ⟨(k : Int), 1, 0, 0, 0, 0, []⟩ ⟨(k : Int), 3, none, 0, 0, 0, 0, 0, ((m : Int) % 20 + 1), 7, false, false⟩ [] = ⟨(k : Int), ((m : Int) % 20 + 1) + 1, 7, 0, 0, 0, []⟩ := by
    rw [doSp_3 hz0 hc0 rfl rfl]; unfold cmpG; rw [if_neg (by show ¬ ((m : Int) % 20 + 1) < 1; omega)]; rfl
  have hc1 : ∀ a cap, isB ⟨(k : Int), 6, a, 1, cap, 0, 0, 0, 0, 0, false, false⟩ [⟨((q : Int) % 30 + 1), 2, ⟨#[]⟩⟩] = true := fun a cap => fwd1_is a cap hk9 ⟨by omega, by omega⟩ ⟨by omega, by omega⟩
  have hd1 : ∀ a cap, doSp ⟨(k : Int), ((m : Int) % 20 + 1) + 1, 7, 0, 0, 0, []⟩ ⟨(k : Int), 6, a, 1, cap, 0, 0, 0, 0, 0, false, false⟩ [⟨((q : Int) % 30 + 1), 2, ⟨#[]⟩⟩] = ⟨(k : Int), ((m : Int) % 20 + 1) + 1, 7, 0, 0, 0, []⟩ := fun a cap => by
    rw [fwd1_do a cap hz1 rfl hk9 ⟨by omega, by omega⟩ ⟨by omega, by omega⟩]
    unfold addG mrg
    rw [show fnd [⟨((q : Int) % 30 + 1), 2, ⟨#[]⟩⟩] (((m : Int) % 20 + 1) + 1) = 1 from fnd_eq (by simp) (fun j hj => by obtain rfl : j = 0 := (by omega); show ((q : Int) % 30 + 1) < ((m : Int) % 20 + 1) + 1; omega) (fun j hj h => by simp at hj; omega)]
    rfl
  have hz2 : isSp ⟨(k : Int), ((m : Int) % 20 + 1) + 1, 7, 0, 0, 0, []⟩ = true := by
    rw [← hd1 none 0, fwd1_do none 0 hz1 rfl hk9 ⟨by omega, by omega⟩ ⟨by omega, by omega⟩]
    exact addG_isSp hz1 (fun e he => by rw [List.mem_singleton.1 he]; unfold entryB; rw [Bool.and_eq_true, Bool.and_eq_true, wB_iff, wB_iff]; exact ⟨⟨by show 1 ≤ ((q : Int) % 30 + 1); omega, by show ((q : Int) % 30 + 1) ≤ _; omega⟩, ⟨by show (1 : Int) ≤ 2; omega, by show (2 : Int) ≤ _; omega⟩, rfl⟩) (ris_one _)
  have hc2 : isB ⟨(k : Int), 6, none, 0, 0, 0, 0, 0, ((((m : Int) % 20 + 1) + 1) / 2), 3, true, false⟩ [] = true := mrk_isB hk9 ⟨by omega, by omega⟩ ⟨by omega, by omega⟩
  have hd2 : doSp ⟨(k : Int), ((m : Int) % 20 + 1) + 1, 7, 0, 0, 0, []⟩ ⟨(k : Int), 6, none, 0, 0, 0, 0, 0, ((((m : Int) % 20 + 1) + 1) / 2), 3, true, false⟩ [] = ⟨(k : Int), ((m : Int) % 20 + 1) + 1, 7, 0, 0, 0, []⟩ := by
    rw [doSp_6 hz2 hc2 rfl rfl, addG_nil, if_neg (by simp), if_pos rfl]
    unfold cmpG
    exact if_pos (by show ((((m : Int) % 20 + 1) + 1) / 2) < ((m : Int) % 20 + 1) + 1; omega)
  have hc3 : isB ⟨(k : Int), 4, none, 0, 0, 0, 0, 0, ((m : Int) % 20 + 1) + 40, 9, false, false⟩ [] = true := snp_isB hk9 ⟨by omega, by omega⟩ ⟨by omega, by omega⟩
  have hd3 : doSp ⟨(k : Int), ((m : Int) % 20 + 1) + 1, 7, 0, 0, 0, []⟩ ⟨(k : Int), 4, none, 0, 0, 0, 0, 0, ((m : Int) % 20 + 1) + 40, 9, false, false⟩ [] = ⟨(k : Int), ((m : Int) % 20 + 1) + 40 + 1, 9, 0, 0, 0, []⟩ := by
    rw [doSp_4 hz2 hc3 rfl rfl]
    unfold snpG
    exact if_neg (by show ¬ ((m : Int) % 20 + 1) + 40 < ((m : Int) % 20 + 1) + 1; omega)
  have GD0 := Lib.hid (fun W => (show Calls Try.prog 12 #[.agg #[.int .i64 (k : Int), .int .i64 1, .int .i64 0, .int .i64 0, .int .i64 0, .int .i64 0, .slice none 0 0], .agg #[.int .i64 (k : Int), .int .i64 3, .slice none 0 0, .int .i64 0, .int .i64 0, .int .i64 0, .int .i64 ((m : Int) % 20 + 1), .int .i64 7, .bool false, .bool false]] W (SDoP W ⟨(k : Int), ((m : Int) % 20 + 1) + 1, 7, 0, 0, 0, []⟩) from by have := sdo_valid (k : Int) 1 0 0 0 0 [] none 0 3 none 0 0 0 0 0 ((m : Int) % 20 + 1) 7 false false [] W (hasG_nil _ _ _ _ _ _ _ _) (by simp) (hasE_nil rfl rfl) (by simp) (by simp) hz0 hc0; rwa [hd0] at this))
  have GD1 := Lib.hid (fun W a cap X (hc : 0 ≤ cap) (h : W.heap[X]? = some (.cells #[.int .i64 ((q : Int) % 30 + 1), .int .i64 2, .string ⟨#[]⟩] 38 (0, 0))) => (show Calls Try.prog 12 #[.agg #[.int .i64 (k : Int), .int .i64 (((m : Int) % 20 + 1) + 1), .int .i64 7, .int .i64 0, .int .i64 0, .int .i64 0, .slice a 0 cap], .agg #[.int .i64 (k : Int), .int .i64 6, .slice (some ⟨X, 0, none⟩) 1 1, .int .i64 0, .int .i64 0, .int .i64 0, .int .i64 0, .int .i64 0, .bool false, .bool false]] W (SDoP W ⟨(k : Int), ((m : Int) % 20 + 1) + 1, 7, 0, 0, 0, []⟩) from by have := sdo_valid (k : Int) (((m : Int) % 20 + 1) + 1) 7 0 0 0 [] a cap 6 (some ⟨X, 0, none⟩) 1 1 0 0 0 0 0 false false [⟨((q : Int) % 30 + 1), 2, ⟨#[]⟩⟩] W (hasG_nil _ _ _ _ _ _ _ _) hc ⟨rfl, (by decide : 1 < 1000000), by exact rowV_block (cs := #[.int .i64 ((q : Int) % 30 + 1), .int .i64 2, .string ⟨#[]⟩]) (n := 1) (sz := 3) h rfl (by decide)⟩ (by simp) (by simp) hz1 (hc1 _ _); rwa [hd1] at this))
  have GD2 := Lib.hid (fun W a cap (hg : HasG W a ⟨(k : Int), ((m : Int) % 20 + 1) + 1, 7, 0, 0, 0, []⟩) (hc : 0 ≤ cap) => (show Calls Try.prog 12 #[.agg #[.int .i64 (k : Int), .int .i64 (((m : Int) % 20 + 1) + 1), .int .i64 7, .int .i64 0, .int .i64 0, .int .i64 0, .slice a 0 cap], .agg #[.int .i64 (k : Int), .int .i64 6, .slice none 0 0, .int .i64 0, .int .i64 0, .int .i64 0, .int .i64 ((((m : Int) % 20 + 1) + 1) / 2), .int .i64 3, .bool true, .bool false]] W (SDoP W ⟨(k : Int), ((m : Int) % 20 + 1) + 1, 7, 0, 0, 0, []⟩) from by have := sdo_valid (k : Int) (((m : Int) % 20 + 1) + 1) 7 0 0 0 [] a cap 6 none 0 0 0 0 0 ((((m : Int) % 20 + 1) + 1) / 2) 3 true false [] W hg hc (hasE_nil rfl rfl) (by simp) (by simp) hz2 hc2; rwa [hd2] at this))
  have GD3 := Lib.hid (fun W a cap (hg : HasG W a ⟨(k : Int), ((m : Int) % 20 + 1) + 1, 7, 0, 0, 0, []⟩) (hc : 0 ≤ cap) => (show Calls Try.prog 12 #[.agg #[.int .i64 (k : Int), .int .i64 (((m : Int) % 20 + 1) + 1), .int .i64 7, .int .i64 0, .int .i64 0, .int .i64 0, .slice a 0 cap], .agg #[.int .i64 (k : Int), .int .i64 4, .slice none 0 0, .int .i64 0, .int .i64 0, .int .i64 0, .int .i64 (((m : Int) % 20 + 1) + 40), .int .i64 9, .bool false, .bool false]] W (SDoP W ⟨(k : Int), ((m : Int) % 20 + 1) + 40 + 1, 9, 0, 0, 0, []⟩) from by have := sdo_valid (k : Int) (((m : Int) % 20 + 1) + 1) 7 0 0 0 [] a cap 4 none 0 0 0 0 0 (((m : Int) % 20 + 1) + 40) 9 false false [] W hg hc (hasE_nil rfl rfl) (by simp) (by simp) hz2 hc3; rwa [hd3] at this))
  clear hz0 hz1 hc0 hd0 hc1 hd1 hz2 hc2 hd2 hc3 hd3
  go_enter Try.func7, Try.ntmps7
  go_wp2_with (first
    | (go_at_call 9; ((with_reducible refine (GK.out _).mono ?_); rintro e w1 ⟨rfl, hB1⟩))
    | (go_at_call 12; ((with_reducible refine (GD0.out _).mono ?_); rintro e w2 ⟨ga, gc, rfl, -, hgc, hB, -⟩; have hA := bel2 hB1 hB; clear hB; have hB := bel_alloc (Below.refl w2.heap.size w2) (.cells #[.int .i64 (k : Int), .int .i64 (((m : Int) % 20 + 1) + 1), .int .i64 7, .int .i64 0, .int .i64 0, .int .i64 0, .slice ga 0 gc] 26); have hg := World.alloc_heap_new w2 (.cells #[.int .i64 (k : Int), .int .i64 (((m : Int) % 20 + 1) + 1), .int .i64 7, .int .i64 0, .int .i64 0, .int .i64 0, .slice ga 0 gc] 26); replace hA := bel2 hA hB; obtain ⟨g0, g1, g2, g3, g4, g5, g6, -⟩ := cells7 hg; clear hB))
    | (go_at_call 12; ((with_reducible refine (GD1.out _ _ _ _ hgc (two_b w2 _ _ _ _)).mono ?_); rintro e w3 ⟨ha, hc, rfl, hG1, hhc, hB, -⟩; have hB0 := bel_alloc (Below.refl (w2.alloc (.cells #[.int .i64 (k : Int), .int .i64 (((m : Int) % 20 + 1) + 1), .int .i64 7, .int .i64 0, .int .i64 0, .int .i64 0, .slice ga 0 gc] 26)).heap.size (w2.alloc (.cells #[.int .i64 (k : Int), .int .i64 (((m : Int) % 20 + 1) + 1), .int .i64 7, .int .i64 0, .int .i64 0, .int .i64 0, .slice ga 0 gc] 26))) (.cells #[.int .i64 ((q : Int) % 30 + 1), .int .i64 2, .string ⟨#[]⟩] 38); replace hB := bel2 hB0 hB; clear g0 g1 g2 g3 g4 g5 g6; replace hA := bel2 hA hB; replace hg := (hB.block _ (heap_lt hg)).trans hg; clear hB hB0; have hB := bel_alloc (Below.refl w3.heap.size w3) (.cells #[.int .i64 (k : Int), .int .i64 (((m : Int) % 20 + 1) + 1), .int .i64 7, .int .i64 0, .int .i64 0, .int .i64 0, .slice ha 0 hc] 26); have hh := World.alloc_heap_new w3 (.cells #[.int .i64 (k : Int), .int .i64 (((m : Int) % 20 + 1) + 1), .int .i64 7, .int .i64 0, .int .i64 0, .int .i64 0, .slice ha 0 hc] 26); replace hG1 := hG1.below hB; replace hA := bel2 hA hB; replace hg := (hB.block _ (heap_lt hg)).trans hg; obtain ⟨g0, g1, g2, g3, g4, g5, g6, -⟩ := cells7 hg; obtain ⟨h0, h1, h2, h3, h4, h5, h6, -⟩ := cells7 hh; clear hB))
    | (go_at_call 12; ((with_reducible refine (GD2.out _ _ _ hG1 hhc).mono ?_); rintro e w4 ⟨ea, ec, rfl, -, -, hB, -⟩; clear g0 g1 g2 g3 g4 g5 g6 h0 h1 h2 h3 h4 h5 h6; replace hG1 := hG1.below hB; replace hA := bel2 hA hB; replace hg := (hB.block _ (heap_lt hg)).trans hg; replace hh := (hB.block _ (heap_lt hh)).trans hh; clear hB; have hB := bel_alloc (Below.refl w4.heap.size w4) (.cells #[.int .i64 (k : Int), .int .i64 (((m : Int) % 20 + 1) + 1), .int .i64 7, .int .i64 0, .int .i64 0, .int .i64 0, .slice ea 0 ec] 26); have he := World.alloc_heap_new w4 (.cells #[.int .i64 (k : Int), .int .i64 (((m : Int) % 20 + 1) + 1), .int .i64 7, .int .i64 0, .int .i64 0, .int .i64 0, .slice ea 0 ec] 26); replace hG1 := hG1.below hB; replace hA := bel2 hA hB; replace hg := (hB.block _ (heap_lt hg)).trans hg; replace hh := (hB.block _ (heap_lt hh)).trans hh; obtain ⟨g0, g1, g2, g3, g4, g5, g6, -⟩ := cells7 hg; obtain ⟨h0, h1, h2, h3, h4, h5, h6, -⟩ := cells7 hh; obtain ⟨e0, e1, e2, e3, e4, e5, e6, -⟩ := cells7 he; clear hB))
    | (go_at_call 12; ((with_reducible refine (GD3.out _ _ _ hG1 hhc).mono ?_); rintro e w5 ⟨sa, sc, rfl, -, -, hB, -⟩; clear g0 g1 g2 g3 g4 g5 g6 h0 h1 h2 h3 h4 h5 h6 e0 e1 e2 e3 e4 e5 e6; replace hA := bel2 hA hB; replace hg := (hB.block _ (heap_lt hg)).trans hg; replace hh := (hB.block _ (heap_lt hh)).trans hh; replace he := (hB.block _ (heap_lt he)).trans he; clear hB; have hB := bel_alloc (Below.refl w5.heap.size w5) (.cells #[.int .i64 (k : Int), .int .i64 (((m : Int) % 20 + 1) + 40 + 1), .int .i64 9, .int .i64 0, .int .i64 0, .int .i64 0, .slice sa 0 sc] 26); have hs := World.alloc_heap_new w5 (.cells #[.int .i64 (k : Int), .int .i64 (((m : Int) % 20 + 1) + 40 + 1), .int .i64 9, .int .i64 0, .int .i64 0, .int .i64 0, .slice sa 0 sc] 26); replace hA := bel2 hA hB; replace hg := (hB.block _ (heap_lt hg)).trans hg; replace hh := (hB.block _ (heap_lt hh)).trans hh; replace he := (hB.block _ (heap_lt he)).trans he; obtain ⟨g0, g1, g2, g3, g4, g5, g6, -⟩ := cells7 hg; obtain ⟨h0, h1, h2, h3, h4, h5, h6, -⟩ := cells7 hh; obtain ⟨e0, e1, e2, e3, e4, e5, e6, -⟩ := cells7 he; obtain ⟨s0, s1, s2, s3, s4, s5, s6, -⟩ := cells7 hs; clear hB)))
  go_ret
  exact ⟨by simp <;> omega, hA⟩

theorem walk (k : Nat) (hk : k < 256) (m : Nat) (hm : m < 256) (q : Nat) (hq : q < 256) (w : World) : Calls Try.prog 7 #[.int .u8 k, .int .u8 m, .int .u8 q] w fun e w' => e = .returned (.bool true) ∧ Below w.heap.size w w' := by
  by_cases h : ((m : Int) % 20 + 1) < ((q : Int) % 30 + 1)
  · exact marks1 k m q hk hm hq h w
  · exact marks0 k m q hk hm hq (by omega) w

set_option maxRecDepth 100000 in
theorem lifted (os : Os) (started : os.Started) (H : Type) (enc : TypeId × Value → H) :
    ReturnsInHanded {} Try.checked os 7 .any (Rows.sparseMarksSpec.pre6 enc Try.prog Try.f7 Rows.sparseMarksRow.domain false) (Rows.sparseMarksSpec.post enc Try.prog Try.f7 false true false false) := by
  refine returnsInHanded_of_change (C := Try.checked) Try.own started (by kernel_rfl) Try.func7
    (ChangeSpec.witness6 (enc := enc) (C := Try.checked) false ⟨#[], #[.int .u8 0, .int .u8 0, .int .u8 0], []⟩ 8 (by kernel_rfl) (by kernel_rfl) (by kernel_rfl) (by kernel_rfl)) ?_
  intro W base args ds gs before hval hW _ _
  refine law_contract (T := 4) (n := 3) Try.laid Try.underlying4 rfl rfl ⟨rfl, fun H ds h => by match ds, h with | [_, _, _], _ => rfl⟩ (of_all (by kernel_rfl)) hW ?_
  intro ps hA
  rw [Try.params7] at hA hval
  obtain ⟨v0, vs0, d0, ds0, p0, q0, hargs, rfl, rfl, h0, r0⟩ := trodAll_cons hA
  obtain ⟨v1, vs1, d1, ds1, p1, q1, rfl, rfl, rfl, h1, r1⟩ := trodAll_cons r0
  obtain ⟨v2, vs2, d2, ds2, p2, q2, rfl, rfl, rfl, h2, r2⟩ := trodAll_cons r1
  obtain ⟨rfl, rfl, rfl⟩ := trodAll_nil r2
  obtain rfl : args = #[v0, v1, v2] := by cases args; simp_all
  obtain ⟨a0, rfl, rfl, rfl, w0⟩ := open_int Try.underlying5 (hval 0 5 v0 rfl rfl) h0
  obtain ⟨a1, rfl, rfl, rfl, w1⟩ := open_int Try.underlying5 (hval 1 5 v1 rfl rfl) h1
  obtain ⟨a2, rfl, rfl, rfl, w2⟩ := open_int Try.underlying5 (hval 2 5 v2 rfl rfl) h2
  obtain ⟨n0, rfl, b0⟩ := nat_of_u8 w0
  obtain ⟨n1, rfl, b1⟩ := nat_of_u8 w1
  obtain ⟨n2, rfl, b2⟩ := nat_of_u8 w2
  exact walk n0 b0 n1 b1 n2 b2 W

theorem holds : Rows.SparseMarksSaid :=
  OpenClaim.holds_of_wide 7 Try.f7 rfl rfl rfl rfl rfl rfl rfl ⟨rfl, rfl, rfl, rfl, rfl⟩ rfl rfl rfl rfl rfl (by kernel_rfl) Try.func7 (by kernel_rfl)
    (of_decide_eq_true (by kernel_rfl)) (by unfold Func.isWrapper; first | (rw [if_pos (by decide +kernel)]; kernel_rfl) | (rw [if_neg (by decide +kernel)]; exact ⟨rfl, rfl⟩))
    (fun os started H enc _ => lifted os started H enc)

end Go.Proofs.Ytfbibpnkfmgkaaa.sparseMarks
