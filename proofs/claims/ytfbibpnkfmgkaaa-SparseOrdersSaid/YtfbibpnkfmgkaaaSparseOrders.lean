/- Law SparseOrders: for every input the call answers true; its arguments read as they did. No condition. -/
import Derived.Test.YtfbibpnkfmgkaaaLaw
import Derived.Test.YtfbibpnkfmgkaaaKnown12
import Derived.Test.YtfbibpnkfmgkaaaSprFam
import Derived.Test.YtfbibpnkfmgkaaaGrownM
namespace Go.Proofs.Ytfbibpnkfmgkaaa.sparseOrders
open Go.ChangeShapes Go.WideShapes Go.ChangeAt Go.RowKit Go.Shelf
open Go.ChangeMaps (open_string shut_string)
set_option linter.unusedVariables false
attribute [local go_sem] Oper.semAt_some wide_fn wide_round_fn

open Go.ChangeShapes Go.WideShapes Go.ChangeAt
theorem okId (p : Int) (h : p ≤ 100000) : OkT (fun x => x) p := ⟨h, fun j h1 h2 => ⟨h1, by show j ≤ _; omega⟩⟩
theorem oi_grL {p : Nat} {l : List EntryC} (h : OI (fun x => x) (p : Int) l) (ha : ∀ j : Int, 0 < j → j ≤ p → (⟨j, j, ⟨#[]⟩⟩ : EntryC) ∈ l) : l = grL p := by
  refine pw_ext h.1 ?_ fun e => ⟨fun he => ?_, fun he => ?_⟩
  · unfold grL
    refine (List.pairwise_map).2 (List.pairwise_lt_range.imp fun {a b} hab => ?_)
    show (a : Int) + 1 < (b : Int) + 1
    omega
  · obtain ⟨j, h1, h2, rfl⟩ := h.2 e he
    simp only [grL, List.mem_map, List.mem_range]
    exact ⟨(j - 1).toNat, by omega, by congr 1 <;> omega⟩
  · simp only [grL, List.mem_map, List.mem_range] at he
    obtain ⟨q, hq, rfl⟩ := he
    exact ha _ (by omega) (by omega)
/-- The wanted group's block X: apart from G. -/
def OW (G X : Nat) (k p : Nat) (wa : Option Addr) (wc : Nat) (W : World) : Prop :=
  W.heap[X]? = some (.cells #[.int .i64 (k : Int), .int .i64 1, .int .i64 0, .int .i64 0, .int .i64 0, .int .i64 0, .slice wa p wc] 26 (0, 0)) ∧ HasG W wa ⟨(k : Int), 1, 0, 0, 0, 0, grL p⟩ ∧ X ≠ G ∧ ∀ b, inBlkE wa (grL p).length b → b ≠ G
theorem OW.below {G X k p : Nat} {wa : Option Addr} {wc : Nat} {W W2 : World} (h : OW G X k p wa wc W) (hB : Below W.heap.size W W2) : OW G X k p wa wc W2 :=
  ⟨(hB.block _ (heap_lt h.1)).trans h.1, h.2.1.below hB, h.2.2⟩
theorem OW.frame {G X k p : Nat} {wa : Option Addr} {wc : Nat} {W W2 : World} (h : OW G X k p wa wc W) (hF : FrameT (fun b => b = G) W W2) : OW G X k p wa wc W2 :=
  ⟨hF.get h.1 h.2.2.1, ⟨h.2.1.1, rowV_frame h.2.1.2 hF (fun b hb e => h.2.2.2 b hb e)⟩, h.2.2⟩

set_option maxRecDepth 100000 in
set_option maxHeartbeats 4000000 in
theorem walk (w : World) (k : Nat) (hk : k < 256) (n : Nat) (hn : n < 256) (oa : Option Addr) (len cap : Nat) (zs : List Int) (hz : RowI .u8 w oa len zs) : Calls Try.prog 6 #[.int .u8 k, .int .u8 n, .slice oa len cap] w fun e w' => e = .returned (.bool true) ∧ Below w.heap.size w w' := by
  have GK := Lib.hid spr_known
  obtain ⟨i9, hi9, hz0, hz1, hz2⟩ := info_parts infoEntry
  obtain ⟨rfl, hml, hwz, hcz⟩ := hz
  unfold maxLen at hml
  by_cases h40 : 40 < zs.length
  · have h40' : (40 : Int) < (zs.length : Int) := by omega
    go_enter Try.func6, Try.ntmps6
    go_wp2_with (go_at_call 9; go_loud ((with_reducible refine (GK.out _).mono ?_); rintro e w1 ⟨rfl, hB1⟩))
    go_ret
    exact ⟨rfl, hB1⟩
  have h40' : (zs.length : Int) ≤ (40 : Int) := by omega
  clear h40
  obtain ⟨p, hp, hp1, hp2⟩ : ∃ p : Nat, (n : Int) % 12 + 1 = (p : Int) ∧ 1 ≤ p ∧ p ≤ 12 := ⟨n % 12 + 1, by omega, by omega, by omega⟩
  have hk9 : 0 ≤ (k : Int) ∧ (k : Int) ≤ 999 := ⟨by omega, by omega⟩
  have hOK := okId (p : Int) (by omega)
  have GD := Lib.hid (fun l a cap J Y W ho hJ hg hc h => odo (f := (fun x => x)) (p := (p : Int)) (id := (k : Int)) (J := J) hOK hk9 l a cap Y W ho hJ hg hc h)
  have GI := Lib.hid (fun W a cap l (ho : OI (fun x => x) (p : Int) l) (hg : HasG W a ⟨(k : Int), 1, 0, 0, 0, 0, l⟩) => (show Gives Try.prog 13 #[.agg #[.int .i64 (k : Int), .int .i64 1, .int .i64 0, .int .i64 0, .int .i64 0, .int .i64 0, .slice a l.length cap]] W (.bool true) from by have := sprIs_any (k : Int) 1 0 0 0 0 l a cap W hg; rwa [oi_isSp hOK ho hk9] at this))
  have hll := grL_len p
  have GE := Lib.hid (fun W a cap (hg : HasG W a ⟨(k : Int), 1, 0, 0, 0, 0, grL p⟩) => (show Gives Try.prog 15 #[.agg #[.int .i64 (k : Int), .int .i64 1, .int .i64 0, .int .i64 0, .int .i64 0, .int .i64 0, .slice a p cap]] W (.bool true) from by have := sprDense_any (k : Int) 1 0 0 0 0 (grL p) a cap W hg; rwa [gr_isG hk9 (by omega), hll] at this))
  have GS := Lib.hid (fun W a cap wa wc (hg : HasG W a ⟨(k : Int), 1, 0, 0, 0, 0, grL p⟩) (hw : HasG W wa ⟨(k : Int), 1, 0, 0, 0, 0, grL p⟩) => (show Gives Try.prog 17 #[.agg #[.int .i64 (k : Int), .int .i64 1, .int .i64 0, .int .i64 0, .int .i64 0, .int .i64 0, .slice a p cap], .agg #[.int .i64 (k : Int), .int .i64 1, .int .i64 0, .int .i64 0, .int .i64 0, .int .i64 0, .slice wa p wc]] W (.bool true) from by have := refSame6_any (k : Int) 1 0 0 0 0 (grL p) a cap (k : Int) 1 0 0 0 0 (grL p) wa wc W hg hw; rwa [show sameG ⟨(k : Int), 1, 0, 0, 0, 0, grL p⟩ ⟨(k : Int), 1, 0, 0, 0, 0, grL p⟩ = true by simp [sameG], hll] at this))
  clear hOK
  go_enter Try.func6, Try.ntmps6
  go_wp2_with (go_at_call 9; go_loud ((with_reducible refine (GK.out _).mono ?_); rintro e w1 ⟨rfl, hB1⟩))
  go_loopw [10] (fun q wr => ∃ (j : Nat) (v : Value), j ≤ p ∧ q = .int .i64 ((j : Int) + 1) ∧ wr.heap[(w1.heap.size + 1)]? = some (.cells #[.int .i64 (k : Int), .int .i64 1, .int .i64 0, .int .i64 0, .int .i64 0, .int .i64 0, v] 26 (0, 0)) ∧ wr.heap[w1.heap.size]? = some (.cells #[.int .i64 (k : Int), .int .i64 1, .int .i64 0, .int .i64 0, .int .i64 0, .int .i64 0, .slice none 0 0] 26 (0, 0)) ∧ wr.ownsRow (w1.heap.size + 2) 38 3 v j (entryCells (grL j)) ∧ Below w1.heap.size w1 wr) (fun q _ => p + 1 - (intOf q).toNat)
  case atStart => exact ⟨0, .slice none 0 0, by omega, rfl, two_b w1 _ _ _ _, two_a w1 _ _ _ _, World.ownsRow_nil _ _ _ _, gp_bel w1 _ _ _ _⟩
  case round =>
  obtain ⟨j, v, hj, rfl, hblk, hres, hown, hB⟩ := hrel
  have hXlt := heap_lt hblk
  have hRlt := heap_lt hres
  by_cases hlt : j < p
  · have hlt' : (j : Int) + 1 ≤ (p : Int) := by omega
    have hw9 : IntKind.i64.wrap ((j : Int) + 1 + 1) = ((j + 1 : Nat) : Int) + 1 := (IntWalk.i64_in _ (by omega)).trans (by push_cast; rfl)
    have c6 : wr.cell? ⟨(w1.heap.size + 1), 6, none⟩ = some v := cell_of_row _ _ 6 _ _ _ hblk
    have HS := Lib.hid (show entryCells (grL (j + 1)) = entryCells (grL j) ++ [.int .i64 ((j : Int) + 1), .int .i64 ((j : Int) + 1), .string ⟨#[]⟩] by rw [show grL (j + 1) = grL j ++ [⟨(j : Int) + 1, (j : Int) + 1, ⟨#[]⟩⟩] by simp [grL, List.range_succ], entryCells_snoc]; rfl)
    go_wp2_with (at_builtin; refine wpList_append_own _ rfl _ _ 24 rfl (w1.heap.size + 2) 38 i9 (.agg #[.int .i64 0, .int .i64 0, .string ⟨#[]⟩]) 3 32 Try.underlying24 hi9 hz0 hz1 hz2 rfl (by decide) _ _ _ rfl (hown.alloc _) ⟨wr.heap.size, 0, none⟩ 1 1 [.int .i64 ((j : Int) + 1), .int .i64 ((j : Int) + 1), .string ⟨#[]⟩] rfl rfl (news_new _ _ _) (by simp [Value.oneCell']) (by unfold maxLen; omega) (by omega) (by simp; omega) ?_; intro v' w3 hown3 hgrow _; obtain ⟨g', cap', rfl⟩ := ownsRow_succ hown3; have hne : v.ownBlock ≠ some (w1.heap.size + 1) := (fun e => by have := ownBlock_ge hown e; omega); have hneR : v.ownBlock ≠ some w1.heap.size := (fun e => by have := ownBlock_ge hown e; omega); have hA1 := bel_alloc (Below.refl wr.heap.size wr) (.cells [.int .i64 ((j : Int) + 1), .int .i64 ((j : Int) + 1), .string ⟨#[]⟩].toArray 38); have hb3 := (hgrow.block (w1.heap.size + 1) (by simp; omega) (fun e => hne e.symm)).trans ((hA1.block _ hXlt).trans hblk); have hr3 := (hgrow.block w1.heap.size (by simp; omega) (fun e => hneR e.symm)).trans ((hA1.block _ hRlt).trans hres); have f6 := frozen_of_row _ _ 6 _ _ hb3; have k6 : w3.cell? ⟨(w1.heap.size + 1), 6, none⟩ = some v := cell_of_row _ _ 6 _ _ _ hb3; have hb4 := Go.Joins.block_setCell hb3 (.slice (some ⟨g', 0, none⟩) (j + 1) cap') (i := 6); simp only [List.setIfInBounds_toArray, List.set_cons_succ, List.set_cons_zero] at hb4; have hF4 := FrameT.setCell w3 (w1.heap.size + 1) 6 (.slice (some ⟨g', 0, none⟩) (j + 1) cap'); have hr4 := hF4.get hr3 (show ¬ (w1.heap.size = (w1.heap.size + 1)) by omega); have hown4 := own_frame hown3 hF4 (fun k hk h => by omega); have hB3 := ((hB.trans (hA1.mono hB.size)).grown hgrow (by simp; omega) (fun k hk => by have := ownBlock_ge hown hk; omega)).setCell (p := ⟨(w1.heap.size + 1), 6, none⟩) (Nat.le_succ _) (.slice (some ⟨g', 0, none⟩) (j + 1) cap'))
    go_roundw
    case rel => exact ⟨j + 1, _, by omega, by go_num, hb4, hr4, by rw [HS.out]; exact hown4, hB3⟩
    case measure => simp [intOf]; omega
  have hOJ : j = p := by omega
  subst j
  have hge : ¬ (p : Int) + 1 ≤ (p : Int) := by omega
  obtain ⟨wa, wc, rfl, -, hrow⟩ := rowV_own hown
  have hoff := own_new hown
  have hS0 : OS w w1.heap.size (k : Int) (fun x => x) (p : Int) [] none 0 wr := ⟨hres, hasG_nil _ _ _ _ _ _ _ _, Nat.le_refl _, OI.nil _ _, hB1.size, bel2 hB1 hB⟩
  have hW0 : OW w1.heap.size (w1.heap.size + 1) k p wa wc wr := ⟨hblk, ⟨by rw [hll]; omega, by rw [hll]; exact hrow⟩, by omega, fun b hb => by rw [hll] at hb; have := hoff b hb; omega⟩
  clear hown hrow hoff hB hblk hres hXlt hRlt hB1 hlt hj
  obtain ⟨wo, rfl⟩ : ∃ wo : World, wo = wr := ⟨_, rfl⟩
  have hp0 : (0 : Int) < (p : Int) := by omega
  go_wp2
  go_loopw [11, 12] (fun i _ wr => ∃ (m : Nat) (l : List EntryC) (a : Option Addr) (cap : Nat), m ≤ zs.length ∧ i = .int .i64 m ∧ OS w w1.heap.size (k : Int) (fun x => x) (p : Int) l a cap wr ∧ OW w1.heap.size (w1.heap.size + 1) k p wa wc wr) (fun i _ _ => zs.length - (intOf i).toNat)
  case atStart => exact ⟨0, [], none, 0, by omega, rfl, hS0, hW0⟩
  case round =>
  obtain ⟨m, l, a, acap, hm, rfl, hS, hW⟩ := hrel
  clear hS0 hW0
  by_cases hlt : m < zs.length
  · obtain ⟨bb, off, rfl, hbb, hc⟩ := hcz (by omega)
    have hck := (hS.2.2.2.2.2.cell (p := ⟨bb, off + m, none⟩) hbb).trans (hc m hlt)
    obtain ⟨y, hy, hy3⟩ := nat_of_u8 (hwz zs[m] (List.getElem_mem _))
    rw [hy] at hck
    have hy1 : 0 ≤ (y : Int) % (p : Int) := Int.emod_nonneg _ (by omega)
    have hy2 : (y : Int) % (p : Int) < (p : Int) := Int.emod_lt_of_pos _ hp0
    have hJb : 1 ≤ (y : Int) % (p : Int) + 1 ∧ (y : Int) % (p : Int) + 1 ≤ (p : Int) := ⟨by omega, by omega⟩
    have hlt' : (m : Int) < (zs.length : Int) := by omega
    clear hc hy
    have hSo := hS.2.2.2.1
    have hSg := hS.2.1
    have hSc := hS.2.2.1
    obtain ⟨g0, g1, g2, g3, g4, g5, g6, -⟩ := cells7 hS.1
    have fg : ∀ i, wr.frozen? ⟨w1.heap.size, i, none⟩ = false := fun i => frozen_of_row _ _ i _ _ hS.1
    go_wp2_with (first
      | (go_at_call 12; go_loud ((with_reducible refine (GD.out _ _ _ ((y : Int) % (p : Int) + 1) _ _ hSo hJb (hSg.below (bel_alloc (Below.refl _ _) _)) hSc (World.alloc_heap_new _ _)).mono ?_); rintro e w9 ⟨l', a', cap', rfl, hoi', hmem, hsub, hG9, hc9, hB9, hN9⟩; have hB9' := bel2 (bel_alloc (Below.refl wr.heap.size wr) (.cells #[.int .i64 ((y : Int) % (p : Int) + 1), .int .i64 ((y : Int) % (p : Int) + 1), .string ⟨#[]⟩] 38)) hB9; have HOS := Lib.hid (OS.step hS hB9' hG9 (fun b hb => by have := hN9 b hb; simp at this; omega) hc9 hoi'); have HOW := Lib.hid ((hW.below hB9').frame HOS.out.2); have hgb9 := (hB9'.block _ (heap_lt hS.1)).trans hS.1; have hs9 := HOS.out.1.1; have hHG9 := HOS.out.1.2.1; simp only [st7] at hs9 hHG9; clear g0 g1 g2 g3 g4 g5 g6 fg; obtain ⟨g0, g1, g2, g3, g4, g5, g6, -⟩ := cells7 hgb9; have fg : (∀ i, w9.frozen? ⟨w1.heap.size, i, none⟩ = false) := (fun i => frozen_of_row _ _ i _ _ hgb9); obtain ⟨s0, s1, s2, s3, s4, s5, s6, -⟩ := cells7 hs9; clear hs9 hgb9))
      | (go_at_call 13; go_loud ((with_reducible refine (GI.out _ _ _ _ hoi' hHG9).mono ?_); rintro e w10 ⟨rfl, hB10⟩)))
    go_roundw
    case rel => exact ⟨m + 1, l', a', cap', by omega, by go_num, HOS.out.1.below hB10, HOW.out.below hB10⟩
    case measure => simp [intOf]; omega
  have hOM : m = zs.length := by omega
  subst m
  clear hlt hm
  obtain ⟨wp, rfl⟩ : ∃ wp : World, wp = wr := ⟨_, rfl⟩
  go_wp2
  go_loopw [13] (fun i wr => ∃ (m : Nat) (l : List EntryC) (a : Option Addr) (cap : Nat), m ≤ p ∧ i = .int .i64 m ∧ OS w w1.heap.size (k : Int) (fun x => x) (p : Int) l a cap wr ∧ OW w1.heap.size (w1.heap.size + 1) k p wa wc wr ∧ ∀ j : Int, (m : Int) < j → j ≤ p → (⟨j, j, ⟨#[]⟩⟩ : EntryC) ∈ l) (fun i _ => (intOf i).toNat)
  case atStart => exact ⟨p, l, a, acap, by omega, rfl, hS, hW, fun j h1 h2 => by omega⟩
  case round =>
  clear hS hW
  obtain ⟨m, l, a, acap, hm, rfl, hS, hW, hall⟩ := hrel
  by_cases hlt : 1 ≤ m
  · have hlt' : (1 : Int) ≤ (m : Int) := by omega
    have hJb : 1 ≤ (m : Int) ∧ (m : Int) ≤ (p : Int) := ⟨by omega, by omega⟩
    have hw9 : IntKind.i64.wrap ((m : Int) - 1) = ((m - 1 : Nat) : Int) := (IntWalk.i64_in _ (by omega)).trans (by omega)
    have HALL := Lib.hid hall
    clear hall
    have hSo := hS.2.2.2.1
    have hSg := hS.2.1
    have hSc := hS.2.2.1
    obtain ⟨g0, g1, g2, g3, g4, g5, g6, -⟩ := cells7 hS.1
    have fg : ∀ i, wr.frozen? ⟨w1.heap.size, i, none⟩ = false := fun i => frozen_of_row _ _ i _ _ hS.1
    go_wp2_with (go_at_call 12; go_loud ((with_reducible refine (GD.out _ _ _ (m : Int) _ _ hSo hJb (hSg.below (bel_alloc (Below.refl _ _) _)) hSc (World.alloc_heap_new _ _)).mono ?_); rintro e w9 ⟨l', a', cap', rfl, hoi', hmem, hsub, hG9, hc9, hB9, hN9⟩; have hB9' := bel2 (bel_alloc (Below.refl wr.heap.size wr) (.cells #[.int .i64 (m : Int), .int .i64 (m : Int), .string ⟨#[]⟩] 38)) hB9; have HOS := Lib.hid (OS.step hS hB9' hG9 (fun b hb => by have := hN9 b hb; simp at this; omega) hc9 hoi'); have HOW := Lib.hid ((hW.below hB9').frame HOS.out.2); have hgb9 := (hB9'.block _ (heap_lt hS.1)).trans hS.1; have hs9 := HOS.out.1.1; have hHG9 := HOS.out.1.2.1; simp only [st7] at hs9 hHG9; clear g0 g1 g2 g3 g4 g5 g6 fg; obtain ⟨g0, g1, g2, g3, g4, g5, g6, -⟩ := cells7 hgb9; have fg : (∀ i, w9.frozen? ⟨w1.heap.size, i, none⟩ = false) := (fun i => frozen_of_row _ _ i _ _ hgb9); obtain ⟨s0, s1, s2, s3, s4, s5, s6, -⟩ := cells7 hs9; clear hs9 hgb9))
    go_roundw
    case rel => exact ⟨m - 1, l', a', cap', by omega, by go_num, HOS.out.1, HOW.out, fun j h1 h2 => by
      by_cases e : j = (m : Int)
      · rw [e]; exact hmem
      · exact hsub _ (HALL.out j (by omega) h2)⟩
    case measure => simp [intOf]; omega
  have hOM : m = 0 := by omega
  subst m
  have hlq : l = grL p := oi_grL hS.2.2.2.1 (fun j h1 h2 => hall j (by omega) h2)
  subst hlq
  have hS1 := hS.1
  rw [hll] at hS1
  have hSg := hS.2.1
  have hWg := hW.2.1
  obtain ⟨g0, g1, g2, g3, g4, g5, g6, -⟩ := cells7 hS1
  obtain ⟨x0, x1, x2, x3, x4, x5, x6, -⟩ := cells7 hW.1
  have HBEL := Lib.hid hS.2.2.2.2.2
  have HB0 := Lib.hid (fun W (hB : Below wr.heap.size wr W) => And.intro (cells7 ((hB.block _ (heap_lt hS1)).trans hS1)) (cells7 ((hB.block _ (heap_lt hW.1)).trans hW.1)))
  clear hS hW hall hS1
  go_wp2_with (first
    | (go_at_call 15; go_loud ((with_reducible refine (GE.out _ _ _ hSg).mono ?_); rintro e w11 ⟨rfl, hB11⟩; replace hSg := hSg.below hB11; replace hWg := hWg.below hB11; have HBE2 := Lib.hid (bel2 HBEL.out hB11); clear g0 g1 g2 g3 g4 g5 g6 x0 x1 x2 x3 x4 x5 x6; obtain ⟨⟨g0, g1, g2, g3, g4, g5, g6, -⟩, ⟨x0, x1, x2, x3, x4, x5, x6, -⟩⟩ := HB0.out _ hB11; clear hB11))
    | (go_at_call 17; go_loud ((with_reducible refine (GS.out _ _ _ _ _ hSg hWg).mono ?_); rintro e w12 ⟨rfl, hB12⟩; have hBz := bel2 HBE2.out hB12)))
  go_ret
  exact ⟨by simp, hBz⟩

set_option maxRecDepth 100000 in
theorem lifted (os : Os) (started : os.Started) (H : Type) (enc : TypeId × Value → H) :
    ReturnsInHanded {} Try.checked os 6 .any (Rows.sparseOrdersSpec.pre6 enc Try.prog Try.f6 Rows.sparseOrdersRow.domain false) (Rows.sparseOrdersSpec.post enc Try.prog Try.f6 false true false false) := by
  refine returnsInHanded_of_change (C := Try.checked) Try.own started (by kernel_rfl) Try.func6
    (ChangeSpec.witness6 (enc := enc) (C := Try.checked) false ⟨#[], #[.int .u8 0, .int .u8 0, .slice none 0 0], []⟩ 8 (by kernel_rfl) (by kernel_rfl) (by kernel_rfl) (by kernel_rfl)) ?_
  intro W base args ds gs before hval hW _ _
  refine law_contract (T := 4) (n := 3) Try.laid Try.underlying4 rfl rfl ⟨rfl, fun H ds h => by match ds, h with | [_, _, _], _ => rfl⟩ (of_all (by kernel_rfl)) hW ?_
  intro ps hA
  rw [Try.params6] at hA hval
  obtain ⟨v0, vs0, d0, ds0, p0, q0, hargs, rfl, rfl, h0, r0⟩ := trodAll_cons hA
  obtain ⟨v1, vs1, d1, ds1, p1, q1, rfl, rfl, rfl, h1, r1⟩ := trodAll_cons r0
  obtain ⟨v2, vs2, d2, ds2, p2, q2, rfl, rfl, rfl, h2, r2⟩ := trodAll_cons r1
  obtain ⟨rfl, rfl, rfl⟩ := trodAll_nil r2
  obtain rfl : args = #[v0, v1, v2] := by cases args; simp_all
  obtain ⟨a0, rfl, rfl, rfl, w0⟩ := open_int Try.underlying5 (hval 0 5 v0 rfl rfl) h0
  obtain ⟨a1, rfl, rfl, rfl, w1⟩ := open_int Try.underlying5 (hval 1 5 v1 rfl rfl) h1
  obtain ⟨s2, l2, c2, rfl⟩ := okWide_slice Try.underlying42 (hval 2 42 v2 rfl rfl)
  obtain ⟨zs2, w2⟩ := isInts_of (k := .u8) Try.underlying42 Try.underlying5 (by kernel_rfl) h2
  obtain ⟨n0, rfl, b0⟩ := nat_of_u8 w0
  obtain ⟨n1, rfl, b1⟩ := nat_of_u8 w1
  exact walk W n0 b0 n1 b1 s2 l2 c2 _ (rowI_of w2)

theorem holds : Rows.SparseOrdersSaid :=
  OpenClaim.holds_of_wide 6 Try.f6 rfl rfl rfl rfl rfl rfl rfl ⟨rfl, rfl, rfl, rfl, rfl⟩ rfl rfl rfl rfl rfl (by kernel_rfl) Try.func6 (by kernel_rfl)
    (of_decide_eq_true (by kernel_rfl)) (by unfold Func.isWrapper; first | (rw [if_pos (by decide +kernel)]; kernel_rfl) | (rw [if_neg (by decide +kernel)]; exact ⟨rfl, rfl⟩))
    (fun os started H enc _ => lifted os started H enc)

end Go.Proofs.Ytfbibpnkfmgkaaa.sparseOrders
