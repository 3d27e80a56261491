/- Law SparseAppends: for every input the call answers true; its arguments read as they did. No condition. -/
import Derived.Test.YtfbibpnkfmgkaaaLaw
import Derived.Test.YtfbibpnkfmgkaaaKnown12
import Derived.Test.YtfbibpnkfmgkaaaSprFam
import Derived.Test.YtfbibpnkfmgkaaaGrownM
import Derived.Test.YtfbibpnkfmgkaaaRefSame
namespace Go.Proofs.Ytfbibpnkfmgkaaa.sparseAppends
open Go.ChangeShapes Go.WideShapes Go.ChangeAt Go.RowKit Go.Shelf
open Go.ChangeMaps (open_string shut_string)
set_option linter.unusedVariables false
attribute [local go_sem] Oper.semAt_some wide_fn wide_round_fn

open Go.ChangeShapes Go.WideShapes Go.ChangeAt
theorem okOne : OkT (fun _ => 1) 256 := ⟨by omega, fun j h1 h2 => ⟨by show (1 : Int) ≤ 1; omega, by show (1 : Int) ≤ _; omega⟩⟩

theorem appL_get (i t : Int) (n q : Nat) (h : q < (appL i t n).length) : (appL i t n)[q] = ⟨i + (q : Int), t, ⟨#[]⟩⟩ := by simp [appL]
theorem appL_mem {i t : Int} {n : Nat} {e : EntryC} (h : e ∈ appL i t n) : ∃ q : Nat, q < n ∧ e = ⟨i + (q : Int), t, ⟨#[]⟩⟩ := by
  simp only [appL, List.mem_map, List.mem_range] at h
  obtain ⟨q, hq, rfl⟩ := h
  exact ⟨q, hq, rfl⟩
theorem apx {k F : Int} {nn : Nat} {l : List EntryC} (hk9 : 0 ≤ k ∧ k ≤ 999) (hF : 1 ≤ F ∧ F ≤ 300) (hn : 0 < nn ∧ nn ≤ 6) (h : OI (fun _ => 1) 256 l) :
    (∀ pa pc, doSp ⟨k, 1, 0, 0, 0, 0, l⟩ ⟨k, 1, pa, nn, pc, 0, 0, 0, 0, 0, false, false⟩ (appL F 9 nn) = ⟨k, 1, 0, 0, 0, 0, l.take (fnd l F) ++ appL F 9 nn⟩) ∧ isSp ⟨k, 1, 0, 0, 0, 0, l.take (fnd l F) ++ appL F 9 nn⟩ = true := by
  have hr : Ris l := ris_pw.2 h.1
  have ht : OI (fun _ => 1) 256 (l.take (fnd l F)) := ⟨h.1.sublist (List.take_sublist _ _), fun e he => h.2 e (List.mem_of_mem_take he)⟩
  have h0 : fnd (appL F 9 nn) 1 = 0 := fnd_eq (Nat.zero_le _) (fun j hj => by omega) (fun j hj _ => by rw [appL_get]; show 1 ≤ F + (j : Int); omega)
  have he : addG ⟨k, 1, 0, 0, 0, 0, l.take (fnd l F)⟩ (appL F 9 nn) = ⟨k, 1, 0, 0, 0, 0, l.take (fnd l F) ++ appL F 9 nn⟩ := by
    unfold addG
    dsimp only
    rw [h0, List.drop_zero, mrg_above fun x hx y hy => by obtain ⟨q, -, rfl⟩ := appL_mem hy; have := ((bel_mem hr).1 hx).2; show x.i < F + (q : Int); omega]
  have hi := addG_isSp (M := appL F 9 nn) (oi_isSp okOne ht hk9) (fun e hm => by obtain ⟨q, hq, rfl⟩ := appL_mem hm; exact app_entry ⟨by omega, by omega⟩ ⟨by omega, by omega⟩) (sprB_ris (dense_spr (app_dense ⟨by omega, by omega⟩ nn F (by omega) (by omega))))
  rw [he] at hi
  exact ⟨fun pa pc => by rw [doSp_1 (oi_isSp okOne h hk9) (app_is pa pc hk9 ⟨by omega, by omega⟩ (by omega) (by omega) hn.1 hn.2) rfl rfl, app_head hn.1]; exact he, hi⟩

set_option maxRecDepth 100000 in
set_option maxHeartbeats 4000000 in
theorem walk (w : World) (k : Nat) (hk : k < 256) (oa : Option Addr) (len cap : Nat) (zs : List Int) (hz : RowI .u8 w oa len zs) (f : Nat) (hf : f < 256) (n : Nat) (hn : n < 256) : Calls Try.prog 8 #[.int .u8 k, .slice oa len cap, .int .u8 f, .int .u8 n] w fun e w' => e = .returned (.bool true) ∧ Below w.heap.size w w' := by
  have GK := Lib.hid spr_known
  obtain ⟨i9, hi9, hz0, hz1, hz2⟩ := info_parts infoEntry
  obtain ⟨rfl, hml, hwz, hcz⟩ := hz
  unfold maxLen at hml
  by_cases h40 : 30 < zs.length
  · have h40' : (30 : Int) < (zs.length : Int) := by omega
    go_enter Try.func8, Try.ntmps8
    go_wp2_with (go_at_call 9; ((with_reducible refine (GK.out _).mono ?_); rintro e w1 ⟨rfl, hB1⟩))
    go_ret
    exact ⟨rfl, hB1⟩
  have h40' : (zs.length : Int) ≤ (30 : Int) := by omega
  clear h40
  have hk9 : 0 ≤ (k : Int) ∧ (k : Int) ≤ 999 := ⟨by omega, by omega⟩
  have GD := Lib.hid (fun l a cap J Y W ho hJ hg hc h => odo (f := (fun _ => 1)) (p := 256) (id := (k : Int)) (J := J) okOne hk9 l a cap Y W ho hJ hg hc h)
  go_enter Try.func8, Try.ntmps8
  go_wp2_with (go_at_call 9; ((with_reducible refine (GK.out _).mono ?_); rintro e w1 ⟨rfl, hB1⟩))
  go_loopw [11] (fun i wr => ∃ (m : Nat) (l : List EntryC) (a : Option Addr) (cap : Nat), m ≤ zs.length ∧ i = .int .i64 m ∧ OS w w1.heap.size (k : Int) (fun _ => 1) 256 l a cap wr) (fun i _ => zs.length - (intOf i).toNat)
  case atStart => exact ⟨0, [], none, 0, by omega, rfl, World.alloc_heap_new _ _, hasG_nil _ _ _ _ _ _ _ _, Nat.le_refl _, OI.nil _ _, hB1.size, bel_alloc hB1 _⟩
  case round =>
  obtain ⟨m, l, a, acap, hm, rfl, hS⟩ := hrel
  by_cases hlt : m < zs.length
  · obtain ⟨bb, off, rfl, hbb, hc⟩ := hcz (by omega)
    have hck := (hS.2.2.2.2.2.cell (p := ⟨bb, off + m, none⟩) hbb).trans (hc m hlt)
    obtain ⟨y, hy, hy3⟩ := nat_of_u8 (hwz zs[m] (List.getElem_mem _))
    rw [hy] at hck
    have hJe : (IntKind.i64.wrap (IntKind.i64.wrap (y : Int) + 1)) = (y : Int) + 1 := by rw [show IntKind.i64.wrap (y : Int) = (y : Int) from IntWalk.i64_in _ (by omega)]; exact IntWalk.i64_in _ (by omega)
    have hJb : 1 ≤ (IntKind.i64.wrap (IntKind.i64.wrap (y : Int) + 1)) ∧ (IntKind.i64.wrap (IntKind.i64.wrap (y : Int) + 1)) ≤ 256 := by rw [hJe]; exact ⟨by omega, by omega⟩
    have hlt' : (m : Int) < (zs.length : Int) := by omega
    have hd : decide ((zs.length : Int) ≤ (m : Int)) = false := by rw [decide_eq_false_iff_not]; omega
    have hSo := hS.2.2.2.1
    have hSg := hS.2.1
    have hSc := hS.2.2.1
    have hckd := ((Below.refl wr.heap.size wr).drew.cell (p := ⟨bb, off + m, none⟩) (Nat.lt_of_lt_of_le hbb hS.2.2.2.2.2.size)).trans hck
    obtain ⟨g0, g1, g2, g3, g4, g5, g6, -⟩ := cells7 (hS.below (Below.refl _ _).drew).1
    obtain ⟨q0, q1, q2, q3, q4, q5, q6, -⟩ := cells7 (hS.below (bel_alloc (Below.refl _ _) (.cells #[.int .i64 (IntKind.i64.wrap (IntKind.i64.wrap (y : Int) + 1)), .int .i64 1, .string ⟨#[]⟩] 38)).drew).1
    clear hc hy hJe
    go_wp2
    go_region_with (first
      | (go_at_call 12; ((with_reducible refine (GD.out _ _ _ (IntKind.i64.wrap (IntKind.i64.wrap (y : Int) + 1)) _ _ hSo hJb ?hg hSc ?hx).mono ?_); (case hx => exact World.alloc_heap_new _ _); (case hg => first | exact hSg.below (bel_alloc (Below.refl _ _) _) | exact hSg.below (bel_alloc (Below.refl _ _) _).drew | exact hSg.below (bel_alloc (Below.refl _ _).drew _)); rintro e w9 ⟨l', a', cap', rfl, hoi', hmem, hsub, hG9, hc9, hB9, hN9⟩; have hB9' : Below wr.heap.size wr w9 := (by first | exact bel2 (bel_alloc (Below.refl _ _) _) hB9 | exact bel2 (bel_alloc (Below.refl _ _) _).drew hB9 | exact bel2 (bel_alloc (Below.refl _ _).drew _) hB9); have HOS := Lib.hid (OS.step hS hB9' hG9 (fun b hb => by have := hN9 b hb; simp at this; omega) hc9 hoi'); have hgb9 := (hB9'.block _ (heap_lt hS.1)).trans hS.1; obtain ⟨z0, z1, z2, z3, z4, z5, z6, -⟩ := cells7 hgb9; have fz : (∀ i, w9.frozen? ⟨w1.heap.size, i, none⟩ = false) := (fun i => frozen_of_row _ _ i _ _ hgb9); clear hgb9)))
    all_goals
      go_wp2
      go_roundw
      case rel => exact ⟨m + 1, l', a', cap', by omega, by go_num, HOS.out.1⟩
      case measure => simp [intOf]; omega
  have hOM : m = zs.length := by omega
  subst m
  clear hlt hm
  obtain ⟨wo, rfl⟩ : ∃ wo : World, wo = wr := ⟨_, rfl⟩
  obtain ⟨r, hr, hr6⟩ : ∃ r : Nat, (n : Int) % 6 = (r : Int) ∧ r < 6 := ⟨n % 6, by omega, by omega⟩
  clear GD hcz hwz hml h40'
  go_wp2
  go_loopw [14] (fun i wr => ∃ (j : Nat) (v : Value), j ≤ r + 1 ∧ i = .int .i64 j ∧ wr.heap[wo.heap.size]? = some (.cells #[.int .i64 (k : Int), .int .i64 1, v, .int .i64 0, .int .i64 0, .int .i64 0, .int .i64 0, .int .i64 0, .bool false, .bool false] 28 (0, 0)) ∧ wr.ownsRow (wo.heap.size + 1) 38 3 v j (entryCells (appL ((f : Int) + 1) 9 j)) ∧ Below wo.heap.size wo wr) (fun i _ => r + 1 - (intOf i).toNat)
  case atStart => exact ⟨0, .slice none 0 0, by omega, rfl, World.alloc_heap_new _ _, World.ownsRow_nil _ _ _ _, bel_alloc (Below.refl _ _) _⟩
  case round =>
  obtain ⟨j, v, hj, rfl, hblk, hown, hB⟩ := hrel
  have hXlt := heap_lt hblk
  by_cases hlt : j ≤ r
  · have hlt' : (j : Int) ≤ (r : Int) := by omega
    have hw9 : IntKind.i64.wrap (((f : Int) + 1) + (j : Int)) = ((f : Int) + 1) + (j : Int) := IntWalk.i64_in _ (by omega)
    have c2 : wr.cell? ⟨wo.heap.size, 2, none⟩ = some v := cell_of_row _ _ 2 _ _ _ hblk
    have HS := Lib.hid (show entryCells (appL ((f : Int) + 1) 9 (j + 1)) = entryCells (appL ((f : Int) + 1) 9 j) ++ [.int .i64 (((f : Int) + 1) + (j : Int)), .int .i64 9, .string ⟨#[]⟩] by rw [appL_snoc, entryCells_snoc]; rfl)
    go_wp2_with (at_builtin; refine wpList_append_own _ rfl _ _ 24 rfl (wo.heap.size + 1) 38 i9 (.agg #[.int .i64 0, .int .i64 0, .string ⟨#[]⟩]) 3 32 Try.underlying24 hi9 hz0 hz1 hz2 rfl (by decide) _ _ _ rfl (hown.alloc _) ⟨wr.heap.size, 0, none⟩ 1 1 [.int .i64 (((f : Int) + 1) + (j : Int)), .int .i64 9, .string ⟨#[]⟩] rfl rfl (news_new _ _ _) (by simp [Value.oneCell']) (by unfold maxLen; omega) (by omega) (by simp; omega) ?_; intro v' w3 hown3 hgrow _; obtain ⟨g', cap', rfl⟩ := ownsRow_succ hown3; have hne : v.ownBlock ≠ some wo.heap.size := (fun e => by have := ownBlock_ge hown e; omega); have hA1 := bel_alloc (Below.refl wr.heap.size wr) (.cells [.int .i64 (((f : Int) + 1) + (j : Int)), .int .i64 9, .string ⟨#[]⟩].toArray 38); have hb3 := (hgrow.block wo.heap.size (by simp; omega) (fun e => hne e.symm)).trans ((hA1.block _ hXlt).trans hblk); have f2 := frozen_of_row _ _ 2 _ _ hb3; have k2 : w3.cell? ⟨wo.heap.size, 2, none⟩ = some v := cell_of_row _ _ 2 _ _ _ hb3; have hb4 := Go.Joins.block_setCell hb3 (.slice (some ⟨g', 0, none⟩) (j + 1) cap') (i := 2); simp only [List.setIfInBounds_toArray, List.set_cons_succ, List.set_cons_zero] at hb4; have hF4 := FrameT.setCell w3 wo.heap.size 2 (.slice (some ⟨g', 0, none⟩) (j + 1) cap'); have hown4 := own_frame hown3 hF4 (fun k hk h => by omega); have hB3 := ((hB.trans (hA1.mono hB.size)).grown hgrow (by simp; omega) (fun k hk => by have := ownBlock_ge hown hk; omega)).setCell (p := ⟨wo.heap.size, 2, none⟩) (Nat.le_refl _) (.slice (some ⟨g', 0, none⟩) (j + 1) cap'))
    go_roundw
    case rel => exact ⟨j + 1, _, by omega, by go_num, hb4, by rw [HS.out]; exact hown4, hB3⟩
    case measure => simp [intOf]; omega
  have hOJ : j = r + 1 := by omega
  subst j
  have hge : (r : Int) < ((r + 1 : Nat) : Int) := by omega
  obtain ⟨pa, pc, rfl, hpc, hprow⟩ := rowV_own hown
  have hS2 := hS.below hB
  have hSo := hS2.2.2.2.1
  obtain ⟨hdo, hIs⟩ := apx (k := (k : Int)) (F := ((f : Int) + 1)) (nn := r + 1) hk9 ⟨by omega, by omega⟩ ⟨by omega, by omega⟩ hSo
  have hq1 : ∀ i (h : i < l.length), i < fnd l ((f : Int) + 1) → l[i].i < ((f : Int) + 1) := fun i h h2 => fnd_lt h2
  have hq2 : ∀ i (h : i < l.length), fnd l ((f : Int) + 1) ≤ i → ((f : Int) + 1) ≤ l[i].i := fun i h h2 => fnd_ge (ris_pw.2 hSo.1) h h2
  have hql := fnd_le l ((f : Int) + 1)
  have hll := oi_len hSo
  have hTl : (l.take (fnd l ((f : Int) + 1))).length = fnd l ((f : Int) + 1) := by rw [List.length_take]; omega
  obtain ⟨L9, hL9⟩ : ∃ L9, L9 = l.take (fnd l ((f : Int) + 1)) ++ appL ((f : Int) + 1) 9 (r + 1) := ⟨_, rfl⟩
  have hLl : L9.length = fnd l ((f : Int) + 1) + (r + 1) := by rw [hL9, List.length_append, hTl, appL_len]
  have hLi : ∀ i (h : i < l.length) (h3 : i < L9.length), i < fnd l ((f : Int) + 1) → L9[i] = l[i] := fun i h h3 h2 => by
    subst hL9
    rw [List.getElem_append_left (by rw [hTl]; exact h2), List.getElem_take]
  have hLd : L9.drop (fnd l ((f : Int) + 1)) = appL ((f : Int) + 1) 9 (r + 1) := by rw [hL9]; exact List.drop_left' hTl
  rw [← hL9] at hdo hIs
  generalize fnd l ((f : Int) + 1) = q at *
  obtain ⟨wp, rfl⟩ : ∃ wp : World, wp = wr := ⟨_, rfl⟩
  have GA := Lib.hid (fun W (hg : HasG W a ⟨(k : Int), 1, 0, 0, 0, 0, l⟩) (hp : RowV W pa (r + 1) 3 (entryCells (appL ((f : Int) + 1) 9 (r + 1)))) => (show Calls Try.prog 12 #[.agg #[.int .i64 (k : Int), .int .i64 1, .int .i64 0, .int .i64 0, .int .i64 0, .int .i64 0, .slice a l.length acap], .agg #[.int .i64 (k : Int), .int .i64 1, .slice pa (r + 1) pc, .int .i64 0, .int .i64 0, .int .i64 0, .int .i64 0, .int .i64 0, .bool false, .bool false]] W (SDoP W ⟨(k : Int), 1, 0, 0, 0, 0, L9⟩) from by
    have := sdo_valid (k : Int) 1 0 0 0 0 l a acap 1 pa (r + 1) pc 0 0 0 0 0 false false (appL ((f : Int) + 1) 9 (r + 1)) W hg hS2.2.2.1 ⟨appL_len _ _ _, by show r + 1 < 1000000; omega, hp⟩ (by rw [appL_len]; exact hpc) (by omega) (oi_isSp okOne hSo hk9) (app_is _ _ hk9 ⟨by omega, by omega⟩ (by omega) (by omega) (by omega) (by omega))
    rwa [hdo] at this))
  obtain ⟨g0, g1, g2, g3, g4, g5, g6, -⟩ := cells7 hS2.1
  obtain ⟨p0, p1, p2, p3, p4, p5, p6, p7, p8, p9⟩ := cells10a hblk
  have hSg := hS2.2.1
  have hprow2 := hprow
  have HBW := Lib.hid (fun W (hW : Below wp.heap.size wp W) => bel2 hS2.2.2.2.2.2 hW)
  have HLL := Lib.hid hLl
  have HLI := Lib.hid hLi
  have HLD := Lib.hid hLd
  have HQ1 := Lib.hid hq1
  have HQ2 := Lib.hid hq2
  clear hlt hj hown hB hS hXlt hL9 hLl hLi hLd hTl hq1 hq2 hdo
  go_wp2_with (go_at_call 12; ((with_reducible refine (GA.out _ hSg hprow2).mono ?_); rintro e w9 ⟨ha, hc, rfl, hHG, hhc, hB9, -⟩; have hBx := bel_alloc (Below.refl w9.heap.size w9) (.cells #[.int .i64 (k : Int), .int .i64 1, .int .i64 0, .int .i64 0, .int .i64 0, .int .i64 0, .slice ha L9.length hc] 26); have hh := World.alloc_heap_new w9 (.cells #[.int .i64 (k : Int), .int .i64 1, .int .i64 0, .int .i64 0, .int .i64 0, .int .i64 0, .slice ha L9.length hc] 26); have hBz := bel2 hB9 hBx; have hHG2 := hHG.below hBx))
  have hS3 := hS2.below hBz
  have hpr3 := hprow2.below hBz
  have hP3 := (hBz.block _ (heap_lt hblk)).trans hblk
  have HBX := Lib.hid (HBW.out _ hBz)
  clear g0 g1 g2 g3 g4 g5 g6 p0 p1 p2 p3 p4 p5 p6 p7 p8 p9 hS2 hSg hprow hprow2 hblk hBx hBz hB9 hHG GA HBW
  obtain ⟨wx, hwx⟩ : ∃ wx, wx = w9.alloc (.cells #[.int .i64 (k : Int), .int .i64 1, .int .i64 0, .int .i64 0, .int .i64 0, .int .i64 0, .slice ha L9.length hc] 26) := ⟨_, rfl⟩
  rw [← hwx] at hS3 hpr3 hP3 HBX hh hHG2
  rw [← hwx]
  clear hwx
  obtain ⟨H, hHe⟩ : ∃ H, H = w9.heap.size := ⟨_, rfl⟩
  rw [← hHe] at hh
  rw [← hHe]
  clear hHe
  go_loopw [16, 17] (fun m i W => ∃ z c : Nat, z ≤ l.length ∧ i = .int .i64 z ∧ m = .int .i64 c ∧ c = min z q ∧ Below wx.heap.size wx W) (fun _ i _ => l.length - (intOf i).toNat)
  case atStart => exact ⟨0, 0, by omega, rfl, rfl, by omega, Below.refl _ _⟩
  case round =>
  obtain ⟨z, c, hz, rfl, rfl, hcz, hB⟩ := hrel
  have hS4 := hS3.below hB
  by_cases hlt : z < l.length
  · have hlt' : (z : Int) < (l.length : Int) := by omega
    have hd1 : decide ((l.length : Int) ≤ (z : Int)) = false := by rw [decide_eq_false_iff_not]; omega
    obtain ⟨gb, go, rfl, hgb, hgc⟩ := hS4.2.1.2.2.2 (by show 0 < l.length; omega)
    obtain ⟨e0, e1, e2⟩ := entry_at hgb (Below.refl _ _) hgc hlt
    obtain ⟨g0, g1, g2, g3, g4, g5, g6, -⟩ := cells7 hS4.1
    by_cases hzq : z < q
    · have hlf := HQ1.out z hlt hzq
      obtain rfl : c = z := by omega
      have hzL : c < L9.length := by rw [HLL.out]; omega
      obtain ⟨hb, ho, rfl, hhb, hhcc⟩ := (hHG2.below hB).2.2.2 (by show 0 < L9.length; omega)
      obtain ⟨f0, f1, f2⟩ := entry_at hhb (Below.refl _ _) hhcc hzL
      rw [HLI.out c hlt hzL hzq] at f0 f1 f2
      obtain ⟨h0, h1, h2, h3, h4, h5, h6, -⟩ := cells7 ((hB.block _ (heap_lt hh)).trans hh)
      have hd2 : decide ((L9.length : Int) ≤ (c : Int)) = false := by rw [decide_eq_false_iff_not]; omega
      generalize l[c] = x at *
      have hne := fun w => neqEntry x x w
      rw [decide_eq_true (rfl : x = x)] at hne
      have hmin : c + 1 = min (c + 1) q := by omega
      have HMIN := Lib.hid hmin
      clear hgc hhcc hcz hmin
      go_wp2
      go_quiet (fail)
      go_wp2
      exact ⟨⟨c + 1, c + 1, by omega, by go_num, by go_num, HMIN.out, below_drewN hB _⟩, by simp [intOf]; omega⟩
    · have hlf := HQ2.out z hlt (by omega)
      obtain rfl : c = q := by omega
      generalize l[z] = x at *
      have hmin : c = min (z + 1) c := by omega
      have HMIN := Lib.hid hmin
      clear hgc hcz hmin
      go_wp2
      go_roundw
      case rel => exact ⟨z + 1, c, by omega, by go_num, rfl, HMIN.out, hB⟩
      case measure => simp [intOf]; omega
  obtain rfl : z = l.length := by omega
  obtain rfl : c = q := by omega
  obtain ⟨hb, ho, rfl, hhb, hhcc⟩ := (hHG2.below hB).2.2.2 (by show 0 < L9.length; rw [HLL.out]; omega)
  have hHG5 := hHG2.below hB
  have hLL := HLL.out
  have hd := rowV_drop hHG5.2 hHG5.1 (k := c) (by show c < L9.length; omega)
  have hr5 := hpr3.below hB
  have hh5 := (hB.block _ (heap_lt hh)).trans hh
  have hP5 := (hB.block _ (heap_lt hP3)).trans hP3
  have hd9 : decide ((L9.length : Int) < (c : Int)) = false := by rw [decide_eq_false_iff_not]; omega
  have hc0 : (0 : Int) ≤ (c : Int) := by omega
  have hcL : (c : Int) ≤ (L9.length : Int) := by omega
  have hcc9 : (L9.length : Int) ≤ (hc : Int) := by omega
  have hLD9 := HLD.out
  have GS := Lib.hid (fun W (hW : Below wr.heap.size wr W) => (show Gives Try.prog 23 #[.agg #[.int .i64 0, .int .i64 0, .slice (some ⟨hb, ho + c * 3, none⟩) (L9.length - c) (hc - c), .int .i64 0, .int .i64 0, .int .i64 0, .int .i64 0, .int .i64 0, .bool false, .bool false], .agg #[.int .i64 0, .int .i64 0, .slice pa (r + 1) pc, .int .i64 0, .int .i64 0, .int .i64 0, .int .i64 0, .int .i64 0, .bool false, .bool false]] W (.bool true) from by
    have := refSame_any ⟨0, 0, some ⟨hb, ho + c * 3, none⟩, L9.length - c, hc - c, 0, 0, 0, 0, 0, false, false⟩ ⟨0, 0, pa, r + 1, pc, 0, 0, 0, 0, 0, false, false⟩ (L9.drop c) (appL ((f : Int) + 1) 9 (r + 1)) W ⟨List.length_drop .., by show L9.length - c < 1000000; omega, by show RowV W _ (L9.length - c) 3 _; rw [← List.length_drop]; exact hd.below hW⟩ ⟨appL_len _ _ _, by show r + 1 < 1000000; omega, hr5.below hW⟩
    rw [show sameB (⟨0, 0, some ⟨hb, ho + c * 3, none⟩, L9.length - c, hc - c, 0, 0, 0, 0, 0, false, false⟩ : PartC) ⟨0, 0, pa, r + 1, pc, 0, 0, 0, 0, 0, false, false⟩ (L9.drop c) (appL ((f : Int) + 1) 9 (r + 1)) = true from sameB_iff.2 ⟨rfl, rfl, hLD9, ⟨rfl, rfl, rfl⟩, rfl, rfl, rfl, rfl⟩] at this; exact this))
  clear hLD9
  have n4 : ¬ hc = c := by omega
  have GI := Lib.hid (fun W (hW : Below wr.heap.size wr W) => (show Gives Try.prog 13 #[.agg #[.int .i64 (k : Int), .int .i64 1, .int .i64 0, .int .i64 0, .int .i64 0, .int .i64 0, .slice (some ⟨hb, ho, none⟩) L9.length hc]] W (.bool true) from by have := sprIs_any (k : Int) 1 0 0 0 0 L9 (some ⟨hb, ho, none⟩) hc W (hHG5.below hW); rwa [hIs] at this))
  have KB := Lib.hid (fun W (hW : Below wr.heap.size wr W) => And.intro (cells7 ((hW.block _ (heap_lt hh5)).trans hh5)) (cell_of_row _ _ 2 _ _ _ ((hW.block _ (heap_lt hP5)).trans hP5)))
  obtain ⟨h0, h1, h2, h3, h4, h5, h6, -⟩ := cells7 hh5
  obtain ⟨g0, g1, g2, g3, g4, g5, g6, -⟩ := cells7 hS4.1
  have p2 := cell_of_row _ _ 2 _ _ _ hP5
  clear hhcc hlt hcz hLL
  go_wp2
  go_region_held3 (fun W' => W'.cell? ⟨H, 0, none⟩ = some (.int .i64 (k : Int)) ∧ W'.cell? ⟨H, 1, none⟩ = some (.int .i64 1) ∧ W'.cell? ⟨H, 2, none⟩ = some (.int .i64 0) ∧ W'.cell? ⟨H, 3, none⟩ = some (.int .i64 0) ∧ W'.cell? ⟨H, 4, none⟩ = some (.int .i64 0) ∧ W'.cell? ⟨H, 5, none⟩ = some (.int .i64 0) ∧ W'.cell? ⟨H, 6, none⟩ = some (.slice (some ⟨hb, ho, none⟩) L9.length hc) ∧ W'.cell? ⟨wo.heap.size, 2, none⟩ = some (.slice pa (r + 1) pc)) (go_keep) (first
    | (go_at_call 23; ((with_reducible refine (GS.out _ ?hb).mono ?_); (case hb => first | exact (Below.refl _ _).drew | exact Below.refl _ _); rintro e w10 ⟨rfl, hB10⟩; have hX10 : Below wr.heap.size wr w10 := (by first | exact hB10 | exact bel2 (Below.refl _ _).drew hB10); obtain ⟨⟨y0, y1, y2, y3, y4, y5, y6, -⟩, y7⟩ := KB.out _ hX10))
    | (go_at_call 13; ((with_reducible refine (GI.out _ hX10).mono ?_); rintro e w11 ⟨rfl, hB11⟩; have hX11 := bel2 hX10 hB11; obtain ⟨⟨z0, z1, z2, z3, z4, z5, z6, -⟩, z7⟩ := KB.out _ hX11)))
  all_goals
    go_wp2
    go_ret
    exact ⟨by simp, bel2 HBX.out (bel2 hB hX11)⟩


set_option maxRecDepth 100000 in
theorem lifted (os : Os) (started : os.Started) (H : Type) (enc : TypeId × Value → H) :
    ReturnsInHanded {} Try.checked os 8 .any (Rows.sparseAppendsSpec.pre6 enc Try.prog Try.f8 Rows.sparseAppendsRow.domain false) (Rows.sparseAppendsSpec.post enc Try.prog Try.f8 false true false false) := by
  refine returnsInHanded_of_change (C := Try.checked) Try.own started (by kernel_rfl) Try.func8
    (ChangeSpec.witness6 (enc := enc) (C := Try.checked) false ⟨#[], #[.int .u8 0, .slice none 0 0, .int .u8 0, .int .u8 0], []⟩ 8 (by kernel_rfl) (by kernel_rfl) (by kernel_rfl) (by kernel_rfl)) ?_
  intro W base args ds gs before hval hW _ _
  refine law_contract (T := 4) (n := 4) Try.laid Try.underlying4 rfl rfl ⟨rfl, fun H ds h => by match ds, h with | [_, _, _, _], _ => rfl⟩ (of_all (by kernel_rfl)) hW ?_
  intro ps hA
  rw [Try.params8] at hA hval
  obtain ⟨v0, vs0, d0, ds0, p0, q0, hargs, rfl, rfl, h0, r0⟩ := trodAll_cons hA
  obtain ⟨v1, vs1, d1, ds1, p1, q1, rfl, rfl, rfl, h1, r1⟩ := trodAll_cons r0
  obtain ⟨v2, vs2, d2, ds2, p2, q2, rfl, rfl, rfl, h2, r2⟩ := trodAll_cons r1
  obtain ⟨v3, vs3, d3, ds3, p3, q3, rfl, rfl, rfl, h3, r3⟩ := trodAll_cons r2
  obtain ⟨rfl, rfl, rfl⟩ := trodAll_nil r3
  obtain rfl : args = #[v0, v1, v2, v3] := by cases args; simp_all
  obtain ⟨a0, rfl, rfl, rfl, w0⟩ := open_int Try.underlying5 (hval 0 5 v0 rfl rfl) h0
  obtain ⟨s1, l1, c1, rfl⟩ := okWide_slice Try.underlying42 (hval 1 42 v1 rfl rfl)
  obtain ⟨zs1, w1⟩ := isInts_of (k := .u8) Try.underlying42 Try.underlying5 (by kernel_rfl) h1
  obtain ⟨a2, rfl, rfl, rfl, w2⟩ := open_int Try.underlying5 (hval 2 5 v2 rfl rfl) h2
  obtain ⟨a3, rfl, rfl, rfl, w3⟩ := open_int Try.underlying5 (hval 3 5 v3 rfl rfl) h3
  obtain ⟨n0, rfl, b0⟩ := nat_of_u8 w0
  obtain ⟨n2, rfl, b2⟩ := nat_of_u8 w2
  obtain ⟨n3, rfl, b3⟩ := nat_of_u8 w3
  exact walk W n0 b0 s1 l1 c1 _ (rowI_of w1) n2 b2 n3 b3

theorem holds : Rows.SparseAppendsSaid :=
  OpenClaim.holds_of_wide 8 Try.f8 rfl rfl rfl rfl rfl rfl rfl ⟨rfl, rfl, rfl, rfl, rfl⟩ rfl rfl rfl rfl rfl (by kernel_rfl) Try.func8 (by kernel_rfl)
    (of_decide_eq_true (by kernel_rfl)) (by unfold Func.isWrapper; first | (rw [if_pos (by decide +kernel)]; kernel_rfl) | (rw [if_neg (by decide +kernel)]; exact ⟨rfl, rfl⟩))
    (fun os started H enc _ => lifted os started H enc)

end Go.Proofs.Ytfbibpnkfmgkaaa.sparseAppends
