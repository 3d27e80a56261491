/- Walks of law PartSizes. -/
import Derived.Test.YtpogklceaoiacaaKnown4
import Derived.Test.YtpogklceaoiacaaSizesMath
import Derived.Test.YtpogklceaoiacaaBytes
namespace Go.Proofs.Ytpogklceaoiacaa
open Go.ChangeShapes Go.WideShapes Go.ChangeAt Go.RowKit Go.Shelf
set_option linter.unusedVariables false
attribute [local go_sem] Oper.semAt_some wide_fn wide_round_fn

set_option maxRecDepth 100000 in
set_option maxHeartbeats 2000000 in
theorem sizes00 (n m x : Nat) (hn : n < 256) (hm : m < 256) (hx : x < 4294967296) (hq : (n : Int) % 3 = 0) (hr : (m : Int) % 3 = 0) (w : World) :
    Calls Try.prog 8 #[.int .u8 n, .int .u8 m, .int .u32 x] w fun e w' => e = .returned (.bool true) ∧ Below w.heap.size w w' := by
  obtain ⟨i0, hi, hz0, hz1, hz2⟩ := info_parts infoEntry
  obtain ⟨b0, bi, bz0, bz1, bz2⟩ := info_parts Try.infoU8
  have GK := Lib.hid part_known
  obtain ⟨Z, hZ, hZs⟩ : ∃ Z : ByteArray, Z = ⟨(List.replicate 39 0).toArray⟩ ∧ Z.size = 39 := ⟨_, rfl, by show (List.replicate 39 (0 : UInt8)).toArray.size = _; simp⟩
  have HZ := Lib.hid hZ
  have HM := Lib.hid (fun W => bytes_made (P := Try.prog) (t := 48) (e := 5) b0 Try.underlying48 bi bz0 bz1 bz2 39 (by decide) W)
  have I1 := Lib.hid (fun va vc => cons_is1 Z 5 ((x : Int) + 1) va vc (by decide) (by omega) (by omega))
  have I6 := Lib.hid (fun va vc => cons_is6 Z 5 ((x : Int) + 1) va vc (by decide) (by omega) (by omega))
  rw [hZs] at I1 I6
  have HZs := Lib.hid hZs
  clear hZ hZs
  simp only [show (decide (5 ≤ 6) && decide (39 ≤ 40)) = true by decide] at I1 I6
  have GB := Lib.hid (fun va vc W (h : HasE W (⟨1, 1, va, 5, vc, 0, 0, 0, 0, 0, false, false⟩ : PartC) (consL Z ((x : Int) + 1) 5)) => bytes_any (⟨1, 1, va, 5, vc, 0, 0, 0, 0, 0, false, false⟩ : PartC) (consL Z ((x : Int) + 1) 5) W h)
  have GI1 := Lib.hid (fun va vc W (h : HasE W (⟨1, 1, va, 5, vc, 0, 0, 0, 0, 0, false, false⟩ : PartC) (consL Z ((x : Int) + 1) 5)) => is_any (⟨1, 1, va, 5, vc, 0, 0, 0, 0, 0, false, false⟩ : PartC) (consL Z ((x : Int) + 1) 5) W h)
  have GI6 := Lib.hid (fun va vc W (h : HasE W (⟨1, 6, va, 5, vc, 0, 0, 0, 0, 0, false, false⟩ : PartC) (consL Z ((x : Int) + 1) 5)) => is_any (⟨1, 6, va, 5, vc, 0, 0, 0, 0, 0, false, false⟩ : PartC) (consL Z ((x : Int) + 1) 5) W h)
  simp only [bytesE, I1.out] at GB
  simp only [I1.out] at GI1
  simp only [I6.out] at GI6
  dsimp only [PartC.val] at GB GI1 GI6
  clear I1 I6
  go_enter Try.func8, Try.ntmps8
  go_wp2_with (go_at_call 15; ((with_reducible refine (GK.out _).mono ?_); rintro e w1 ⟨rfl, hB1⟩))
  clear hq hr
  go_loopw [9, 10] (fun v i wr => ∃ j : Nat, j ≤ 5 ∧ i = .int .i64 j ∧ wr.ownsRow w1.heap.size 28 3 v j (entryCells (consL Z ((x : Int) + 1) j)) ∧ Below w1.heap.size w1 wr) (fun _ i _ => 5 - (intOf i).toNat)
  case atStart => exact ⟨0, by omega, rfl, World.ownsRow_nil _ _ _ _, Below.refl _ _⟩
  case round =>
    obtain ⟨j, hj, rfl, hown, hB⟩ := hrel
    by_cases hlt : j < 5
    · obtain ⟨w2, hmk0, hB2, hby⟩ := HM.out wr
      have hmk : (Instr.makeSlice 48 (.int .i64 39) (.int .i64 39)).run Try.prog wr = .ok (.slice (some ⟨wr.heap.size, 0, none⟩) 39 39) w2 := hmk0
      have hcv := string_of (P := Try.prog) (src := 48) (dst := 9) Try.underlying48 Try.underlying5 Try.underlying9 hby 39 39 (by simp)
      rw [← HZ.out] at hcv
      have hown2 := ownsRow_below (n := 0) hown hB2
      have hBw := hB.trans (hB2.mono hB.size)
      have HS := Lib.hid (show entryCells (consL Z ((x : Int) + 1) (j + 1)) = entryCells (consL Z ((x : Int) + 1) j) ++ [.int .i64 ((x : Int) + 1 + j), .int .i64 7, .string Z] by rw [consL_snoc, entryCells_snoc]; rfl)
      clear hmk0 hby hown hB
      go_wp2_with (at_builtin; refine wpList_append_own _ rfl _ _ 22 rfl w1.heap.size 28 i0 (.agg #[.int .i64 0, .int .i64 0, .string ⟨#[]⟩]) 3 32 Try.underlying22 hi hz0 hz1 hz2 rfl (by decide) _ _ _ rfl (hown2.alloc _) ⟨w2.heap.size, 0, none⟩ 1 1 [.int .i64 ((x : Int) + 1 + j), .int .i64 7, .string Z] rfl rfl (news_new _ _ _) (by simp [Value.oneCell']) (by unfold maxLen; omega) (by omega) (by have := hBw.size; simp; omega) ?_; intro v' w3 hown3 hgrow _; have hB3 := (hBw.trans ((bel_alloc (Below.refl w2.heap.size w2) (.cells #[.int .i64 ((x : Int) + 1 + j), .int .i64 7, .string Z] 28)).mono hBw.size)).grown hgrow (by have := hBw.size; simp; omega) (fun k hk => ownBlock_ge hown2 hk))
      go_roundw
      case rel => exact ⟨j + 1, by omega, by go_num, by rw [HS.out]; exact hown3, hB3⟩
      case measure => simp [intOf]; omega
    · obtain rfl : j = 5 := by omega
      obtain ⟨va, vc, rfl, hrow, hoff⟩ := own_ent hown
      have hent : ∀ kd, HasE wr (⟨1, kd, va, 5, vc, 0, 0, 0, 0, 0, false, false⟩ : PartC) (consL Z ((x : Int) + 1) 5) := fun kd => ⟨consL_len _ _ _, (by decide : 5 < 1000000), hrow⟩
      have HE := Lib.hid hent
      have hA1 := bel_alloc (Below.refl wr.heap.size wr) (.cells #[.int .i64 1, .int .i64 1, .slice va 5 vc, .int .i64 0, .int .i64 0, .int .i64 0, .int .i64 0, .int .i64 0, .bool false, .bool false] 26)
      have hA2 := bel_alloc hA1 (.cells #[.int .i64 1, .int .i64 6, .slice va 5 vc, .int .i64 0, .int .i64 0, .int .i64 0, .int .i64 0, .int .i64 0, .bool false, .bool false] 26)
      have hp0 := ((bel_alloc (Below.refl (wr.alloc (.cells #[.int .i64 1, .int .i64 1, .slice va 5 vc, .int .i64 0, .int .i64 0, .int .i64 0, .int .i64 0, .int .i64 0, .bool false, .bool false] 26)).heap.size (wr.alloc (.cells #[.int .i64 1, .int .i64 1, .slice va 5 vc, .int .i64 0, .int .i64 0, .int .i64 0, .int .i64 0, .int .i64 0, .bool false, .bool false] 26))) (.cells #[.int .i64 1, .int .i64 6, .slice va 5 vc, .int .i64 0, .int .i64 0, .int .i64 0, .int .i64 0, .int .i64 0, .bool false, .bool false] 26)).block wr.heap.size (by simp)).trans (World.alloc_heap_new wr (.cells #[.int .i64 1, .int .i64 1, .slice va 5 vc, .int .i64 0, .int .i64 0, .int .i64 0, .int .i64 0, .int .i64 0, .bool false, .bool false] 26))
      have hf0 := World.alloc_heap_new (wr.alloc (.cells #[.int .i64 1, .int .i64 1, .slice va 5 vc, .int .i64 0, .int .i64 0, .int .i64 0, .int .i64 0, .int .i64 0, .bool false, .bool false] 26)) (.cells #[.int .i64 1, .int .i64 6, .slice va 5 vc, .int .i64 0, .int .i64 0, .int .i64 0, .int .i64 0, .int .i64 0, .bool false, .bool false] 26)
      rw [World.size_alloc] at hf0
      have hE1 := (HE.out 1).below hA2
      have hE6 := (HE.out 6).below hA2
      clear hown hrow hoff hlt hj hent
      go_wp2_with (first
        | (go_at_call 17; ((with_reducible refine (GB.out _ _ _ hE1).mono ?_); rintro e w4 ⟨rfl, hB4⟩; have hp4 := (hB4.block _ (heap_ltP hp0)).trans hp0; have hf4 := (hB4.block _ (heap_ltP hf0)).trans hf0; have hE1b := hE1.below hB4; have hE6b := hE6.below hB4; obtain ⟨y0, y1, y2, y3, y4, y5, y6, y7, y8, y9⟩ := arr10 hp4))
        | (go_at_call 20; ((with_reducible refine (GI1.out _ _ _ hE1b).mono ?_); rintro e w5 ⟨rfl, hB5⟩; have hf5 := (hB5.block _ (heap_ltP hf4)).trans hf4; have hE6c := hE6b.below hB5; obtain ⟨z0, z1, z2, z3, z4, z5, z6, z7, z8, z9⟩ := arr10 hf5))
        | (go_at_call 20; ((with_reducible refine (GI6.out _ _ _ hE6c).mono ?_); rintro e w6 ⟨rfl, hB6⟩)))
      go_ret
      exact ⟨rfl, hB1.trans ((hB.trans ((bel2 (bel2 (bel2 hA2 hB4) hB5) hB6).mono hB.size)).mono hB1.size)⟩

set_option maxRecDepth 100000 in
set_option maxHeartbeats 2000000 in
theorem sizes01 (n m x : Nat) (hn : n < 256) (hm : m < 256) (hx : x < 4294967296) (hq : (n : Int) % 3 = 0) (hr : (m : Int) % 3 = 1) (w : World) :
    Calls Try.prog 8 #[.int .u8 n, .int .u8 m, .int .u32 x] w fun e w' => e = .returned (.bool true) ∧ Below w.heap.size w w' := by
  obtain ⟨i0, hi, hz0, hz1, hz2⟩ := info_parts infoEntry
  obtain ⟨b0, bi, bz0, bz1, bz2⟩ := info_parts Try.infoU8
  have GK := Lib.hid part_known
  obtain ⟨Z, hZ, hZs⟩ : ∃ Z : ByteArray, Z = ⟨(List.replicate 40 0).toArray⟩ ∧ Z.size = 40 := ⟨_, rfl, by show (List.replicate 40 (0 : UInt8)).toArray.size = _; simp⟩
  have HZ := Lib.hid hZ
  have HM := Lib.hid (fun W => bytes_made (P := Try.prog) (t := 48) (e := 5) b0 Try.underlying48 bi bz0 bz1 bz2 40 (by decide) W)
  have I1 := Lib.hid (fun va vc => cons_is1 Z 5 ((x : Int) + 1) va vc (by decide) (by omega) (by omega))
  have I6 := Lib.hid (fun va vc => cons_is6 Z 5 ((x : Int) + 1) va vc (by decide) (by omega) (by omega))
  rw [hZs] at I1 I6
  have HZs := Lib.hid hZs
  clear hZ hZs
  simp only [show (decide (5 ≤ 6) && decide (40 ≤ 40)) = true by decide] at I1 I6
  have GB := Lib.hid (fun va vc W (h : HasE W (⟨1, 1, va, 5, vc, 0, 0, 0, 0, 0, false, false⟩ : PartC) (consL Z ((x : Int) + 1) 5)) => bytes_any (⟨1, 1, va, 5, vc, 0, 0, 0, 0, 0, false, false⟩ : PartC) (consL Z ((x : Int) + 1) 5) W h)
  have GI1 := Lib.hid (fun va vc W (h : HasE W (⟨1, 1, va, 5, vc, 0, 0, 0, 0, 0, false, false⟩ : PartC) (consL Z ((x : Int) + 1) 5)) => is_any (⟨1, 1, va, 5, vc, 0, 0, 0, 0, 0, false, false⟩ : PartC) (consL Z ((x : Int) + 1) 5) W h)
  have GI6 := Lib.hid (fun va vc W (h : HasE W (⟨1, 6, va, 5, vc, 0, 0, 0, 0, 0, false, false⟩ : PartC) (consL Z ((x : Int) + 1) 5)) => is_any (⟨1, 6, va, 5, vc, 0, 0, 0, 0, 0, false, false⟩ : PartC) (consL Z ((x : Int) + 1) 5) W h)
  simp only [bytesE, I1.out] at GB
  simp only [I1.out] at GI1
  simp only [I6.out] at GI6
  dsimp only [PartC.val] at GB GI1 GI6
  clear I1 I6
  go_enter Try.func8, Try.ntmps8
  go_wp2_with (go_at_call 15; ((with_reducible refine (GK.out _).mono ?_); rintro e w1 ⟨rfl, hB1⟩))
  clear hq hr
  go_loopw [9, 10] (fun v i wr => ∃ j : Nat, j ≤ 5 ∧ i = .int .i64 j ∧ wr.ownsRow w1.heap.size 28 3 v j (entryCells (consL Z ((x : Int) + 1) j)) ∧ Below w1.heap.size w1 wr) (fun _ i _ => 5 - (intOf i).toNat)
  case atStart => exact ⟨0, by omega, rfl, World.ownsRow_nil _ _ _ _, Below.refl _ _⟩
  case round =>
    obtain ⟨j, hj, rfl, hown, hB⟩ := hrel
    by_cases hlt : j < 5
    · obtain ⟨w2, hmk0, hB2, hby⟩ := HM.out wr
      have hmk : (Instr.makeSlice 48 (.int .i64 40) (.int .i64 40)).run Try.prog wr = .ok (.slice (some ⟨wr.heap.size, 0, none⟩) 40 40) w2 := hmk0
      have hcv := string_of (P := Try.prog) (src := 48) (dst := 9) Try.underlying48 Try.underlying5 Try.underlying9 hby 40 40 (by simp)
      rw [← HZ.out] at hcv
      have hown2 := ownsRow_below (n := 0) hown hB2
      have hBw := hB.trans (hB2.mono hB.size)
      have HS := Lib.hid (show entryCells (consL Z ((x : Int) + 1) (j + 1)) = entryCells (consL Z ((x : Int) + 1) j) ++ [.int .i64 ((x : Int) + 1 + j), .int .i64 7, .string Z] by rw [consL_snoc, entryCells_snoc]; rfl)
      clear hmk0 hby hown hB
      go_wp2_with (at_builtin; refine wpList_append_own _ rfl _ _ 22 rfl w1.heap.size 28 i0 (.agg #[.int .i64 0, .int .i64 0, .string ⟨#[]⟩]) 3 32 Try.underlying22 hi hz0 hz1 hz2 rfl (by decide) _ _ _ rfl (hown2.alloc _) ⟨w2.heap.size, 0, none⟩ 1 1 [.int .i64 ((x : Int) + 1 + j), .int .i64 7, .string Z] rfl rfl (news_new _ _ _) (by simp [Value.oneCell']) (by unfold maxLen; omega) (by omega) (by have := hBw.size; simp; omega) ?_; intro v' w3 hown3 hgrow _; have hB3 := (hBw.trans ((bel_alloc (Below.refl w2.heap.size w2) (.cells #[.int .i64 ((x : Int) + 1 + j), .int .i64 7, .string Z] 28)).mono hBw.size)).grown hgrow (by have := hBw.size; simp; omega) (fun k hk => ownBlock_ge hown2 hk))
      go_roundw
      case rel => exact ⟨j + 1, by omega, by go_num, by rw [HS.out]; exact hown3, hB3⟩
      case measure => simp [intOf]; omega
    · obtain rfl : j = 5 := by omega
      obtain ⟨va, vc, rfl, hrow, hoff⟩ := own_ent hown
      have hent : ∀ kd, HasE wr (⟨1, kd, va, 5, vc, 0, 0, 0, 0, 0, false, false⟩ : PartC) (consL Z ((x : Int) + 1) 5) := fun kd => ⟨consL_len _ _ _, (by decide : 5 < 1000000), hrow⟩
      have HE := Lib.hid hent
      have hA1 := bel_alloc (Below.refl wr.heap.size wr) (.cells #[.int .i64 1, .int .i64 1, .slice va 5 vc, .int .i64 0, .int .i64 0, .int .i64 0, .int .i64 0, .int .i64 0, .bool false, .bool false] 26)
      have hA2 := bel_alloc hA1 (.cells #[.int .i64 1, .int .i64 6, .slice va 5 vc, .int .i64 0, .int .i64 0, .int .i64 0, .int .i64 0, .int .i64 0, .bool false, .bool false] 26)
      have hp0 := ((bel_alloc (Below.refl (wr.alloc (.cells #[.int .i64 1, .int .i64 1, .slice va 5 vc, .int .i64 0, .int .i64 0, .int .i64 0, .int .i64 0, .int .i64 0, .bool false, .bool false] 26)).heap.size (wr.alloc (.cells #[.int .i64 1, .int .i64 1, .slice va 5 vc, .int .i64 0, .int .i64 0, .int .i64 0, .int .i64 0, .int .i64 0, .bool false, .bool false] 26))) (.cells #[.int .i64 1, .int .i64 6, .slice va 5 vc, .int .i64 0, .int .i64 0, .int .i64 0, .int .i64 0, .int .i64 0, .bool false, .bool false] 26)).block wr.heap.size (by simp)).trans (World.alloc_heap_new wr (.cells #[.int .i64 1, .int .i64 1, .slice va 5 vc, .int .i64 0, .int .i64 0, .int .i64 0, .int .i64 0, .int .i64 0, .bool false, .bool false] 26))
      have hf0 := World.alloc_heap_new (wr.alloc (.cells #[.int .i64 1, .int .i64 1, .slice va 5 vc, .int .i64 0, .int .i64 0, .int .i64 0, .int .i64 0, .int .i64 0, .bool false, .bool false] 26)) (.cells #[.int .i64 1, .int .i64 6, .slice va 5 vc, .int .i64 0, .int .i64 0, .int .i64 0, .int .i64 0, .int .i64 0, .bool false, .bool false] 26)
      rw [World.size_alloc] at hf0
      have hE1 := (HE.out 1).below hA2
      have hE6 := (HE.out 6).below hA2
      clear hown hrow hoff hlt hj hent
      go_wp2_with (first
        | (go_at_call 17; ((with_reducible refine (GB.out _ _ _ hE1).mono ?_); rintro e w4 ⟨rfl, hB4⟩; have hp4 := (hB4.block _ (heap_ltP hp0)).trans hp0; have hf4 := (hB4.block _ (heap_ltP hf0)).trans hf0; have hE1b := hE1.below hB4; have hE6b := hE6.below hB4; obtain ⟨y0, y1, y2, y3, y4, y5, y6, y7, y8, y9⟩ := arr10 hp4))
        | (go_at_call 20; ((with_reducible refine (GI1.out _ _ _ hE1b).mono ?_); rintro e w5 ⟨rfl, hB5⟩; have hf5 := (hB5.block _ (heap_ltP hf4)).trans hf4; have hE6c := hE6b.below hB5; obtain ⟨z0, z1, z2, z3, z4, z5, z6, z7, z8, z9⟩ := arr10 hf5))
        | (go_at_call 20; ((with_reducible refine (GI6.out _ _ _ hE6c).mono ?_); rintro e w6 ⟨rfl, hB6⟩)))
      go_ret
      exact ⟨rfl, hB1.trans ((hB.trans ((bel2 (bel2 (bel2 hA2 hB4) hB5) hB6).mono hB.size)).mono hB1.size)⟩

set_option maxRecDepth 100000 in
set_option maxHeartbeats 2000000 in
theorem sizes02 (n m x : Nat) (hn : n < 256) (hm : m < 256) (hx : x < 4294967296) (hq : (n : Int) % 3 = 0) (hr : (m : Int) % 3 = 2) (w : World) :
    Calls Try.prog 8 #[.int .u8 n, .int .u8 m, .int .u32 x] w fun e w' => e = .returned (.bool true) ∧ Below w.heap.size w w' := by
  obtain ⟨i0, hi, hz0, hz1, hz2⟩ := info_parts infoEntry
  obtain ⟨b0, bi, bz0, bz1, bz2⟩ := info_parts Try.infoU8
  have GK := Lib.hid part_known
  obtain ⟨Z, hZ, hZs⟩ : ∃ Z : ByteArray, Z = ⟨(List.replicate 41 0).toArray⟩ ∧ Z.size = 41 := ⟨_, rfl, by show (List.replicate 41 (0 : UInt8)).toArray.size = _; simp⟩
  have HZ := Lib.hid hZ
  have HM := Lib.hid (fun W => bytes_made (P := Try.prog) (t := 48) (e := 5) b0 Try.underlying48 bi bz0 bz1 bz2 41 (by decide) W)
  have I1 := Lib.hid (fun va vc => cons_is1 Z 5 ((x : Int) + 1) va vc (by decide) (by omega) (by omega))
  have I6 := Lib.hid (fun va vc => cons_is6 Z 5 ((x : Int) + 1) va vc (by decide) (by omega) (by omega))
  rw [hZs] at I1 I6
  have HZs := Lib.hid hZs
  clear hZ hZs
  simp only [show (decide (5 ≤ 6) && decide (41 ≤ 40)) = false by decide] at I1 I6
  have GB := Lib.hid (fun va vc W (h : HasE W (⟨1, 1, va, 5, vc, 0, 0, 0, 0, 0, false, false⟩ : PartC) (consL Z ((x : Int) + 1) 5)) => bytes_any (⟨1, 1, va, 5, vc, 0, 0, 0, 0, 0, false, false⟩ : PartC) (consL Z ((x : Int) + 1) 5) W h)
  have GI1 := Lib.hid (fun va vc W (h : HasE W (⟨1, 1, va, 5, vc, 0, 0, 0, 0, 0, false, false⟩ : PartC) (consL Z ((x : Int) + 1) 5)) => is_any (⟨1, 1, va, 5, vc, 0, 0, 0, 0, 0, false, false⟩ : PartC) (consL Z ((x : Int) + 1) 5) W h)
  have GI6 := Lib.hid (fun va vc W (h : HasE W (⟨1, 6, va, 5, vc, 0, 0, 0, 0, 0, false, false⟩ : PartC) (consL Z ((x : Int) + 1) 5)) => is_any (⟨1, 6, va, 5, vc, 0, 0, 0, 0, 0, false, false⟩ : PartC) (consL Z ((x : Int) + 1) 5) W h)
  simp only [bytesE, I1.out] at GB
  simp only [I1.out] at GI1
  simp only [I6.out] at GI6
  dsimp only [PartC.val] at GB GI1 GI6
  clear I1 I6
  go_enter Try.func8, Try.ntmps8
  go_wp2_with (go_at_call 15; ((with_reducible refine (GK.out _).mono ?_); rintro e w1 ⟨rfl, hB1⟩))
  clear hq hr
  go_loopw [9, 10] (fun v i wr => ∃ j : Nat, j ≤ 5 ∧ i = .int .i64 j ∧ wr.ownsRow w1.heap.size 28 3 v j (entryCells (consL Z ((x : Int) + 1) j)) ∧ Below w1.heap.size w1 wr) (fun _ i _ => 5 - (intOf i).toNat)
  case atStart => exact ⟨0, by omega, rfl, World.ownsRow_nil _ _ _ _, Below.refl _ _⟩
  case round =>
    obtain ⟨j, hj, rfl, hown, hB⟩ := hrel
    by_cases hlt : j < 5
    · obtain ⟨w2, hmk0, hB2, hby⟩ := HM.out wr
      have hmk : (Instr.makeSlice 48 (.int .i64 41) (.int .i64 41)).run Try.prog wr = .ok (.slice (some ⟨wr.heap.size, 0, none⟩) 41 41) w2 := hmk0
      have hcv := string_of (P := Try.prog) (src := 48) (dst := 9) Try.underlying48 Try.underlying5 Try.underlying9 hby 41 41 (by simp)
      rw [← HZ.out] at hcv
      have hown2 := ownsRow_below (n := 0) hown hB2
      have hBw := hB.trans (hB2.mono hB.size)
      have HS := Lib.hid (show entryCells (consL Z ((x : Int) + 1) (j + 1)) = entryCells (consL Z ((x : Int) + 1) j) ++ [.int .i64 ((x : Int) + 1 + j), .int .i64 7, .string Z] by rw [consL_snoc, entryCells_snoc]; rfl)
      clear hmk0 hby hown hB
      go_wp2_with (at_builtin; refine wpList_append_own _ rfl _ _ 22 rfl w1.heap.size 28 i0 (.agg #[.int .i64 0, .int .i64 0, .string ⟨#[]⟩]) 3 32 Try.underlying22 hi hz0 hz1 hz2 rfl (by decide) _ _ _ rfl (hown2.alloc _) ⟨w2.heap.size, 0, none⟩ 1 1 [.int .i64 ((x : Int) + 1 + j), .int .i64 7, .string Z] rfl rfl (news_new _ _ _) (by simp [Value.oneCell']) (by unfold maxLen; omega) (by omega) (by have := hBw.size; simp; omega) ?_; intro v' w3 hown3 hgrow _; have hB3 := (hBw.trans ((bel_alloc (Below.refl w2.heap.size w2) (.cells #[.int .i64 ((x : Int) + 1 + j), .int .i64 7, .string Z] 28)).mono hBw.size)).grown hgrow (by have := hBw.size; simp; omega) (fun k hk => ownBlock_ge hown2 hk))
      go_roundw
      case rel => exact ⟨j + 1, by omega, by go_num, by rw [HS.out]; exact hown3, hB3⟩
      case measure => simp [intOf]; omega
    · obtain rfl : j = 5 := by omega
      obtain ⟨va, vc, rfl, hrow, hoff⟩ := own_ent hown
      have hent : ∀ kd, HasE wr (⟨1, kd, va, 5, vc, 0, 0, 0, 0, 0, false, false⟩ : PartC) (consL Z ((x : Int) + 1) 5) := fun kd => ⟨consL_len _ _ _, (by decide : 5 < 1000000), hrow⟩
      have HE := Lib.hid hent
      have hA1 := bel_alloc (Below.refl wr.heap.size wr) (.cells #[.int .i64 1, .int .i64 1, .slice va 5 vc, .int .i64 0, .int .i64 0, .int .i64 0, .int .i64 0, .int .i64 0, .bool false, .bool false] 26)
      have hA2 := bel_alloc hA1 (.cells #[.int .i64 1, .int .i64 6, .slice va 5 vc, .int .i64 0, .int .i64 0, .int .i64 0, .int .i64 0, .int .i64 0, .bool false, .bool false] 26)
      have hp0 := ((bel_alloc (Below.refl (wr.alloc (.cells #[.int .i64 1, .int .i64 1, .slice va 5 vc, .int .i64 0, .int .i64 0, .int .i64 0, .int .i64 0, .int .i64 0, .bool false, .bool false] 26)).heap.size (wr.alloc (.cells #[.int .i64 1, .int .i64 1, .slice va 5 vc, .int .i64 0, .int .i64 0, .int .i64 0, .int .i64 0, .int .i64 0, .bool false, .bool false] 26))) (.cells #[.int .i64 1, .int .i64 6, .slice va 5 vc, .int .i64 0, .int .i64 0, .int .i64 0, .int .i64 0, .int .i64 0, .bool false, .bool false] 26)).block wr.heap.size (by simp)).trans (World.alloc_heap_new wr (.cells #[.int .i64 1, .int .i64 1, .slice va 5 vc, .int .i64 0, .int .i64 0, .int .i64 0, .int .i64 0, .int .i64 0, .bool false, .bool false] 26))
      have hf0 := World.alloc_heap_new (wr.alloc (.cells #[.int .i64 1, .int .i64 1, .slice va 5 vc, .int .i64 0, .int .i64 0, .int .i64 0, .int .i64 0, .int .i64 0, .bool false, .bool false] 26)) (.cells #[.int .i64 1, .int .i64 6, .slice va 5 vc, .int .i64 0, .int .i64 0, .int .i64 0, .int .i64 0, .int .i64 0, .bool false, .bool false] 26)
      rw [World.size_alloc] at hf0
      have hE1 := (HE.out 1).below hA2
      have hE6 := (HE.out 6).below hA2
      clear hown hrow hoff hlt hj hent
      go_wp2_with (first
        | (go_at_call 17; ((with_reducible refine (GB.out _ _ _ hE1).mono ?_); rintro e w4 ⟨rfl, hB4⟩; have hp4 := (hB4.block _ (heap_ltP hp0)).trans hp0; have hf4 := (hB4.block _ (heap_ltP hf0)).trans hf0; have hE1b := hE1.below hB4; have hE6b := hE6.below hB4; obtain ⟨y0, y1, y2, y3, y4, y5, y6, y7, y8, y9⟩ := arr10 hp4))
        | (go_at_call 20; ((with_reducible refine (GI1.out _ _ _ hE1b).mono ?_); rintro e w5 ⟨rfl, hB5⟩; have hf5 := (hB5.block _ (heap_ltP hf4)).trans hf4; have hE6c := hE6b.below hB5; obtain ⟨z0, z1, z2, z3, z4, z5, z6, z7, z8, z9⟩ := arr10 hf5))
        | (go_at_call 20; ((with_reducible refine (GI6.out _ _ _ hE6c).mono ?_); rintro e w6 ⟨rfl, hB6⟩)))
      go_ret
      exact ⟨rfl, hB1.trans ((hB.trans ((bel2 (bel2 (bel2 hA2 hB4) hB5) hB6).mono hB.size)).mono hB1.size)⟩

set_option maxRecDepth 100000 in
set_option maxHeartbeats 2000000 in
theorem sizes10 (n m x : Nat) (hn : n < 256) (hm : m < 256) (hx : x < 4294967296) (hq : (n : Int) % 3 = 1) (hr : (m : Int) % 3 = 0) (w : World) :
    Calls Try.prog 8 #[.int .u8 n, .int .u8 m, .int .u32 x] w fun e w' => e = .returned (.bool true) ∧ Below w.heap.size w w' := by
  obtain ⟨i0, hi, hz0, hz1, hz2⟩ := info_parts infoEntry
  obtain ⟨b0, bi, bz0, bz1, bz2⟩ := info_parts Try.infoU8
  have GK := Lib.hid part_known
  obtain ⟨Z, hZ, hZs⟩ : ∃ Z : ByteArray, Z = ⟨(List.replicate 39 0).toArray⟩ ∧ Z.size = 39 := ⟨_, rfl, by show (List.replicate 39 (0 : UInt8)).toArray.size = _; simp⟩
  have HZ := Lib.hid hZ
  have HM := Lib.hid (fun W => bytes_made (P := Try.prog) (t := 48) (e := 5) b0 Try.underlying48 bi bz0 bz1 bz2 39 (by decide) W)
  have I1 := Lib.hid (fun va vc => cons_is1 Z 6 ((x : Int) + 1) va vc (by decide) (by omega) (by omega))
  have I6 := Lib.hid (fun va vc => cons_is6 Z 6 ((x : Int) + 1) va vc (by decide) (by omega) (by omega))
  rw [hZs] at I1 I6
  have HZs := Lib.hid hZs
  clear hZ hZs
  simp only [show (decide (6 ≤ 6) && decide (39 ≤ 40)) = true by decide] at I1 I6
  have GB := Lib.hid (fun va vc W (h : HasE W (⟨1, 1, va, 6, vc, 0, 0, 0, 0, 0, false, false⟩ : PartC) (consL Z ((x : Int) + 1) 6)) => bytes_any (⟨1, 1, va, 6, vc, 0, 0, 0, 0, 0, false, false⟩ : PartC) (consL Z ((x : Int) + 1) 6) W h)
  have GI1 := Lib.hid (fun va vc W (h : HasE W (⟨1, 1, va, 6, vc, 0, 0, 0, 0, 0, false, false⟩ : PartC) (consL Z ((x : Int) + 1) 6)) => is_any (⟨1, 1, va, 6, vc, 0, 0, 0, 0, 0, false, false⟩ : PartC) (consL Z ((x : Int) + 1) 6) W h)
  have GI6 := Lib.hid (fun va vc W (h : HasE W (⟨1, 6, va, 6, vc, 0, 0, 0, 0, 0, false, false⟩ : PartC) (consL Z ((x : Int) + 1) 6)) => is_any (⟨1, 6, va, 6, vc, 0, 0, 0, 0, 0, false, false⟩ : PartC) (consL Z ((x : Int) + 1) 6) W h)
  simp only [bytesE, I1.out] at GB
  simp only [I1.out] at GI1
  simp only [I6.out] at GI6
  dsimp only [PartC.val] at GB GI1 GI6
  clear I1 I6
  go_enter Try.func8, Try.ntmps8
  go_wp2_with (go_at_call 15; ((with_reducible refine (GK.out _).mono ?_); rintro e w1 ⟨rfl, hB1⟩))
  clear hq hr
  go_loopw [9, 10] (fun v i wr => ∃ j : Nat, j ≤ 6 ∧ i = .int .i64 j ∧ wr.ownsRow w1.heap.size 28 3 v j (entryCells (consL Z ((x : Int) + 1) j)) ∧ Below w1.heap.size w1 wr) (fun _ i _ => 6 - (intOf i).toNat)
  case atStart => exact ⟨0, by omega, rfl, World.ownsRow_nil _ _ _ _, Below.refl _ _⟩
  case round =>
    obtain ⟨j, hj, rfl, hown, hB⟩ := hrel
    by_cases hlt : j < 6
    · obtain ⟨w2, hmk0, hB2, hby⟩ := HM.out wr
      have hmk : (Instr.makeSlice 48 (.int .i64 39) (.int .i64 39)).run Try.prog wr = .ok (.slice (some ⟨wr.heap.size, 0, none⟩) 39 39) w2 := hmk0
      have hcv := string_of (P := Try.prog) (src := 48) (dst := 9) Try.underlying48 Try.underlying5 Try.underlying9 hby 39 39 (by simp)
      rw [← HZ.out] at hcv
      have hown2 := ownsRow_below (n := 0) hown hB2
      have hBw := hB.trans (hB2.mono hB.size)
      have HS := Lib.hid (show entryCells (consL Z ((x : Int) + 1) (j + 1)) = entryCells (consL Z ((x : Int) + 1) j) ++ [.int .i64 ((x : Int) + 1 + j), .int .i64 7, .string Z] by rw [consL_snoc, entryCells_snoc]; rfl)
      clear hmk0 hby hown hB
      go_wp2_with (at_builtin; refine wpList_append_own _ rfl _ _ 22 rfl w1.heap.size 28 i0 (.agg #[.int .i64 0, .int .i64 0, .string ⟨#[]⟩]) 3 32 Try.underlying22 hi hz0 hz1 hz2 rfl (by decide) _ _ _ rfl (hown2.alloc _) ⟨w2.heap.size, 0, none⟩ 1 1 [.int .i64 ((x : Int) + 1 + j), .int .i64 7, .string Z] rfl rfl (news_new _ _ _) (by simp [Value.oneCell']) (by unfold maxLen; omega) (by omega) (by have := hBw.size; simp; omega) ?_; intro v' w3 hown3 hgrow _; have hB3 := (hBw.trans ((bel_alloc (Below.refl w2.heap.size w2) (.cells #[.int .i64 ((x : Int) + 1 + j), .int .i64 7, .string Z] 28)).mono hBw.size)).grown hgrow (by have := hBw.size; simp; omega) (fun k hk => ownBlock_ge hown2 hk))
      go_roundw
      case rel => exact ⟨j + 1, by omega, by go_num, by rw [HS.out]; exact hown3, hB3⟩
      case measure => simp [intOf]; omega
    · obtain rfl : j = 6 := by omega
      obtain ⟨va, vc, rfl, hrow, hoff⟩ := own_ent hown
      have hent : ∀ kd, HasE wr (⟨1, kd, va, 6, vc, 0, 0, 0, 0, 0, false, false⟩ : PartC) (consL Z ((x : Int) + 1) 6) := fun kd => ⟨consL_len _ _ _, (by decide : 6 < 1000000), hrow⟩
      have HE := Lib.hid hent
      have hA1 := bel_alloc (Below.refl wr.heap.size wr) (.cells #[.int .i64 1, .int .i64 1, .slice va 6 vc, .int .i64 0, .int .i64 0, .int .i64 0, .int .i64 0, .int .i64 0, .bool false, .bool false] 26)
      have hA2 := bel_alloc hA1 (.cells #[.int .i64 1, .int .i64 6, .slice va 6 vc, .int .i64 0, .int .i64 0, .int .i64 0, .int .i64 0, .int .i64 0, .bool false, .bool false] 26)
      have hp0 := ((bel_alloc (Below.refl (wr.alloc (.cells #[.int .i64 1, .int .i64 1, .slice va 6 vc, .int .i64 0, .int .i64 0, .int .i64 0, .int .i64 0, .int .i64 0, .bool false, .bool false] 26)).heap.size (wr.alloc (.cells #[.int .i64 1, .int .i64 1, .slice va 6 vc, .int .i64 0, .int .i64 0, .int .i64 0, .int .i64 0, .int .i64 0, .bool false, .bool false] 26))) (.cells #[.int .i64 1, .int .i64 6, .slice va 6 vc, .int .i64 0, .int .i64 0, .int .i64 0, .int .i64 0, .int .i64 0, .bool false, .bool false] 26)).block wr.heap.size (by simp)).trans (World.alloc_heap_new wr (.cells #[.int .i64 1, .int .i64 1, .slice va 6 vc, .int .i64 0, .int .i64 0, .int .i64 0, .int .i64 0, .int .i64 0, .bool false, .bool false] 26))
      have hf0 := World.alloc_heap_new (wr.alloc (.cells #[.int .i64 1, .int .i64 1, .slice va 6 vc, .int .i64 0, .int .i64 0, .int .i64 0, .int .i64 0, .int .i64 0, .bool false, .bool false] 26)) (.cells #[.int .i64 1, .int .i64 6, .slice va 6 vc, .int .i64 0, .int .i64 0, .int .i64 0, .int .i64 0, .int .i64 0, .bool false, .bool false] 26)
      rw [World.size_alloc] at hf0
      have hE1 := (HE.out 1).below hA2
      have hE6 := (HE.out 6).below hA2
      clear hown hrow hoff hlt hj hent
      go_wp2_with (first
        | (go_at_call 17; ((with_reducible refine (GB.out _ _ _ hE1).mono ?_); rintro e w4 ⟨rfl, hB4⟩; have hp4 := (hB4.block _ (heap_ltP hp0)).trans hp0; have hf4 := (hB4.block _ (heap_ltP hf0)).trans hf0; have hE1b := hE1.below hB4; have hE6b := hE6.below hB4; obtain ⟨y0, y1, y2, y3, y4, y5, y6, y7, y8, y9⟩ := arr10 hp4))
        | (go_at_call 20; ((with_reducible refine (GI1.out _ _ _ hE1b).mono ?_); rintro e w5 ⟨rfl, hB5⟩; have hf5 := (hB5.block _ (heap_ltP hf4)).trans hf4; have hE6c := hE6b.below hB5; obtain ⟨z0, z1, z2, z3, z4, z5, z6, z7, z8, z9⟩ := arr10 hf5))
        | (go_at_call 20; ((with_reducible refine (GI6.out _ _ _ hE6c).mono ?_); rintro e w6 ⟨rfl, hB6⟩)))
      go_ret
      exact ⟨rfl, hB1.trans ((hB.trans ((bel2 (bel2 (bel2 hA2 hB4) hB5) hB6).mono hB.size)).mono hB1.size)⟩

set_option maxRecDepth 100000 in
set_option maxHeartbeats 2000000 in
theorem sizes11 (n m x : Nat) (hn : n < 256) (hm : m < 256) (hx : x < 4294967296) (hq : (n : Int) % 3 = 1) (hr : (m : Int) % 3 = 1) (w : World) :
    Calls Try.prog 8 #[.int .u8 n, .int .u8 m, .int .u32 x] w fun e w' => e = .returned (.bool true) ∧ Below w.heap.size w w' := by
  obtain ⟨i0, hi, hz0, hz1, hz2⟩ := info_parts infoEntry
  obtain ⟨b0, bi, bz0, bz1, bz2⟩ := info_parts Try.infoU8
  have GK := Lib.hid part_known
  obtain ⟨Z, hZ, hZs⟩ : ∃ Z : ByteArray, Z = ⟨(List.replicate 40 0).toArray⟩ ∧ Z.size = 40 := ⟨_, rfl, by show (List.replicate 40 (0 : UInt8)).toArray.size = _; simp⟩
  have HZ := Lib.hid hZ
  have HM := Lib.hid (fun W => bytes_made (P := Try.prog) (t := 48) (e := 5) b0 Try.underlying48 bi bz0 bz1 bz2 40 (by decide) W)
  have I1 := Lib.hid (fun va vc => cons_is1 Z 6 ((x : Int) + 1) va vc (by decide) (by omega) (by omega))
  have I6 := Lib.hid (fun va vc => cons_is6 Z 6 ((x : Int) + 1) va vc (by decide) (by omega) (by omega))
  rw [hZs] at I1 I6
  have HZs := Lib.hid hZs
  clear hZ hZs
  simp only [show (decide (6 ≤ 6) && decide (40 ≤ 40)) = true by decide] at I1 I6
  have GB := Lib.hid (fun va vc W (h : HasE W (⟨1, 1, va, 6, vc, 0, 0, 0, 0, 0, false, false⟩ : PartC) (consL Z ((x : Int) + 1) 6)) => bytes_any (⟨1, 1, va, 6, vc, 0, 0, 0, 0, 0, false, false⟩ : PartC) (consL Z ((x : Int) + 1) 6) W h)
  have GI1 := Lib.hid (fun va vc W (h : HasE W (⟨1, 1, va, 6, vc, 0, 0, 0, 0, 0, false, false⟩ : PartC) (consL Z ((x : Int) + 1) 6)) => is_any (⟨1, 1, va, 6, vc, 0, 0, 0, 0, 0, false, false⟩ : PartC) (consL Z ((x : Int) + 1) 6) W h)
  have GI6 := Lib.hid (fun va vc W (h : HasE W (⟨1, 6, va, 6, vc, 0, 0, 0, 0, 0, false, false⟩ : PartC) (consL Z ((x : Int) + 1) 6)) => is_any (⟨1, 6, va, 6, vc, 0, 0, 0, 0, 0, false, false⟩ : PartC) (consL Z ((x : Int) + 1) 6) W h)
  simp only [bytesE, I1.out] at GB
  simp only [I1.out] at GI1
  simp only [I6.out] at GI6
  dsimp only [PartC.val] at GB GI1 GI6
  clear I1 I6
  go_enter Try.func8, Try.ntmps8
  go_wp2_with (go_at_call 15; ((with_reducible refine (GK.out _).mono ?_); rintro e w1 ⟨rfl, hB1⟩))
  clear hq hr
  go_loopw [9, 10] (fun v i wr => ∃ j : Nat, j ≤ 6 ∧ i = .int .i64 j ∧ wr.ownsRow w1.heap.size 28 3 v j (entryCells (consL Z ((x : Int) + 1) j)) ∧ Below w1.heap.size w1 wr) (fun _ i _ => 6 - (intOf i).toNat)
  case atStart => exact ⟨0, by omega, rfl, World.ownsRow_nil _ _ _ _, Below.refl _ _⟩
  case round =>
    obtain ⟨j, hj, rfl, hown, hB⟩ := hrel
    by_cases hlt : j < 6
    · obtain ⟨w2, hmk0, hB2, hby⟩ := HM.out wr
      have hmk : (Instr.makeSlice 48 (.int .i64 40) (.int .i64 40)).run Try.prog wr = .ok (.slice (some ⟨wr.heap.size, 0, none⟩) 40 40) w2 := hmk0
      have hcv := string_of (P := Try.prog) (src := 48) (dst := 9) Try.underlying48 Try.underlying5 Try.underlying9 hby 40 40 (by simp)
      rw [← HZ.out] at hcv
      have hown2 := ownsRow_below (n := 0) hown hB2
      have hBw := hB.trans (hB2.mono hB.size)
      have HS := Lib.hid (show entryCells (consL Z ((x : Int) + 1) (j + 1)) = entryCells (consL Z ((x : Int) + 1) j) ++ [.int .i64 ((x : Int) + 1 + j), .int .i64 7, .string Z] by rw [consL_snoc, entryCells_snoc]; rfl)
      clear hmk0 hby hown hB
      go_wp2_with (at_builtin; refine wpList_append_own _ rfl _ _ 22 rfl w1.heap.size 28 i0 (.agg #[.int .i64 0, .int .i64 0, .string ⟨#[]⟩]) 3 32 Try.underlying22 hi hz0 hz1 hz2 rfl (by decide) _ _ _ rfl (hown2.alloc _) ⟨w2.heap.size, 0, none⟩ 1 1 [.int .i64 ((x : Int) + 1 + j), .int .i64 7, .string Z] rfl rfl (news_new _ _ _) (by simp [Value.oneCell']) (by unfold maxLen; omega) (by omega) (by have := hBw.size; simp; omega) ?_; intro v' w3 hown3 hgrow _; have hB3 := (hBw.trans ((bel_alloc (Below.refl w2.heap.size w2) (.cells #[.int .i64 ((x : Int) + 1 + j), .int .i64 7, .string Z] 28)).mono hBw.size)).grown hgrow (by have := hBw.size; simp; omega) (fun k hk => ownBlock_ge hown2 hk))
      go_roundw
      case rel => exact ⟨j + 1, by omega, by go_num, by rw [HS.out]; exact hown3, hB3⟩
      case measure => simp [intOf]; omega
    · obtain rfl : j = 6 := by omega
      obtain ⟨va, vc, rfl, hrow, hoff⟩ := own_ent hown
      have hent : ∀ kd, HasE wr (⟨1, kd, va, 6, vc, 0, 0, 0, 0, 0, false, false⟩ : PartC) (consL Z ((x : Int) + 1) 6) := fun kd => ⟨consL_len _ _ _, (by decide : 6 < 1000000), hrow⟩
      have HE := Lib.hid hent
      have hA1 := bel_alloc (Below.refl wr.heap.size wr) (.cells #[.int .i64 1, .int .i64 1, .slice va 6 vc, .int .i64 0, .int .i64 0, .int .i64 0, .int .i64 0, .int .i64 0, .bool false, .bool false] 26)
      have hA2 := bel_alloc hA1 (.cells #[.int .i64 1, .int .i64 6, .slice va 6 vc, .int .i64 0, .int .i64 0, .int .i64 0, .int .i64 0, .int .i64 0, .bool false, .bool false] 26)
      have hp0 := ((bel_alloc (Below.refl (wr.alloc (.cells #[.int .i64 1, .int .i64 1, .slice va 6 vc, .int .i64 0, .int .i64 0, .int .i64 0, .int .i64 0, .int .i64 0, .bool false, .bool false] 26)).heap.size (wr.alloc (.cells #[.int .i64 1, .int .i64 1, .slice va 6 vc, .int .i64 0, .int .i64 0, .int .i64 0, .int .i64 0, .int .i64 0, .bool false, .bool false] 26))) (.cells #[.int .i64 1, .int .i64 6, .slice va 6 vc, .int .i64 0, .int .i64 0, .int .i64 0, .int .i64 0, .int .i64 0, .bool false, .bool false] 26)).block wr.heap.size (by simp)).trans (World.alloc_heap_new wr (.cells #[.int .i64 1, .int .i64 1, .slice va 6 vc, .int .i64 0, .int .i64 0, .int .i64 0, .int .i64 0, .int .i64 0, .bool false, .bool false] 26))
      have hf0 := World.alloc_heap_new (wr.alloc (.cells #[.int .i64 1, .int .i64 1, .slice va 6 vc, .int .i64 0, .int .i64 0, .int .i64 0, .int .i64 0, .int .i64 0, .bool false, .bool false] 26)) (.cells #[.int .i64 1, .int .i64 6, .slice va 6 vc, .int .i64 0, .int .i64 0, .int .i64 0, .int .i64 0, .int .i64 0, .bool false, .bool false] 26)
      rw [World.size_alloc] at hf0
      have hE1 := (HE.out 1).below hA2
      have hE6 := (HE.out 6).below hA2
      clear hown hrow hoff hlt hj hent
      go_wp2_with (first
        | (go_at_call 17; ((with_reducible refine (GB.out _ _ _ hE1).mono ?_); rintro e w4 ⟨rfl, hB4⟩; have hp4 := (hB4.block _ (heap_ltP hp0)).trans hp0; have hf4 := (hB4.block _ (heap_ltP hf0)).trans hf0; have hE1b := hE1.below hB4; have hE6b := hE6.below hB4; obtain ⟨y0, y1, y2, y3, y4, y5, y6, y7, y8, y9⟩ := arr10 hp4))
        | (go_at_call 20; ((with_reducible refine (GI1.out _ _ _ hE1b).mono ?_); rintro e w5 ⟨rfl, hB5⟩; have hf5 := (hB5.block _ (heap_ltP hf4)).trans hf4; have hE6c := hE6b.below hB5; obtain ⟨z0, z1, z2, z3, z4, z5, z6, z7, z8, z9⟩ := arr10 hf5))
        | (go_at_call 20; ((with_reducible refine (GI6.out _ _ _ hE6c).mono ?_); rintro e w6 ⟨rfl, hB6⟩)))
      go_ret
      exact ⟨rfl, hB1.trans ((hB.trans ((bel2 (bel2 (bel2 hA2 hB4) hB5) hB6).mono hB.size)).mono hB1.size)⟩

set_option maxRecDepth 100000 in
set_option maxHeartbeats 2000000 in
theorem sizes12 (n m x : Nat) (hn : n < 256) (hm : m < 256) (hx : x < 4294967296) (hq : (n : Int) % 3 = 1) (hr : (m : Int) % 3 = 2) (w : World) :
    Calls Try.prog 8 #[.int .u8 n, .int .u8 m, .int .u32 x] w fun e w' => e = .returned (.bool true) ∧ Below w.heap.size w w' := by
  obtain ⟨i0, hi, hz0, hz1, hz2⟩ := info_parts infoEntry
  obtain ⟨b0, bi, bz0, bz1, bz2⟩ := info_parts Try.infoU8
  have GK := Lib.hid part_known
  obtain ⟨Z, hZ, hZs⟩ : ∃ Z : ByteArray, Z = ⟨(List.replicate 41 0).toArray⟩ ∧ Z.size = 41 := ⟨_, rfl, by show (List.replicate 41 (0 : UInt8)).toArray.size = _; simp⟩
  have HZ := Lib.hid hZ
  have HM := Lib.hid (fun W => bytes_made (P := Try.prog) (t := 48) (e := 5) b0 Try.underlying48 bi bz0 bz1 bz2 41 (by decide) W)
  have I1 := Lib.hid (fun va vc => cons_is1 Z 6 ((x : Int) + 1) va vc (by decide) (by omega) (by omega))
  have I6 := Lib.hid (fun va vc => cons_is6 Z 6 ((x : Int) + 1) va vc (by decide) (by omega) (by omega))
  rw [hZs] at I1 I6
  have HZs := Lib.hid hZs
  clear hZ hZs
  simp only [show (decide (6 ≤ 6) && decide (41 ≤ 40)) = false by decide] at I1 I6
  have GB := Lib.hid (fun va vc W (h : HasE W (⟨1, 1, va, 6, vc, 0, 0, 0, 0, 0, false, false⟩ : PartC) (consL Z ((x : Int) + 1) 6)) => bytes_any (⟨1, 1, va, 6, vc, 0, 0, 0, 0, 0, false, false⟩ : PartC) (consL Z ((x : Int) + 1) 6) W h)
  have GI1 := Lib.hid (fun va vc W (h : HasE W (⟨1, 1, va, 6, vc, 0, 0, 0, 0, 0, false, false⟩ : PartC) (consL Z ((x : Int) + 1) 6)) => is_any (⟨1, 1, va, 6, vc, 0, 0, 0, 0, 0, false, false⟩ : PartC) (consL Z ((x : Int) + 1) 6) W h)
  have GI6 := Lib.hid (fun va vc W (h : HasE W (⟨1, 6, va, 6, vc, 0, 0, 0, 0, 0, false, false⟩ : PartC) (consL Z ((x : Int) + 1) 6)) => is_any (⟨1, 6, va, 6, vc, 0, 0, 0, 0, 0, false, false⟩ : PartC) (consL Z ((x : Int) + 1) 6) W h)
  simp only [bytesE, I1.out] at GB
  simp only [I1.out] at GI1
  simp only [I6.out] at GI6
  dsimp only [PartC.val] at GB GI1 GI6
  clear I1 I6
  go_enter Try.func8, Try.ntmps8
  go_wp2_with (go_at_call 15; ((with_reducible refine (GK.out _).mono ?_); rintro e w1 ⟨rfl, hB1⟩))
  clear hq hr
  go_loopw [9, 10] (fun v i wr => ∃ j : Nat, j ≤ 6 ∧ i = .int .i64 j ∧ wr.ownsRow w1.heap.size 28 3 v j (entryCells (consL Z ((x : Int) + 1) j)) ∧ Below w1.heap.size w1 wr) (fun _ i _ => 6 - (intOf i).toNat)
  case atStart => exact ⟨0, by omega, rfl, World.ownsRow_nil _ _ _ _, Below.refl _ _⟩
  case round =>
    obtain ⟨j, hj, rfl, hown, hB⟩ := hrel
    by_cases hlt : j < 6
    · obtain ⟨w2, hmk0, hB2, hby⟩ := HM.out wr
      have hmk : (Instr.makeSlice 48 (.int .i64 41) (.int .i64 41)).run Try.prog wr = .ok (.slice (some ⟨wr.heap.size, 0, none⟩) 41 41) w2 := hmk0
      have hcv := string_of (P := Try.prog) (src := 48) (dst := 9) Try.underlying48 Try.underlying5 Try.underlying9 hby 41 41 (by simp)
      rw [← HZ.out] at hcv
      have hown2 := ownsRow_below (n := 0) hown hB2
      have hBw := hB.trans (hB2.mono hB.size)
      have HS := Lib.hid (show entryCells (consL Z ((x : Int) + 1) (j + 1)) = entryCells (consL Z ((x : Int) + 1) j) ++ [.int .i64 ((x : Int) + 1 + j), .int .i64 7, .string Z] by rw [consL_snoc, entryCells_snoc]; rfl)
      clear hmk0 hby hown hB
      go_wp2_with (at_builtin; refine wpList_append_own _ rfl _ _ 22 rfl w1.heap.size 28 i0 (.agg #[.int .i64 0, .int .i64 0, .string ⟨#[]⟩]) 3 32 Try.underlying22 hi hz0 hz1 hz2 rfl (by decide) _ _ _ rfl (hown2.alloc _) ⟨w2.heap.size, 0, none⟩ 1 1 [.int .i64 ((x : Int) + 1 + j), .int .i64 7, .string Z] rfl rfl (news_new _ _ _) (by simp [Value.oneCell']) (by unfold maxLen; omega) (by omega) (by have := hBw.size; simp; omega) ?_; intro v' w3 hown3 hgrow _; have hB3 := (hBw.trans ((bel_alloc (Below.refl w2.heap.size w2) (.cells #[.int .i64 ((x : Int) + 1 + j), .int .i64 7, .string Z] 28)).mono hBw.size)).grown hgrow (by have := hBw.size; simp; omega) (fun k hk => ownBlock_ge hown2 hk))
      go_roundw
      case rel => exact ⟨j + 1, by omega, by go_num, by rw [HS.out]; exact hown3, hB3⟩
      case measure => simp [intOf]; omega
    · obtain rfl : j = 6 := by omega
      obtain ⟨va, vc, rfl, hrow, hoff⟩ := own_ent hown
      have hent : ∀ kd, HasE wr (⟨1, kd, va, 6, vc, 0, 0, 0, 0, 0, false, false⟩ : PartC) (consL Z ((x : Int) + 1) 6) := fun kd => ⟨consL_len _ _ _, (by decide : 6 < 1000000), hrow⟩
      have HE := Lib.hid hent
      have hA1 := bel_alloc (Below.refl wr.heap.size wr) (.cells #[.int .i64 1, .int .i64 1, .slice va 6 vc, .int .i64 0, .int .i64 0, .int .i64 0, .int .i64 0, .int .i64 0, .bool false, .bool false] 26)
      have hA2 := bel_alloc hA1 (.cells #[.int .i64 1, .int .i64 6, .slice va 6 vc, .int .i64 0, .int .i64 0, .int .i64 0, .int .i64 0, .int .i64 0, .bool false, .bool false] 26)
      have hp0 := ((bel_alloc (Below.refl (wr.alloc (.cells #[.int .i64 1, .int .i64 1, .slice va 6 vc, .int .i64 0, .int .i64 0, .int .i64 0, .int .i64 0, .int .i64 0, .bool false, .bool false] 26)).heap.size (wr.alloc (.cells #[.int .i64 1, .int .i64 1, .slice va 6 vc, .int .i64 0, .int .i64 0, .int .i64 0, .int .i64 0, .int .i64 0, .bool false, .bool false] 26))) (.cells #[.int .i64 1, .int .i64 6, .slice va 6 vc, .int .i64 0, .int .i64 0, .int .i64 0, .int .i64 0, .int .i64 0, .bool false, .bool false] 26)).block wr.heap.size (by simp)).trans (World.alloc_heap_new wr (.cells #[.int .i64 1, .int .i64 1, .slice va 6 vc, .int .i64 0, .int .i64 0, .int .i64 0, .int .i64 0, .int .i64 0, .bool false, .bool false] 26))
      have hf0 := World.alloc_heap_new (wr.alloc (.cells #[.int .i64 1, .int .i64 1, .slice va 6 vc, .int .i64 0, .int .i64 0, .int .i64 0, .int .i64 0, .int .i64 0, .bool false, .bool false] 26)) (.cells #[.int .i64 1, .int .i64 6, .slice va 6 vc, .int .i64 0, .int .i64 0, .int .i64 0, .int .i64 0, .int .i64 0, .bool false, .bool false] 26)
      rw [World.size_alloc] at hf0
      have hE1 := (HE.out 1).below hA2
      have hE6 := (HE.out 6).below hA2
      clear hown hrow hoff hlt hj hent
      go_wp2_with (first
        | (go_at_call 17; ((with_reducible refine (GB.out _ _ _ hE1).mono ?_); rintro e w4 ⟨rfl, hB4⟩; have hp4 := (hB4.block _ (heap_ltP hp0)).trans hp0; have hf4 := (hB4.block _ (heap_ltP hf0)).trans hf0; have hE1b := hE1.below hB4; have hE6b := hE6.below hB4; obtain ⟨y0, y1, y2, y3, y4, y5, y6, y7, y8, y9⟩ := arr10 hp4))
        | (go_at_call 20; ((with_reducible refine (GI1.out _ _ _ hE1b).mono ?_); rintro e w5 ⟨rfl, hB5⟩; have hf5 := (hB5.block _ (heap_ltP hf4)).trans hf4; have hE6c := hE6b.below hB5; obtain ⟨z0, z1, z2, z3, z4, z5, z6, z7, z8, z9⟩ := arr10 hf5))
        | (go_at_call 20; ((with_reducible refine (GI6.out _ _ _ hE6c).mono ?_); rintro e w6 ⟨rfl, hB6⟩)))
      go_ret
      exact ⟨rfl, hB1.trans ((hB.trans ((bel2 (bel2 (bel2 hA2 hB4) hB5) hB6).mono hB.size)).mono hB1.size)⟩

set_option maxRecDepth 100000 in
set_option maxHeartbeats 2000000 in
theorem sizes20 (n m x : Nat) (hn : n < 256) (hm : m < 256) (hx : x < 4294967296) (hq : (n : Int) % 3 = 2) (hr : (m : Int) % 3 = 0) (w : World) :
    Calls Try.prog 8 #[.int .u8 n, .int .u8 m, .int .u32 x] w fun e w' => e = .returned (.bool true) ∧ Below w.heap.size w w' := by
  obtain ⟨i0, hi, hz0, hz1, hz2⟩ := info_parts infoEntry
  obtain ⟨b0, bi, bz0, bz1, bz2⟩ := info_parts Try.infoU8
  have GK := Lib.hid part_known
  obtain ⟨Z, hZ, hZs⟩ : ∃ Z : ByteArray, Z = ⟨(List.replicate 39 0).toArray⟩ ∧ Z.size = 39 := ⟨_, rfl, by show (List.replicate 39 (0 : UInt8)).toArray.size = _; simp⟩
  have HZ := Lib.hid hZ
  have HM := Lib.hid (fun W => bytes_made (P := Try.prog) (t := 48) (e := 5) b0 Try.underlying48 bi bz0 bz1 bz2 39 (by decide) W)
  have I1 := Lib.hid (fun va vc => cons_is1 Z 7 ((x : Int) + 1) va vc (by decide) (by omega) (by omega))
  have I6 := Lib.hid (fun va vc => cons_is6 Z 7 ((x : Int) + 1) va vc (by decide) (by omega) (by omega))
  rw [hZs] at I1 I6
  have HZs := Lib.hid hZs
  clear hZ hZs
  simp only [show (decide (7 ≤ 6) && decide (39 ≤ 40)) = false by decide] at I1 I6
  have GB := Lib.hid (fun va vc W (h : HasE W (⟨1, 1, va, 7, vc, 0, 0, 0, 0, 0, false, false⟩ : PartC) (consL Z ((x : Int) + 1) 7)) => bytes_any (⟨1, 1, va, 7, vc, 0, 0, 0, 0, 0, false, false⟩ : PartC) (consL Z ((x : Int) + 1) 7) W h)
  have GI1 := Lib.hid (fun va vc W (h : HasE W (⟨1, 1, va, 7, vc, 0, 0, 0, 0, 0, false, false⟩ : PartC) (consL Z ((x : Int) + 1) 7)) => is_any (⟨1, 1, va, 7, vc, 0, 0, 0, 0, 0, false, false⟩ : PartC) (consL Z ((x : Int) + 1) 7) W h)
  have GI6 := Lib.hid (fun va vc W (h : HasE W (⟨1, 6, va, 7, vc, 0, 0, 0, 0, 0, false, false⟩ : PartC) (consL Z ((x : Int) + 1) 7)) => is_any (⟨1, 6, va, 7, vc, 0, 0, 0, 0, 0, false, false⟩ : PartC) (consL Z ((x : Int) + 1) 7) W h)
  simp only [bytesE, I1.out] at GB
  simp only [I1.out] at GI1
  simp only [I6.out] at GI6
  dsimp only [PartC.val] at GB GI1 GI6
  clear I1 I6
  go_enter Try.func8, Try.ntmps8
  go_wp2_with (go_at_call 15; ((with_reducible refine (GK.out _).mono ?_); rintro e w1 ⟨rfl, hB1⟩))
  clear hq hr
  go_loopw [9, 10] (fun v i wr => ∃ j : Nat, j ≤ 7 ∧ i = .int .i64 j ∧ wr.ownsRow w1.heap.size 28 3 v j (entryCells (consL Z ((x : Int) + 1) j)) ∧ Below w1.heap.size w1 wr) (fun _ i _ => 7 - (intOf i).toNat)
  case atStart => exact ⟨0, by omega, rfl, World.ownsRow_nil _ _ _ _, Below.refl _ _⟩
  case round =>
    obtain ⟨j, hj, rfl, hown, hB⟩ := hrel
    by_cases hlt : j < 7
    · obtain ⟨w2, hmk0, hB2, hby⟩ := HM.out wr
      have hmk : (Instr.makeSlice 48 (.int .i64 39) (.int .i64 39)).run Try.prog wr = .ok (.slice (some ⟨wr.heap.size, 0, none⟩) 39 39) w2 := hmk0
      have hcv := string_of (P := Try.prog) (src := 48) (dst := 9) Try.underlying48 Try.underlying5 Try.underlying9 hby 39 39 (by simp)
      rw [← HZ.out] at hcv
      have hown2 := ownsRow_below (n := 0) hown hB2
      have hBw := hB.trans (hB2.mono hB.size)
      have HS := Lib.hid (show entryCells (consL Z ((x : Int) + 1) (j + 1)) = entryCells (consL Z ((x : Int) + 1) j) ++ [.int .i64 ((x : Int) + 1 + j), .int .i64 7, .string Z] by rw [consL_snoc, entryCells_snoc]; rfl)
      clear hmk0 hby hown hB
      go_wp2_with (at_builtin; refine wpList_append_own _ rfl _ _ 22 rfl w1.heap.size 28 i0 (.agg #[.int .i64 0, .int .i64 0, .string ⟨#[]⟩]) 3 32 Try.underlying22 hi hz0 hz1 hz2 rfl (by decide) _ _ _ rfl (hown2.alloc _) ⟨w2.heap.size, 0, none⟩ 1 1 [.int .i64 ((x : Int) + 1 + j), .int .i64 7, .string Z] rfl rfl (news_new _ _ _) (by simp [Value.oneCell']) (by unfold maxLen; omega) (by omega) (by have := hBw.size; simp; omega) ?_; intro v' w3 hown3 hgrow _; have hB3 := (hBw.trans ((bel_alloc (Below.refl w2.heap.size w2) (.cells #[.int .i64 ((x : Int) + 1 + j), .int .i64 7, .string Z] 28)).mono hBw.size)).grown hgrow (by have := hBw.size; simp; omega) (fun k hk => ownBlock_ge hown2 hk))
      go_roundw
      case rel => exact ⟨j + 1, by omega, by go_num, by rw [HS.out]; exact hown3, hB3⟩
      case measure => simp [intOf]; omega
    · obtain rfl : j = 7 := by omega
      obtain ⟨va, vc, rfl, hrow, hoff⟩ := own_ent hown
      have hent : ∀ kd, HasE wr (⟨1, kd, va, 7, vc, 0, 0, 0, 0, 0, false, false⟩ : PartC) (consL Z ((x : Int) + 1) 7) := fun kd => ⟨consL_len _ _ _, (by decide : 7 < 1000000), hrow⟩
      have HE := Lib.hid hent
      have hA1 := bel_alloc (Below.refl wr.heap.size wr) (.cells #[.int .i64 1, .int .i64 1, .slice va 7 vc, .int .i64 0, .int .i64 0, .int .i64 0, .int .i64 0, .int .i64 0, .bool false, .bool false] 26)
      have hA2 := bel_alloc hA1 (.cells #[.int .i64 1, .int .i64 6, .slice va 7 vc, .int .i64 0, .int .i64 0, .int .i64 0, .int .i64 0, .int .i64 0, .bool false, .bool false] 26)
      have hp0 := ((bel_alloc (Below.refl (wr.alloc (.cells #[.int .i64 1, .int .i64 1, .slice va 7 vc, .int .i64 0, .int .i64 0, .int .i64 0, .int .i64 0, .int .i64 0, .bool false, .bool false] 26)).heap.size (wr.alloc (.cells #[.int .i64 1, .int .i64 1, .slice va 7 vc, .int .i64 0, .int .i64 0, .int .i64 0, .int .i64 0, .int .i64 0, .bool false, .bool false] 26))) (.cells #[.int .i64 1, .int .i64 6, .slice va 7 vc, .int .i64 0, .int .i64 0, .int .i64 0, .int .i64 0, .int .i64 0, .bool false, .bool false] 26)).block wr.heap.size (by simp)).trans (World.alloc_heap_new wr (.cells #[.int .i64 1, .int .i64 1, .slice va 7 vc, .int .i64 0, .int .i64 0, .int .i64 0, .int .i64 0, .int .i64 0, .bool false, .bool false] 26))
      have hf0 := World.alloc_heap_new (wr.alloc (.cells #[.int .i64 1, .int .i64 1, .slice va 7 vc, .int .i64 0, .int .i64 0, .int .i64 0, .int .i64 0, .int .i64 0, .bool false, .bool false] 26)) (.cells #[.int .i64 1, .int .i64 6, .slice va 7 vc, .int .i64 0, .int .i64 0, .int .i64 0, .int .i64 0, .int .i64 0, .bool false, .bool false] 26)
      rw [World.size_alloc] at hf0
      have hE1 := (HE.out 1).below hA2
      have hE6 := (HE.out 6).below hA2
      clear hown hrow hoff hlt hj hent
      go_wp2_with (first
        | (go_at_call 17; ((with_reducible refine (GB.out _ _ _ hE1).mono ?_); rintro e w4 ⟨rfl, hB4⟩; have hp4 := (hB4.block _ (heap_ltP hp0)).trans hp0; have hf4 := (hB4.block _ (heap_ltP hf0)).trans hf0; have hE1b := hE1.below hB4; have hE6b := hE6.below hB4; obtain ⟨y0, y1, y2, y3, y4, y5, y6, y7, y8, y9⟩ := arr10 hp4))
        | (go_at_call 20; ((with_reducible refine (GI1.out _ _ _ hE1b).mono ?_); rintro e w5 ⟨rfl, hB5⟩; have hf5 := (hB5.block _ (heap_ltP hf4)).trans hf4; have hE6c := hE6b.below hB5; obtain ⟨z0, z1, z2, z3, z4, z5, z6, z7, z8, z9⟩ := arr10 hf5))
        | (go_at_call 20; ((with_reducible refine (GI6.out _ _ _ hE6c).mono ?_); rintro e w6 ⟨rfl, hB6⟩)))
      go_ret
      exact ⟨rfl, hB1.trans ((hB.trans ((bel2 (bel2 (bel2 hA2 hB4) hB5) hB6).mono hB.size)).mono hB1.size)⟩

set_option maxRecDepth 100000 in
set_option maxHeartbeats 2000000 in
theorem sizes21 (n m x : Nat) (hn : n < 256) (hm : m < 256) (hx : x < 4294967296) (hq : (n : Int) % 3 = 2) (hr : (m : Int) % 3 = 1) (w : World) :
    Calls Try.prog 8 #[.int .u8 n, .int .u8 m, .int .u32 x] w fun e w' => e = .returned (.bool true) ∧ Below w.heap.size w w' := by
  obtain ⟨i0, hi, hz0, hz1, hz2⟩ := info_parts infoEntry
  obtain ⟨b0, bi, bz0, bz1, bz2⟩ := info_parts Try.infoU8
  have GK := Lib.hid part_known
  obtain ⟨Z, hZ, hZs⟩ : ∃ Z : ByteArray, Z = ⟨(List.replicate 40 0).toArray⟩ ∧ Z.size = 40 := ⟨_, rfl, by show (List.replicate 40 (0 : UInt8)).toArray.size = _; simp⟩
  have HZ := Lib.hid hZ
  have HM := Lib.hid (fun W => bytes_made (P := Try.prog) (t := 48) (e := 5) b0 Try.underlying48 bi bz0 bz1 bz2 40 (by decide) W)
  have I1 := Lib.hid (fun va vc => cons_is1 Z 7 ((x : Int) + 1) va vc (by decide) (by omega) (by omega))
  have I6 := Lib.hid (fun va vc => cons_is6 Z 7 ((x : Int) + 1) va vc (by decide) (by omega) (by omega))
  rw [hZs] at I1 I6
  have HZs := Lib.hid hZs
  clear hZ hZs
  simp only [show (decide (7 ≤ 6) && decide (40 ≤ 40)) = false by decide] at I1 I6
  have GB := Lib.hid (fun va vc W (h : HasE W (⟨1, 1, va, 7, vc, 0, 0, 0, 0, 0, false, false⟩ : PartC) (consL Z ((x : Int) + 1) 7)) => bytes_any (⟨1, 1, va, 7, vc, 0, 0, 0, 0, 0, false, false⟩ : PartC) (consL Z ((x : Int) + 1) 7) W h)
  have GI1 := Lib.hid (fun va vc W (h : HasE W (⟨1, 1, va, 7, vc, 0, 0, 0, 0, 0, false, false⟩ : PartC) (consL Z ((x : Int) + 1) 7)) => is_any (⟨1, 1, va, 7, vc, 0, 0, 0, 0, 0, false, false⟩ : PartC) (consL Z ((x : Int) + 1) 7) W h)
  have GI6 := Lib.hid (fun va vc W (h : HasE W (⟨1, 6, va, 7, vc, 0, 0, 0, 0, 0, false, false⟩ : PartC) (consL Z ((x : Int) + 1) 7)) => is_any (⟨1, 6, va, 7, vc, 0, 0, 0, 0, 0, false, false⟩ : PartC) (consL Z ((x : Int) + 1) 7) W h)
  simp only [bytesE, I1.out] at GB
  simp only [I1.out] at GI1
  simp only [I6.out] at GI6
  dsimp only [PartC.val] at GB GI1 GI6
  clear I1 I6
  go_enter Try.func8, Try.ntmps8
  go_wp2_with (go_at_call 15; ((with_reducible refine (GK.out _).mono ?_); rintro e w1 ⟨rfl, hB1⟩))
  clear hq hr
  go_loopw [9, 10] (fun v i wr => ∃ j : Nat, j ≤ 7 ∧ i = .int .i64 j ∧ wr.ownsRow w1.heap.size 28 3 v j (entryCells (consL Z ((x : Int) + 1) j)) ∧ Below w1.heap.size w1 wr) (fun _ i _ => 7 - (intOf i).toNat)
  case atStart => exact ⟨0, by omega, rfl, World.ownsRow_nil _ _ _ _, Below.refl _ _⟩
  case round =>
    obtain ⟨j, hj, rfl, hown, hB⟩ := hrel
    by_cases hlt : j < 7
    · obtain ⟨w2, hmk0, hB2, hby⟩ := HM.out wr
      have hmk : (Instr.makeSlice 48 (.int .i64 40) (.int .i64 40)).run Try.prog wr = .ok (.slice (some ⟨wr.heap.size, 0, none⟩) 40 40) w2 := hmk0
      have hcv := string_of (P := Try.prog) (src := 48) (dst := 9) Try.underlying48 Try.underlying5 Try.underlying9 hby 40 40 (by simp)
      rw [← HZ.out] at hcv
      have hown2 := ownsRow_below (n := 0) hown hB2
      have hBw := hB.trans (hB2.mono hB.size)
      have HS := Lib.hid (show entryCells (consL Z ((x : Int) + 1) (j + 1)) = entryCells (consL Z ((x : Int) + 1) j) ++ [.int .i64 ((x : Int) + 1 + j), .int .i64 7, .string Z] by rw [consL_snoc, entryCells_snoc]; rfl)
      clear hmk0 hby hown hB
      go_wp2_with (at_builtin; refine wpList_append_own _ rfl _ _ 22 rfl w1.heap.size 28 i0 (.agg #[.int .i64 0, .int .i64 0, .string ⟨#[]⟩]) 3 32 Try.underlying22 hi hz0 hz1 hz2 rfl (by decide) _ _ _ rfl (hown2.alloc _) ⟨w2.heap.size, 0, none⟩ 1 1 [.int .i64 ((x : Int) + 1 + j), .int .i64 7, .string Z] rfl rfl (news_new _ _ _) (by simp [Value.oneCell']) (by unfold maxLen; omega) (by omega) (by have := hBw.size; simp; omega) ?_; intro v' w3 hown3 hgrow _; have hB3 := (hBw.trans ((bel_alloc (Below.refl w2.heap.size w2) (.cells #[.int .i64 ((x : Int) + 1 + j), .int .i64 7, .string Z] 28)).mono hBw.size)).grown hgrow (by have := hBw.size; simp; omega) (fun k hk => ownBlock_ge hown2 hk))
      go_roundw
      case rel => exact ⟨j + 1, by omega, by go_num, by rw [HS.out]; exact hown3, hB3⟩
      case measure => simp [intOf]; omega
    · obtain rfl : j = 7 := by omega
      obtain ⟨va, vc, rfl, hrow, hoff⟩ := own_ent hown
      have hent : ∀ kd, HasE wr (⟨1, kd, va, 7, vc, 0, 0, 0, 0, 0, false, false⟩ : PartC) (consL Z ((x : Int) + 1) 7) := fun kd => ⟨consL_len _ _ _, (by decide : 7 < 1000000), hrow⟩
      have HE := Lib.hid hent
      have hA1 := bel_alloc (Below.refl wr.heap.size wr) (.cells #[.int .i64 1, .int .i64 1, .slice va 7 vc, .int .i64 0, .int .i64 0, .int .i64 0, .int .i64 0, .int .i64 0, .bool false, .bool false] 26)
      have hA2 := bel_alloc hA1 (.cells #[.int .i64 1, .int .i64 6, .slice va 7 vc, .int .i64 0, .int .i64 0, .int .i64 0, .int .i64 0, .int .i64 0, .bool false, .bool false] 26)
      have hp0 := ((bel_alloc (Below.refl (wr.alloc (.cells #[.int .i64 1, .int .i64 1, .slice va 7 vc, .int .i64 0, .int .i64 0, .int .i64 0, .int .i64 0, .int .i64 0, .bool false, .bool false] 26)).heap.size (wr.alloc (.cells #[.int .i64 1, .int .i64 1, .slice va 7 vc, .int .i64 0, .int .i64 0, .int .i64 0, .int .i64 0, .int .i64 0, .bool false, .bool false] 26))) (.cells #[.int .i64 1, .int .i64 6, .slice va 7 vc, .int .i64 0, .int .i64 0, .int .i64 0, .int .i64 0, .int .i64 0, .bool false, .bool false] 26)).block wr.heap.size (by simp)).trans (World.alloc_heap_new wr (.cells #[.int .i64 1, .int .i64 1, .slice va 7 vc, .int .i64 0, .int .i64 0, .int .i64 0, .int .i64 0, .int .i64 0, .bool false, .bool false] 26))
      have hf0 := World.alloc_heap_new (wr.alloc (.cells #[.int .i64 1, .int .i64 1, .slice va 7 vc, .int .i64 0, .int .i64 0, .int .i64 0, .int .i64 0, .int .i64 0, .bool false, .bool false] 26)) (.cells #[.int .i64 1, .int .i64 6, .slice va 7 vc, .int .i64 0, .int .i64 0, .int .i64 0, .int .i64 0, .int .i64 0, .bool false, .bool false] 26)
      rw [World.size_alloc] at hf0
      have hE1 := (HE.out 1).below hA2
      have hE6 := (HE.out 6).below hA2
      clear hown hrow hoff hlt hj hent
      go_wp2_with (first
        | (go_at_call 17; ((with_reducible refine (GB.out _ _ _ hE1).mono ?_); rintro e w4 ⟨rfl, hB4⟩; have hp4 := (hB4.block _ (heap_ltP hp0)).trans hp0; have hf4 := (hB4.block _ (heap_ltP hf0)).trans hf0; have hE1b := hE1.below hB4; have hE6b := hE6.below hB4; obtain ⟨y0, y1, y2, y3, y4, y5, y6, y7, y8, y9⟩ := arr10 hp4))
        | (go_at_call 20; ((with_reducible refine (GI1.out _ _ _ hE1b).mono ?_); rintro e w5 ⟨rfl, hB5⟩; have hf5 := (hB5.block _ (heap_ltP hf4)).trans hf4; have hE6c := hE6b.below hB5; obtain ⟨z0, z1, z2, z3, z4, z5, z6, z7, z8, z9⟩ := arr10 hf5))
        | (go_at_call 20; ((with_reducible refine (GI6.out _ _ _ hE6c).mono ?_); rintro e w6 ⟨rfl, hB6⟩)))
      go_ret
      exact ⟨rfl, hB1.trans ((hB.trans ((bel2 (bel2 (bel2 hA2 hB4) hB5) hB6).mono hB.size)).mono hB1.size)⟩

set_option maxRecDepth 100000 in
set_option maxHeartbeats 2000000 in
theorem sizes22 (n m x : Nat) (hn : n < 256) (hm : m < 256) (hx : x < 4294967296) (hq : (n : Int) % 3 = 2) (hr : (m : Int) % 3 = 2) (w : World) :
    Calls Try.prog 8 #[.int .u8 n, .int .u8 m, .int .u32 x] w fun e w' => e = .returned (.bool true) ∧ Below w.heap.size w w' := by
  obtain ⟨i0, hi, hz0, hz1, hz2⟩ := info_parts infoEntry
  obtain ⟨b0, bi, bz0, bz1, bz2⟩ := info_parts Try.infoU8
  have GK := Lib.hid part_known
  obtain ⟨Z, hZ, hZs⟩ : ∃ Z : ByteArray, Z = ⟨(List.replicate 41 0).toArray⟩ ∧ Z.size = 41 := ⟨_, rfl, by show (List.replicate 41 (0 : UInt8)).toArray.size = _; simp⟩
  have HZ := Lib.hid hZ
  have HM := Lib.hid (fun W => bytes_made (P := Try.prog) (t := 48) (e := 5) b0 Try.underlying48 bi bz0 bz1 bz2 41 (by decide) W)
  have I1 := Lib.hid (fun va vc => cons_is1 Z 7 ((x : Int) + 1) va vc (by decide) (by omega) (by omega))
  have I6 := Lib.hid (fun va vc => cons_is6 Z 7 ((x : Int) + 1) va vc (by decide) (by omega) (by omega))
  rw [hZs] at I1 I6
  have HZs := Lib.hid hZs
  clear hZ hZs
  simp only [show (decide (7 ≤ 6) && decide (41 ≤ 40)) = false by decide] at I1 I6
  have GB := Lib.hid (fun va vc W (h : HasE W (⟨1, 1, va, 7, vc, 0, 0, 0, 0, 0, false, false⟩ : PartC) (consL Z ((x : Int) + 1) 7)) => bytes_any (⟨1, 1, va, 7, vc, 0, 0, 0, 0, 0, false, false⟩ : PartC) (consL Z ((x : Int) + 1) 7) W h)
  have GI1 := Lib.hid (fun va vc W (h : HasE W (⟨1, 1, va, 7, vc, 0, 0, 0, 0, 0, false, false⟩ : PartC) (consL Z ((x : Int) + 1) 7)) => is_any (⟨1, 1, va, 7, vc, 0, 0, 0, 0, 0, false, false⟩ : PartC) (consL Z ((x : Int) + 1) 7) W h)
  have GI6 := Lib.hid (fun va vc W (h : HasE W (⟨1, 6, va, 7, vc, 0, 0, 0, 0, 0, false, false⟩ : PartC) (consL Z ((x : Int) + 1) 7)) => is_any (⟨1, 6, va, 7, vc, 0, 0, 0, 0, 0, false, false⟩ : PartC) (consL Z ((x : Int) + 1) 7) W h)
  simp only [bytesE, I1.out] at GB
  simp only [I1.out] at GI1
  simp only [I6.out] at GI6
  dsimp only [PartC.val] at GB GI1 GI6
  clear I1 I6
  go_enter Try.func8, Try.ntmps8
  go_wp2_with (go_at_call 15; ((with_reducible refine (GK.out _).mono ?_); rintro e w1 ⟨rfl, hB1⟩))
  clear hq hr
  go_loopw [9, 10] (fun v i wr => ∃ j : Nat, j ≤ 7 ∧ i = .int .i64 j ∧ wr.ownsRow w1.heap.size 28 3 v j (entryCells (consL Z ((x : Int) + 1) j)) ∧ Below w1.heap.size w1 wr) (fun _ i _ => 7 - (intOf i).toNat)
  case atStart => exact ⟨0, by omega, rfl, World.ownsRow_nil _ _ _ _, Below.refl _ _⟩
  case round =>
    obtain ⟨j, hj, rfl, hown, hB⟩ := hrel
    by_cases hlt : j < 7
    · obtain ⟨w2, hmk0, hB2, hby⟩ := HM.out wr
      have hmk : (Instr.makeSlice 48 (.int .i64 41) (.int .i64 41)).run Try.prog wr = .ok (.slice (some ⟨wr.heap.size, 0, none⟩) 41 41) w2 := hmk0
      have hcv := string_of (P := Try.prog) (src := 48) (dst := 9) Try.underlying48 Try.underlying5 Try.underlying9 hby 41 41 (by simp)
      rw [← HZ.out] at hcv
      have hown2 := ownsRow_below (n := 0) hown hB2
      have hBw := hB.trans (hB2.mono hB.size)
      have HS := Lib.hid (show entryCells (consL Z ((x : Int) + 1) (j + 1)) = entryCells (consL Z ((x : Int) + 1) j) ++ [.int .i64 ((x : Int) + 1 + j), .int .i64 7, .string Z] by rw [consL_snoc, entryCells_snoc]; rfl)
      clear hmk0 hby hown hB
      go_wp2_with (at_builtin; refine wpList_append_own _ rfl _ _ 22 rfl w1.heap.size 28 i0 (.agg #[.int .i64 0, .int .i64 0, .string ⟨#[]⟩]) 3 32 Try.underlying22 hi hz0 hz1 hz2 rfl (by decide) _ _ _ rfl (hown2.alloc _) ⟨w2.heap.size, 0, none⟩ 1 1 [.int .i64 ((x : Int) + 1 + j), .int .i64 7, .string Z] rfl rfl (news_new _ _ _) (by simp [Value.oneCell']) (by unfold maxLen; omega) (by omega) (by have := hBw.size; simp; omega) ?_; intro v' w3 hown3 hgrow _; have hB3 := (hBw.trans ((bel_alloc (Below.refl w2.heap.size w2) (.cells #[.int .i64 ((x : Int) + 1 + j), .int .i64 7, .string Z] 28)).mono hBw.size)).grown hgrow (by have := hBw.size; simp; omega) (fun k hk => ownBlock_ge hown2 hk))
      go_roundw
      case rel => exact ⟨j + 1, by omega, by go_num, by rw [HS.out]; exact hown3, hB3⟩
      case measure => simp [intOf]; omega
    · obtain rfl : j = 7 := by omega
      obtain ⟨va, vc, rfl, hrow, hoff⟩ := own_ent hown
      have hent : ∀ kd, HasE wr (⟨1, kd, va, 7, vc, 0, 0, 0, 0, 0, false, false⟩ : PartC) (consL Z ((x : Int) + 1) 7) := fun kd => ⟨consL_len _ _ _, (by decide : 7 < 1000000), hrow⟩
      have HE := Lib.hid hent
      have hA1 := bel_alloc (Below.refl wr.heap.size wr) (.cells #[.int .i64 1, .int .i64 1, .slice va 7 vc, .int .i64 0, .int .i64 0, .int .i64 0, .int .i64 0, .int .i64 0, .bool false, .bool false] 26)
      have hA2 := bel_alloc hA1 (.cells #[.int .i64 1, .int .i64 6, .slice va 7 vc, .int .i64 0, .int .i64 0, .int .i64 0, .int .i64 0, .int .i64 0, .bool false, .bool false] 26)
      have hp0 := ((bel_alloc (Below.refl (wr.alloc (.cells #[.int .i64 1, .int .i64 1, .slice va 7 vc, .int .i64 0, .int .i64 0, .int .i64 0, .int .i64 0, .int .i64 0, .bool false, .bool false] 26)).heap.size (wr.alloc (.cells #[.int .i64 1, .int .i64 1, .slice va 7 vc, .int .i64 0, .int .i64 0, .int .i64 0, .int .i64 0, .int .i64 0, .bool false, .bool false] 26))) (.cells #[.int .i64 1, .int .i64 6, .slice va 7 vc, .int .i64 0, .int .i64 0, .int .i64 0, .int .i64 0, .int .i64 0, .bool false, .bool false] 26)).block wr.heap.size (by simp)).trans (World.alloc_heap_new wr (.cells #[.int .i64 1, .int .i64 1, .slice va 7 vc, .int .i64 0, .int .i64 0, .int .i64 0, .int .i64 0, .int .i64 0, .bool false, .bool false] 26))
      have hf0 := World.alloc_heap_new (wr.alloc (.cells #[.int .i64 1, .int .i64 1, .slice va 7 vc, .int .i64 0, .int .i64 0, .int .i64 0, .int .i64 0, .int .i64 0, .bool false, .bool false] 26)) (.cells #[.int .i64 1, .int .i64 6, .slice va 7 vc, .int .i64 0, .int .i64 0, .int .i64 0, .int .i64 0, .int .i64 0, .bool false, .bool false] 26)
      rw [World.size_alloc] at hf0
      have hE1 := (HE.out 1).below hA2
      have hE6 := (HE.out 6).below hA2
      clear hown hrow hoff hlt hj hent
      go_wp2_with (first
        | (go_at_call 17; ((with_reducible refine (GB.out _ _ _ hE1).mono ?_); rintro e w4 ⟨rfl, hB4⟩; have hp4 := (hB4.block _ (heap_ltP hp0)).trans hp0; have hf4 := (hB4.block _ (heap_ltP hf0)).trans hf0; have hE1b := hE1.below hB4; have hE6b := hE6.below hB4; obtain ⟨y0, y1, y2, y3, y4, y5, y6, y7, y8, y9⟩ := arr10 hp4))
        | (go_at_call 20; ((with_reducible refine (GI1.out _ _ _ hE1b).mono ?_); rintro e w5 ⟨rfl, hB5⟩; have hf5 := (hB5.block _ (heap_ltP hf4)).trans hf4; have hE6c := hE6b.below hB5; obtain ⟨z0, z1, z2, z3, z4, z5, z6, z7, z8, z9⟩ := arr10 hf5))
        | (go_at_call 20; ((with_reducible refine (GI6.out _ _ _ hE6c).mono ?_); rintro e w6 ⟨rfl, hB6⟩)))
      go_ret
      exact ⟨rfl, hB1.trans ((hB.trans ((bel2 (bel2 (bel2 hA2 hB4) hB5) hB6).mono hB.size)).mono hB1.size)⟩

end Go.Proofs.Ytpogklceaoiacaa
