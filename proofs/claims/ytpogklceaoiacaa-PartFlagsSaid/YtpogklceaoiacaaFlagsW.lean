/- Walks of law PartFlags. -/
import Derived.Test.YtpogklceaoiacaaKnown4
import Derived.Test.YtpogklceaoiacaaFlagsMath
import Derived.Test.YtpogklceaoiacaaRefSame
namespace Go.Proofs.Ytpogklceaoiacaa
open Go.ChangeShapes Go.WideShapes Go.ChangeAt Go.RowKit Go.Shelf
set_option linter.unusedVariables false
attribute [local go_sem] Oper.semAt_some wide_fn wide_round_fn

set_option maxRecDepth 100000 in
set_option maxHeartbeats 2000000 in
theorem flags11 (n t : Nat) (hn : n < 256) (ht : t < 65536) (w : World) :
    Calls Try.prog 9 #[.bool true, .bool true, .int .u8 n, .int .u16 t] w fun e w' => e = .returned (.bool true) ∧ Below w.heap.size w w' := by
  obtain ⟨i0, hi, hz0, hz1, hz2⟩ := info_parts infoEntry
  have GK := Lib.hid part_known
  go_enter Try.func9, Try.ntmps9
  go_wp2_with (go_at_call 15; ((with_reducible refine (GK.out _).mono ?_); rintro e w1 ⟨rfl, hB1⟩))
  go_loopw [10] (fun i wr => ∃ (j : Nat) (v : Value), j ≤ n % 4 ∧ i = .int .i64 j ∧ wr.heap[w1.heap.size]? = some (.cells #[.int .i64 2, .int .i64 6, v, .int .i64 t, .int .i64 3, .int .i64 0, .int .i64 9, .int .i64 ((t : Int) + 1), .bool true, .bool true] 26 (0, 0)) ∧ wr.ownsRow (w1.heap.size + 1) 28 3 v j (entryCells (stepL j)) ∧ Below w1.heap.size w1 wr) (fun i _ => n % 4 - (intOf i).toNat)
  case atStart => exact ⟨0, .slice none 0 0, by omega, rfl, World.alloc_heap_new _ _, World.ownsRow_nil _ _ _ _, bel_alloc (Below.refl _ _) _⟩
  case round =>
    obtain ⟨j, v, hj, rfl, hblk, hown, hB⟩ := hrel
    have hXlt := heap_ltP hblk
    by_cases hlt : j < n % 4
    · have hlt' : (j : Int) < (n : Int) % 4 := by omega
      have c2 : wr.cell? ⟨w1.heap.size, 2, none⟩ = some v := cell_of_row _ _ 2 _ _ _ hblk
      have HS := Lib.hid (show entryCells (stepL (j + 1)) = entryCells (stepL j) ++ [.int .i64 (10 + 3 * (j : Int)), .int .i64 2, .string ⟨#[]⟩] by rw [stepL_snoc, entryCells_snoc]; rfl)
      have hj4 : j < 4 := by omega
      go_wp2_with (at_builtin; refine wpList_append_own _ rfl _ _ 22 rfl (w1.heap.size + 1) 28 i0 (.agg #[.int .i64 0, .int .i64 0, .string ⟨#[]⟩]) 3 32 Try.underlying22 hi hz0 hz1 hz2 rfl (by decide) _ _ _ rfl (hown.alloc _) ⟨wr.heap.size, 0, none⟩ 1 1 [.int .i64 (10 + 3 * (j : Int)), .int .i64 2, .string ⟨#[]⟩] rfl rfl (news_new _ _ _) (by simp [Value.oneCell']) (by unfold maxLen; omega) (by omega) (by simp; omega) ?_; intro v' w3 hown3 hgrow _; obtain ⟨g', cap', rfl⟩ := ownsRow_succ hown3; have hne : v.ownBlock ≠ some w1.heap.size := (fun e => by have := ownBlock_ge hown e; omega); have hb3 := (hgrow.block w1.heap.size (by simp; omega) (fun e => hne e.symm)).trans (((bel_alloc (Below.refl wr.heap.size wr) (.cells [.int .i64 (10 + 3 * (j : Int)), .int .i64 2, .string ⟨#[]⟩].toArray 28)).block _ hXlt).trans hblk); have f2 := frozen_of_row _ _ 2 _ _ hb3; have k2 : w3.cell? ⟨w1.heap.size, 2, none⟩ = some v := cell_of_row _ _ 2 _ _ _ hb3; have hb4 := Go.Joins.block_setCell hb3 (.slice (some ⟨g', 0, none⟩) (j + 1) cap') (i := 2); simp only [List.setIfInBounds_toArray, List.set_cons_succ, List.set_cons_zero] at hb4; have hown4 := Stab.ownsRow (B := 0) (T := fun k => k = w1.heap.size) (fun k hk => by have hk : k = w1.heap.size := hk; omega) _ _ hown3 (FrameT.setCell w3 w1.heap.size 2 (.slice (some ⟨g', 0, none⟩) (j + 1) cap')).moves; have hB3 := ((hB.trans ((bel_alloc (Below.refl wr.heap.size wr) (.cells [.int .i64 (10 + 3 * (j : Int)), .int .i64 2, .string ⟨#[]⟩].toArray 28)).mono hB.size)).grown hgrow (by simp; omega) (fun k hk => by have := ownBlock_ge hown hk; omega)).setCell (p := ⟨w1.heap.size, 2, none⟩) (Nat.le_refl _) (.slice (some ⟨g', 0, none⟩) (j + 1) cap'))
      go_roundw
      case rel => exact ⟨j + 1, _, by omega, by go_num, hb4, by rw [HS.out]; exact hown4, hB3⟩
      case measure => simp [intOf]; omega
    · obtain ⟨c, hc⟩ : ∃ c, c = n % 4 := ⟨_, rfl⟩
      obtain rfl : j = c := by omega
      have HC := Lib.hid hc
      have hj4 : j < 4 := by omega
      have hge : ¬ (j : Int) < (n : Int) % 4 := by omega
      obtain ⟨va, vc, rfl, hrow, hoff⟩ := own_ent hown
      have hE : HasE wr (⟨2, 6, va, j, vc, t, 3, 0, 9, ((t : Int) + 1), true, true⟩ : PartC) (stepL j) := ⟨stepL_len _, by dsimp only; omega, hrow⟩
      have hEb : HasE wr (⟨2, 6, va, j, vc, t, 3, 0, 9, ((t : Int) + 1), false, false⟩ : PartC) (stepL j) := ⟨stepL_len _, by dsimp only; omega, hrow⟩
      obtain ⟨y0, y1, y2, y3, y4, y5, y6, y7, y8, y9⟩ := arr10 hblk
      clear hown hrow hoff hlt hj hc
      have hI : isB (⟨2, 6, va, j, vc, t, 3, 0, 9, ((t : Int) + 1), true, true⟩ : PartC) (stepL j) = true := flags_is j hj4 va vc t ht true true (.inl rfl)
      have hBI : isB (⟨2, 6, va, j, vc, t, 3, 0, 9, ((t : Int) + 1), false, false⟩ : PartC) (stepL j) = false := flags_bare j va vc t true true (.inl rfl)
      have hLn := bytesL_len (p := (⟨2, 6, va, j, vc, t, 3, 0, 9, ((t : Int) + 1), true, true⟩ : PartC)) (l := stepL j) (stepL_len j) hI
      have hSz : (bytesS (⟨2, 6, va, j, vc, t, 3, 0, 9, ((t : Int) + 1), true, true⟩ : PartC) (stepL j)).size ≤ 1000 := by unfold bytesS; rw [if_pos hI]; exact hLn
      have hRd := read6_back (⟨2, 6, va, j, vc, t, 3, 0, 9, ((t : Int) + 1), true, true⟩ : PartC) (stepL j) (stepL_len j) rfl hI (bytesS (⟨2, 6, va, j, vc, t, 3, 0, 9, ((t : Int) + 1), true, true⟩ : PartC) (stepL j)) ⟨#[]⟩ (by apply ByteArray.ext; simp)
      have GB := Lib.hid (fun W (hB : Below wr.heap.size wr W) => bytes_any (⟨2, 6, va, j, vc, t, 3, 0, 9, ((t : Int) + 1), true, true⟩ : PartC) (stepL j) W (hE.below hB))
      simp only [bytesE, hI, if_true] at GB
      have GR := Lib.hid (fun W => partRead_at (bytesS (⟨2, 6, va, j, vc, t, 3, 0, 9, ((t : Int) + 1), true, true⟩ : PartC) (stepL j)) _ _ 0 (by omega) hRd W)
      generalize bytesS (⟨2, 6, va, j, vc, t, 3, 0, 9, ((t : Int) + 1), true, true⟩ : PartC) (stepL j) = S at *
      have GI := Lib.hid (fun W (hB : Below wr.heap.size wr W) => is_any (⟨2, 6, va, j, vc, t, 3, 0, 9, ((t : Int) + 1), true, true⟩ : PartC) (stepL j) W (hE.below hB))
      have GIb := Lib.hid (fun W (hB : Below wr.heap.size wr W) => is_any (⟨2, 6, va, j, vc, t, 3, 0, 9, ((t : Int) + 1), false, false⟩ : PartC) (stepL j) W (hEb.below hB))
      rw [hI] at GI
      rw [hBI] at GIb
      have GS := Lib.hid (fun xa xc W (hB : Below wr.heap.size wr W) (h : HasE W (⟨2, 6, xa, j, xc, t, 3, 0, 9, ((t : Int) + 1), true, true⟩ : PartC) (stepL j)) => refSame_any (⟨2, 6, va, j, vc, t, 3, 0, 9, ((t : Int) + 1), true, true⟩ : PartC) (⟨2, 6, xa, j, xc, t, 3, 0, 9, ((t : Int) + 1), true, true⟩ : PartC) (stepL j) (stepL j) W (hE.below hB) h)
      simp only [show ∀ xa xc, sameB (⟨2, 6, va, j, vc, t, 3, 0, 9, ((t : Int) + 1), true, true⟩ : PartC) (⟨2, 6, xa, j, xc, t, 3, 0, 9, ((t : Int) + 1), true, true⟩ : PartC) (stepL j) (stepL j) = true from fun _ _ => sameB_iff.2 ⟨rfl, rfl, rfl, ⟨rfl, rfl, rfl⟩, rfl, rfl, rfl, rfl⟩] at GS
      dsimp only [PartC.val, ReadC.part] at GB GI GIb GS GR
      rw [stepL_len] at GR
      clear hI hBI hLn hRd hE hEb
      go_wp2_with (first
        | (go_at_call 17; ((with_reducible refine (GB.out _ (Below.refl _ _)).mono ?_); rintro e w4 ⟨rfl, hB4⟩; have hp4 := (hB4.block _ hXlt).trans hblk))
        | (go_at_call 25; ((with_reducible refine (GR.out _).mono ?_); rintro e w5 ⟨xa, xc, rfl, hEq, hB5⟩; have hp5 := (hB5.block _ (heap_ltP hp4)).trans hp4; have hA5 := bel_alloc (Below.refl w5.heap.size w5) (.cells #[.int .i64 2, .int .i64 6, .slice xa j xc, .int .i64 t, .int .i64 3, .int .i64 0, .int .i64 9, .int .i64 ((t : Int) + 1), .bool true, .bool true] 26); have hp5a := (hA5.block _ (heap_ltP hp5)).trans hp5; have hA6 := bel_alloc (Below.refl (w5.alloc (.cells #[.int .i64 2, .int .i64 6, .slice xa j xc, .int .i64 t, .int .i64 3, .int .i64 0, .int .i64 9, .int .i64 ((t : Int) + 1), .bool true, .bool true] 26)).heap.size (w5.alloc (.cells #[.int .i64 2, .int .i64 6, .slice xa j xc, .int .i64 t, .int .i64 3, .int .i64 0, .int .i64 9, .int .i64 ((t : Int) + 1), .bool true, .bool true] 26))) (.cells #[.int .i64 2, .int .i64 6, .slice va j vc, .int .i64 t, .int .i64 3, .int .i64 0, .int .i64 9, .int .i64 ((t : Int) + 1), .bool false, .bool false] 26); have hq5 := World.alloc_heap_new w5 (.cells #[.int .i64 2, .int .i64 6, .slice xa j xc, .int .i64 t, .int .i64 3, .int .i64 0, .int .i64 9, .int .i64 ((t : Int) + 1), .bool true, .bool true] 26); have hq6 := (hA6.block _ (heap_ltP hq5)).trans hq5; have hb6 := World.alloc_heap_new (w5.alloc (.cells #[.int .i64 2, .int .i64 6, .slice xa j xc, .int .i64 t, .int .i64 3, .int .i64 0, .int .i64 9, .int .i64 ((t : Int) + 1), .bool true, .bool true] 26)) (.cells #[.int .i64 2, .int .i64 6, .slice va j vc, .int .i64 t, .int .i64 3, .int .i64 0, .int .i64 9, .int .i64 ((t : Int) + 1), .bool false, .bool false] 26); rw [World.size_alloc] at hb6; have hp6 := (hA6.block _ (heap_ltP hp5a)).trans hp5a; have hC6 := bel2 (bel2 (bel2 hB4 hB5) hA5) hA6; have hE6 := (hEq.below hA5).below hA6; obtain ⟨z0, z1, z2, z3, z4, z5, z6, z7, z8, z9⟩ := arr10 hp5a; obtain ⟨u0, u1, u2, u3, u4, u5, u6, u7, u8, u9⟩ := arr10 hp6))
        | (go_at_call 20; ((with_reducible refine (GI.out _ hC6).mono ?_); rintro e w7 ⟨rfl, hB7⟩; have hC7 := bel2 hC6 hB7; have hE7 := hE6.below hB7; have hp7 := (hB7.block _ (heap_ltP hp6)).trans hp6; have hq7 := (hB7.block _ (heap_ltP hq6)).trans hq6; have hb7 := (hB7.block _ (heap_ltP hb6)).trans hb6; obtain ⟨s0, s1, s2, s3, s4, s5, s6, s7, s8, s9⟩ := arr10 hp7; obtain ⟨r0, r1, r2, r3, r4, r5, r6, r7, r8, r9⟩ := arr10 hq7))
        | (go_at_call 24; ((with_reducible refine (GS.out _ _ _ hC7 hE7).mono ?_); rintro e w8 ⟨rfl, hB8⟩; have hC8 := bel2 hC7 hB8; have hb8 := (hB8.block _ (heap_ltP hb7)).trans hb7; obtain ⟨v0, v1, v2, v3, v4, v5, v6, v7, v8, v9⟩ := arr10 hb8))
        | (go_at_call 20; ((with_reducible refine (GIb.out _ hC8).mono ?_); rintro e w9 ⟨rfl, hB9⟩; have hC9 := bel2 hC8 hB9)))
      go_ret
      exact ⟨rfl, hB1.trans ((hB.trans (hC9.mono hB.size)).mono hB1.size)⟩

set_option maxRecDepth 100000 in
set_option maxHeartbeats 2000000 in
theorem flags10 (n t : Nat) (hn : n < 256) (ht : t < 65536) (w : World) :
    Calls Try.prog 9 #[.bool true, .bool false, .int .u8 n, .int .u16 t] w fun e w' => e = .returned (.bool true) ∧ Below w.heap.size w w' := by
  obtain ⟨i0, hi, hz0, hz1, hz2⟩ := info_parts infoEntry
  have GK := Lib.hid part_known
  go_enter Try.func9, Try.ntmps9
  go_wp2_with (go_at_call 15; ((with_reducible refine (GK.out _).mono ?_); rintro e w1 ⟨rfl, hB1⟩))
  go_loopw [10] (fun i wr => ∃ (j : Nat) (v : Value), j ≤ n % 4 ∧ i = .int .i64 j ∧ wr.heap[w1.heap.size]? = some (.cells #[.int .i64 2, .int .i64 6, v, .int .i64 0, .int .i64 0, .int .i64 0, .int .i64 9, .int .i64 ((t : Int) + 1), .bool true, .bool false] 26 (0, 0)) ∧ wr.ownsRow (w1.heap.size + 1) 28 3 v j (entryCells (stepL j)) ∧ Below w1.heap.size w1 wr) (fun i _ => n % 4 - (intOf i).toNat)
  case atStart => exact ⟨0, .slice none 0 0, by omega, rfl, World.alloc_heap_new _ _, World.ownsRow_nil _ _ _ _, bel_alloc (Below.refl _ _) _⟩
  case round =>
    obtain ⟨j, v, hj, rfl, hblk, hown, hB⟩ := hrel
    have hXlt := heap_ltP hblk
    by_cases hlt : j < n % 4
    · have hlt' : (j : Int) < (n : Int) % 4 := by omega
      have c2 : wr.cell? ⟨w1.heap.size, 2, none⟩ = some v := cell_of_row _ _ 2 _ _ _ hblk
      have HS := Lib.hid (show entryCells (stepL (j + 1)) = entryCells (stepL j) ++ [.int .i64 (10 + 3 * (j : Int)), .int .i64 2, .string ⟨#[]⟩] by rw [stepL_snoc, entryCells_snoc]; rfl)
      have hj4 : j < 4 := by omega
      go_wp2_with (at_builtin; refine wpList_append_own _ rfl _ _ 22 rfl (w1.heap.size + 1) 28 i0 (.agg #[.int .i64 0, .int .i64 0, .string ⟨#[]⟩]) 3 32 Try.underlying22 hi hz0 hz1 hz2 rfl (by decide) _ _ _ rfl (hown.alloc _) ⟨wr.heap.size, 0, none⟩ 1 1 [.int .i64 (10 + 3 * (j : Int)), .int .i64 2, .string ⟨#[]⟩] rfl rfl (news_new _ _ _) (by simp [Value.oneCell']) (by unfold maxLen; omega) (by omega) (by simp; omega) ?_; intro v' w3 hown3 hgrow _; obtain ⟨g', cap', rfl⟩ := ownsRow_succ hown3; have hne : v.ownBlock ≠ some w1.heap.size := (fun e => by have := ownBlock_ge hown e; omega); have hb3 := (hgrow.block w1.heap.size (by simp; omega) (fun e => hne e.symm)).trans (((bel_alloc (Below.refl wr.heap.size wr) (.cells [.int .i64 (10 + 3 * (j : Int)), .int .i64 2, .string ⟨#[]⟩].toArray 28)).block _ hXlt).trans hblk); have f2 := frozen_of_row _ _ 2 _ _ hb3; have k2 : w3.cell? ⟨w1.heap.size, 2, none⟩ = some v := cell_of_row _ _ 2 _ _ _ hb3; have hb4 := Go.Joins.block_setCell hb3 (.slice (some ⟨g', 0, none⟩) (j + 1) cap') (i := 2); simp only [List.setIfInBounds_toArray, List.set_cons_succ, List.set_cons_zero] at hb4; have hown4 := Stab.ownsRow (B := 0) (T := fun k => k = w1.heap.size) (fun k hk => by have hk : k = w1.heap.size := hk; omega) _ _ hown3 (FrameT.setCell w3 w1.heap.size 2 (.slice (some ⟨g', 0, none⟩) (j + 1) cap')).moves; have hB3 := ((hB.trans ((bel_alloc (Below.refl wr.heap.size wr) (.cells [.int .i64 (10 + 3 * (j : Int)), .int .i64 2, .string ⟨#[]⟩].toArray 28)).mono hB.size)).grown hgrow (by simp; omega) (fun k hk => by have := ownBlock_ge hown hk; omega)).setCell (p := ⟨w1.heap.size, 2, none⟩) (Nat.le_refl _) (.slice (some ⟨g', 0, none⟩) (j + 1) cap'))
      go_roundw
      case rel => exact ⟨j + 1, _, by omega, by go_num, hb4, by rw [HS.out]; exact hown4, hB3⟩
      case measure => simp [intOf]; omega
    · obtain ⟨c, hc⟩ : ∃ c, c = n % 4 := ⟨_, rfl⟩
      obtain rfl : j = c := by omega
      have HC := Lib.hid hc
      have hj4 : j < 4 := by omega
      have hge : ¬ (j : Int) < (n : Int) % 4 := by omega
      obtain ⟨va, vc, rfl, hrow, hoff⟩ := own_ent hown
      have hE : HasE wr (⟨2, 6, va, j, vc, 0, 0, 0, 9, ((t : Int) + 1), true, false⟩ : PartC) (stepL j) := ⟨stepL_len _, by dsimp only; omega, hrow⟩
      have hEb : HasE wr (⟨2, 6, va, j, vc, 0, 0, 0, 9, ((t : Int) + 1), false, false⟩ : PartC) (stepL j) := ⟨stepL_len _, by dsimp only; omega, hrow⟩
      obtain ⟨y0, y1, y2, y3, y4, y5, y6, y7, y8, y9⟩ := arr10 hblk
      clear hown hrow hoff hlt hj hc
      have hI : isB (⟨2, 6, va, j, vc, 0, 0, 0, 9, ((t : Int) + 1), true, false⟩ : PartC) (stepL j) = true := flags_is j hj4 va vc t ht true false (.inl rfl)
      have hBI : isB (⟨2, 6, va, j, vc, 0, 0, 0, 9, ((t : Int) + 1), false, false⟩ : PartC) (stepL j) = false := flags_bare j va vc t true false (.inl rfl)
      have hLn := bytesL_len (p := (⟨2, 6, va, j, vc, 0, 0, 0, 9, ((t : Int) + 1), true, false⟩ : PartC)) (l := stepL j) (stepL_len j) hI
      have hSz : (bytesS (⟨2, 6, va, j, vc, 0, 0, 0, 9, ((t : Int) + 1), true, false⟩ : PartC) (stepL j)).size ≤ 1000 := by unfold bytesS; rw [if_pos hI]; exact hLn
      have hRd := read6_back (⟨2, 6, va, j, vc, 0, 0, 0, 9, ((t : Int) + 1), true, false⟩ : PartC) (stepL j) (stepL_len j) rfl hI (bytesS (⟨2, 6, va, j, vc, 0, 0, 0, 9, ((t : Int) + 1), true, false⟩ : PartC) (stepL j)) ⟨#[]⟩ (by apply ByteArray.ext; simp)
      have GB := Lib.hid (fun W (hB : Below wr.heap.size wr W) => bytes_any (⟨2, 6, va, j, vc, 0, 0, 0, 9, ((t : Int) + 1), true, false⟩ : PartC) (stepL j) W (hE.below hB))
      simp only [bytesE, hI, if_true] at GB
      have GR := Lib.hid (fun W => partRead_at (bytesS (⟨2, 6, va, j, vc, 0, 0, 0, 9, ((t : Int) + 1), true, false⟩ : PartC) (stepL j)) _ _ 0 (by omega) hRd W)
      generalize bytesS (⟨2, 6, va, j, vc, 0, 0, 0, 9, ((t : Int) + 1), true, false⟩ : PartC) (stepL j) = S at *
      have GI := Lib.hid (fun W (hB : Below wr.heap.size wr W) => is_any (⟨2, 6, va, j, vc, 0, 0, 0, 9, ((t : Int) + 1), true, false⟩ : PartC) (stepL j) W (hE.below hB))
      have GIb := Lib.hid (fun W (hB : Below wr.heap.size wr W) => is_any (⟨2, 6, va, j, vc, 0, 0, 0, 9, ((t : Int) + 1), false, false⟩ : PartC) (stepL j) W (hEb.below hB))
      rw [hI] at GI
      rw [hBI] at GIb
      have GS := Lib.hid (fun xa xc W (hB : Below wr.heap.size wr W) (h : HasE W (⟨2, 6, xa, j, xc, 0, 0, 0, 9, ((t : Int) + 1), true, false⟩ : PartC) (stepL j)) => refSame_any (⟨2, 6, va, j, vc, 0, 0, 0, 9, ((t : Int) + 1), true, false⟩ : PartC) (⟨2, 6, xa, j, xc, 0, 0, 0, 9, ((t : Int) + 1), true, false⟩ : PartC) (stepL j) (stepL j) W (hE.below hB) h)
      simp only [show ∀ xa xc, sameB (⟨2, 6, va, j, vc, 0, 0, 0, 9, ((t : Int) + 1), true, false⟩ : PartC) (⟨2, 6, xa, j, xc, 0, 0, 0, 9, ((t : Int) + 1), true, false⟩ : PartC) (stepL j) (stepL j) = true from fun _ _ => sameB_iff.2 ⟨rfl, rfl, rfl, ⟨rfl, rfl, rfl⟩, rfl, rfl, rfl, rfl⟩] at GS
      dsimp only [PartC.val, ReadC.part] at GB GI GIb GS GR
      rw [stepL_len] at GR
      clear hI hBI hLn hRd hE hEb
      go_wp2_with (first
        | (go_at_call 17; ((with_reducible refine (GB.out _ (Below.refl _ _)).mono ?_); rintro e w4 ⟨rfl, hB4⟩; have hp4 := (hB4.block _ hXlt).trans hblk))
        | (go_at_call 25; ((with_reducible refine (GR.out _).mono ?_); rintro e w5 ⟨xa, xc, rfl, hEq, hB5⟩; have hp5 := (hB5.block _ (heap_ltP hp4)).trans hp4; have hA5 := bel_alloc (Below.refl w5.heap.size w5) (.cells #[.int .i64 2, .int .i64 6, .slice xa j xc, .int .i64 0, .int .i64 0, .int .i64 0, .int .i64 9, .int .i64 ((t : Int) + 1), .bool true, .bool false] 26); have hp5a := (hA5.block _ (heap_ltP hp5)).trans hp5; have hA6 := bel_alloc (Below.refl (w5.alloc (.cells #[.int .i64 2, .int .i64 6, .slice xa j xc, .int .i64 0, .int .i64 0, .int .i64 0, .int .i64 9, .int .i64 ((t : Int) + 1), .bool true, .bool false] 26)).heap.size (w5.alloc (.cells #[.int .i64 2, .int .i64 6, .slice xa j xc, .int .i64 0, .int .i64 0, .int .i64 0, .int .i64 9, .int .i64 ((t : Int) + 1), .bool true, .bool false] 26))) (.cells #[.int .i64 2, .int .i64 6, .slice va j vc, .int .i64 0, .int .i64 0, .int .i64 0, .int .i64 9, .int .i64 ((t : Int) + 1), .bool false, .bool false] 26); have hq5 := World.alloc_heap_new w5 (.cells #[.int .i64 2, .int .i64 6, .slice xa j xc, .int .i64 0, .int .i64 0, .int .i64 0, .int .i64 9, .int .i64 ((t : Int) + 1), .bool true, .bool false] 26); have hq6 := (hA6.block _ (heap_ltP hq5)).trans hq5; have hb6 := World.alloc_heap_new (w5.alloc (.cells #[.int .i64 2, .int .i64 6, .slice xa j xc, .int .i64 0, .int .i64 0, .int .i64 0, .int .i64 9, .int .i64 ((t : Int) + 1), .bool true, .bool false] 26)) (.cells #[.int .i64 2, .int .i64 6, .slice va j vc, .int .i64 0, .int .i64 0, .int .i64 0, .int .i64 9, .int .i64 ((t : Int) + 1), .bool false, .bool false] 26); rw [World.size_alloc] at hb6; have hp6 := (hA6.block _ (heap_ltP hp5a)).trans hp5a; have hC6 := bel2 (bel2 (bel2 hB4 hB5) hA5) hA6; have hE6 := (hEq.below hA5).below hA6; obtain ⟨z0, z1, z2, z3, z4, z5, z6, z7, z8, z9⟩ := arr10 hp5a; obtain ⟨u0, u1, u2, u3, u4, u5, u6, u7, u8, u9⟩ := arr10 hp6))
        | (go_at_call 20; ((with_reducible refine (GI.out _ hC6).mono ?_); rintro e w7 ⟨rfl, hB7⟩; have hC7 := bel2 hC6 hB7; have hE7 := hE6.below hB7; have hp7 := (hB7.block _ (heap_ltP hp6)).trans hp6; have hq7 := (hB7.block _ (heap_ltP hq6)).trans hq6; have hb7 := (hB7.block _ (heap_ltP hb6)).trans hb6; obtain ⟨s0, s1, s2, s3, s4, s5, s6, s7, s8, s9⟩ := arr10 hp7; obtain ⟨r0, r1, r2, r3, r4, r5, r6, r7, r8, r9⟩ := arr10 hq7))
        | (go_at_call 24; ((with_reducible refine (GS.out _ _ _ hC7 hE7).mono ?_); rintro e w8 ⟨rfl, hB8⟩; have hC8 := bel2 hC7 hB8; have hb8 := (hB8.block _ (heap_ltP hb7)).trans hb7; obtain ⟨v0, v1, v2, v3, v4, v5, v6, v7, v8, v9⟩ := arr10 hb8))
        | (go_at_call 20; ((with_reducible refine (GIb.out _ hC8).mono ?_); rintro e w9 ⟨rfl, hB9⟩; have hC9 := bel2 hC8 hB9)))
      go_ret
      exact ⟨rfl, hB1.trans ((hB.trans (hC9.mono hB.size)).mono hB1.size)⟩

set_option maxRecDepth 100000 in
set_option maxHeartbeats 2000000 in
theorem flags01 (n t : Nat) (hn : n < 256) (ht : t < 65536) (w : World) :
    Calls Try.prog 9 #[.bool false, .bool true, .int .u8 n, .int .u16 t] w fun e w' => e = .returned (.bool true) ∧ Below w.heap.size w w' := by
  obtain ⟨i0, hi, hz0, hz1, hz2⟩ := info_parts infoEntry
  have GK := Lib.hid part_known
  go_enter Try.func9, Try.ntmps9
  go_wp2_with (go_at_call 15; ((with_reducible refine (GK.out _).mono ?_); rintro e w1 ⟨rfl, hB1⟩))
  go_loopw [10] (fun i wr => ∃ (j : Nat) (v : Value), j ≤ n % 4 ∧ i = .int .i64 j ∧ wr.heap[w1.heap.size]? = some (.cells #[.int .i64 2, .int .i64 6, v, .int .i64 t, .int .i64 3, .int .i64 0, .int .i64 0, .int .i64 0, .bool false, .bool true] 26 (0, 0)) ∧ wr.ownsRow (w1.heap.size + 1) 28 3 v j (entryCells (stepL j)) ∧ Below w1.heap.size w1 wr) (fun i _ => n % 4 - (intOf i).toNat)
  case atStart => exact ⟨0, .slice none 0 0, by omega, rfl, World.alloc_heap_new _ _, World.ownsRow_nil _ _ _ _, bel_alloc (Below.refl _ _) _⟩
  case round =>
    obtain ⟨j, v, hj, rfl, hblk, hown, hB⟩ := hrel
    have hXlt := heap_ltP hblk
    by_cases hlt : j < n % 4
    · have hlt' : (j : Int) < (n : Int) % 4 := by omega
      have c2 : wr.cell? ⟨w1.heap.size, 2, none⟩ = some v := cell_of_row _ _ 2 _ _ _ hblk
      have HS := Lib.hid (show entryCells (stepL (j + 1)) = entryCells (stepL j) ++ [.int .i64 (10 + 3 * (j : Int)), .int .i64 2, .string ⟨#[]⟩] by rw [stepL_snoc, entryCells_snoc]; rfl)
      have hj4 : j < 4 := by omega
      go_wp2_with (at_builtin; refine wpList_append_own _ rfl _ _ 22 rfl (w1.heap.size + 1) 28 i0 (.agg #[.int .i64 0, .int .i64 0, .string ⟨#[]⟩]) 3 32 Try.underlying22 hi hz0 hz1 hz2 rfl (by decide) _ _ _ rfl (hown.alloc _) ⟨wr.heap.size, 0, none⟩ 1 1 [.int .i64 (10 + 3 * (j : Int)), .int .i64 2, .string ⟨#[]⟩] rfl rfl (news_new _ _ _) (by simp [Value.oneCell']) (by unfold maxLen; omega) (by omega) (by simp; omega) ?_; intro v' w3 hown3 hgrow _; obtain ⟨g', cap', rfl⟩ := ownsRow_succ hown3; have hne : v.ownBlock ≠ some w1.heap.size := (fun e => by have := ownBlock_ge hown e; omega); have hb3 := (hgrow.block w1.heap.size (by simp; omega) (fun e => hne e.symm)).trans (((bel_alloc (Below.refl wr.heap.size wr) (.cells [.int .i64 (10 + 3 * (j : Int)), .int .i64 2, .string ⟨#[]⟩].toArray 28)).block _ hXlt).trans hblk); have f2 := frozen_of_row _ _ 2 _ _ hb3; have k2 : w3.cell? ⟨w1.heap.size, 2, none⟩ = some v := cell_of_row _ _ 2 _ _ _ hb3; have hb4 := Go.Joins.block_setCell hb3 (.slice (some ⟨g', 0, none⟩) (j + 1) cap') (i := 2); simp only [List.setIfInBounds_toArray, List.set_cons_succ, List.set_cons_zero] at hb4; have hown4 := Stab.ownsRow (B := 0) (T := fun k => k = w1.heap.size) (fun k hk => by have hk : k = w1.heap.size := hk; omega) _ _ hown3 (FrameT.setCell w3 w1.heap.size 2 (.slice (some ⟨g', 0, none⟩) (j + 1) cap')).moves; have hB3 := ((hB.trans ((bel_alloc (Below.refl wr.heap.size wr) (.cells [.int .i64 (10 + 3 * (j : Int)), .int .i64 2, .string ⟨#[]⟩].toArray 28)).mono hB.size)).grown hgrow (by simp; omega) (fun k hk => by have := ownBlock_ge hown hk; omega)).setCell (p := ⟨w1.heap.size, 2, none⟩) (Nat.le_refl _) (.slice (some ⟨g', 0, none⟩) (j + 1) cap'))
      go_roundw
      case rel => exact ⟨j + 1, _, by omega, by go_num, hb4, by rw [HS.out]; exact hown4, hB3⟩
      case measure => simp [intOf]; omega
    · obtain ⟨c, hc⟩ : ∃ c, c = n % 4 := ⟨_, rfl⟩
      obtain rfl : j = c := by omega
      have HC := Lib.hid hc
      have hj4 : j < 4 := by omega
      have hge : ¬ (j : Int) < (n : Int) % 4 := by omega
      obtain ⟨va, vc, rfl, hrow, hoff⟩ := own_ent hown
      have hE : HasE wr (⟨2, 6, va, j, vc, t, 3, 0, 0, 0, false, true⟩ : PartC) (stepL j) := ⟨stepL_len _, by dsimp only; omega, hrow⟩
      have hEb : HasE wr (⟨2, 6, va, j, vc, t, 3, 0, 0, 0, false, false⟩ : PartC) (stepL j) := ⟨stepL_len _, by dsimp only; omega, hrow⟩
      obtain ⟨y0, y1, y2, y3, y4, y5, y6, y7, y8, y9⟩ := arr10 hblk
      clear hown hrow hoff hlt hj hc
      have hI : isB (⟨2, 6, va, j, vc, t, 3, 0, 0, 0, false, true⟩ : PartC) (stepL j) = true := flags_is j hj4 va vc t ht false true (.inr (.inl rfl))
      have hBI : isB (⟨2, 6, va, j, vc, t, 3, 0, 0, 0, false, false⟩ : PartC) (stepL j) = false := flags_bare j va vc t false true (.inr rfl)
      have hLn := bytesL_len (p := (⟨2, 6, va, j, vc, t, 3, 0, 0, 0, false, true⟩ : PartC)) (l := stepL j) (stepL_len j) hI
      have hSz : (bytesS (⟨2, 6, va, j, vc, t, 3, 0, 0, 0, false, true⟩ : PartC) (stepL j)).size ≤ 1000 := by unfold bytesS; rw [if_pos hI]; exact hLn
      have hRd := read6_back (⟨2, 6, va, j, vc, t, 3, 0, 0, 0, false, true⟩ : PartC) (stepL j) (stepL_len j) rfl hI (bytesS (⟨2, 6, va, j, vc, t, 3, 0, 0, 0, false, true⟩ : PartC) (stepL j)) ⟨#[]⟩ (by apply ByteArray.ext; simp)
      have GB := Lib.hid (fun W (hB : Below wr.heap.size wr W) => bytes_any (⟨2, 6, va, j, vc, t, 3, 0, 0, 0, false, true⟩ : PartC) (stepL j) W (hE.below hB))
      simp only [bytesE, hI, if_true] at GB
      have GR := Lib.hid (fun W => partRead_at (bytesS (⟨2, 6, va, j, vc, t, 3, 0, 0, 0, false, true⟩ : PartC) (stepL j)) _ _ 0 (by omega) hRd W)
      generalize bytesS (⟨2, 6, va, j, vc, t, 3, 0, 0, 0, false, true⟩ : PartC) (stepL j) = S at *
      have GI := Lib.hid (fun W (hB : Below wr.heap.size wr W) => is_any (⟨2, 6, va, j, vc, t, 3, 0, 0, 0, false, true⟩ : PartC) (stepL j) W (hE.below hB))
      have GIb := Lib.hid (fun W (hB : Below wr.heap.size wr W) => is_any (⟨2, 6, va, j, vc, t, 3, 0, 0, 0, false, false⟩ : PartC) (stepL j) W (hEb.below hB))
      rw [hI] at GI
      rw [hBI] at GIb
      have GS := Lib.hid (fun xa xc W (hB : Below wr.heap.size wr W) (h : HasE W (⟨2, 6, xa, j, xc, t, 3, 0, 0, 0, false, true⟩ : PartC) (stepL j)) => refSame_any (⟨2, 6, va, j, vc, t, 3, 0, 0, 0, false, true⟩ : PartC) (⟨2, 6, xa, j, xc, t, 3, 0, 0, 0, false, true⟩ : PartC) (stepL j) (stepL j) W (hE.below hB) h)
      simp only [show ∀ xa xc, sameB (⟨2, 6, va, j, vc, t, 3, 0, 0, 0, false, true⟩ : PartC) (⟨2, 6, xa, j, xc, t, 3, 0, 0, 0, false, true⟩ : PartC) (stepL j) (stepL j) = true from fun _ _ => sameB_iff.2 ⟨rfl, rfl, rfl, ⟨rfl, rfl, rfl⟩, rfl, rfl, rfl, rfl⟩] at GS
      dsimp only [PartC.val, ReadC.part] at GB GI GIb GS GR
      rw [stepL_len] at GR
      clear hI hBI hLn hRd hE hEb
      go_wp2_with (first
        | (go_at_call 17; ((with_reducible refine (GB.out _ (Below.refl _ _)).mono ?_); rintro e w4 ⟨rfl, hB4⟩; have hp4 := (hB4.block _ hXlt).trans hblk))
        | (go_at_call 25; ((with_reducible refine (GR.out _).mono ?_); rintro e w5 ⟨xa, xc, rfl, hEq, hB5⟩; have hp5 := (hB5.block _ (heap_ltP hp4)).trans hp4; have hA5 := bel_alloc (Below.refl w5.heap.size w5) (.cells #[.int .i64 2, .int .i64 6, .slice xa j xc, .int .i64 t, .int .i64 3, .int .i64 0, .int .i64 0, .int .i64 0, .bool false, .bool true] 26); have hp5a := (hA5.block _ (heap_ltP hp5)).trans hp5; have hA6 := bel_alloc (Below.refl (w5.alloc (.cells #[.int .i64 2, .int .i64 6, .slice xa j xc, .int .i64 t, .int .i64 3, .int .i64 0, .int .i64 0, .int .i64 0, .bool false, .bool true] 26)).heap.size (w5.alloc (.cells #[.int .i64 2, .int .i64 6, .slice xa j xc, .int .i64 t, .int .i64 3, .int .i64 0, .int .i64 0, .int .i64 0, .bool false, .bool true] 26))) (.cells #[.int .i64 2, .int .i64 6, .slice va j vc, .int .i64 t, .int .i64 3, .int .i64 0, .int .i64 0, .int .i64 0, .bool false, .bool false] 26); have hq5 := World.alloc_heap_new w5 (.cells #[.int .i64 2, .int .i64 6, .slice xa j xc, .int .i64 t, .int .i64 3, .int .i64 0, .int .i64 0, .int .i64 0, .bool false, .bool true] 26); have hq6 := (hA6.block _ (heap_ltP hq5)).trans hq5; have hb6 := World.alloc_heap_new (w5.alloc (.cells #[.int .i64 2, .int .i64 6, .slice xa j xc, .int .i64 t, .int .i64 3, .int .i64 0, .int .i64 0, .int .i64 0, .bool false, .bool true] 26)) (.cells #[.int .i64 2, .int .i64 6, .slice va j vc, .int .i64 t, .int .i64 3, .int .i64 0, .int .i64 0, .int .i64 0, .bool false, .bool false] 26); rw [World.size_alloc] at hb6; have hp6 := (hA6.block _ (heap_ltP hp5a)).trans hp5a; have hC6 := bel2 (bel2 (bel2 hB4 hB5) hA5) hA6; have hE6 := (hEq.below hA5).below hA6; obtain ⟨z0, z1, z2, z3, z4, z5, z6, z7, z8, z9⟩ := arr10 hp5a; obtain ⟨u0, u1, u2, u3, u4, u5, u6, u7, u8, u9⟩ := arr10 hp6))
        | (go_at_call 20; ((with_reducible refine (GI.out _ hC6).mono ?_); rintro e w7 ⟨rfl, hB7⟩; have hC7 := bel2 hC6 hB7; have hE7 := hE6.below hB7; have hp7 := (hB7.block _ (heap_ltP hp6)).trans hp6; have hq7 := (hB7.block _ (heap_ltP hq6)).trans hq6; have hb7 := (hB7.block _ (heap_ltP hb6)).trans hb6; obtain ⟨s0, s1, s2, s3, s4, s5, s6, s7, s8, s9⟩ := arr10 hp7; obtain ⟨r0, r1, r2, r3, r4, r5, r6, r7, r8, r9⟩ := arr10 hq7))
        | (go_at_call 24; ((with_reducible refine (GS.out _ _ _ hC7 hE7).mono ?_); rintro e w8 ⟨rfl, hB8⟩; have hC8 := bel2 hC7 hB8; have hb8 := (hB8.block _ (heap_ltP hb7)).trans hb7; obtain ⟨v0, v1, v2, v3, v4, v5, v6, v7, v8, v9⟩ := arr10 hb8))
        | (go_at_call 20; ((with_reducible refine (GIb.out _ hC8).mono ?_); rintro e w9 ⟨rfl, hB9⟩; have hC9 := bel2 hC8 hB9)))
      go_ret
      exact ⟨rfl, hB1.trans ((hB.trans (hC9.mono hB.size)).mono hB1.size)⟩

set_option maxRecDepth 100000 in
set_option maxHeartbeats 2000000 in
theorem flags00 (n t : Nat) (hn : n < 256) (ht : t < 65536) (w : World) :
    Calls Try.prog 9 #[.bool false, .bool false, .int .u8 n, .int .u16 t] w fun e w' => e = .returned (.bool true) ∧ Below w.heap.size w w' := by
  obtain ⟨i0, hi, hz0, hz1, hz2⟩ := info_parts infoEntry
  have GK := Lib.hid part_known
  go_enter Try.func9, Try.ntmps9
  go_wp2_with (go_at_call 15; ((with_reducible refine (GK.out _).mono ?_); rintro e w1 ⟨rfl, hB1⟩))
  go_loopw [10] (fun i wr => ∃ (j : Nat) (v : Value), j ≤ n % 4 ∧ i = .int .i64 j ∧ wr.heap[w1.heap.size]? = some (.cells #[.int .i64 2, .int .i64 6, v, .int .i64 0, .int .i64 0, .int .i64 0, .int .i64 0, .int .i64 0, .bool false, .bool false] 26 (0, 0)) ∧ wr.ownsRow (w1.heap.size + 1) 28 3 v j (entryCells (stepL j)) ∧ Below w1.heap.size w1 wr) (fun i _ => n % 4 - (intOf i).toNat)
  case atStart => exact ⟨0, .slice none 0 0, by omega, rfl, World.alloc_heap_new _ _, World.ownsRow_nil _ _ _ _, bel_alloc (Below.refl _ _) _⟩
  case round =>
    obtain ⟨j, v, hj, rfl, hblk, hown, hB⟩ := hrel
    have hXlt := heap_ltP hblk
    by_cases hlt : j < n % 4
    · have hlt' : (j : Int) < (n : Int) % 4 := by omega
      have c2 : wr.cell? ⟨w1.heap.size, 2, none⟩ = some v := cell_of_row _ _ 2 _ _ _ hblk
      have HS := Lib.hid (show entryCells (stepL (j + 1)) = entryCells (stepL j) ++ [.int .i64 (10 + 3 * (j : Int)), .int .i64 2, .string ⟨#[]⟩] by rw [stepL_snoc, entryCells_snoc]; rfl)
      have hj4 : j < 4 := by omega
      go_wp2_with (at_builtin; refine wpList_append_own _ rfl _ _ 22 rfl (w1.heap.size + 1) 28 i0 (.agg #[.int .i64 0, .int .i64 0, .string ⟨#[]⟩]) 3 32 Try.underlying22 hi hz0 hz1 hz2 rfl (by decide) _ _ _ rfl (hown.alloc _) ⟨wr.heap.size, 0, none⟩ 1 1 [.int .i64 (10 + 3 * (j : Int)), .int .i64 2, .string ⟨#[]⟩] rfl rfl (news_new _ _ _) (by simp [Value.oneCell']) (by unfold maxLen; omega) (by omega) (by simp; omega) ?_; intro v' w3 hown3 hgrow _; obtain ⟨g', cap', rfl⟩ := ownsRow_succ hown3; have hne : v.ownBlock ≠ some w1.heap.size := (fun e => by have := ownBlock_ge hown e; omega); have hb3 := (hgrow.block w1.heap.size (by simp; omega) (fun e => hne e.symm)).trans (((bel_alloc (Below.refl wr.heap.size wr) (.cells [.int .i64 (10 + 3 * (j : Int)), .int .i64 2, .string ⟨#[]⟩].toArray 28)).block _ hXlt).trans hblk); have f2 := frozen_of_row _ _ 2 _ _ hb3; have k2 : w3.cell? ⟨w1.heap.size, 2, none⟩ = some v := cell_of_row _ _ 2 _ _ _ hb3; have hb4 := Go.Joins.block_setCell hb3 (.slice (some ⟨g', 0, none⟩) (j + 1) cap') (i := 2); simp only [List.setIfInBounds_toArray, List.set_cons_succ, List.set_cons_zero] at hb4; have hown4 := Stab.ownsRow (B := 0) (T := fun k => k = w1.heap.size) (fun k hk => by have hk : k = w1.heap.size := hk; omega) _ _ hown3 (FrameT.setCell w3 w1.heap.size 2 (.slice (some ⟨g', 0, none⟩) (j + 1) cap')).moves; have hB3 := ((hB.trans ((bel_alloc (Below.refl wr.heap.size wr) (.cells [.int .i64 (10 + 3 * (j : Int)), .int .i64 2, .string ⟨#[]⟩].toArray 28)).mono hB.size)).grown hgrow (by simp; omega) (fun k hk => by have := ownBlock_ge hown hk; omega)).setCell (p := ⟨w1.heap.size, 2, none⟩) (Nat.le_refl _) (.slice (some ⟨g', 0, none⟩) (j + 1) cap'))
      go_roundw
      case rel => exact ⟨j + 1, _, by omega, by go_num, hb4, by rw [HS.out]; exact hown4, hB3⟩
      case measure => simp [intOf]; omega
    · obtain ⟨c, hc⟩ : ∃ c, c = n % 4 := ⟨_, rfl⟩
      obtain rfl : j = c := by omega
      have HC := Lib.hid hc
      have hj4 : j < 4 := by omega
      have hge : ¬ (j : Int) < (n : Int) % 4 := by omega
      obtain ⟨va, vc, rfl, hrow, hoff⟩ := own_ent hown
      have hE : HasE wr (⟨2, 6, va, j, vc, 0, 0, 0, 0, 0, false, false⟩ : PartC) (stepL j) := ⟨stepL_len _, by dsimp only; omega, hrow⟩
      have hEb : HasE wr (⟨2, 6, va, j, vc, 0, 0, 0, 0, 0, false, false⟩ : PartC) (stepL j) := ⟨stepL_len _, by dsimp only; omega, hrow⟩
      obtain ⟨y0, y1, y2, y3, y4, y5, y6, y7, y8, y9⟩ := arr10 hblk
      clear hown hrow hoff hlt hj hc
      by_cases hc0 : j ≠ 0
      · have hb0 : ((n : Int) % 4 == 0) = false := by rw [beq_eq_false_iff_ne]; have := HC.out; omega
        have hI : isB (⟨2, 6, va, j, vc, 0, 0, 0, 0, 0, false, false⟩ : PartC) (stepL j) = true := flags_is j hj4 va vc t ht false false (.inr (.inr hc0))
        have hBI : isB (⟨2, 6, va, j, vc, 0, 0, 0, 0, 0, false, false⟩ : PartC) (stepL j) = true := hI
        have hLn := bytesL_len (p := (⟨2, 6, va, j, vc, 0, 0, 0, 0, 0, false, false⟩ : PartC)) (l := stepL j) (stepL_len j) hI
        have hSz : (bytesS (⟨2, 6, va, j, vc, 0, 0, 0, 0, 0, false, false⟩ : PartC) (stepL j)).size ≤ 1000 := by unfold bytesS; rw [if_pos hI]; exact hLn
        have hRd := read6_back (⟨2, 6, va, j, vc, 0, 0, 0, 0, 0, false, false⟩ : PartC) (stepL j) (stepL_len j) rfl hI (bytesS (⟨2, 6, va, j, vc, 0, 0, 0, 0, 0, false, false⟩ : PartC) (stepL j)) ⟨#[]⟩ (by apply ByteArray.ext; simp)
        have GB := Lib.hid (fun W (hB : Below wr.heap.size wr W) => bytes_any (⟨2, 6, va, j, vc, 0, 0, 0, 0, 0, false, false⟩ : PartC) (stepL j) W (hE.below hB))
        simp only [bytesE, hI, if_true] at GB
        have GR := Lib.hid (fun W => partRead_at (bytesS (⟨2, 6, va, j, vc, 0, 0, 0, 0, 0, false, false⟩ : PartC) (stepL j)) _ _ 0 (by omega) hRd W)
        generalize bytesS (⟨2, 6, va, j, vc, 0, 0, 0, 0, 0, false, false⟩ : PartC) (stepL j) = S at *
        have GI := Lib.hid (fun W (hB : Below wr.heap.size wr W) => is_any (⟨2, 6, va, j, vc, 0, 0, 0, 0, 0, false, false⟩ : PartC) (stepL j) W (hE.below hB))
        have GIb := Lib.hid (fun W (hB : Below wr.heap.size wr W) => is_any (⟨2, 6, va, j, vc, 0, 0, 0, 0, 0, false, false⟩ : PartC) (stepL j) W (hEb.below hB))
        rw [hI] at GI
        rw [hBI] at GIb
        have GS := Lib.hid (fun xa xc W (hB : Below wr.heap.size wr W) (h : HasE W (⟨2, 6, xa, j, xc, 0, 0, 0, 0, 0, false, false⟩ : PartC) (stepL j)) => refSame_any (⟨2, 6, va, j, vc, 0, 0, 0, 0, 0, false, false⟩ : PartC) (⟨2, 6, xa, j, xc, 0, 0, 0, 0, 0, false, false⟩ : PartC) (stepL j) (stepL j) W (hE.below hB) h)
        simp only [show ∀ xa xc, sameB (⟨2, 6, va, j, vc, 0, 0, 0, 0, 0, false, false⟩ : PartC) (⟨2, 6, xa, j, xc, 0, 0, 0, 0, 0, false, false⟩ : PartC) (stepL j) (stepL j) = true from fun _ _ => sameB_iff.2 ⟨rfl, rfl, rfl, ⟨rfl, rfl, rfl⟩, rfl, rfl, rfl, rfl⟩] at GS
        dsimp only [PartC.val, ReadC.part] at GB GI GIb GS GR
        rw [stepL_len] at GR
        clear hI hBI hLn hRd hE hEb
        go_wp2_with (first
          | (go_at_call 17; ((with_reducible refine (GB.out _ (Below.refl _ _)).mono ?_); rintro e w4 ⟨rfl, hB4⟩; have hp4 := (hB4.block _ hXlt).trans hblk))
          | (go_at_call 25; ((with_reducible refine (GR.out _).mono ?_); rintro e w5 ⟨xa, xc, rfl, hEq, hB5⟩; have hp5 := (hB5.block _ (heap_ltP hp4)).trans hp4; have hA5 := bel_alloc (Below.refl w5.heap.size w5) (.cells #[.int .i64 2, .int .i64 6, .slice xa j xc, .int .i64 0, .int .i64 0, .int .i64 0, .int .i64 0, .int .i64 0, .bool false, .bool false] 26); have hp5a := (hA5.block _ (heap_ltP hp5)).trans hp5; have hA6 := bel_alloc (Below.refl (w5.alloc (.cells #[.int .i64 2, .int .i64 6, .slice xa j xc, .int .i64 0, .int .i64 0, .int .i64 0, .int .i64 0, .int .i64 0, .bool false, .bool false] 26)).heap.size (w5.alloc (.cells #[.int .i64 2, .int .i64 6, .slice xa j xc, .int .i64 0, .int .i64 0, .int .i64 0, .int .i64 0, .int .i64 0, .bool false, .bool false] 26))) (.cells #[.int .i64 2, .int .i64 6, .slice va j vc, .int .i64 0, .int .i64 0, .int .i64 0, .int .i64 0, .int .i64 0, .bool false, .bool false] 26); have hq5 := World.alloc_heap_new w5 (.cells #[.int .i64 2, .int .i64 6, .slice xa j xc, .int .i64 0, .int .i64 0, .int .i64 0, .int .i64 0, .int .i64 0, .bool false, .bool false] 26); have hq6 := (hA6.block _ (heap_ltP hq5)).trans hq5; have hb6 := World.alloc_heap_new (w5.alloc (.cells #[.int .i64 2, .int .i64 6, .slice xa j xc, .int .i64 0, .int .i64 0, .int .i64 0, .int .i64 0, .int .i64 0, .bool false, .bool false] 26)) (.cells #[.int .i64 2, .int .i64 6, .slice va j vc, .int .i64 0, .int .i64 0, .int .i64 0, .int .i64 0, .int .i64 0, .bool false, .bool false] 26); rw [World.size_alloc] at hb6; have hp6 := (hA6.block _ (heap_ltP hp5a)).trans hp5a; have hC6 := bel2 (bel2 (bel2 hB4 hB5) hA5) hA6; have hE6 := (hEq.below hA5).below hA6; obtain ⟨z0, z1, z2, z3, z4, z5, z6, z7, z8, z9⟩ := arr10 hp5a; obtain ⟨u0, u1, u2, u3, u4, u5, u6, u7, u8, u9⟩ := arr10 hp6))
          | (go_at_call 20; ((with_reducible refine (GI.out _ hC6).mono ?_); rintro e w7 ⟨rfl, hB7⟩; have hC7 := bel2 hC6 hB7; have hE7 := hE6.below hB7; have hp7 := (hB7.block _ (heap_ltP hp6)).trans hp6; have hq7 := (hB7.block _ (heap_ltP hq6)).trans hq6; have hb7 := (hB7.block _ (heap_ltP hb6)).trans hb6; obtain ⟨s0, s1, s2, s3, s4, s5, s6, s7, s8, s9⟩ := arr10 hp7; obtain ⟨r0, r1, r2, r3, r4, r5, r6, r7, r8, r9⟩ := arr10 hq7))
          | (go_at_call 24; ((with_reducible refine (GS.out _ _ _ hC7 hE7).mono ?_); rintro e w8 ⟨rfl, hB8⟩; have hC8 := bel2 hC7 hB8; have hb8 := (hB8.block _ (heap_ltP hb7)).trans hb7; obtain ⟨v0, v1, v2, v3, v4, v5, v6, v7, v8, v9⟩ := arr10 hb8))
          | (go_at_call 20; ((with_reducible refine (GIb.out _ hC8).mono ?_); rintro e w9 ⟨rfl, hB9⟩; have hC9 := bel2 hC8 hB9)))
        go_ret
        exact ⟨rfl, hB1.trans ((hB.trans (hC9.mono hB.size)).mono hB1.size)⟩
      · obtain rfl : j = 0 := by omega
        have hb0 : ((n : Int) % 4 == 0) = true := by rw [beq_iff_eq]; have := HC.out; omega
        have GI := Lib.hid (is_any (⟨2, 6, va, 0, vc, 0, 0, 0, 0, 0, false, false⟩ : PartC) (stepL 0) wr hE)
        rw [flags_none] at GI
        dsimp only [PartC.val] at GI
        clear hE hEb
        go_wp2_with (go_at_call 20; ((with_reducible refine (GI.out).mono ?_); rintro e w7 ⟨rfl, hB7⟩))
        go_ret
        exact ⟨rfl, hB1.trans ((hB.trans (hB7.mono hB.size)).mono hB1.size)⟩

end Go.Proofs.Ytpogklceaoiacaa
