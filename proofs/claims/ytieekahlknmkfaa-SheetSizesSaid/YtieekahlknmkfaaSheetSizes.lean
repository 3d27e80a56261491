/- Law SheetSizes: for every input the call answers true; its arguments read as they did. No condition. -/
import Derived.Test.YtieekahlknmkfaaLaw
import Derived.Test.YtieekahlknmkfaaKnown9
import Derived.Test.YtieekahlknmkfaaShtN
namespace Go.Proofs.Ytieekahlknmkfaa.sheetSizes
open Go.ChangeShapes Go.WideShapes Go.ChangeAt Go.RowKit Go.Shelf
open Go.ChangeMaps (open_string shut_string)
set_option linter.unusedVariables false
attribute [local go_sem] Oper.semAt_some wide_fn wide_round_fn

theorem own_split {w : World} {base : Nat} {e : TypeId} {n : Nat} {v : Value} {zs : List Int} (hn : 0 < n) (h : w.ownsRow base e 1 v n (intsV zs)) (hw : ∀ z ∈ zs, (Lit.int .i64 z).wf = true) : ∃ g cap, v = .slice (some ⟨g, 0, none⟩) n cap ∧ base ≤ g ∧ g < w.heap.size ∧ n ≤ cap ∧ (∀ j, w.frozen? ⟨g, j, none⟩ = false) ∧ RowI .i64 w (some ⟨g, 0, none⟩) n zs := by
  obtain ⟨a, cap, hv, hle, hr⟩ := rowI_own h hw
  rcases h.2 with ⟨-, h0⟩ | ⟨g, c, cur, hv2, hb, hg, -⟩
  · omega
  · rw [hv] at hv2
    cases hv2
    exact ⟨g, _, hv, hb, heap_lt8 hg, hle, fun j => frozen_of_row _ _ j _ _ hg, hr⟩
theorem rowI_put {w : World} {b len : Nat} {zs : List Int} (h : RowI .i64 w (some ⟨b, 0, none⟩) len zs) (hb : b < w.heap.size) (i : Nat) (hi : i < zs.length) (z : Int) (hz : (Lit.int .i64 z).wf = true) : RowI .i64 (w.setCell ⟨b, i, none⟩ (.int .i64 z)) (some ⟨b, 0, none⟩) len (zs.set i z) := by
  obtain ⟨hl, hm, hw, hc⟩ := h
  refine ⟨by simp [hl], hm, fun y hy => ?_, fun h0 => ⟨b, 0, rfl, by simp; exact hb, fun j hj => ?_⟩⟩
  · rcases List.mem_or_eq_of_mem_set hy with h | h
    · exact hw y h
    · rw [h]; exact hz
  · obtain ⟨b', off, e, -, hcell⟩ := hc h0
    cases e
    have hj' : j < zs.length := by simpa using hj
    have hx := hcell j hj'
    rw [Nat.zero_add] at hx ⊢
    by_cases e : i = j
    · subst e
      rw [World.cell?_setCell_same _ _ _ hx]; simp
    · rw [World.cell?_setCell_other _ _ _ _ (by intro c; cases c; exact e rfl), hx]; simp [List.getElem_set_ne e]
theorem rowI_drew {w : World} {a : Option Addr} {len : Nat} {zs : List Int} (h : RowI .i64 w a len zs) : RowI .i64 w.drew a len zs := h
set_option maxRecDepth 100000 in
set_option maxHeartbeats 4000000 in
theorem szs0 (n swap first : Nat) (hn : n < 256) (hs : swap < 256) (hf : first < 65536) (hq : (n : Int) % 3 = 0) (w : World) : Calls Try.prog 12 #[.int .u8 n, .int .u8 swap, .int .u16 first] w fun e w' => e = .returned (.bool true) ∧ Below w.heap.size w w' := by
  obtain ⟨i0, hi, hz0, hz1, hz2⟩ := info_parts infoInt
  have GK := Lib.hid sheet_known
  have hsb : shB (rng ((first : Int) + 1) 199) = true := rng_shB (by omega) (by decide) (by decide) (by omega)
  have hwf : ∀ z ∈ (rng ((first : Int) + 1) 199), (Lit.int .i64 z).wf = true := fun z hz => by
    have := rng_mem _ _ z hz
    simp [Lit.wf, IntKind.min, IntKind.max, IntKind.signed, IntKind.bits]; omega
  have GB := Lib.hid (fun a c W (h : RowI .i64 W a 199 (rng ((first : Int) + 1) 199)) => (show Gives Try.prog 36 #[.slice a 199 c] W (.tuple #[.string (shY (rng ((first : Int) + 1) 199)), .int .i64 0]) from by
    have := shBytes_any a 199 c (rng ((first : Int) + 1) 199) W h
    rwa [show shE (rng ((first : Int) + 1) 199) = 0 by unfold shE; rw [hsb]; rfl] at this))
  have GI := Lib.hid (fun a c W (h : RowI .i64 W a 199 (rng ((first : Int) + 1) 199)) => (show Gives Try.prog 37 #[.slice a 199 c] W (.bool true) from by have := shIs_any a 199 c (rng ((first : Int) + 1) 199) W h; rwa [hsb] at this))
  have hrb := rd_back hsb
  have hrz := shY_size (rng ((first : Int) + 1) 199)
  have GR := Lib.hid (fun W => (show Calls Try.prog 44 #[.string (shY (rng ((first : Int) + 1) 199))] W fun e w' => ∃ a c, e = .returned (.tuple #[.slice a 199 c, .int .i64 0]) ∧ Below W.heap.size W w' from by
    refine (shRead_any (shY (rng ((first : Int) + 1) 199)) (by omega) W).mono ?_
    rintro e w' ⟨v, he, hv, hB⟩
    rw [hrb.1, if_pos rfl, hrb.2] at hv
    rw [hrb.1, if_pos rfl] at he
    obtain ⟨a, c, hvv, -, hr⟩ := rowI_own hv hwf
    rw [rng_len] at hvv
    exact ⟨a, c, by rw [he, hvv], hB⟩))
  clear hrb hrz
  have GA := Lib.hid (fun (W : World) => (show Gives Try.prog 37 #[.slice (some ⟨W.heap.size, 0, none⟩) 1 1] (W.alloc (.cells #[.int .i64 0] 3)) (.bool false) from by have := shIs_any (some ⟨W.heap.size, 0, none⟩) 1 1 [0] _ (rowI_new W [0] 1 rfl (by unfold maxLen; omega) (by decide) 3 #[.int .i64 0] rfl); rwa [show shB [0] = false by decide] at this))
  have GC := Lib.hid (fun (W : World) => (show Gives Try.prog 37 #[.slice (some ⟨W.heap.size, 0, none⟩) 1 1] (W.alloc (.cells #[.int .i64 99999999] 3)) (.bool true) from by have := shIs_any (some ⟨W.heap.size, 0, none⟩) 1 1 [99999999] _ (rowI_new W [99999999] 1 rfl (by unfold maxLen; omega) (by decide) 3 #[.int .i64 99999999] rfl); rwa [show shB [99999999] = true by decide] at this))
  have GD := Lib.hid (fun (W : World) => (show Gives Try.prog 37 #[.slice (some ⟨W.heap.size, 0, none⟩) 1 1] (W.alloc (.cells #[.int .i64 100000000] 3)) (.bool false) from by have := shIs_any (some ⟨W.heap.size, 0, none⟩) 1 1 [100000000] _ (rowI_new W [100000000] 1 rfl (by unfold maxLen; omega) (by decide) 3 #[.int .i64 100000000] rfl); rwa [show shB [100000000] = false by decide] at this))
  have HW := Lib.hid hwf
  clear hsb hwf
  unfold Gives at *
  go_enter Try.func12, Try.ntmps12
  go_wp2_with (first
    | (go_at_call 35; ((with_reducible refine (GK.out _).mono ?_); rintro e w1 ⟨rfl, hB1⟩)))
  clear hq
  go_loopw [8, 9] (fun v i wr => ∃ j : Nat, j ≤ 199 ∧ i = .int .i64 j ∧ wr.ownsRow w1.heap.size 3 1 v j (intsV (rng ((first : Int) + 1) j)) ∧ Below w1.heap.size w1 wr) (fun _ i _ => 199 - (intOf i).toNat)
  case atStart => exact ⟨0, by omega, rfl, World.ownsRow_nil _ _ _ _, Below.refl _ _⟩
  case round =>
    obtain ⟨j, hj, rfl, hown, hB⟩ := hrel
    by_cases hlt : j < 199
    · have HS := Lib.hid (show intsV (rng ((first : Int) + 1) (j + 1)) = intsV (rng ((first : Int) + 1) j) ++ [.int .i64 ((first : Int) + 1 + 2 * j)] by show intsV ((rng ((first : Int) + 1) j) ++ [_]) = _; simp [intsV])
      go_wp2_with (at_builtin; refine wpList_append_own _ rfl _ _ 61 rfl w1.heap.size 3 i0 (.int .i64 0) 1 8 Try.underlying61 hi hz0 hz1 hz2 rfl (by decide) _ _ _ rfl (hown.alloc _) ⟨wr.heap.size, 0, none⟩ 1 1 [.int .i64 ((first : Int) + 1 + 2 * j)] rfl rfl (news_new _ _ _) (by simp [Value.oneCell']) (by unfold maxLen; omega) (by omega) (by have := hB.size; simp; omega) ?_; intro v' w3 hown3 hgrow _; have hB3 := (hB.trans ((bel_alloc (Below.refl wr.heap.size wr) (.cells #[.int .i64 ((first : Int) + 1 + 2 * j)] 3)).mono hB.size)).grown hgrow (by have := hB.size; simp; omega) (fun k hk => ownBlock_ge hown hk))
      go_roundw
      case rel => exact ⟨j + 1, by omega, by go_num, by rw [HS.out]; exact hown3, hB3⟩
      case measure => simp [intOf]; omega
    · obtain rfl : j = 199 := by omega
      obtain ⟨b, vc, rfl, hbb, hlt0, hle, hfz, hrow⟩ := own_split (by decide) hown HW.out
      have hb1 := bel2 hB1 hB
      clear hown hlt hj
      obtain ⟨b', off, hbe, hlt, hcell⟩ := hrow.2.2.2 (by decide)
      cases hbe
      obtain ⟨I, hI⟩ : ∃ I : Nat, (swap : Int) % 198 = (I : Int) := ⟨((swap : Int) % 198).toNat, by omega⟩
      have hIlt : I + 1 < 199 := by omega
      have q0 := hcell I (by rw [rng_len]; omega)
      have q1 := hcell (I + 1) (by rw [rng_len]; omega)
      rw [rng_get] at q0 q1
      have HC := Lib.hid hcell
      have HI := Lib.hid hI
      clear hcell
      go_wp2_with (first
        | (go_at_call 36; ((with_reducible refine (GB.out _ _ _ hrow).mono ?_); rintro e w4 ⟨rfl, hB4⟩; have hb4 := bel2 hb1 hB4; have hrow4 := rowI_below hrow hB4; have q04 := (hB4.cell (p := ⟨b, 0 + I, none⟩) hlt).trans q0; have q14 := (hB4.cell (p := ⟨b, 0 + (I + 1), none⟩) hlt).trans q1))
        | (go_at_call 44; ((with_reducible refine (GR.out _).mono ?_); rintro e w5 ⟨ma, mc, rfl, hB5⟩; have hb5 := bel2 hb4 hB5; have hrow5 := rowI_below hrow4 hB5; have hlt5 : b < w5.heap.size := Nat.lt_of_lt_of_le hlt (bel2 hB4 hB5).size; have q05 := (hB5.cell (p := ⟨b, 0 + I, none⟩) (Nat.lt_of_lt_of_le hlt hB4.size)).trans q04; have q15 := (hB5.cell (p := ⟨b, 0 + (I + 1), none⟩) (Nat.lt_of_lt_of_le hlt hB4.size)).trans q14; have f05 : w5.frozen? ⟨b, 0 + I, none⟩ = false := (World.frozen?_of_block ((bel2 hB4 hB5).block b hlt)).trans (hfz _); have f15 : w5.frozen? ⟨b, 0 + (I + 1), none⟩ = false := (World.frozen?_of_block ((bel2 hB4 hB5).block b hlt)).trans (hfz _); rw [Nat.zero_add] at q05 q15 f05 f15; clear q0 q1 q04 q14)))
      go_region
      have hlen := rng_len ((first : Int) + 1) 199
      have hg0 := rng_get ((first : Int) + 1) 199 I (by omega)
      have hg1 := rng_get ((first : Int) + 1) 199 (I + 1) (by omega)
      have w0 := hrow.2.2.1 _ (List.getElem_mem (show I < (rng ((first : Int) + 1) 199).length by omega))
      have w1' := hrow.2.2.1 _ (List.getElem_mem (show I + 1 < (rng ((first : Int) + 1) 199).length by omega))
      have hsw := swap_shB (rng ((first : Int) + 1) 199) I (by omega) (by rw [hg0, hg1]; omega)
      rw [hg0] at w0 hsw
      rw [hg1] at w1' hsw
      have hlt5 : b < w5.heap.size := Nat.lt_of_lt_of_le hlt (bel2 hB4 hB5).size
      have hr6 := rowI_drew (rowI_put (rowI_put hrow5 hlt5 I (by omega) _ w1') (by simp; exact hlt5) (I + 1) (by simp; omega) _ w0)
      have hb6 := ((hb5.setCell (p := ⟨b, I, none⟩) (Nat.le_trans hB1.size hbb) (.int .i64 ((first : Int) + 1 + 2 * ((I : Int) + 1)))).setCell (p := ⟨b, I + 1, none⟩) (Nat.le_trans hB1.size hbb) (.int .i64 ((first : Int) + 1 + 2 * (I : Int)))).drew
      obtain ⟨SW, hSW⟩ : ∃ l, l = ((rng ((first : Int) + 1) 199).set I ((first : Int) + 1 + 2 * ((I + 1 : Nat) : Int))).set (I + 1) ((first : Int) + 1 + 2 * (I : Int)) := ⟨_, rfl⟩
      rw [← hSW] at hr6 hsw
      rw [show (((I + 1 : Nat)) : Int) = (I : Int) + 1 from rfl] at hr6
      have GS := Lib.hid (fun W a c (h : RowI .i64 W a 199 SW) => (show Gives Try.prog 36 #[.slice a 199 c] W (.tuple #[.string ⟨#[]⟩, .int .i64 11]) from by
        have := shBytes_any a 199 c SW W h
        rwa [show shE SW = 11 by unfold shE; rw [hsw]; rfl, show shY SW = ⟨#[]⟩ by unfold shY; rw [hsw]; rfl] at this))
      unfold Gives at GS
      clear hsw hSW w0 w1' hg0 hg1 hlen q05 q15 f05 f15 hrow5
      generalize (((w5.setCell ⟨b, I, none⟩ (.int .i64 ((first : Int) + 1 + 2 * ((I : Int) + 1)))).setCell ⟨b, I + 1, none⟩ (.int .i64 ((first : Int) + 1 + 2 * (I : Int)))).drew) = w6 at *
      go_wp2_with (first
        | (go_at_call 36; ((with_reducible refine (GS.out _ _ _ hr6).mono ?_); rintro e w7 ⟨rfl, hB7⟩; have hb7 := bel2 hb6 hB7))
        | (go_at_call 37; ((with_reducible refine (GA.out _).mono ?_); rintro e w8 ⟨rfl, hB8⟩; have hb8 := bel2 hb7 (bel2 (bel_alloc (Below.refl _ _) _) hB8)))
        | (go_at_call 37; ((with_reducible refine (GC.out _).mono ?_); rintro e w9 ⟨rfl, hB9⟩; have hb9 := bel2 hb8 (bel2 (bel_alloc (Below.refl _ _) _) hB9)))
        | (go_at_call 37; ((with_reducible refine (GD.out _).mono ?_); rintro e w10 ⟨rfl, hB10⟩; have hb10 := bel2 hb9 (bel2 (bel_alloc (Below.refl _ _) _) hB10))))
      go_ret
      exact ⟨by simp, hb10⟩


set_option maxRecDepth 100000 in
set_option maxHeartbeats 4000000 in
theorem szs1 (n swap first : Nat) (hn : n < 256) (hs : swap < 256) (hf : first < 65536) (hq : (n : Int) % 3 = 1) (w : World) : Calls Try.prog 12 #[.int .u8 n, .int .u8 swap, .int .u16 first] w fun e w' => e = .returned (.bool true) ∧ Below w.heap.size w w' := by
  obtain ⟨i0, hi, hz0, hz1, hz2⟩ := info_parts infoInt
  have GK := Lib.hid sheet_known
  have hsb : shB (rng ((first : Int) + 1) 200) = true := rng_shB (by omega) (by decide) (by decide) (by omega)
  have hwf : ∀ z ∈ (rng ((first : Int) + 1) 200), (Lit.int .i64 z).wf = true := fun z hz => by
    have := rng_mem _ _ z hz
    simp [Lit.wf, IntKind.min, IntKind.max, IntKind.signed, IntKind.bits]; omega
  have GB := Lib.hid (fun a c W (h : RowI .i64 W a 200 (rng ((first : Int) + 1) 200)) => (show Gives Try.prog 36 #[.slice a 200 c] W (.tuple #[.string (shY (rng ((first : Int) + 1) 200)), .int .i64 0]) from by
    have := shBytes_any a 200 c (rng ((first : Int) + 1) 200) W h
    rwa [show shE (rng ((first : Int) + 1) 200) = 0 by unfold shE; rw [hsb]; rfl] at this))
  have GI := Lib.hid (fun a c W (h : RowI .i64 W a 200 (rng ((first : Int) + 1) 200)) => (show Gives Try.prog 37 #[.slice a 200 c] W (.bool true) from by have := shIs_any a 200 c (rng ((first : Int) + 1) 200) W h; rwa [hsb] at this))
  have hrb := rd_back hsb
  have hrz := shY_size (rng ((first : Int) + 1) 200)
  have GR := Lib.hid (fun W => (show Calls Try.prog 44 #[.string (shY (rng ((first : Int) + 1) 200))] W fun e w' => ∃ a c, e = .returned (.tuple #[.slice a 200 c, .int .i64 0]) ∧ Below W.heap.size W w' from by
    refine (shRead_any (shY (rng ((first : Int) + 1) 200)) (by omega) W).mono ?_
    rintro e w' ⟨v, he, hv, hB⟩
    rw [hrb.1, if_pos rfl, hrb.2] at hv
    rw [hrb.1, if_pos rfl] at he
    obtain ⟨a, c, hvv, -, hr⟩ := rowI_own hv hwf
    rw [rng_len] at hvv
    exact ⟨a, c, by rw [he, hvv], hB⟩))
  clear hrb hrz
  have GA := Lib.hid (fun (W : World) => (show Gives Try.prog 37 #[.slice (some ⟨W.heap.size, 0, none⟩) 1 1] (W.alloc (.cells #[.int .i64 0] 3)) (.bool false) from by have := shIs_any (some ⟨W.heap.size, 0, none⟩) 1 1 [0] _ (rowI_new W [0] 1 rfl (by unfold maxLen; omega) (by decide) 3 #[.int .i64 0] rfl); rwa [show shB [0] = false by decide] at this))
  have GC := Lib.hid (fun (W : World) => (show Gives Try.prog 37 #[.slice (some ⟨W.heap.size, 0, none⟩) 1 1] (W.alloc (.cells #[.int .i64 99999999] 3)) (.bool true) from by have := shIs_any (some ⟨W.heap.size, 0, none⟩) 1 1 [99999999] _ (rowI_new W [99999999] 1 rfl (by unfold maxLen; omega) (by decide) 3 #[.int .i64 99999999] rfl); rwa [show shB [99999999] = true by decide] at this))
  have GD := Lib.hid (fun (W : World) => (show Gives Try.prog 37 #[.slice (some ⟨W.heap.size, 0, none⟩) 1 1] (W.alloc (.cells #[.int .i64 100000000] 3)) (.bool false) from by have := shIs_any (some ⟨W.heap.size, 0, none⟩) 1 1 [100000000] _ (rowI_new W [100000000] 1 rfl (by unfold maxLen; omega) (by decide) 3 #[.int .i64 100000000] rfl); rwa [show shB [100000000] = false by decide] at this))
  have HW := Lib.hid hwf
  clear hsb hwf
  unfold Gives at *
  go_enter Try.func12, Try.ntmps12
  go_wp2_with (first
    | (go_at_call 35; ((with_reducible refine (GK.out _).mono ?_); rintro e w1 ⟨rfl, hB1⟩)))
  clear hq
  go_loopw [8, 9] (fun v i wr => ∃ j : Nat, j ≤ 200 ∧ i = .int .i64 j ∧ wr.ownsRow w1.heap.size 3 1 v j (intsV (rng ((first : Int) + 1) j)) ∧ Below w1.heap.size w1 wr) (fun _ i _ => 200 - (intOf i).toNat)
  case atStart => exact ⟨0, by omega, rfl, World.ownsRow_nil _ _ _ _, Below.refl _ _⟩
  case round =>
    obtain ⟨j, hj, rfl, hown, hB⟩ := hrel
    by_cases hlt : j < 200
    · have HS := Lib.hid (show intsV (rng ((first : Int) + 1) (j + 1)) = intsV (rng ((first : Int) + 1) j) ++ [.int .i64 ((first : Int) + 1 + 2 * j)] by show intsV ((rng ((first : Int) + 1) j) ++ [_]) = _; simp [intsV])
      go_wp2_with (at_builtin; refine wpList_append_own _ rfl _ _ 61 rfl w1.heap.size 3 i0 (.int .i64 0) 1 8 Try.underlying61 hi hz0 hz1 hz2 rfl (by decide) _ _ _ rfl (hown.alloc _) ⟨wr.heap.size, 0, none⟩ 1 1 [.int .i64 ((first : Int) + 1 + 2 * j)] rfl rfl (news_new _ _ _) (by simp [Value.oneCell']) (by unfold maxLen; omega) (by omega) (by have := hB.size; simp; omega) ?_; intro v' w3 hown3 hgrow _; have hB3 := (hB.trans ((bel_alloc (Below.refl wr.heap.size wr) (.cells #[.int .i64 ((first : Int) + 1 + 2 * j)] 3)).mono hB.size)).grown hgrow (by have := hB.size; simp; omega) (fun k hk => ownBlock_ge hown hk))
      go_roundw
      case rel => exact ⟨j + 1, by omega, by go_num, by rw [HS.out]; exact hown3, hB3⟩
      case measure => simp [intOf]; omega
    · obtain rfl : j = 200 := by omega
      obtain ⟨b, vc, rfl, hbb, hlt0, hle, hfz, hrow⟩ := own_split (by decide) hown HW.out
      have hb1 := bel2 hB1 hB
      clear hown hlt hj
      obtain ⟨b', off, hbe, hlt, hcell⟩ := hrow.2.2.2 (by decide)
      cases hbe
      obtain ⟨I, hI⟩ : ∃ I : Nat, (swap : Int) % 199 = (I : Int) := ⟨((swap : Int) % 199).toNat, by omega⟩
      have hIlt : I + 1 < 200 := by omega
      have q0 := hcell I (by rw [rng_len]; omega)
      have q1 := hcell (I + 1) (by rw [rng_len]; omega)
      rw [rng_get] at q0 q1
      have HC := Lib.hid hcell
      have HI := Lib.hid hI
      clear hcell
      go_wp2_with (first
        | (go_at_call 36; ((with_reducible refine (GB.out _ _ _ hrow).mono ?_); rintro e w4 ⟨rfl, hB4⟩; have hb4 := bel2 hb1 hB4; have hrow4 := rowI_below hrow hB4; have q04 := (hB4.cell (p := ⟨b, 0 + I, none⟩) hlt).trans q0; have q14 := (hB4.cell (p := ⟨b, 0 + (I + 1), none⟩) hlt).trans q1))
        | (go_at_call 44; ((with_reducible refine (GR.out _).mono ?_); rintro e w5 ⟨ma, mc, rfl, hB5⟩; have hb5 := bel2 hb4 hB5; have hrow5 := rowI_below hrow4 hB5; have hlt5 : b < w5.heap.size := Nat.lt_of_lt_of_le hlt (bel2 hB4 hB5).size; have q05 := (hB5.cell (p := ⟨b, 0 + I, none⟩) (Nat.lt_of_lt_of_le hlt hB4.size)).trans q04; have q15 := (hB5.cell (p := ⟨b, 0 + (I + 1), none⟩) (Nat.lt_of_lt_of_le hlt hB4.size)).trans q14; have f05 : w5.frozen? ⟨b, 0 + I, none⟩ = false := (World.frozen?_of_block ((bel2 hB4 hB5).block b hlt)).trans (hfz _); have f15 : w5.frozen? ⟨b, 0 + (I + 1), none⟩ = false := (World.frozen?_of_block ((bel2 hB4 hB5).block b hlt)).trans (hfz _); rw [Nat.zero_add] at q05 q15 f05 f15; clear q0 q1 q04 q14)))
      go_region
      have hlen := rng_len ((first : Int) + 1) 200
      have hg0 := rng_get ((first : Int) + 1) 200 I (by omega)
      have hg1 := rng_get ((first : Int) + 1) 200 (I + 1) (by omega)
      have w0 := hrow.2.2.1 _ (List.getElem_mem (show I < (rng ((first : Int) + 1) 200).length by omega))
      have w1' := hrow.2.2.1 _ (List.getElem_mem (show I + 1 < (rng ((first : Int) + 1) 200).length by omega))
      have hsw := swap_shB (rng ((first : Int) + 1) 200) I (by omega) (by rw [hg0, hg1]; omega)
      rw [hg0] at w0 hsw
      rw [hg1] at w1' hsw
      have hlt5 : b < w5.heap.size := Nat.lt_of_lt_of_le hlt (bel2 hB4 hB5).size
      have hr6 := rowI_drew (rowI_put (rowI_put hrow5 hlt5 I (by omega) _ w1') (by simp; exact hlt5) (I + 1) (by simp; omega) _ w0)
      have hb6 := ((hb5.setCell (p := ⟨b, I, none⟩) (Nat.le_trans hB1.size hbb) (.int .i64 ((first : Int) + 1 + 2 * ((I : Int) + 1)))).setCell (p := ⟨b, I + 1, none⟩) (Nat.le_trans hB1.size hbb) (.int .i64 ((first : Int) + 1 + 2 * (I : Int)))).drew
      obtain ⟨SW, hSW⟩ : ∃ l, l = ((rng ((first : Int) + 1) 200).set I ((first : Int) + 1 + 2 * ((I + 1 : Nat) : Int))).set (I + 1) ((first : Int) + 1 + 2 * (I : Int)) := ⟨_, rfl⟩
      rw [← hSW] at hr6 hsw
      rw [show (((I + 1 : Nat)) : Int) = (I : Int) + 1 from rfl] at hr6
      have GS := Lib.hid (fun W a c (h : RowI .i64 W a 200 SW) => (show Gives Try.prog 36 #[.slice a 200 c] W (.tuple #[.string ⟨#[]⟩, .int .i64 11]) from by
        have := shBytes_any a 200 c SW W h
        rwa [show shE SW = 11 by unfold shE; rw [hsw]; rfl, show shY SW = ⟨#[]⟩ by unfold shY; rw [hsw]; rfl] at this))
      unfold Gives at GS
      clear hsw hSW w0 w1' hg0 hg1 hlen q05 q15 f05 f15 hrow5
      generalize (((w5.setCell ⟨b, I, none⟩ (.int .i64 ((first : Int) + 1 + 2 * ((I : Int) + 1)))).setCell ⟨b, I + 1, none⟩ (.int .i64 ((first : Int) + 1 + 2 * (I : Int)))).drew) = w6 at *
      go_wp2_with (first
        | (go_at_call 36; ((with_reducible refine (GS.out _ _ _ hr6).mono ?_); rintro e w7 ⟨rfl, hB7⟩; have hb7 := bel2 hb6 hB7))
        | (go_at_call 37; ((with_reducible refine (GA.out _).mono ?_); rintro e w8 ⟨rfl, hB8⟩; have hb8 := bel2 hb7 (bel2 (bel_alloc (Below.refl _ _) _) hB8)))
        | (go_at_call 37; ((with_reducible refine (GC.out _).mono ?_); rintro e w9 ⟨rfl, hB9⟩; have hb9 := bel2 hb8 (bel2 (bel_alloc (Below.refl _ _) _) hB9)))
        | (go_at_call 37; ((with_reducible refine (GD.out _).mono ?_); rintro e w10 ⟨rfl, hB10⟩; have hb10 := bel2 hb9 (bel2 (bel_alloc (Below.refl _ _) _) hB10))))
      go_ret
      exact ⟨by simp, hb10⟩


set_option maxRecDepth 100000 in
set_option maxHeartbeats 4000000 in
theorem szs2 (n swap first : Nat) (hn : n < 256) (hs : swap < 256) (hf : first < 65536) (hq : (n : Int) % 3 = 2) (w : World) : Calls Try.prog 12 #[.int .u8 n, .int .u8 swap, .int .u16 first] w fun e w' => e = .returned (.bool true) ∧ Below w.heap.size w w' := by
  obtain ⟨i0, hi, hz0, hz1, hz2⟩ := info_parts infoInt
  have GK := Lib.hid sheet_known
  have hsb : shB (rng ((first : Int) + 1) 201) = false := rng_big _ (by decide)
  have hwf : ∀ z ∈ (rng ((first : Int) + 1) 201), (Lit.int .i64 z).wf = true := fun z hz => by
    have := rng_mem _ _ z hz
    simp [Lit.wf, IntKind.min, IntKind.max, IntKind.signed, IntKind.bits]; omega
  have GB := Lib.hid (fun a c W (h : RowI .i64 W a 201 (rng ((first : Int) + 1) 201)) => (show Gives Try.prog 36 #[.slice a 201 c] W (.tuple #[.string ⟨#[]⟩, .int .i64 11]) from by
    have := shBytes_any a 201 c (rng ((first : Int) + 1) 201) W h
    rwa [show shE (rng ((first : Int) + 1) 201) = 11 by unfold shE; rw [hsb]; rfl, show shY (rng ((first : Int) + 1) 201) = ⟨#[]⟩ by unfold shY; rw [hsb]; rfl] at this))
  have GI := Lib.hid (fun a c W (h : RowI .i64 W a 201 (rng ((first : Int) + 1) 201)) => (show Gives Try.prog 37 #[.slice a 201 c] W (.bool false) from by have := shIs_any a 201 c (rng ((first : Int) + 1) 201) W h; rwa [hsb] at this))
  have HW := Lib.hid hwf
  clear hsb hwf
  unfold Gives at *
  go_enter Try.func12, Try.ntmps12
  go_wp2_with (first
    | (go_at_call 35; ((with_reducible refine (GK.out _).mono ?_); rintro e w1 ⟨rfl, hB1⟩)))
  clear hq
  go_loopw [8, 9] (fun v i wr => ∃ j : Nat, j ≤ 201 ∧ i = .int .i64 j ∧ wr.ownsRow w1.heap.size 3 1 v j (intsV (rng ((first : Int) + 1) j)) ∧ Below w1.heap.size w1 wr) (fun _ i _ => 201 - (intOf i).toNat)
  case atStart => exact ⟨0, by omega, rfl, World.ownsRow_nil _ _ _ _, Below.refl _ _⟩
  case round =>
    obtain ⟨j, hj, rfl, hown, hB⟩ := hrel
    by_cases hlt : j < 201
    · have HS := Lib.hid (show intsV (rng ((first : Int) + 1) (j + 1)) = intsV (rng ((first : Int) + 1) j) ++ [.int .i64 ((first : Int) + 1 + 2 * j)] by show intsV ((rng ((first : Int) + 1) j) ++ [_]) = _; simp [intsV])
      go_wp2_with (at_builtin; refine wpList_append_own _ rfl _ _ 61 rfl w1.heap.size 3 i0 (.int .i64 0) 1 8 Try.underlying61 hi hz0 hz1 hz2 rfl (by decide) _ _ _ rfl (hown.alloc _) ⟨wr.heap.size, 0, none⟩ 1 1 [.int .i64 ((first : Int) + 1 + 2 * j)] rfl rfl (news_new _ _ _) (by simp [Value.oneCell']) (by unfold maxLen; omega) (by omega) (by have := hB.size; simp; omega) ?_; intro v' w3 hown3 hgrow _; have hB3 := (hB.trans ((bel_alloc (Below.refl wr.heap.size wr) (.cells #[.int .i64 ((first : Int) + 1 + 2 * j)] 3)).mono hB.size)).grown hgrow (by have := hB.size; simp; omega) (fun k hk => ownBlock_ge hown hk))
      go_roundw
      case rel => exact ⟨j + 1, by omega, by go_num, by rw [HS.out]; exact hown3, hB3⟩
      case measure => simp [intOf]; omega
    · obtain rfl : j = 201 := by omega
      obtain ⟨b, vc, rfl, hbb, hlt0, hle, hfz, hrow⟩ := own_split (by decide) hown HW.out
      have hb1 := bel2 hB1 hB
      clear hown hlt hj
      go_wp2_with (first
        | (go_at_call 36; ((with_reducible refine (GB.out _ _ _ hrow).mono ?_); rintro e w4 ⟨rfl, hB4⟩; have hb4 := bel2 hb1 hB4; have hrow4 := rowI_below hrow hB4))
        | (go_at_call 37; ((with_reducible refine (GI.out _ _ _ hrow4).mono ?_); rintro e w5 ⟨rfl, hB5⟩; have hb5 := bel2 hb4 hB5)))
      go_ret
      exact ⟨by simp, hb5⟩

theorem walk (n : Nat) (hn : n < 256) (swap : Nat) (hs : swap < 256) (first : Nat) (hf : first < 65536) (w : World) : Calls Try.prog 12 #[.int .u8 n, .int .u8 swap, .int .u16 first] w fun e w' => e = .returned (.bool true) ∧ Below w.heap.size w w' := by
  rcases (show (n : Int) % 3 = 0 ∨ (n : Int) % 3 = 1 ∨ (n : Int) % 3 = 2 by omega) with h | h | h
  · exact szs0 n swap first hn hs hf h w
  · exact szs1 n swap first hn hs hf h w
  · exact szs2 n swap first hn hs hf h w

set_option maxRecDepth 100000 in
theorem lifted (os : Os) (started : os.Started) (H : Type) (enc : TypeId × Value → H) :
    ReturnsInHanded {} Try.checked os 12 .any (Rows.sheetSizesSpec.pre6 enc Try.prog Try.f12 Rows.sheetSizesRow.domain false) (Rows.sheetSizesSpec.post enc Try.prog Try.f12 false true false false) := by
  refine returnsInHanded_of_change (C := Try.checked) Try.own started (by kernel_rfl) Try.func12
    (ChangeSpec.witness6 (enc := enc) (C := Try.checked) false ⟨#[], #[.int .u8 0, .int .u8 0, .int .u16 0], []⟩ 8 (by kernel_rfl) (by kernel_rfl) (by kernel_rfl) (by kernel_rfl)) ?_
  intro W base args ds gs before hval hW _ _
  refine law_contract (T := 4) (n := 3) Try.laid Try.underlying4 rfl rfl ⟨rfl, fun H ds h => by match ds, h with | [_, _, _], _ => rfl⟩ (of_all (by kernel_rfl)) hW ?_
  intro ps hA
  rw [Try.params12] at hA hval
  obtain ⟨v0, vs0, d0, ds0, p0, q0, hargs, rfl, rfl, h0, r0⟩ := trodAll_cons hA
  obtain ⟨v1, vs1, d1, ds1, p1, q1, rfl, rfl, rfl, h1, r1⟩ := trodAll_cons r0
  obtain ⟨v2, vs2, d2, ds2, p2, q2, rfl, rfl, rfl, h2, r2⟩ := trodAll_cons r1
  obtain ⟨rfl, rfl, rfl⟩ := trodAll_nil r2
  obtain rfl : args = #[v0, v1, v2] := by cases args; simp_all
  obtain ⟨a0, rfl, rfl, rfl, w0⟩ := open_int Try.underlying5 (hval 0 5 v0 rfl rfl) h0
  obtain ⟨a1, rfl, rfl, rfl, w1⟩ := open_int Try.underlying5 (hval 1 5 v1 rfl rfl) h1
  obtain ⟨a2, rfl, rfl, rfl, w2⟩ := open_int Try.underlying50 (hval 2 50 v2 rfl rfl) h2
  obtain ⟨n0, rfl, b0⟩ := nat_of_u8 w0
  obtain ⟨n1, rfl, b1⟩ := nat_of_u8 w1
  obtain ⟨n2, rfl, b2⟩ := nat_of_u16 w2
  exact walk n0 b0 n1 b1 n2 b2 W

theorem holds : Rows.SheetSizesSaid :=
  OpenClaim.holds_of_wide 12 Try.f12 rfl rfl rfl rfl rfl rfl rfl ⟨rfl, rfl, rfl, rfl, rfl⟩ rfl rfl rfl rfl rfl (by kernel_rfl) Try.func12 (by kernel_rfl)
    (of_decide_eq_true (by kernel_rfl)) (by unfold Func.isWrapper; first | (rw [if_pos (by decide +kernel)]; kernel_rfl) | (rw [if_neg (by decide +kernel)]; exact ⟨rfl, rfl⟩))
    (fun os started H enc _ => lifted os started H enc)

end Go.Proofs.Ytieekahlknmkfaa.sheetSizes
