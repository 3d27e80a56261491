/- What the ninth layer's laws hold by themselves: the examples. -/
import Derived.Test.YtieekahlknmkfaaShtK
import Derived.Test.YtieekahlknmkfaaKnown16
namespace Go.Proofs.Ytieekahlknmkfaa
open Go.RowKit Go.Shelf
set_option linter.unusedVariables false
attribute [local go_sem] Oper.semAt_some wide_fn wide_round_fn

def e9a : PD := ⟨[], 1000, 0, false, 0⟩
def e9b (b : ByteArray) : PD := ⟨[⟨⟨#[115, 104, 101, 101, 116]⟩, b.data.toList, b.data.toList.length⟩], 1000, 4, false, 0⟩
theorem fit9a : Fit e9a 0 := fits (by decide) (by decide) (by decide) (by decide) (by decide)
theorem used9 (n : ByteArray) (b : List UInt8) (k : Nat) : usedL [⟨n, b, k⟩] = b.length := by simp [usedL]
theorem len9 (a : ByteArray) : a.data.toList.length = a.size := by rw [Array.length_toList]; rfl
theorem ba9 (a : ByteArray) : (⟨a.data.toList.toArray⟩ : ByteArray) = a := by simp
theorem fit9b (b : ByteArray) (h : b.size ≤ 2000) : Fit (e9b b) 5 := fits (by show (1000 : Nat) ≤ _; decide) (by show usedL [_] ≤ _; rw [used9, len9]; omega) (by show 1 ≤ 1000; decide) (by show 4 ≤ 5; decide) (by show (0 : Nat) < _; decide)
/-- Saved on a new disk. -/
theorem save9 (b : ByteArray) (h : b.size ≤ 1000) : saB e9a b = (e9b b, 0) := by
  have h3 : appendE (sa2 e9a) ⟨#[115, 104, 101, 101, 116, 46, 110, 101, 119]⟩ b = 0 := by
    unfold appendE
    rw [show sa2 e9a = (⟨[⟨⟨#[115, 104, 101, 101, 116, 46, 110, 101, 119]⟩, [], 0⟩], 1000, 1, false, 0⟩ : PD) by kernel_rfl]
    rw [if_neg (by rw [show askE (⟨[⟨⟨#[115, 104, 101, 101, 116, 46, 110, 101, 119]⟩, [], 0⟩], 1000, 1, false, 0⟩ : PD) ⟨#[115, 104, 101, 101, 116, 46, 110, 101, 119]⟩ = 0 by kernel_rfl]; simp), if_neg (by show ¬ 1000 < usedL [_] + b.size; rw [used9]; simp; omega)]
  have h3d : sa3 e9a b = (⟨[⟨⟨#[115, 104, 101, 101, 116, 46, 110, 101, 119]⟩, b.data.toList, 0⟩], 1000, 2, false, 0⟩ : PD) := by
    unfold sa3 appendD
    rw [if_pos h3]; kernel_rfl
  have h4d : sa4 e9a b = (⟨[⟨⟨#[115, 104, 101, 101, 116, 46, 110, 101, 119]⟩, b.data.toList, b.data.toList.length⟩], 1000, 3, false, 0⟩ : PD) := by unfold sa4; rw [h3d]; kernel_rfl
  unfold saB
  rw [if_neg (by rw [show askE e9a ⟨#[115, 104, 101, 101, 116, 46, 110, 101, 119]⟩ = 19 by kernel_rfl]; decide), if_neg (by rw [show createE (sa1 e9a) ⟨#[115, 104, 101, 101, 116, 46, 110, 101, 119]⟩ = 0 by kernel_rfl]; simp), if_neg (by rw [h3]; simp), h3d, if_neg (by rw [show askE (⟨[⟨⟨#[115, 104, 101, 101, 116, 46, 110, 101, 119]⟩, b.data.toList, 0⟩], 1000, 2, false, 0⟩ : PD) ⟨#[115, 104, 101, 101, 116, 46, 110, 101, 119]⟩ = 0 by kernel_rfl]; simp)]
  unfold sa5
  rw [h4d]
  rw [show askE (⟨[⟨⟨#[115, 104, 101, 101, 116, 46, 110, 101, 119]⟩, b.data.toList, b.data.toList.length⟩], 1000, 3, false, 0⟩ : PD) ⟨#[115, 104, 101, 101, 116, 46, 110, 101, 119]⟩ = 0 by kernel_rfl]
  rw [show renameD (⟨[⟨⟨#[115, 104, 101, 101, 116, 46, 110, 101, 119]⟩, b.data.toList, b.data.toList.length⟩], 1000, 3, false, 0⟩ : PD) ⟨#[115, 104, 101, 101, 116, 46, 110, 101, 119]⟩ ⟨#[115, 104, 101, 101, 116]⟩ = e9b b by kernel_rfl]
theorem load9 (b : ByteArray) : loE (e9b b) = (if rdOk b then 0 else 21) ∧ loL (e9b b) = if rdOk b then rdL b else [] := by
  have h1 : askE (e9b b) ⟨#[115, 104, 101, 101, 116]⟩ = 0 := by kernel_rfl
  have h2 : readB (e9b b) ⟨#[115, 104, 101, 101, 116]⟩ = b := (show readB (e9b b) ⟨#[115, 104, 101, 101, 116]⟩ = ⟨b.data.toList.toArray⟩ by kernel_rfl).trans (ba9 b)
  unfold loE loL
  rw [h1, h2]; simp
theorem is300 : shB [1, 300] = true := by decide
theorem is12 : shB [1, 2] = true := by decide
theorem sz300 : (shY [1, 300]).size = 8 := by
  have e : (shY [1, 300]).data.toList.length = (shY [1, 300]).size := by rw [Array.length_toList]; rfl
  rw [← e, shY_list is300, shS_len, show (shL [1, 300]).length = 4 by kernel_rfl]
theorem sz12 : (shY [1, 2]).size = 7 := by
  have e : (shY [1, 2]).data.toList.length = (shY [1, 2]).size := by rw [Array.length_toList]; rfl
  rw [← e, shY_list is12, shS_len, show (shL [1, 2]).length = 3 by kernel_rfl]

set_option maxRecDepth 100000 in
set_option maxHeartbeats 4000000 in
theorem sheet_known (w : World) : Gives Try.prog 35 #[] w (.bool true) := by
  obtain ⟨Y, hY⟩ : ∃ Y, Y = shY [1, 300] := ⟨_, rfl⟩
  have h8 : Y.size = 8 := by rw [hY]; exact sz300
  have hYb := rd_back is300
  have hYm := rd_more is300 ⟨#[120]⟩ (by decide)
  rw [← hY] at hYb hYm
  have G1 := Lib.hid (fun (W : World) => (show Gives Try.prog 36 #[.slice (some ⟨W.heap.size, 0, none⟩) 2 2] (W.alloc (.cells #[.int .i64 1, .int .i64 300] 3)) (.tuple #[.string Y, .int .i64 0]) from by
    have := shBytes_any _ 2 2 [1, 300] _ (rowI_new W [1, 300] 2 rfl (by unfold maxLen; omega) (by decide) 3 #[.int .i64 1, .int .i64 300] rfl)
    rwa [← hY, show shE [1, 300] = 0 by decide] at this))
  have G2 := Lib.hid (fun (W : World) => (show Calls Try.prog 44 #[.string Y] W fun e w' => ∃ a c, e = .returned (.tuple #[.slice a 2 c, .int .i64 0]) ∧ RowI .i64 w' a 2 [1, 300] ∧ Below W.heap.size W w' from by
    refine (shRead_any Y (by omega) W).mono ?_
    rintro e w' ⟨v, he, hv, hB⟩
    rw [hYb.1, if_pos rfl, hYb.2] at hv
    rw [hYb.1, if_pos rfl] at he
    obtain ⟨a, c, hvv, -, hr⟩ := rowI_own hv (by decide)
    exact ⟨a, c, by rw [he, hvv]; rfl, hr, hB⟩))
  have G3 := Lib.hid (fun (W : World) => (show Calls Try.prog 44 #[.string (Y ++ ⟨#[120]⟩)] W fun e w' => ∃ a c, e = .returned (.tuple #[.slice a 0 c, .int .i64 21]) ∧ Below W.heap.size W w' from by
    refine (shRead_any _ (by rw [ByteArray.size_append]; show Y.size + 1 < _; omega) W).mono ?_
    rintro e w' ⟨v, he, hv, hB⟩
    rw [hYm, if_neg (by decide)] at hv he
    obtain ⟨a, c, hvv, -, hr⟩ := rowI_own (zs := []) hv (by simp)
    exact ⟨a, c, by rw [he, hvv]; rfl, hB⟩))
  have G4 := Lib.hid (fun (W : World) => (show Gives Try.prog 36 #[.slice none 0 0] W (.tuple #[.string ⟨#[]⟩, .int .i64 11]) from shBytes_any none 0 0 [] W ⟨rfl, by unfold maxLen; omega, by simp, fun h => absurd h (by decide)⟩))
  have GN := Lib.hid (fun (w5 : World) => (show Calls Try.prog 24 #[.int .i64 1000] w5 fun e w' => e = .returned (.pointer (some ⟨(w5.heap.size + 1), 0, none⟩)) ∧ One w5 (w5.heap.size + 1) e9a w' from newO 1000 w5))
  have GL := Lib.hid (fun w5 (W : World) (h : One w5 (w5.heap.size + 1) e9a W) => (show Calls Try.prog 42 #[.pointer (some ⟨(w5.heap.size + 1), 0, none⟩)] W fun e w' => ∃ a c, e = .returned (.tuple #[.slice a 0 c, .int .i64 19]) ∧ Below W.heap.size W w' from by
    refine (loadO h fit9a).mono ?_
    rintro e w' ⟨v, he, hv, hB⟩
    rw [show loL e9a = [] by kernel_rfl] at hv
    rw [show loE e9a = 19 by kernel_rfl] at he
    obtain ⟨a, c, hvv, -, hr⟩ := rowI_own (zs := []) hv (by simp)
    exact ⟨a, c, by rw [he, hvv]; rfl, hB⟩))
  obtain ⟨Z, hZ⟩ : ∃ Z, Z = shY [1, 2] := ⟨_, rfl⟩
  have hZ7 : Z.size = 7 := by rw [hZ]; exact sz12
  have hZb := rd_back is12
  rw [← hZ] at hZb
  have GS := Lib.hid (fun w5 (W : World) (h : One w5 (w5.heap.size + 1) e9a W) => (show Calls Try.prog 41 #[.pointer (some ⟨(w5.heap.size + 1), 0, none⟩), .slice (some ⟨W.heap.size, 0, none⟩) 2 2] (W.alloc (.cells #[.int .i64 1, .int .i64 2] 3)) fun e w' => e = .returned (.int .i64 0) ∧ One w5 (w5.heap.size + 1) (e9b Z) w' from by
    have := saveO (h.below (bel_alloc (Below.refl _ _) (.cells #[.int .i64 1, .int .i64 2] 3))) fit9a (by decide) _ 2 2 [1, 2] (rowI_new W [1, 2] 2 rfl (by unfold maxLen; omega) (by decide) 3 #[.int .i64 1, .int .i64 2] rfl)
    rwa [show saR e9a [1, 2] = (e9b Z, 0) from by unfold saR; rw [if_pos is12, ← hZ]; exact save9 Z (by omega)] at this))
  have GM := Lib.hid (fun w5 (W : World) (h : One w5 (w5.heap.size + 1) (e9b Z) W) => (show Calls Try.prog 42 #[.pointer (some ⟨(w5.heap.size + 1), 0, none⟩)] W fun e w' => ∃ a c, e = .returned (.tuple #[.slice a 2 c, .int .i64 0]) ∧ RowI .i64 w' a 2 [1, 2] ∧ Below W.heap.size W w' from by
    refine (loadO h (fit9b Z (by omega))).mono ?_
    rintro e w' ⟨v, he, hv, hB⟩
    rw [(load9 Z).2, hZb.1, if_pos rfl, hZb.2] at hv
    rw [(load9 Z).1, hZb.1, if_pos rfl] at he
    obtain ⟨a, c, hvv, -, hr⟩ := rowI_own hv (by decide)
    exact ⟨a, c, by rw [he, hvv]; rfl, hr, hB⟩))
  have GE := Lib.hid (fun (W : World) a c (h : RowI .i64 W a 2 [1, 300]) => (show Gives Try.prog 43 #[.slice a 2 c, .slice (some ⟨W.heap.size, 0, none⟩) 2 2] (W.alloc (.cells #[.int .i64 1, .int .i64 300] 3)) (.bool true) from by
    have := nsame_any a 2 c [1, 300] _ 2 2 [1, 300] _ (rowI_below h (bel_alloc (Below.refl _ _) (.cells #[.int .i64 1, .int .i64 300] 3))) (rowI_new W [1, 300] 2 rfl (by unfold maxLen; omega) (by decide) 3 #[.int .i64 1, .int .i64 300] rfl)
    simpa using this))
  have GF := Lib.hid (fun (W : World) a c (h : RowI .i64 W a 2 [1, 2]) => (show Gives Try.prog 43 #[.slice a 2 c, .slice (some ⟨W.heap.size, 0, none⟩) 2 2] (W.alloc (.cells #[.int .i64 1, .int .i64 2] 3)) (.bool true) from by
    have := nsame_any a 2 c [1, 2] _ 2 2 [1, 2] _ (rowI_below h (bel_alloc (Below.refl _ _) (.cells #[.int .i64 1, .int .i64 2] 3))) (rowI_new W [1, 2] 2 rfl (by unfold maxLen; omega) (by decide) 3 #[.int .i64 1, .int .i64 2] rfl)
    simpa using this))
  have GI := Lib.hid (fun (W : World) a c (h : RowI .i64 W a 2 [1, 300]) => (show Gives Try.prog 37 #[.slice a 2 c] W (.bool true) from by have := shIs_any a 2 c [1, 300] W h; rwa [is300] at this))
  have GJ := Lib.hid (fun (W : World) => (show Gives Try.prog 37 #[.slice (some ⟨W.heap.size, 0, none⟩) 2 2] (W.alloc (.cells #[.int .i64 2, .int .i64 2] 3)) (.bool false) from by have := shIs_any _ 2 2 [2, 2] _ (rowI_new W [2, 2] 2 rfl (by unfold maxLen; omega) (by decide) 3 #[.int .i64 2, .int .i64 2] rfl); rwa [show shB [2, 2] = false by decide] at this))
  have GT := Lib.hid (fun w5 (W : World) (h : One w5 (w5.heap.size + 1) (e9b Z) W) => (show Calls Try.prog 41 #[.pointer (some ⟨(w5.heap.size + 1), 0, none⟩), .slice none 0 0] W fun e w' => e = .returned (.int .i64 11) ∧ One w5 (w5.heap.size + 1) (e9b Z) w' from by
    have := saveO h (fit9b Z (by omega)) (by decide) none 0 0 [] ⟨rfl, by unfold maxLen; omega, by simp, fun h => absurd h (by decide)⟩
    rwa [show saR (e9b Z) [] = (e9b Z, 11) from rfl] at this))
  have H8 := Lib.hid h8
  have h8i : ((Y.size : Nat) : Int) = 8 := by omega
  have hcat : Y.size + 1 ≤ 100 := by omega
  unfold Gives at *
  clear hY hYb hYm hZ hZb hZ7 h8
  go_enter Try.func35, Try.ntmps35
  go_wp2_with (first
    | (go_at_call 36; go_loud ((with_reducible refine (G1.out _).mono ?_); rintro e w1 ⟨rfl, hB1⟩; have hb1 := bel2 (bel_alloc (Below.refl w.heap.size w) (.cells #[.int .i64 1, .int .i64 300] 3)) hB1; clear hB1 G1))
    | (go_at_call 44; go_loud ((with_reducible refine (G2.out _).mono ?_); rintro e w2 ⟨la, lc, rfl, hl2, hB2⟩; have hb2 := bel2 hb1 hB2; have HL := Lib.hid (fun W (hB : Below w2.heap.size w2 W) => rowI_below hl2 hB); clear hB2 hl2 G2))
    | (go_at_call 44; go_loud ((with_reducible refine (G3.out _).mono ?_); rintro e w3 ⟨ma, mc, rfl, hB3⟩; have hb3 := bel2 hb2 hB3; clear G3))
    | (go_at_call 36; go_loud ((with_reducible refine (G4.out _).mono ?_); rintro e w5 ⟨rfl, hB4⟩; have hb5 := bel2 hb3 hB4; have hb25 := bel2 hB3 hB4; clear G4))
    | (go_at_call 24; go_loud ((with_reducible refine (GN.out _).mono ?_); rintro e w6 ⟨rfl, hO6⟩; clear GN))
    | (go_at_call 42; go_loud ((with_reducible refine (GL.out _ _ hO6).mono ?_); rintro e w7 ⟨qa, qc, rfl, hB7⟩; have hO7 := hO6.below hB7; clear GL))
    | (go_at_call 41; go_loud ((with_reducible refine (GS.out _ _ hO7).mono ?_); rintro e w8 ⟨rfl, hO8⟩; clear GS hO7 hO6 hB7))
    | (go_at_call 42; go_loud ((with_reducible refine (GM.out _ _ hO8).mono ?_); rintro e w9 ⟨ra, rc, rfl, hr9, hB9⟩; have hO9 := hO8.below hB9; clear GM hO8 hB9; have hl9 := HL.out _ (bel2 hb25 hO9.bel)))
    | (go_at_call 43; go_loud ((with_reducible refine (GE.out _ _ _ hl9).mono ?_); rintro e w10 ⟨rfl, hB10⟩; have hB10' := bel2 (bel_alloc (Below.refl w9.heap.size w9) (.cells #[.int .i64 1, .int .i64 300] 3)) hB10; have hr10 := rowI_below hr9 hB10'; have hO10 := hO9.below hB10'; clear GE hB10 hr9))
    | (go_at_call 43; go_loud ((with_reducible refine (GF.out _ _ _ hr10).mono ?_); rintro e w11 ⟨rfl, hB11⟩; have hB11' := bel2 (bel_alloc (Below.refl w10.heap.size w10) (.cells #[.int .i64 1, .int .i64 2] 3)) hB11; have hO11 := hO10.below hB11'; have hl11 := HL.out _ (bel2 hb25 hO11.bel); clear GF hB11 hr10))
    | (go_at_call 37; go_loud ((with_reducible refine (GI.out _ _ _ hl11).mono ?_); rintro e w12 ⟨rfl, hB12⟩; have hO12 := hO11.below hB12; clear GI hl11))
    | (go_at_call 37; go_loud ((with_reducible refine (GJ.out _).mono ?_); rintro e w13 ⟨rfl, hB13⟩; have hO13 := hO12.below (bel2 (bel_alloc (Below.refl w12.heap.size w12) (.cells #[.int .i64 2, .int .i64 2] 3)) hB13)))
    | (go_at_call 41; go_loud ((with_reducible refine (GT.out _ _ hO13).mono ?_); rintro e w14 ⟨rfl, hO14⟩)))
  go_ret
  exact ⟨by simp, bel2 hb5 hO14.bel⟩

end Go.Proofs.Ytieekahlknmkfaa
