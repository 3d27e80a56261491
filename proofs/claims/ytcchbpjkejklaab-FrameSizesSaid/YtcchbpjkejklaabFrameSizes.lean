/- Law FrameSizes: for every input the call answers true; its arguments read as they did. No condition. -/
import Derived.Test.YtcchbpjkejklaabLaw
import Derived.Test.YtcchbpjkejklaabKnown3
namespace Go.Proofs.Ytcchbpjkejklaab.frameSizes
open Go.ChangeShapes Go.WideShapes Go.ChangeAt Go.RowKit Go.Shelf
open Go.ChangeMaps (open_string shut_string)
set_option linter.unusedVariables false
attribute [local go_sem] Oper.semAt_some wide_fn wide_round_fn


/-- A row of n noughts of which one is set: what the string of it is. -/
theorem made_set {n j : Nat} (hn : n ≤ 16777216) (hj : j < n) (x : UInt8) (B : ByteArray) (hB : B = ⟨((List.replicate n 0).set j x).toArray⟩) (W : World) : ∃ (W' : World) (v : Value),
    (Instr.makeSlice 32 (.int .i64 n) (.int .i64 n)).run Try.prog W = .ok (.slice (some ⟨W.heap.size, 0, none⟩) n n) W' ∧ W'.cell? ⟨W.heap.size, j, none⟩ = some v ∧ W'.frozen? ⟨W.heap.size, j, none⟩ = false ∧
    Below W.heap.size W (W'.setCell ⟨W.heap.size, j, none⟩ (.int .u8 x.toNat)) ∧
    (∀ W2, Below (W'.setCell ⟨W.heap.size, j, none⟩ (.int .u8 x.toNat)).heap.size (W'.setCell ⟨W.heap.size, j, none⟩ (.int .u8 x.toNat)) W2 → (convert 32 9 (.slice (some ⟨W.heap.size, 0, none⟩) n n)).run Try.prog W2 = .ok (.string B) W2) := by
  obtain ⟨i0, hi, hz0, hz1, hz2⟩ := info_parts Try.infoU8
  obtain ⟨W', hmk, hb, hby⟩ := bytes_made (P := Try.prog) (t := 32) (e := 5) i0 Try.underlying32 hi hz0 hz1 hz2 n hn W
  have hl : j < (List.replicate n (0 : UInt8)).length := by rw [List.length_replicate]; exact hj
  refine ⟨W', _, hmk, hby.cell j hl, hby.frozen j hl, hb.setCell (p := ⟨W.heap.size, j, none⟩) (Nat.le_refl _) _, fun W2 h2 => ?_⟩
  rw [hB]
  exact string_of (P := Try.prog) (src := 32) (dst := 9) Try.underlying32 Try.underlying5 Try.underlying9 ((hby.set j hl x).below h2) n n (by rw [List.length_set, List.length_replicate])
theorem ba_nil (b : ByteArray) : b ++ ⟨#[]⟩ = b := by apply ByteArray.ext; simp

set_option maxRecDepth 100000 in
set_option maxHeartbeats 2000000 in
theorem walk (m : Nat) (hm : m < 256) (c : Nat) (hc : c < 256) (w : World) :
    Calls Try.prog 7 #[.int .u8 m, .int .u8 c] w fun e w' => e = .returned (.bool true) ∧ Below w.heap.size w w' := by
  obtain ⟨x, rfl⟩ : ∃ x : UInt8, c = x.toNat := ⟨UInt8.ofNat c, by simp; omega⟩
  rcases (show (m : Int) % 3 = 0 ∨ (m : Int) % 3 = 1 ∨ (m : Int) % 3 = 2 by omega) with hq | hq | hq
  · obtain ⟨B, hB⟩ : ∃ B : ByteArray, B = ⟨((List.replicate 1999 0).set 1998 x).toArray⟩ := ⟨_, rfl⟩
    have hs : B.size = 1999 := by rw [hB]; show ((List.replicate 1999 0).set 1998 x).length = 1999; rw [List.length_set, List.length_replicate]
    have HM := Lib.hid (made_set (n := 1999) (j := 1998) (by decide) (by decide) x B hB)
    have G1 := Lib.hid (wrap_ok B (by omega) (by omega))
    have hr := read_wrap B ⟨#[]⟩ (by omega) (by omega)
    rw [ba_nil, hs] at hr
    have G2 := Lib.hid (read_at (wrapB B) B 2011 1 (by rw [wrapB_size]; omega) hr)
    have G3 := Lib.hid (show ∀ w, Gives Try.prog 11 #[.int .i64 1999] w (.int .i64 2011) from size_at 1999 (by decide) (by decide))
    clear hB hr hs
    generalize wrapB B = X at *
    go_enter Try.func7, Try.ntmps7
    go_wp2_with (first
      | (go_at_call 8; refine (frame_known _).mono ?_; rintro e w1 ⟨rfl, hB1⟩; obtain ⟨w2, v, hmk0, hcell, hfr, hB2, hcv⟩ := HM.out w1; have hmk : (Instr.makeSlice 32 (.int .i64 1999) (.int .i64 1999)).run Try.prog w1 = .ok (.slice (some ⟨w1.heap.size, 0, none⟩) 1999 1999) w2 := hmk0; clear hmk0; have hcv1 := hcv _ (Below.refl _ _); have HCV := Lib.hid hcv; clear hcv)
      | (go_at_call 9; ((with_reducible refine (G1.out _).mono ?_); rintro e w3 ⟨rfl, hB3⟩))
      | (go_at_call 10; ((with_reducible refine (G2.out _).mono ?_); rintro e w4 ⟨rfl, hB4⟩))
      | (go_at_call 11; ((with_reducible refine (G3.out _).mono ?_); rintro e w5 ⟨rfl, hB5⟩; have hcv2 := HCV.out w5 (bel2 (bel2 hB3 hB4) hB5))))
    go_ret
    exact ⟨rfl, bel2 (bel2 (bel2 (bel2 hB1 hB2) hB3) hB4) hB5⟩
  · obtain ⟨B, hB⟩ : ∃ B : ByteArray, B = ⟨((List.replicate 2000 0).set 1999 x).toArray⟩ := ⟨_, rfl⟩
    have hs : B.size = 2000 := by rw [hB]; show ((List.replicate 2000 0).set 1999 x).length = 2000; rw [List.length_set, List.length_replicate]
    have HM := Lib.hid (made_set (n := 2000) (j := 1999) (by decide) (by decide) x B hB)
    have G1 := Lib.hid (wrap_ok B (by omega) (by omega))
    have hr := read_wrap B ⟨#[]⟩ (by omega) (by omega)
    rw [ba_nil, hs] at hr
    have G2 := Lib.hid (read_at (wrapB B) B 2012 1 (by rw [wrapB_size]; omega) hr)
    have G3 := Lib.hid (show ∀ w, Gives Try.prog 11 #[.int .i64 2000] w (.int .i64 2012) from size_at 2000 (by decide) (by decide))
    clear hB hr hs
    generalize wrapB B = X at *
    go_enter Try.func7, Try.ntmps7
    go_wp2_with (first
      | (go_at_call 8; refine (frame_known _).mono ?_; rintro e w1 ⟨rfl, hB1⟩; obtain ⟨w2, v, hmk0, hcell, hfr, hB2, hcv⟩ := HM.out w1; have hmk : (Instr.makeSlice 32 (.int .i64 2000) (.int .i64 2000)).run Try.prog w1 = .ok (.slice (some ⟨w1.heap.size, 0, none⟩) 2000 2000) w2 := hmk0; clear hmk0; have hcv1 := hcv _ (Below.refl _ _); have HCV := Lib.hid hcv; clear hcv)
      | (go_at_call 9; ((with_reducible refine (G1.out _).mono ?_); rintro e w3 ⟨rfl, hB3⟩))
      | (go_at_call 10; ((with_reducible refine (G2.out _).mono ?_); rintro e w4 ⟨rfl, hB4⟩))
      | (go_at_call 11; ((with_reducible refine (G3.out _).mono ?_); rintro e w5 ⟨rfl, hB5⟩; have hcv2 := HCV.out w5 (bel2 (bel2 hB3 hB4) hB5))))
    go_ret
    exact ⟨rfl, bel2 (bel2 (bel2 (bel2 hB1 hB2) hB3) hB4) hB5⟩
  · obtain ⟨B, hB⟩ : ∃ B : ByteArray, B = ⟨((List.replicate 2001 0).set 2000 x).toArray⟩ := ⟨_, rfl⟩
    have hs : B.size = 2001 := by rw [hB]; show ((List.replicate 2001 0).set 2000 x).length = 2001; rw [List.length_set, List.length_replicate]
    have HM := Lib.hid (made_set (n := 2001) (j := 2000) (by decide) (by decide) x B hB)
    have G1 := Lib.hid (wrap_large B (by omega) (by omega))
    clear hB hs
    go_enter Try.func7, Try.ntmps7
    go_wp2_with (first
      | (go_at_call 8; refine (frame_known _).mono ?_; rintro e w1 ⟨rfl, hB1⟩; obtain ⟨w2, v, hmk0, hcell, hfr, hB2, hcv⟩ := HM.out w1; have hmk : (Instr.makeSlice 32 (.int .i64 2001) (.int .i64 2001)).run Try.prog w1 = .ok (.slice (some ⟨w1.heap.size, 0, none⟩) 2001 2001) w2 := hmk0; clear hmk0; have hcv1 := hcv _ (Below.refl _ _); have HCV := Lib.hid hcv; clear hcv)
      | (go_at_call 9; ((with_reducible refine (G1.out _).mono ?_); rintro e w3 ⟨rfl, hB3⟩)))
    go_ret
    exact ⟨rfl, bel2 (bel2 hB1 hB2) hB3⟩

set_option maxRecDepth 100000 in
theorem lifted (os : Os) (started : os.Started) (H : Type) (enc : TypeId × Value → H) :
    ReturnsInHanded {} Try.checked os 7 .any (Rows.frameSizesSpec.pre6 enc Try.prog Try.f7 Rows.frameSizesRow.domain false) (Rows.frameSizesSpec.post enc Try.prog Try.f7 false true false false) := by
  refine returnsInHanded_of_change (C := Try.checked) Try.own started (by kernel_rfl) Try.func7
    (ChangeSpec.witness6 (enc := enc) (C := Try.checked) false ⟨#[], #[.int .u8 0, .int .u8 0], []⟩ 8 (by kernel_rfl) (by kernel_rfl) (by kernel_rfl) (by kernel_rfl)) ?_
  intro W base args ds gs before hval hW _ _
  refine law_contract (T := 4) (n := 2) Try.laid Try.underlying4 rfl rfl ⟨rfl, fun H ds h => by match ds, h with | [_, _], _ => rfl⟩ (of_all (by kernel_rfl)) hW ?_
  intro ps hA
  rw [Try.params7] at hA hval
  obtain ⟨v0, vs0, d0, ds0, p0, q0, hargs, rfl, rfl, h0, r0⟩ := trodAll_cons hA
  obtain ⟨v1, vs1, d1, ds1, p1, q1, rfl, rfl, rfl, h1, r1⟩ := trodAll_cons r0
  obtain ⟨rfl, rfl, rfl⟩ := trodAll_nil r1
  obtain rfl : args = #[v0, v1] := by cases args; simp_all
  obtain ⟨a0, rfl, rfl, rfl, w0⟩ := open_int Try.underlying5 (hval 0 5 v0 rfl rfl) h0
  obtain ⟨a1, rfl, rfl, rfl, w1⟩ := open_int Try.underlying5 (hval 1 5 v1 rfl rfl) h1
  obtain ⟨n0, rfl, b0⟩ := nat_of_u8 w0
  obtain ⟨n1, rfl, b1⟩ := nat_of_u8 w1
  exact walk n0 b0 n1 b1 W

theorem holds : Rows.FrameSizesSaid :=
  OpenClaim.holds_of_wide 7 Try.f7 rfl rfl rfl rfl rfl rfl rfl ⟨rfl, rfl, rfl, rfl, rfl⟩ rfl rfl rfl rfl rfl (by kernel_rfl) Try.func7 (by kernel_rfl)
    (of_decide_eq_true (by kernel_rfl)) (by unfold Func.isWrapper; first | (rw [if_pos (by decide +kernel)]; kernel_rfl) | (rw [if_neg (by decide +kernel)]; exact ⟨rfl, rfl⟩))
    (fun os started H enc _ => lifted os started H enc)
end Go.Proofs.Ytcchbpjkejklaab.frameSizes
