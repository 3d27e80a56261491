/- What the thirteenth layer's laws hold by themselves: the examples. -/
import Derived.Test.YtloojgbkohpcfaaPlcK
namespace Go.Proofs.Ytloojgbkohpcfaa
open Go.RowKit Go.Shelf
set_option linter.unusedVariables false
set_option linter.unusedSimpArgs false
attribute [local go_sem] Oper.semAt_some wide_fn wide_round_fn

theorem kp1 (X : Nat) : doLG ⟨newP 3, []⟩ ⟨3, 1, (some ⟨X, 0, none⟩), 2, 2, 0, 0, 0, 0, 0, false, false⟩ [⟨1, 1, ⟨#[]⟩⟩, ⟨2, 1, ⟨#[]⟩⟩] 1 16 = ⟨⟨3, 1, 0, 0, 0, 0, [⟨1, 1, ⟨#[]⟩⟩, ⟨2, 1, ⟨#[]⟩⟩]⟩, [⟨1, 1, 16⟩, ⟨2, 1, 16⟩]⟩ := by kernel_rfl
theorem kp2 : doLG ⟨⟨3, 1, 0, 0, 0, 0, [⟨1, 1, ⟨#[]⟩⟩, ⟨2, 1, ⟨#[]⟩⟩]⟩, [⟨1, 1, 16⟩, ⟨2, 1, 16⟩]⟩ ⟨3, 3, none, 0, 0, 0, 0, 0, 1, 1, false, false⟩ [] 2 20 = ⟨⟨3, 2, 1, 0, 0, 0, [⟨2, 1, ⟨#[]⟩⟩]⟩, [⟨0, 2, 20⟩, ⟨2, 1, 16⟩]⟩ := by kernel_rfl
theorem kp3 (X : Nat) : doLG ⟨⟨3, 2, 1, 0, 0, 0, [⟨2, 1, ⟨#[]⟩⟩]⟩, [⟨0, 2, 20⟩, ⟨2, 1, 16⟩]⟩ ⟨3, 6, (some ⟨X, 0, none⟩), 1, 1, 0, 0, 0, 0, 0, false, false⟩ [⟨2, 1, ⟨#[]⟩⟩] 4 30 = ⟨⟨3, 2, 1, 0, 0, 0, [⟨2, 1, ⟨#[]⟩⟩]⟩, [⟨0, 2, 20⟩, ⟨2, 4, 30⟩]⟩ := by kernel_rfl
theorem kpS : spotsL (⟨3, 2, 1, 0, 0, 0, [⟨2, 1, ⟨#[]⟩⟩]⟩ : GM) [⟨0, 2, 20⟩, ⟨2, 4, 30⟩] = [⟨3, 0, 2, 20⟩, ⟨3, 2, 4, 30⟩] := by kernel_rfl
theorem kp_ok : okLG 0 ⟨newP 3, []⟩ ∧ okLG 10 ⟨⟨3, 1, 0, 0, 0, 0, [⟨1, 1, ⟨#[]⟩⟩, ⟨2, 1, ⟨#[]⟩⟩]⟩, [⟨1, 1, 16⟩, ⟨2, 1, 16⟩]⟩ ∧ okLG 10 ⟨⟨3, 2, 1, 0, 0, 0, [⟨2, 1, ⟨#[]⟩⟩]⟩, [⟨0, 2, 20⟩, ⟨2, 1, 16⟩]⟩ ∧ okLG 10 ⟨⟨3, 2, 1, 0, 0, 0, [⟨2, 1, ⟨#[]⟩⟩]⟩, [⟨0, 2, 20⟩, ⟨2, 4, 30⟩]⟩ := ⟨newP_ok ⟨by decide, by decide⟩, ⟨by kernel_rfl, by decide, by decide⟩, ⟨by kernel_rfl, by decide, by decide⟩, ⟨by kernel_rfl, by decide, by decide⟩⟩
theorem fieldG1 (id fi te ht hv hc : Int) (s : Value) (W : World) : (Instr.field 31 (.agg #[.int .i64 id, .int .i64 fi, .int .i64 te, .int .i64 ht, .int .i64 hv, .int .i64 hc, s]) 1).run Try.prog W = .ok (.int .i64 fi) W := by kernel_rfl
set_option maxRecDepth 100000 in
set_option maxHeartbeats 4000000 in
theorem known13_any (w : World) : Gives Try.prog 8 #[] w (.bool true) := by
  have GN := Lib.hid (pnewK_any (Below.refl w.heap.size w) 3)
  have D1 := Lib.hid (fun W d m X (h : LgK w d m ⟨newP 3, []⟩ W) (hx : W.heap[X]? = some (.cells #[.int .i64 1, .int .i64 1, .string ⟨#[]⟩, .int .i64 2, .int .i64 1, .string ⟨#[]⟩] 57 (0, 0))) => (show Calls Try.prog 13 #[.pointer (some ⟨d, 0, none⟩), .agg #[.int .i64 3, .int .i64 1, .slice (some ⟨X, 0, none⟩) 2 2, .int .i64 0, .int .i64 0, .int .i64 0, .int .i64 0, .int .i64 0, .bool false, .bool false], .agg #[.int .i64 1, .int .i64 16]] W (fun e w' => (∃ v, e = .returned v) ∧ LgK w d m ⟨⟨3, 1, 0, 0, 0, 0, [⟨1, 1, ⟨#[]⟩⟩, ⟨2, 1, ⟨#[]⟩⟩]⟩, [⟨1, 1, 16⟩, ⟨2, 1, 16⟩]⟩ w') from by
    have := pdoK_any h kp_ok.1 (by decide) ⟨3, 1, (some ⟨X, 0, none⟩), 2, 2, 0, 0, 0, 0, 0, false, false⟩ [⟨1, 1, ⟨#[]⟩⟩, ⟨2, 1, ⟨#[]⟩⟩] ⟨rfl, (show (2 : Nat) < 1000000 by decide), by exact rowV_block (cs := #[.int .i64 1, .int .i64 1, .string ⟨#[]⟩, .int .i64 2, .int .i64 1, .string ⟨#[]⟩]) (n := 2) (sz := 3) hx rfl (by decide)⟩ (show (2 : Nat) ≤ 2 by decide) (by decide) 1 16
    rw [kp1] at this
    exact this.mono (fun e w' h => ⟨h.1, h.2.1⟩)))
  have D2 := Lib.hid (fun W d m (h : LgK w d m ⟨⟨3, 1, 0, 0, 0, 0, [⟨1, 1, ⟨#[]⟩⟩, ⟨2, 1, ⟨#[]⟩⟩]⟩, [⟨1, 1, 16⟩, ⟨2, 1, 16⟩]⟩ W) => (show Calls Try.prog 13 #[.pointer (some ⟨d, 0, none⟩), .agg #[.int .i64 3, .int .i64 3, .slice none 0 0, .int .i64 0, .int .i64 0, .int .i64 0, .int .i64 1, .int .i64 1, .bool false, .bool false], .agg #[.int .i64 2, .int .i64 20]] W (fun e w' => (∃ v, e = .returned v) ∧ LgK w d m ⟨⟨3, 2, 1, 0, 0, 0, [⟨2, 1, ⟨#[]⟩⟩]⟩, [⟨0, 2, 20⟩, ⟨2, 1, 16⟩]⟩ w') from by
    have := pdoK_any h kp_ok.2.1 (by decide) ⟨3, 3, none, 0, 0, 0, 0, 0, 1, 1, false, false⟩ [] ⟨rfl, by decide, by exact ⟨rfl, by decide, fun h => absurd h (by decide)⟩⟩ (by decide) (by decide) 2 20
    rw [kp2] at this
    exact this.mono (fun e w' h => ⟨h.1, h.2.1⟩)))
  have D3 := Lib.hid (fun W d m X (h : LgK w d m ⟨⟨3, 2, 1, 0, 0, 0, [⟨2, 1, ⟨#[]⟩⟩]⟩, [⟨0, 2, 20⟩, ⟨2, 1, 16⟩]⟩ W) (hx : W.heap[X]? = some (.cells #[.int .i64 2, .int .i64 1, .string ⟨#[]⟩] 57 (0, 0))) => (show Calls Try.prog 13 #[.pointer (some ⟨d, 0, none⟩), .agg #[.int .i64 3, .int .i64 6, .slice (some ⟨X, 0, none⟩) 1 1, .int .i64 0, .int .i64 0, .int .i64 0, .int .i64 0, .int .i64 0, .bool false, .bool false], .agg #[.int .i64 4, .int .i64 30]] W (fun e w' => (∃ v, e = .returned v) ∧ LgK w d m ⟨⟨3, 2, 1, 0, 0, 0, [⟨2, 1, ⟨#[]⟩⟩]⟩, [⟨0, 2, 20⟩, ⟨2, 4, 30⟩]⟩ w') from by
    have := pdoK_any h kp_ok.2.2.1 (by decide) ⟨3, 6, (some ⟨X, 0, none⟩), 1, 1, 0, 0, 0, 0, 0, false, false⟩ [⟨2, 1, ⟨#[]⟩⟩] ⟨rfl, (show (1 : Nat) < 1000000 by decide), by exact rowV_block (cs := #[.int .i64 2, .int .i64 1, .string ⟨#[]⟩]) (n := 1) (sz := 3) hx rfl (by decide)⟩ (show (1 : Nat) ≤ 1 by decide) (by decide) 4 30
    rw [kp3] at this
    exact this.mono (fun e w' h => ⟨h.1, h.2.1⟩)))
  have GS := Lib.hid (fun W d m (h : LogS W d m ⟨⟨3, 2, 1, 0, 0, 0, [⟨2, 1, ⟨#[]⟩⟩]⟩, [⟨0, 2, 20⟩, ⟨2, 4, 30⟩]⟩) => (show Calls Try.prog 19 #[.pointer (some ⟨d, 0, none⟩)] W (fun e w' => ∃ va vc, e = .returned (.slice va 2 vc) ∧ RowV w' va ([⟨3, 0, 2, 20⟩, ⟨3, 2, 4, 30⟩] : List SpotC).length 4 (spotCells [⟨3, 0, 2, 20⟩, ⟨3, 2, 4, 30⟩]) ∧ Below W.heap.size W w') from by
    have := pspotsS_any h kp_ok.2.2.2.1
    rw [show spotsL (LG.g ⟨⟨3, 2, 1, 0, 0, 0, [⟨2, 1, ⟨#[]⟩⟩]⟩, [⟨0, 2, 20⟩, ⟨2, 4, 30⟩]⟩) (LG.F ⟨⟨3, 2, 1, 0, 0, 0, [⟨2, 1, ⟨#[]⟩⟩]⟩, [⟨0, 2, 20⟩, ⟨2, 4, 30⟩]⟩) = [⟨3, 0, 2, 20⟩, ⟨3, 2, 4, 30⟩] from kpS] at this
    exact this.mono (fun e w' ⟨va, vc, h1, h2, _, h3⟩ => ⟨va, vc, h1, h2, h3⟩)))
  have GF2 := Lib.hid (fun W d m (h : LogS W d m ⟨⟨3, 2, 1, 0, 0, 0, [⟨2, 1, ⟨#[]⟩⟩]⟩, [⟨0, 2, 20⟩, ⟨2, 4, 30⟩]⟩) => (show Calls Try.prog 15 #[.pointer (some ⟨d, 0, none⟩), .int .i64 2] W (fun e w' => e = .returned (.tuple #[.agg #[.int .i64 4, .int .i64 30], .bool true]) ∧ Below W.heap.size W w') from pfindS_any h kp_ok.2.2.2.1 2 (by decide)))
  have GF1 := Lib.hid (fun W d m (h : LogS W d m ⟨⟨3, 2, 1, 0, 0, 0, [⟨2, 1, ⟨#[]⟩⟩]⟩, [⟨0, 2, 20⟩, ⟨2, 4, 30⟩]⟩) => (show Calls Try.prog 15 #[.pointer (some ⟨d, 0, none⟩), .int .i64 1] W (fun e w' => e = .returned (.tuple #[.agg #[.int .i64 0, .int .i64 0], .bool false]) ∧ Below W.heap.size W w') from pfindS_any h kp_ok.2.2.2.1 1 (by decide)))
  have GG := Lib.hid (fun W d m (h : LogS W d m ⟨⟨3, 2, 1, 0, 0, 0, [⟨2, 1, ⟨#[]⟩⟩]⟩, [⟨0, 2, 20⟩, ⟨2, 4, 30⟩]⟩) => (show Calls Try.prog 17 #[.pointer (some ⟨d, 0, none⟩)] W (fun e w' => ∃ va vc, e = .returned (.agg #[.int .i64 3, .int .i64 2, .int .i64 1, .int .i64 0, .int .i64 0, .int .i64 0, .slice va 1 vc]) ∧ Below W.heap.size W w') from (pgroupS_any h).mono (fun e w' ⟨va, vc, h1, _, _, h3⟩ => ⟨va, vc, h1, h3⟩)))
  have GC := Lib.hid (fun W d m (h : LogS W d m ⟨⟨3, 2, 1, 0, 0, 0, [⟨2, 1, ⟨#[]⟩⟩]⟩, [⟨0, 2, 20⟩, ⟨2, 4, 30⟩]⟩) => (show Calls Try.prog 12 #[.pointer (some ⟨d, 0, none⟩)] W (fun e w' => ∃ d' m', e = .returned (.pointer (some ⟨d', 0, none⟩)) ∧ LogS w' d' m' ⟨⟨3, 2, 1, 0, 0, 0, [⟨2, 1, ⟨#[]⟩⟩]⟩, [⟨0, 2, 20⟩, ⟨2, 4, 30⟩]⟩ ∧ Below W.heap.size W w') from (pcopyS_any h).mono (fun e w' ⟨d', m', h1, _, _, h2, h3⟩ => ⟨d', m', h1, h2, h3⟩)))
  unfold Gives
  go_enter Try.func8, Try.ntmps8
  go_wp2_with (first
    | (go_at_call 9; (with_reducible refine (GN.out).mono ?_); rintro e w1 ⟨d, m, rfl, hK, -, -⟩; have HA := Lib.hid (hK.alloc (.cells #[.int .i64 1, .int .i64 1, .string ⟨#[]⟩, .int .i64 2, .int .i64 1, .string ⟨#[]⟩] 57)); clear hK)
    | (go_at_call 13; (with_reducible refine (D1.out _ _ _ _ HA.out (World.alloc_heap_new w1 _)).mono ?_); rintro e w2 ⟨⟨v2, rfl⟩, hK⟩; clear HA; have HB := Lib.hid hK; clear hK)
    | (go_at_call 13; (with_reducible refine (D2.out _ _ _ HB.out).mono ?_); rintro e w3 ⟨⟨v3, rfl⟩, hK⟩; clear HB; have HC := Lib.hid (hK.alloc (.cells #[.int .i64 2, .int .i64 1, .string ⟨#[]⟩] 57)); clear hK)
    | (go_at_call 13; (with_reducible refine (D3.out _ _ _ _ HC.out (World.alloc_heap_new w3 _)).mono ?_); rintro e w4 ⟨⟨v4, rfl⟩, hK⟩; clear HC; have HD := Lib.hid hK; have HD1 := Lib.hid hK.1; clear hK)
    | (go_at_call 19; (with_reducible refine (GS.out _ _ _ HD1.out).mono ?_); rintro e w5 ⟨va, vc, rfl, hR, hB⟩; have hE := HD.out.below hB; have HE := Lib.hid hE; have HE1 := Lib.hid hE.1; have HR := Lib.hid hR; clear HD HD1 hE hR hB)
    | (go_at_call 15; (with_reducible refine (GF2.out _ _ _ HE1.out).mono ?_); rintro e w6 ⟨rfl, hB⟩; have hX := (HE.out.below hB).alloc (.cells #[.int .i64 4, .int .i64 30] 41); have HX := Lib.hid hX; have HX2 := Lib.hid hX.1; have HX1 := Lib.hid (bel2 hB (bel_alloc (Below.refl w6.heap.size w6) (.cells #[.int .i64 4, .int .i64 30] 41))); have HQ := Lib.hid (World.alloc_heap_new w6 (.cells #[.int .i64 4, .int .i64 30] 41)); clear HE HE1 hX hB)
    | (go_at_call 15; (with_reducible refine (GF1.out _ _ _ HX2.out).mono ?_); rintro e w7 ⟨rfl, hB⟩; have hY := (HX.out.below hB).alloc (.cells #[.int .i64 0, .int .i64 0] 41); have HY := Lib.hid hY; have HY1 := Lib.hid hY.1; have hB7 := bel2 hB (bel_alloc (Below.refl w7.heap.size w7) (.cells #[.int .i64 0, .int .i64 0] 41)); obtain ⟨b, off, rfl, hb, hrow⟩ := spotRow_at (HR.out.below (bel2 HX1.out hB7)) (by decide); have s000 : (w7.alloc (.cells #[.int .i64 0, .int .i64 0] 41)).cell? ⟨b, off, none⟩ = some (.int .i64 3) := (hrow 0 (by decide)).1; have s010 : (w7.alloc (.cells #[.int .i64 0, .int .i64 0] 41)).cell? ⟨b, off + 1, none⟩ = some (.int .i64 0) := (hrow 0 (by decide)).2.1; have s020 : (w7.alloc (.cells #[.int .i64 0, .int .i64 0] 41)).cell? ⟨b, off + 2, none⟩ = some (.int .i64 2) := (hrow 0 (by decide)).2.2.1; have s030 : (w7.alloc (.cells #[.int .i64 0, .int .i64 0] 41)).cell? ⟨b, off + 3, none⟩ = some (.int .i64 20) := (hrow 0 (by decide)).2.2.2; have s110 : (w7.alloc (.cells #[.int .i64 0, .int .i64 0] 41)).cell? ⟨b, off + 4 + 1, none⟩ = some (.int .i64 2) := (hrow 1 (by decide)).2.1; have s111 : (w7.alloc (.cells #[.int .i64 0, .int .i64 0] 41)).cell? ⟨b, off + 5, none⟩ = some (.int .i64 2) := (hrow 1 (by decide)).2.1; have q0 : (w7.alloc (.cells #[.int .i64 0, .int .i64 0] 41)).cell? ⟨w6.heap.size, 0, none⟩ = some (.int .i64 4) := cell_of_row _ _ 0 _ _ _ ((hB7.block _ (heap_lt HQ.out)).trans HQ.out); clear hrow HX HX2 hY hB hB7 hb)
    | (go_at_call 17; (with_reducible refine (GG.out _ _ _ HY1.out).mono ?_); rintro e w8 ⟨va8, vc8, rfl, hB⟩; have hZ := HY.out.below hB; have HZ := Lib.hid hZ; have HZ1 := Lib.hid hZ.1; have hfd := fieldG1 3 2 1 0 0 0 (.slice va8 1 vc8) w8; clear HY HY1 hZ hB)
    | (go_at_call 12; (with_reducible refine (GC.out _ _ _ HZ1.out).mono ?_); rintro e w9 ⟨d9, m9, rfl, hS9, hB⟩; have HU := Lib.hid (HZ.out.below hB); have HS9 := Lib.hid hS9; clear HZ hB hS9)
    | (go_at_call 19; (with_reducible refine (GS.out _ _ _ HS9.out).mono ?_); rintro e w10 ⟨va10, vc10, rfl, -, hB⟩; have HV := Lib.hid (HU.out.below hB); clear HU hB))
  go_ret
  exact ⟨rfl, HV.out.2.1⟩

end Go.Proofs.Ytloojgbkohpcfaa
