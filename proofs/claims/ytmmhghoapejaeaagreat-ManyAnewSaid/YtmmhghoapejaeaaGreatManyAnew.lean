/- Law ManyAnew: for every input the call answers true; its arguments read as they did. No condition. -/
import Derived.Test.YtmmhghoapejaeaaGreatLaw
import Derived.Test.YtmmhghoapejaeaaGreatKnown7
import Derived.Test.YtmmhghoapejaeaaGreatManN
namespace Go.Proofs.YtmmhghoapejaeaaGreat.manyAnew
open Go.ChangeShapes Go.WideShapes Go.ChangeAt Go.RowKit Go.Shelf
open Go.ChangeMaps (open_string shut_string)
set_option linter.unusedVariables false
attribute [local go_sem] Oper.semAt_some wide_fn wide_round_fn

theorem hasP_three {W : World} {g : Int} {a : Option Addr} {c : Nat} {l : List EntryC} (hp : HasE W (appP g a c) l) :
    HasP (W.alloc (.cells #[.int .i64 g, .int .i64 2, .slice none 0 0, .int .i64 5, .int .i64 0, .int .i64 0, .int .i64 0, .int .i64 0, .bool false, .bool false, .int .i64 g, .int .i64 5, .slice none 0 0, .int .i64 0, .int .i64 0, .int .i64 0, .int .i64 0, .int .i64 0, .bool false, .bool false, .int .i64 g, .int .i64 1, .slice a 1 c, .int .i64 0, .int .i64 0, .int .i64 0, .int .i64 0, .int .i64 0, .bool false, .bool false] 44)) (some ⟨W.heap.size, 0, none⟩) 3 [(hardP g, []), (dstP g, []), (appP g a c, l)] := by
  have hB := fun cs => bel_alloc (Below.refl W.heap.size W) (.cells cs 44)
  refine ⟨rfl, by decide, rowV_new W 44 _ 3 10 rfl (by decide), fun x hx => ?_⟩
  simp only [List.mem_cons, List.not_mem_nil, or_false] at hx
  rcases hx with rfl | rfl | rfl
  · exact hasE_nil rfl rfl
  · exact hasE_nil rfl rfl
  · exact hp.below (hB _)
theorem hasP_dst2 (W : World) (g : Int) :
    HasP (W.alloc (.cells #[.int .i64 g, .int .i64 5, .slice none 0 0, .int .i64 0, .int .i64 0, .int .i64 0, .int .i64 0, .int .i64 0, .bool false, .bool false, .int .i64 g, .int .i64 5, .slice none 0 0, .int .i64 0, .int .i64 0, .int .i64 0, .int .i64 0, .int .i64 0, .bool false, .bool false] 44)) (some ⟨W.heap.size, 0, none⟩) 2 [(dstP g, []), (dstP g, [])] := by
  refine ⟨rfl, by decide, rowV_new W 44 _ 2 10 rfl (by decide), fun x hx => ?_⟩
  simp only [List.mem_cons, List.not_mem_nil, or_false] at hx
  rcases hx with rfl | rfl
  · exact hasE_nil rfl rfl
  · exact hasE_nil rfl rfl
theorem k9 {w W : World} {d b : Nat} {L : List GM} {v0 v1 v2 v3 v4 v5 v6 : Value} {t : TypeId} {fz : Nat × Nat} (h : MS w d L W) (hb : W.heap[b]? = some (.cells #[v0, v1, v2, v3, v4, v5, v6] t fz)) : b ≠ d := by
  obtain ⟨m, hc⟩ := h.cell
  rintro rfl
  rw [hb] at hc
  cases hc
theorem k9b {w W : World} {d b off : Nat} {L : List GM} {s : ByteArray} (h : MS w d L W) (hb : W.cell? ⟨b, off, none⟩ = some (.string s)) : b ≠ d := by
  obtain ⟨m, hc⟩ := h.cell
  rintro rfl
  match off with
  | 0 => simp [World.cell?, hc] at hb
  | off + 1 => simp [World.cell?, hc] at hb
theorem three_in {p q r : PL} (h : -9223372036854775808 ≤ p.1.g ∧ p.1.g < 9223372036854775808) (k : -9223372036854775808 ≤ q.1.g ∧ q.1.g < 9223372036854775808) (m : -9223372036854775808 ≤ r.1.g ∧ r.1.g < 9223372036854775808) : ∀ x ∈ [p, q, r], -9223372036854775808 ≤ x.1.g ∧ x.1.g < 9223372036854775808 := fun x hx => by
  simp only [List.mem_cons, List.not_mem_nil, or_false] at hx
  rcases hx with rfl | rfl | rfl
  · exact h
  · exact k
  · exact m
theorem an_getM {w W : World} {d : Nat} {g : Int} (hg : 0 ≤ g ∧ g ≤ 999) (h : MS w d [anN g] W) : Calls Tryz.prog 22 #[.pointer (some ⟨d, 0, none⟩), .int .i64 g] W fun e w' => ∃ b off c, e = .returned (.tuple #[.agg #[.int .i64 g, .int .i64 1, .int .i64 0, .int .i64 0, .int .i64 0, .int .i64 0, .slice (some ⟨b, off, none⟩) 1 c], .bool true]) ∧ b < w'.heap.size ∧ w'.cell? ⟨b, off + 2, none⟩ = some (.string ⟨#[110, 101, 119]⟩) ∧ Below W.heap.size W w' := by
  have := ms_get h g (by omega)
  rw [(anN_get g).1, (anN_get g).2] at this
  refine this.mono ?_
  rintro e w' ⟨a, c, rfl, hG, _, hB⟩
  obtain ⟨b, off, rfl, hb, hc⟩ := hG.2.2.2 (show 0 < 1 by decide)
  exact ⟨b, off, c, rfl, hb, hc 2 (by rw [hG.2.1]; show 2 < 1 * 3; decide), hB⟩
set_option maxRecDepth 100000 in
set_option maxHeartbeats 4000000 in
theorem walk (id : Nat) (hid : id < 256) (n : Nat) (hn : n < 256) (w : World) : Calls Tryz.prog 6 #[.int .u8 id, .int .u8 n] w fun e w' => e = .returned (.bool true) ∧ Below w.heap.size w w' := by
  have GK := Lib.hid man_known
  have h9 : 0 ≤ (id : Int) ∧ (id : Int) ≤ 999 := ⟨by omega, by omega⟩
  obtain ⟨k, hk, hk1, hk2⟩ : ∃ k : Nat, (n : Int) % 5 + 1 = (k : Int) ∧ 1 ≤ k ∧ k ≤ 5 := ⟨n % 5 + 1, by omega, by omega, by omega⟩
  have GN := Lib.hid (fun w1 (hB : Below w.heap.size w w1) => ms_new hB)
  have GA := Lib.hid (fun (W : World) (j : Nat) => (show Calls Tryz.prog 21 #[.int .i64 (id : Int), .int .i64 ((j : Int) + 1), .string ⟨#[111, 108, 100]⟩] W fun e w' => ∃ a c, e = .returned (.agg #[.int .i64 (id : Int), .int .i64 1, .slice a 1 c, .int .i64 0, .int .i64 0, .int .i64 0, .int .i64 0, .int .i64 0, .bool false, .bool false]) ∧ HasE w' (appP (id : Int) a c) (appE ((j : Int) + 1) ⟨#[111, 108, 100]⟩) ∧ Below W.heap.size W w' ∧ ∀ k, inBlkE a 1 k → W.heap.size ≤ k from app7_any (id : Int) ((j : Int) + 1) ⟨#[111, 108, 100]⟩ W))
  have GD := Lib.hid (fun W d (j : Nat) (hj : j < 1000) (h : MS w d (anL (id : Int) j) W) a c (hp : HasE W (appP (id : Int) a c) (appE ((j : Int) + 1) ⟨#[111, 108, 100]⟩)) => ms_do_new h (anL_ok h9 (by omega)) _ 1 1 _ (hasP_app1 hp) (by decide) (one_in (show -9223372036854775808 ≤ (id : Int) ∧ (id : Int) < 9223372036854775808 from ⟨by omega, by omega⟩)) (an_step h9 hj a c).1 (an_step h9 hj a c).2)
  have GA2 := Lib.hid (fun (W : World) => (show Calls Tryz.prog 21 #[.int .i64 (id : Int), .int .i64 1, .string ⟨#[110, 101, 119]⟩] W fun e w' => ∃ a c, e = .returned (.agg #[.int .i64 (id : Int), .int .i64 1, .slice a 1 c, .int .i64 0, .int .i64 0, .int .i64 0, .int .i64 0, .int .i64 0, .bool false, .bool false]) ∧ HasE w' (appP (id : Int) a c) (appE 1 ⟨#[110, 101, 119]⟩) ∧ Below W.heap.size W w' ∧ ∀ k, inBlkE a 1 k → W.heap.size ≤ k from app7_any (id : Int) 1 ⟨#[110, 101, 119]⟩ W))
  have GD2 := Lib.hid (fun W d (h : MS w d (anL (id : Int) k) W) a c (hp : HasE W (appP (id : Int) a c) (appE 1 ⟨#[110, 101, 119]⟩)) => ms_do_new h (anL_ok h9 (by omega)) _ 3 3 _ (hasP_three hp) (by decide) (three_in (show -9223372036854775808 ≤ (id : Int) ∧ (id : Int) < 9223372036854775808 from ⟨by omega, by omega⟩) (show -9223372036854775808 ≤ (id : Int) ∧ (id : Int) < 9223372036854775808 from ⟨by omega, by omega⟩) (show -9223372036854775808 ≤ (id : Int) ∧ (id : Int) < 9223372036854775808 from ⟨by omega, by omega⟩)) (an_anew h9 hk1 (by omega) a c).1 (an_anew h9 hk1 (by omega) a c).2)
  have GG := Lib.hid (fun W d (h : MS w d [anN (id : Int)] W) => an_getM h9 h)
  have GD3 := Lib.hid (fun W d q (hq : q = W.heap.size) (h : MS w d [anN (id : Int)] W) => (show Calls Tryz.prog 19 #[.pointer (some ⟨d, 0, none⟩), .slice (some ⟨q, 0, none⟩) 2 2] (W.alloc (.cells #[.int .i64 (id : Int), .int .i64 5, .slice none 0 0, .int .i64 0, .int .i64 0, .int .i64 0, .int .i64 0, .int .i64 0, .bool false, .bool false, .int .i64 (id : Int), .int .i64 5, .slice none 0 0, .int .i64 0, .int .i64 0, .int .i64 0, .int .i64 0, .int .i64 0, .bool false, .bool false] 44)) (fun e w' => e = .returned (.int .i64 13) ∧ MS w d [anN (id : Int)] w' ∧ FrameT (fun k => k = d) W w') from hq ▸ ms_do_new h (anN_ok h9) _ 2 2 _ (hasP_dst2 W (id : Int)) (by decide) (two_in (show -9223372036854775808 ≤ (id : Int) ∧ (id : Int) < 9223372036854775808 from ⟨by omega, by omega⟩) (show -9223372036854775808 ≤ (id : Int) ∧ (id : Int) < 9223372036854775808 from ⟨by omega, by omega⟩)) (an_two h9).1 (an_two h9).2))
  have HQ := Lib.hid (fun W => beqHard 0 0 0 0 0 0 W)
  clear h9
  go_enter Tryz.func6, Tryz.ntmps6
  go_wp2_with (first
    | (go_at_call 9; ((with_reducible refine (GK.out _).mono ?_); rintro e w1 ⟨rfl, hB1⟩))
    | (go_at_call 29; ((with_reducible refine (GN.out _ hB1).mono ?_); rintro e w2 ⟨d, rfl, -, hM, -⟩; clear hB1)))
  have hM0 : MS w d (anL (id : Int) 0) w2 := hM
  clear hM
  go_loopw [7] (fun q wr => ∃ j : Nat, j ≤ k ∧ q = .int .i64 ((j : Int) + 1) ∧ MS w d (anL (id : Int) j) wr) (fun q _ => k + 1 - (intOf q).toNat)
  case atStart => exact ⟨0, by omega, rfl, hM0⟩
  case round =>
  obtain ⟨j, hj, rfl, hM⟩ := hrel
  clear hM0
  by_cases hlt : j < k
  · have hlt' : (j : Int) + 1 ≤ (k : Int) := by omega
    have hw9 : IntKind.i64.wrap ((j : Int) + 1 + 1) = ((j + 1 : Nat) : Int) + 1 := (IntWalk.i64_in _ (by omega)).trans (by push_cast; rfl)
    have hj9 : j < 1000 := by omega
    go_wp2_with (first
      | (go_at_call 21; ((with_reducible refine (GA.out _ _).mono ?_); rintro e w3 ⟨a, c, rfl, hE, hB, -⟩; replace hM := hM.below hB; clear hB))
      | (go_at_call 19; ((refine (GD.out _ _ _ hj9 hM _ _ hE).mono ?_); rintro e w4 ⟨rfl, hM4, -⟩; clear hM hE)))
    go_roundw
    case rel => exact ⟨j + 1, by omega, by go_num, hM4⟩
    case measure => simp [intOf]; omega
  have hOJ : j = k := by omega
  subst j
  have hge : ¬ (k : Int) + 1 ≤ (k : Int) := by omega
  go_wp2_with (first
    | (go_at_call 21; ((with_reducible refine (GA2.out _).mono ?_); rintro e w5 ⟨a, c, rfl, hE, hB, -⟩; replace hM := hM.below hB; clear hB))
    | (go_at_call 19; ((refine (GD2.out _ _ hM _ _ hE).mono ?_); rintro e w6 ⟨rfl, hM6, -⟩; clear hM hE))
    | (go_at_call 22; ((with_reducible refine (GG.out _ _ hM6).mono ?_); rintro e w7 ⟨b, off, gc, rfl, hb, hnew, hB⟩; have hA7 := bel_alloc (Below.refl w7.heap.size w7) (.cells #[.int .i64 (id : Int), .int .i64 1, .int .i64 0, .int .i64 0, .int .i64 0, .int .i64 0, .slice (some ⟨b, off, none⟩) 1 gc] 31); have hg := World.alloc_heap_new w7 (.cells #[.int .i64 (id : Int), .int .i64 1, .int .i64 0, .int .i64 0, .int .i64 0, .int .i64 0, .slice (some ⟨b, off, none⟩) 1 gc] 31); have hM8 := (hM6.below hB).below hA7; have hb8 := Nat.lt_of_lt_of_le hb hA7.size; have hnew8 := (hA7.cell (p := ⟨b, off + 2, none⟩) hb).trans hnew; clear hM6 hB hA7 hb hnew))
    | (go_at_call 19; ((with_reducible refine (GD3.out _ _ _ (World.size_alloc _ _).symm hM8).mono ?_); rintro e w9 ⟨rfl, hM9, hF⟩; have hg9 := hF.get hg (k9 hM8 hg); have hnew9 := hF.cell hnew8 (k9b hM8 hnew8); have hb9 := Nat.lt_of_lt_of_le hb8 hF.size; clear hM8 hg hnew8 hb8 hF))
    | (go_at_call 22; ((with_reducible refine (GG.out _ _ hM9).mono ?_); rintro e w10 ⟨b2, off2, gc2, rfl, -, -, hB⟩; have hA10 := bel_alloc (Below.refl w10.heap.size w10) (.cells #[.int .i64 (id : Int), .int .i64 1, .int .i64 0, .int .i64 0, .int .i64 0, .int .i64 0, .slice (some ⟨b2, off2, none⟩) 1 gc2] 31); have hg10 := World.alloc_heap_new w10 (.cells #[.int .i64 (id : Int), .int .i64 1, .int .i64 0, .int .i64 0, .int .i64 0, .int .i64 0, .slice (some ⟨b2, off2, none⟩) 1 gc2] 31); have hMz := (hM9.below hB).below hA10; have hg11 := (hA10.block _ (Nat.lt_of_lt_of_le (heap_lt hg9) hB.size)).trans ((hB.block _ (heap_lt hg9)).trans hg9); have hnew11 := (hA10.cell (p := ⟨b, off + 2, none⟩) (Nat.lt_of_lt_of_le hb9 hB.size)).trans ((hB.cell (p := ⟨b, off + 2, none⟩) hb9).trans hnew9); obtain ⟨x0, x1, x2, x3, x4, x5, x6, -⟩ := cells7 hg11; obtain ⟨y0, y1, y2, y3, y4, y5, y6, -⟩ := cells7 hg10; clear hM9 hB hA10 hg10 hg9 hnew9 hg11)))
  go_ret
  exact ⟨by simp, hMz.bel⟩

set_option maxRecDepth 100000 in
theorem lifted (os : Os) (started : os.Started) (H : Type) (enc : TypeId × Value → H) :
    ReturnsInHanded {} Tryz.checked os 6 .any (Rows.manyAnewSpec.pre6 enc Tryz.prog Tryz.f6 Rows.manyAnewRow.domain false) (Rows.manyAnewSpec.post enc Tryz.prog Tryz.f6 false true false false) := by
  refine returnsInHanded_of_change (C := Tryz.checked) Tryz.own started (by kernel_rfl) Tryz.func6
    (ChangeSpec.witness6 (enc := enc) (C := Tryz.checked) false ⟨#[], #[.int .u8 0, .int .u8 0], []⟩ 8 (by kernel_rfl) (by kernel_rfl) (by kernel_rfl) (by kernel_rfl)) ?_
  intro W base args ds gs before hval hW _ _
  refine law_contract (T := 4) (n := 2) Tryz.laid Tryz.underlying4 rfl rfl ⟨rfl, fun H ds h => by match ds, h with | [_, _], _ => rfl⟩ (of_all (by kernel_rfl)) hW ?_
  intro ps hA
  rw [Tryz.params6] at hA hval
  obtain ⟨v0, vs0, d0, ds0, p0, q0, hargs, rfl, rfl, h0, r0⟩ := trodAll_cons hA
  obtain ⟨v1, vs1, d1, ds1, p1, q1, rfl, rfl, rfl, h1, r1⟩ := trodAll_cons r0
  obtain ⟨rfl, rfl, rfl⟩ := trodAll_nil r1
  obtain rfl : args = #[v0, v1] := by cases args; simp_all
  obtain ⟨a0, rfl, rfl, rfl, w0⟩ := open_int Tryz.underlying5 (hval 0 5 v0 rfl rfl) h0
  obtain ⟨a1, rfl, rfl, rfl, w1⟩ := open_int Tryz.underlying5 (hval 1 5 v1 rfl rfl) h1
  obtain ⟨n0, rfl, b0⟩ := nat_of_u8 w0
  obtain ⟨n1, rfl, b1⟩ := nat_of_u8 w1
  exact walk n0 b0 n1 b1 W

theorem holds : Rows.ManyAnewSaid :=
  OpenClaim.holds_of_wide 6 Tryz.f6 rfl rfl rfl rfl rfl rfl rfl ⟨rfl, rfl, rfl, rfl, rfl⟩ rfl rfl rfl rfl rfl (by kernel_rfl) Tryz.func6 (by kernel_rfl)
    (of_decide_eq_true (by kernel_rfl)) (by unfold Func.isWrapper; first | (rw [if_pos (by decide +kernel)]; kernel_rfl) | (rw [if_neg (by decide +kernel)]; exact ⟨rfl, rfl⟩))
    (fun os started H enc _ => lifted os started H enc)
end Go.Proofs.YtmmhghoapejaeaaGreat.manyAnew
