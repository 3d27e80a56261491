/- Law PartReads: for every input the call answers true; its arguments read as they did. No condition. -/
import Derived.Test.YtpogklceaoiacaaLaw
import Derived.Test.YtpogklceaoiacaaKnown4
import Derived.Test.YtpogklceaoiacaaRefRead
import Derived.Test.YtpogklceaoiacaaRefSame
namespace Go.Proofs.Ytpogklceaoiacaa.partReads
open Go.ChangeShapes Go.WideShapes Go.ChangeAt Go.RowKit Go.Shelf
open Go.ChangeMaps (open_string shut_string)
set_option linter.unusedVariables false
attribute [local go_sem] Oper.semAt_some wide_fn wide_round_fn


set_option maxRecDepth 100000 in
set_option maxHeartbeats 4000000 in
theorem reads_short (w : World) (s : ByteArray) (hz : s.size ≤ 600) : Calls Try.prog 4 #[.string s] w fun e w' => e = .returned (.bool true) ∧ Below w.heap.size w w' := by
  have GK := Lib.hid part_known
  obtain ⟨r, n, x, hr⟩ : ∃ r n x, readM s = (r, n, x) := ⟨_, _, _, rfl⟩
  have G1 := Lib.hid (fun W => partRead_at s r n x (by omega) hr W)
  have G2 := Lib.hid (fun W => (show Calls Try.prog 26 #[.string s] W (fun en w' => ∃ a cap, en = .returned (.tuple #[(r.part a cap).val, .int .i64 n, .int .i64 x]) ∧ HasE w' (r.part a cap) r.l ∧ Below W.heap.size W w') from by have := refReadPart_any s (by omega) W; unfold ReadPost at this; rwa [hr] at this))
  obtain ⟨g, k, l, ht, hv, hc, i, t, m, h⟩ := r
  have HS := Lib.hid (fun (W : World) (a c) (b d) (h1 : HasE W (⟨g, k, a, l.length, c, ht, hv, hc, i, t, m, h⟩ : PartC) l) (h2 : HasE W (⟨g, k, b, l.length, d, ht, hv, hc, i, t, m, h⟩ : PartC) l) => (show Gives Try.prog 24 #[(⟨g, k, a, l.length, c, ht, hv, hc, i, t, m, h⟩ : PartC).val, (⟨g, k, b, l.length, d, ht, hv, hc, i, t, m, h⟩ : PartC).val] W (.bool true) from by have := refSame_any (⟨g, k, a, l.length, c, ht, hv, hc, i, t, m, h⟩ : PartC) (⟨g, k, b, l.length, d, ht, hv, hc, i, t, m, h⟩ : PartC) l l W h1 h2; rwa [show sameB (⟨g, k, a, l.length, c, ht, hv, hc, i, t, m, h⟩ : PartC) (⟨g, k, b, l.length, d, ht, hv, hc, i, t, m, h⟩ : PartC) l l = true from sameB_iff.2 ⟨rfl, rfl, rfl, ⟨rfl, rfl, rfl⟩, rfl, rfl, rfl, rfl⟩] at this))
  dsimp only [ReadC.part, PartC.val] at *
  clear hr
  go_enter Try.func4, Try.ntmps4
  go_wp2_with (first
    | (go_at_call 15; ((with_reducible refine (GK.out _).mono ?_); rintro e w1 ⟨rfl, hB1⟩))
    | (go_at_call 25; ((with_reducible refine (G1.out _).mono ?_); rintro e w2 ⟨a, c, rfl, hE, hB⟩; have hB2 := bel2 hB1 hB; clear hB; have hA := bel_alloc (Below.refl w2.heap.size w2) (.cells #[.int .i64 g, .int .i64 k, .slice a l.length c, .int .i64 ht, .int .i64 hv, .int .i64 hc, .int .i64 i, .int .i64 t, .bool m, .bool h] 26); have hB2a := bel2 hB2 hA; have hE2 := hE.below hA; have hp2 := World.alloc_heap_new w2 (.cells #[.int .i64 g, .int .i64 k, .slice a l.length c, .int .i64 ht, .int .i64 hv, .int .i64 hc, .int .i64 i, .int .i64 t, .bool m, .bool h] 26); clear hA hE))
    | (go_at_call 26; ((with_reducible refine (G2.out _).mono ?_); rintro e w3 ⟨b, d, rfl, hE, hB⟩; have hB3 := bel2 hB2a hB; have hE3 := hE2.below hB; have hp3 := (hB.block _ (heap_ltP hp2)).trans hp2; have hA := bel_alloc (Below.refl w3.heap.size w3) (.cells #[.int .i64 g, .int .i64 k, .slice b l.length d, .int .i64 ht, .int .i64 hv, .int .i64 hc, .int .i64 i, .int .i64 t, .bool m, .bool h] 26); have hB3a := bel2 hB3 hA; have hE3a := hE3.below hA; have hF3a := hE.below hA; have hp3a := (hA.block _ (heap_ltP hp3)).trans hp3; have hq3 := World.alloc_heap_new w3 (.cells #[.int .i64 g, .int .i64 k, .slice b l.length d, .int .i64 ht, .int .i64 hv, .int .i64 hc, .int .i64 i, .int .i64 t, .bool m, .bool h] 26); obtain ⟨y0, y1, y2, y3, y4, y5, y6, y7, y8, y9⟩ := arr10 hp3a; obtain ⟨z0, z1, z2, z3, z4, z5, z6, z7, z8, z9⟩ := arr10 hq3; clear hA hE hB))
    | (go_at_call 24; ((with_reducible refine (HS.out _ _ _ _ _ hE3a hF3a).mono ?_); rintro e w4 ⟨rfl, hB4⟩)))
  go_ret
  exact ⟨by simp, bel2 hB3a hB4⟩

set_option maxRecDepth 100000 in
theorem walk (s : ByteArray) (hs : s.size ≤ maxLen) (w : World) : Calls Try.prog 4 #[.string s] w fun e w' => e = .returned (.bool true) ∧ Below w.heap.size w w' := by
  by_cases hz : s.size ≤ 600
  · exact reads_short w s hz
  · have GK := Lib.hid part_known
    have hz' : 600 < s.size := by omega
    unfold maxLen at hs
    go_enter Try.func4, Try.ntmps4
    go_wp2_with (go_at_call 15; ((with_reducible refine (GK.out _).mono ?_); rintro e w1 ⟨rfl, hB1⟩))
    go_ret
    exact ⟨by simp, hB1⟩

set_option maxRecDepth 100000 in
theorem lifted (os : Os) (started : os.Started) (H : Type) (enc : TypeId × Value → H) :
    ReturnsInHanded {} Try.checked os 4 .any (Rows.partReadsSpec.pre6 enc Try.prog Try.f4 Rows.partReadsRow.domain false) (Rows.partReadsSpec.post enc Try.prog Try.f4 false true false false) := by
  refine returnsInHanded_of_change (C := Try.checked) Try.own started (by kernel_rfl) Try.func4
    (ChangeSpec.witness6 (enc := enc) (C := Try.checked) false ⟨#[], #[.string ⟨#[]⟩], []⟩ 8 (by kernel_rfl) (by kernel_rfl) (by kernel_rfl) (by kernel_rfl)) ?_
  intro W base args ds gs before hval hW _ _
  refine law_contract (T := 4) (n := 1) Try.laid Try.underlying4 rfl rfl ⟨rfl, fun H ds h => by match ds, h with | [_], _ => rfl⟩ (of_all (by kernel_rfl)) hW ?_
  intro ps hA
  rw [Try.params4] at hA hval
  obtain ⟨v0, vs0, d0, ds0, p0, q0, hargs, rfl, rfl, h0, r0⟩ := trodAll_cons hA
  obtain ⟨rfl, rfl, rfl⟩ := trodAll_nil r0
  obtain rfl : args = #[v0] := by cases args; simp_all
  obtain ⟨a0, rfl, rfl, rfl, w0⟩ := open_string Try.underlying9 (hval 0 9 v0 rfl rfl) h0
  exact walk a0 w0 W

theorem holds : Rows.PartReadsSaid :=
  OpenClaim.holds_of_wide 4 Try.f4 rfl rfl rfl rfl rfl rfl rfl ⟨rfl, rfl, rfl, rfl, rfl⟩ rfl rfl rfl rfl rfl (by kernel_rfl) Try.func4 (by kernel_rfl)
    (of_decide_eq_true (by kernel_rfl)) (by unfold Func.isWrapper; first | (rw [if_pos (by decide +kernel)]; kernel_rfl) | (rw [if_neg (by decide +kernel)]; exact ⟨rfl, rfl⟩))
    (fun os started H enc _ => lifted os started H enc)

end Go.Proofs.Ytpogklceaoiacaa.partReads
