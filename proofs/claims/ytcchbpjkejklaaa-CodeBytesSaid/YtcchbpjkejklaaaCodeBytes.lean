/- Law CodeBytes: for every input the call answers true; its arguments read as they did. No condition. -/
import Derived.Test.YtcchbpjkejklaaaLaw
import Derived.Test.YtcchbpjkejklaaaKnown1
import Derived.Test.YtcchbpjkejklaaaCodeMath
namespace Go.Proofs.Ytcchbpjkejklaaa.codeBytes
open Go.ChangeShapes Go.WideShapes Go.ChangeAt Go.RowKit Go.Shelf
open Go.ChangeMaps (open_string shut_string)
set_option linter.unusedVariables false
attribute [local go_sem] Oper.semAt_some wide_fn wide_round_fn


theorem four_bytes (a b c d : Nat) (ha : a < 256) (hb : b < 256) (hc : c < 256) (hd : d < 256) :
    [Value.int .u8 a, .int .u8 b, .int .u8 c, .int .u8 d] = [UInt8.ofNat a, UInt8.ofNat b, UInt8.ofNat c, UInt8.ofNat d].map vb := by
  simp [vb]; omega
theorem le_four (a b c d : Nat) (ha : a < 256) (hb : b < 256) (hc : c < 256) (hd : d < 256) (t : ByteArray) :
    leN ((⟨#[UInt8.ofNat a, UInt8.ofNat b, UInt8.ofNat c, UInt8.ofNat d]⟩ ++ t : ByteArray).data.toList.take 4) = a + 256 * (b + 256 * (c + 256 * d)) := by
  rw [ba_toList, List.take_append_of_le_length (by simp), List.take_of_length_le (by simp)]
  simp only [leN, UInt8.toNat_ofNat']
  omega
theorem eig_four (a b c d : Nat) (ha : a < 256) (hb : b < 256) (hc : c < 256) (hd : d < 256) : eigL (a + 256 * (b + 256 * (c + 256 * d))) = [UInt8.ofNat a, UInt8.ofNat b, UInt8.ofNat c, UInt8.ofNat d] := by
  unfold eigL
  simp only [List.cons.injEq, and_true]
  refine ⟨?_, ?_, ?_, ?_⟩
  all_goals apply UInt8.toNat_inj.1
  all_goals simp only [UInt8.toNat_ofNat']
  all_goals omega

set_option maxRecDepth 100000 in
set_option maxHeartbeats 2000000 in
theorem walk (a : Nat) (ha : a < 256) (b : Nat) (hb : b < 256) (c : Nat) (hc : c < 256) (d : Nat) (hd : d < 256) (t : ByteArray) (ht : t.size ≤ maxLen) (w : World) :
    Calls Try.prog 8 #[.int .u8 a, .int .u8 b, .int .u8 c, .int .u8 d, .string t] w fun e w' => e = .returned (.bool true) ∧ Below w.heap.size w w' := by
  unfold maxLen at ht
  by_cases hbig : 100 < t.size
  · go_enter Try.func8, Try.ntmps8
    go_wp2_with (go_at_call 15; refine (code_known _).mono ?_; rintro e w1 ⟨rfl, hB1⟩)
    go_ret
    exact ⟨rfl, hB1⟩
  · have ht2 : t.size ≤ 100 := by omega
    have hst := fun w => run_string_new (P := Try.prog) w (src := 46) (dst := 9) Try.underlying46 Try.underlying5 Try.underlying9 [UInt8.ofNat a, UInt8.ofNat b, UInt8.ofNat c, UInt8.ofNat d] 4
    rw [← four_bytes a b c d ha hb hc hd, show [UInt8.ofNat a, UInt8.ofNat b, UInt8.ofNat c, UInt8.ofNat d].length = 4 from rfl] at hst
    have hz : (⟨#[UInt8.ofNat a, UInt8.ofNat b, UInt8.ofNat c, UInt8.ofNat d]⟩ : ByteArray).size = 4 := rfl
    have hz2 : (⟨#[UInt8.ofNat a, UInt8.ofNat b, UInt8.ofNat c, UInt8.ofNat d]⟩ ++ t : ByteArray).size = 4 + t.size := by rw [ByteArray.size_append]; rfl
    obtain ⟨n, hn⟩ : ∃ n, n = a + 256 * (b + 256 * (c + 256 * d)) := ⟨_, rfl⟩
    have hn2 : n < 4294967296 := by omega
    have F1 := Lib.hid (fix_at (⟨#[UInt8.ofNat a, UInt8.ofNat b, UInt8.ofNat c, UInt8.ofNat d]⟩ ++ t) n (by omega) (by omega) (by rw [le_four a b c d ha hb hc hd, hn]))
    have D1 := Lib.hid (show ∀ w, Gives Try.prog 26 #[.int .u32 n] w (.string ⟨#[UInt8.ofNat a, UInt8.ofNat b, UInt8.ofNat c, UInt8.ofNat d]⟩) from fun w => by
      have := fixed_any n hn2 w
      rwa [show eigL n = [UInt8.ofNat a, UInt8.ofNat b, UInt8.ofNat c, UInt8.ofNat d] from by rw [hn]; exact eig_four a b c d ha hb hc hd] at this)
    have hsum : ((n : Int) == (a : Int) + 256 * ((b : Int) + 256 * ((c : Int) + 256 * (d : Int)))) = true := by simp; omega
    have hsum2 : (n : Int) = (a : Int) + 256 * ((b : Int) + 256 * ((c : Int) + 256 * (d : Int))) := by omega
    have HS := Lib.hid hsum2
    clear hn hsum2
    go_enter Try.func8, Try.ntmps8
    go_wp2_with (first
        | (go_at_call 15; refine (code_known _).mono ?_; rintro e w1 ⟨rfl, hB1⟩)
        | (go_at_call 20; refine (F1.out _).mono ?_; rintro e w2 ⟨rfl, hB2⟩)
        | (go_at_call 26; refine (D1.out _).mono ?_; rintro e w3 ⟨rfl, hB3⟩))
    all_goals go_ret
    all_goals exact ⟨by first | rfl | exact absurd HS.out ‹_›, by repeat (first | assumption | refine bel_alloc ?_ _ | refine bel2 ?_ (by assumption))⟩

set_option maxRecDepth 100000 in
theorem lifted (os : Os) (started : os.Started) (H : Type) (enc : TypeId × Value → H) :
    ReturnsInHanded {} Try.checked os 8 .any (Rows.codeBytesSpec.pre6 enc Try.prog Try.f8 Rows.codeBytesRow.domain false) (Rows.codeBytesSpec.post enc Try.prog Try.f8 false true false false) := by
  refine returnsInHanded_of_change (C := Try.checked) Try.own started (by kernel_rfl) Try.func8
    (ChangeSpec.witness6 (enc := enc) (C := Try.checked) false ⟨#[], #[.int .u8 0, .int .u8 0, .int .u8 0, .int .u8 0, .string ⟨#[]⟩], []⟩ 8 (by kernel_rfl) (by kernel_rfl) (by kernel_rfl) (by kernel_rfl)) ?_
  intro W base args ds gs before hval hW _ _
  refine law_contract (T := 4) (n := 5) Try.laid Try.underlying4 rfl rfl ⟨rfl, fun H ds h => by match ds, h with | [_, _, _, _, _], _ => rfl⟩ (of_all (by kernel_rfl)) hW ?_
  intro ps hA
  rw [Try.params8] at hA hval
  obtain ⟨v0, vs0, d0, ds0, p0, q0, hargs, rfl, rfl, h0, r0⟩ := trodAll_cons hA
  obtain ⟨v1, vs1, d1, ds1, p1, q1, rfl, rfl, rfl, h1, r1⟩ := trodAll_cons r0
  obtain ⟨v2, vs2, d2, ds2, p2, q2, rfl, rfl, rfl, h2, r2⟩ := trodAll_cons r1
  obtain ⟨v3, vs3, d3, ds3, p3, q3, rfl, rfl, rfl, h3, r3⟩ := trodAll_cons r2
  obtain ⟨v4, vs4, d4, ds4, p4, q4, rfl, rfl, rfl, h4, r4⟩ := trodAll_cons r3
  obtain ⟨rfl, rfl, rfl⟩ := trodAll_nil r4
  obtain rfl : args = #[v0, v1, v2, v3, v4] := by cases args; simp_all
  obtain ⟨a0, rfl, rfl, rfl, w0⟩ := open_int Try.underlying5 (hval 0 5 v0 rfl rfl) h0
  obtain ⟨a1, rfl, rfl, rfl, w1⟩ := open_int Try.underlying5 (hval 1 5 v1 rfl rfl) h1
  obtain ⟨a2, rfl, rfl, rfl, w2⟩ := open_int Try.underlying5 (hval 2 5 v2 rfl rfl) h2
  obtain ⟨a3, rfl, rfl, rfl, w3⟩ := open_int Try.underlying5 (hval 3 5 v3 rfl rfl) h3
  obtain ⟨a4, rfl, rfl, rfl, w4⟩ := open_string Try.underlying9 (hval 4 9 v4 rfl rfl) h4
  obtain ⟨n0, rfl, b0⟩ := nat_of_u8 w0
  obtain ⟨n1, rfl, b1⟩ := nat_of_u8 w1
  obtain ⟨n2, rfl, b2⟩ := nat_of_u8 w2
  obtain ⟨n3, rfl, b3⟩ := nat_of_u8 w3
  exact walk n0 b0 n1 b1 n2 b2 n3 b3 a4 w4 W

theorem holds : Rows.CodeBytesSaid :=
  OpenClaim.holds_of_wide 8 Try.f8 rfl rfl rfl rfl rfl rfl rfl ⟨rfl, rfl, rfl, rfl, rfl⟩ rfl rfl rfl rfl rfl (by kernel_rfl) Try.func8 (by kernel_rfl)
    (of_decide_eq_true (by kernel_rfl)) (by unfold Func.isWrapper; first | (rw [if_pos (by decide +kernel)]; kernel_rfl) | (rw [if_neg (by decide +kernel)]; exact ⟨rfl, rfl⟩))
    (fun os started H enc _ => lifted os started H enc)
end Go.Proofs.Ytcchbpjkejklaaa.codeBytes
