/- Law CodeBack: for every input the call answers true; its arguments read as they did. No condition. -/
import Derived.Test.YtcchbpjkejklaaaLaw
import Derived.Test.YtcchbpjkejklaaaKnown1
import Derived.Test.YtcchbpjkejklaaaCodeMath
namespace Go.Proofs.Ytcchbpjkejklaaa.codeBack
open Go.ChangeShapes Go.WideShapes Go.ChangeAt Go.RowKit Go.Shelf
open Go.ChangeMaps (open_string shut_string)
set_option linter.unusedVariables false
attribute [local go_sem] Oper.semAt_some wide_fn wide_round_fn


theorem get_put (q : Nat) (t : ByteArray) (hq : q < 9223372036854775808) (hm : (⟨(sevL q).toArray⟩ ++ t : ByteArray).size < 9223372036854775808) (w : World) :
    Gives Try.prog 16 #[.string (⟨(sevL q).toArray⟩ ++ t)] w (.tuple #[.int .i64 q, .int .i64 (sevL q).length, .int .i64 0]) := by
  have := get_any (⟨(sevL q).toArray⟩ ++ t) hm w
  rwa [show getL (⟨(sevL q).toArray⟩ ++ t : ByteArray).data.toList = (q, (sevL q).length, 0) from by rw [ba_toList]; exact getL_sevL q _ hq] at this

set_option maxRecDepth 100000 in
set_option maxHeartbeats 2000000 in
theorem walk (n : Int) (hn : -9223372036854775808 ≤ n ∧ n < 9223372036854775808) (u : Nat) (hu : u < 4294967296) (s : ByteArray) (hs : s.size ≤ maxLen) (t : ByteArray) (ht : t.size ≤ maxLen) (cut : Nat) (hcut : cut < 256) (w : World) :
    Calls Try.prog 4 #[.int .i64 n, .int .u32 u, .string s, .string t, .int .u8 cut] w fun e w' => e = .returned (.bool true) ∧ Below w.heap.size w w' := by
  unfold maxLen at hs ht
  by_cases hbig : s.size ≤ 200 ∧ t.size ≤ 50
  · obtain ⟨hs2, ht2⟩ := hbig
    have key : ∀ q : Nat, q < 9223372036854775808 → n.toNat = q → (n = (q : Int) ∨ n < 0 ∧ q = 0) →
        Calls Try.prog 4 #[.int .i64 n, .int .u32 u, .string s, .string t, .int .u8 cut] w fun e w' => e = .returned (.bool true) ∧ Below w.heap.size w w' := by
      intro q hq2 hq hnq
      have hl := sevL_len q
      have hz3 : (⟨(eigL u).toArray⟩ : ByteArray).size = 4 := rfl
      have hl2 := sevL_len s.size
      have P1 := Lib.hid (show ∀ w, Gives Try.prog 22 #[.int .i64 n] w (.string ⟨(sevL q).toArray⟩) from fun w => by have := put_any n hn.2 w; rwa [hq] at this)
      clear hq
      have hpos := sevL_pos q
      have hls : (⟨(sevL q).toArray⟩ ++ t : ByteArray).size < 9223372036854775808 := by rw [ByteArray.size_append]; have : (⟨(sevL q).toArray⟩ : ByteArray).size = (sevL q).length := rfl; omega
      have hz2 : (⟨(sevL s.size).toArray⟩ : ByteArray).size = (sevL s.size).length := rfl
      have hls2 : (⟨(sevL s.size).toArray⟩ ++ s ++ t : ByteArray).size < 9223372036854775808 := by rw [ByteArray.size_append, ByteArray.size_append]; omega
      have hls3 : (⟨(sevL s.size).toArray⟩ ++ s : ByteArray).size = (sevL s.size).length + s.size := by rw [ByteArray.size_append]; rfl
      have hls4 : (⟨(eigL u).toArray⟩ ++ t : ByteArray).size = 4 + t.size := by rw [ByteArray.size_append]; rfl
      have G1 := Lib.hid (get_put q t (by omega) hls)
      have hcl : cut % (sevL q).length < (sevL q).length := Nat.mod_lt _ hpos
      have G2 := Lib.hid (get_at ((⟨(sevL q).toArray⟩ : ByteArray).extract 0 (cut % (sevL q).length)) 0 0 10 (by rw [ByteArray.size_extract]; have : (⟨(sevL q).toArray⟩ : ByteArray).size = (sevL q).length := rfl; omega)
        (by rw [show ((⟨(sevL q).toArray⟩ : ByteArray).extract 0 (cut % (sevL q).length)).data.toList = (sevL q).take (cut % (sevL q).length) from by simp]; exact getL_short q _ hq2 hcl))
      have T1 := Lib.hid (texts_at (⟨(sevL s.size).toArray⟩ ++ s ++ t) s.size s _ _ hls2 (textsB_text s t (by omega)))
      have F1 := Lib.hid (fix_at (⟨(eigL u).toArray⟩ ++ t) u (by omega) (by omega) (by rw [ba_toList, List.take_append_of_le_length (by simp [eigL]), List.take_of_length_le (by simp [eigL])]; exact leN_eigL u hu))
      obtain ⟨T, hT⟩ : ∃ T, T = textsB (⟨(sevL s.size).toArray⟩ ++ s ++ t) ((s.size : Int) - 1) := ⟨_, rfl⟩
      have T2 := Lib.hid (texts_at (⟨(sevL s.size).toArray⟩ ++ s ++ t) ((s.size : Int) - 1) T.1 T.2.1 T.2.2 hls2 hT.symm)
      have HT := Lib.hid hT
      clear hls hls2 hT
      have hz1 : (⟨(sevL q).toArray⟩ : ByteArray).size = (sevL q).length := rfl
      generalize sevL q = L at *
      have hi1 : (L.length : Int) ≤ 9 := by omega
      have hi2 : (0 : Int) < L.length := by omega
      have hi3 : ((L.length : Int) == 0) = false := beq_eq_false_iff_ne.2 (by omega)
      have hi4 : 0 ≤ (cut : Int) % L.length := Int.emod_nonneg _ (by omega)
      have hi5 : (cut : Int) % L.length ≤ L.length := Int.le_of_lt (Int.emod_lt_of_pos (cut : Int) hi2)
      have hmx : (if 0 < q then (q : Int) else 0) = (q : Int) := by split <;> omega
      by_cases hs0 : s.size = 0
      · have T2v := HT.out
        rw [textsB_most s t _ (by omega) (by omega)] at T2v
        rw [T2v] at T2
        have HS0 := Lib.hid hs0
        clear HT T2v hs0
        rcases hnq with rfl | ⟨hn0, rfl⟩
        · go_enter Try.func4, Try.ntmps4
          go_wp2_with (first
        | (go_at_call 15; refine (code_known _).mono ?_; rintro e w1 ⟨rfl, hB1⟩)
        | (go_at_call 22; refine (P1.out _).mono ?_; rintro e w2 ⟨rfl, hB2⟩)
        | (go_at_call 24; refine (text_any s (by omega) _).mono ?_; rintro e w4 ⟨rfl, hB4⟩)
        | (go_at_call 26; refine (fixed_any u hu _).mono ?_; rintro e w5 ⟨rfl, hB5⟩)
        | (go_at_call 16; ((with_reducible refine (G1.out _).mono ?_); rintro e w3 ⟨rfl, hB3⟩))
        | (go_at_call 16; ((with_reducible refine (G2.out _).mono ?_); rintro e w8 ⟨rfl, hB8⟩))
        | (go_at_call 18; ((with_reducible refine (T1.out _).mono ?_); rintro e w6 ⟨rfl, hB6⟩))
        | (go_at_call 18; ((with_reducible refine (T2.out _).mono ?_); rintro e w9 ⟨rfl, hB9⟩))
        | (go_at_call 20; ((with_reducible refine (F1.out _).mono ?_); rintro e w7 ⟨rfl, hB7⟩)))
          go_ret
          exact ⟨by simp [HS0.out], by repeat (first | assumption | refine bel2 ?_ (by assumption))⟩
        · go_enter Try.func4, Try.ntmps4
          go_wp2_with (first
        | (go_at_call 15; refine (code_known _).mono ?_; rintro e w1 ⟨rfl, hB1⟩)
        | (go_at_call 22; refine (P1.out _).mono ?_; rintro e w2 ⟨rfl, hB2⟩)
        | (go_at_call 24; refine (text_any s (by omega) _).mono ?_; rintro e w4 ⟨rfl, hB4⟩)
        | (go_at_call 26; refine (fixed_any u hu _).mono ?_; rintro e w5 ⟨rfl, hB5⟩)
        | (go_at_call 16; ((with_reducible refine (G1.out _).mono ?_); rintro e w3 ⟨rfl, hB3⟩))
        | (go_at_call 16; ((with_reducible refine (G2.out _).mono ?_); rintro e w8 ⟨rfl, hB8⟩))
        | (go_at_call 18; ((with_reducible refine (T1.out _).mono ?_); rintro e w6 ⟨rfl, hB6⟩))
        | (go_at_call 18; ((with_reducible refine (T2.out _).mono ?_); rintro e w9 ⟨rfl, hB9⟩))
        | (go_at_call 20; ((with_reducible refine (F1.out _).mono ?_); rintro e w7 ⟨rfl, hB7⟩)))
          go_ret
          exact ⟨by simp [HS0.out], by repeat (first | assumption | refine bel2 ?_ (by assumption))⟩
      · have T2v := HT.out
        rw [textsB_large s t _ (by omega) (by omega)] at T2v
        rw [T2v] at T2
        clear HT T2v
        have hs0' : 0 < s.size := by omega
        rcases hnq with rfl | ⟨hn0, rfl⟩
        · go_enter Try.func4, Try.ntmps4
          go_wp2_with (first
        | (go_at_call 15; refine (code_known _).mono ?_; rintro e w1 ⟨rfl, hB1⟩)
        | (go_at_call 22; refine (P1.out _).mono ?_; rintro e w2 ⟨rfl, hB2⟩)
        | (go_at_call 24; refine (text_any s (by omega) _).mono ?_; rintro e w4 ⟨rfl, hB4⟩)
        | (go_at_call 26; refine (fixed_any u hu _).mono ?_; rintro e w5 ⟨rfl, hB5⟩)
        | (go_at_call 16; ((with_reducible refine (G1.out _).mono ?_); rintro e w3 ⟨rfl, hB3⟩))
        | (go_at_call 16; ((with_reducible refine (G2.out _).mono ?_); rintro e w8 ⟨rfl, hB8⟩))
        | (go_at_call 18; ((with_reducible refine (T1.out _).mono ?_); rintro e w6 ⟨rfl, hB6⟩))
        | (go_at_call 18; ((with_reducible refine (T2.out _).mono ?_); rintro e w9 ⟨rfl, hB9⟩))
        | (go_at_call 20; ((with_reducible refine (F1.out _).mono ?_); rintro e w7 ⟨rfl, hB7⟩)))
          go_ret
          exact ⟨rfl, by repeat (first | assumption | refine bel2 ?_ (by assumption))⟩
        · go_enter Try.func4, Try.ntmps4
          go_wp2_with (first
        | (go_at_call 15; refine (code_known _).mono ?_; rintro e w1 ⟨rfl, hB1⟩)
        | (go_at_call 22; refine (P1.out _).mono ?_; rintro e w2 ⟨rfl, hB2⟩)
        | (go_at_call 24; refine (text_any s (by omega) _).mono ?_; rintro e w4 ⟨rfl, hB4⟩)
        | (go_at_call 26; refine (fixed_any u hu _).mono ?_; rintro e w5 ⟨rfl, hB5⟩)
        | (go_at_call 16; ((with_reducible refine (G1.out _).mono ?_); rintro e w3 ⟨rfl, hB3⟩))
        | (go_at_call 16; ((with_reducible refine (G2.out _).mono ?_); rintro e w8 ⟨rfl, hB8⟩))
        | (go_at_call 18; ((with_reducible refine (T1.out _).mono ?_); rintro e w6 ⟨rfl, hB6⟩))
        | (go_at_call 18; ((with_reducible refine (T2.out _).mono ?_); rintro e w9 ⟨rfl, hB9⟩))
        | (go_at_call 20; ((with_reducible refine (F1.out _).mono ?_); rintro e w7 ⟨rfl, hB7⟩)))
          go_ret
          exact ⟨rfl, by repeat (first | assumption | refine bel2 ?_ (by assumption))⟩
    exact key n.toNat (by omega) rfl (by omega)
  · by_cases h1 : s.size ≤ 200
    · have h2 : 50 < t.size := by omega
      go_enter Try.func4, Try.ntmps4
      go_wp2_with (go_at_call 15; refine (code_known _).mono ?_; rintro e w1 ⟨rfl, hB1⟩)
      go_ret
      exact ⟨rfl, hB1⟩
    · have h2 : 200 < s.size := by omega
      go_enter Try.func4, Try.ntmps4
      go_wp2_with (go_at_call 15; refine (code_known _).mono ?_; rintro e w1 ⟨rfl, hB1⟩)
      go_ret
      exact ⟨rfl, hB1⟩

set_option maxRecDepth 100000 in
theorem lifted (os : Os) (started : os.Started) (H : Type) (enc : TypeId × Value → H) :
    ReturnsInHanded {} Try.checked os 4 .any (Rows.codeBackSpec.pre6 enc Try.prog Try.f4 Rows.codeBackRow.domain false) (Rows.codeBackSpec.post enc Try.prog Try.f4 false true false false) := by
  refine returnsInHanded_of_change (C := Try.checked) Try.own started (by kernel_rfl) Try.func4
    (ChangeSpec.witness6 (enc := enc) (C := Try.checked) false ⟨#[], #[.int .i64 0, .int .u32 0, .string ⟨#[]⟩, .string ⟨#[]⟩, .int .u8 0], []⟩ 8 (by kernel_rfl) (by kernel_rfl) (by kernel_rfl) (by kernel_rfl)) ?_
  intro W base args ds gs before hval hW _ _
  refine law_contract (T := 4) (n := 5) Try.laid Try.underlying4 rfl rfl ⟨rfl, fun H ds h => by match ds, h with | [_, _, _, _, _], _ => rfl⟩ (of_all (by kernel_rfl)) hW ?_
  intro ps hA
  rw [Try.params4] at hA hval
  obtain ⟨v0, vs0, d0, ds0, p0, q0, hargs, rfl, rfl, h0, r0⟩ := trodAll_cons hA
  obtain ⟨v1, vs1, d1, ds1, p1, q1, rfl, rfl, rfl, h1, r1⟩ := trodAll_cons r0
  obtain ⟨v2, vs2, d2, ds2, p2, q2, rfl, rfl, rfl, h2, r2⟩ := trodAll_cons r1
  obtain ⟨v3, vs3, d3, ds3, p3, q3, rfl, rfl, rfl, h3, r3⟩ := trodAll_cons r2
  obtain ⟨v4, vs4, d4, ds4, p4, q4, rfl, rfl, rfl, h4, r4⟩ := trodAll_cons r3
  obtain ⟨rfl, rfl, rfl⟩ := trodAll_nil r4
  obtain rfl : args = #[v0, v1, v2, v3, v4] := by cases args; simp_all
  obtain ⟨a0, rfl, rfl, rfl, w0⟩ := open_int Try.underlying3 (hval 0 3 v0 rfl rfl) h0
  obtain ⟨a1, rfl, rfl, rfl, w1⟩ := open_int Try.underlying22 (hval 1 22 v1 rfl rfl) h1
  obtain ⟨a2, rfl, rfl, rfl, w2⟩ := open_string Try.underlying9 (hval 2 9 v2 rfl rfl) h2
  obtain ⟨a3, rfl, rfl, rfl, w3⟩ := open_string Try.underlying9 (hval 3 9 v3 rfl rfl) h3
  obtain ⟨a4, rfl, rfl, rfl, w4⟩ := open_int Try.underlying5 (hval 4 5 v4 rfl rfl) h4
  obtain ⟨n1, rfl, b1⟩ := nat_of_u32 w1
  obtain ⟨n4, rfl, b4⟩ := nat_of_u8 w4
  exact walk a0 (bounds_i64 w0) n1 b1 a2 w2 a3 w3 n4 b4 W

theorem holds : Rows.CodeBackSaid :=
  OpenClaim.holds_of_wide 4 Try.f4 rfl rfl rfl rfl rfl rfl rfl ⟨rfl, rfl, rfl, rfl, rfl⟩ rfl rfl rfl rfl rfl (by kernel_rfl) Try.func4 (by kernel_rfl)
    (of_decide_eq_true (by kernel_rfl)) (by unfold Func.isWrapper; first | (rw [if_pos (by decide +kernel)]; kernel_rfl) | (rw [if_neg (by decide +kernel)]; exact ⟨rfl, rfl⟩))
    (fun os started H enc _ => lifted os started H enc)
end Go.Proofs.Ytcchbpjkejklaaa.codeBack
