/- Law FrameNumbers: for every input the call answers true; its arguments read as they did. No condition. -/
import Derived.Test.YtcchbpjkejklaabLaw
import Derived.Test.YtcchbpjkejklaabKnown3
namespace Go.Proofs.Ytcchbpjkejklaab.frameNumbers
open Go.ChangeShapes Go.WideShapes Go.ChangeAt Go.RowKit Go.Shelf
open Go.ChangeMaps (open_string shut_string)
set_option linter.unusedVariables false
attribute [local go_sem] Oper.semAt_some wide_fn wide_round_fn


set_option maxRecDepth 100000 in
set_option maxHeartbeats 2000000 in
theorem walk (n : Nat) (hn : n < 4294967296) (m : Nat) (hm : m < 4294967296) (t : ByteArray) (ht : t.size ≤ maxLen) (w : World) :
    Calls Try.prog 6 #[.int .u32 n, .int .u32 m, .string t] w fun e w' => e = .returned (.bool true) ∧ Below w.heap.size w w' := by
  unfold maxLen at ht
  by_cases h3 : 300 < t.size
  · go_enter Try.func6, Try.ntmps6
    go_wp2_with (go_at_call 8; refine (frame_known _).mono ?_; rintro e w1 ⟨rfl, hB1⟩)
    go_ret
    exact ⟨rfl, hB1⟩
  have h3' : t.size ≤ 300 := by omega
  clear h3
  have g1 := refFixed_any n hn
  have g2 := refFixed_any m hm
  obtain ⟨x1, hx1, hz1⟩ : ∃ x : ByteArray, x = ⟨(eigL n).toArray⟩ ∧ x.size = 4 := ⟨_, rfl, rfl⟩
  obtain ⟨x2, hx2, hz2⟩ : ∃ x : ByteArray, x = ⟨(eigL m).toArray⟩ ∧ x.size = 4 := ⟨_, rfl, rfl⟩
  rw [← hx1] at g1
  rw [← hx2] at g2
  have hL : (x1 ++ x2 ++ t).data.toList = eigL n ++ (eigL m ++ t.data.toList) := by rw [ba_toList, ba_toList, hx1, hx2]; simp only [List.append_assoc]
  have hs1 : (x1 ++ x2).size = 8 := by rw [ByteArray.size_append]; omega
  have hs2 : (x1 ++ x2 ++ t).size = 8 + t.size := by rw [ByteArray.size_append]; omega
  have w0 : wordB (x1 ++ x2 ++ t) 0 = n := wordB_of _ [] _ n 0 hn rfl hL
  have w4 : wordB (x1 ++ x2 ++ t) 4 = m := wordB_of _ (eigL n) _ m 4 hm rfl hL
  have hcn := comp_nat n hn
  have G1 := Lib.hid g1; have G2 := Lib.hid g2
  clear g1 g2 hL hx1 hx2
  generalize hS : x1 ++ x2 ++ t = S at *
  have hSs : S.size < 9223372036854775808 := by omega
  have hS8 : 8 ≤ S.size := by omega
  have HS := Lib.hid hS
  clear hS
  by_cases hbad : badN n m
  · have G3 := Lib.hid (read_at S ⟨#[]⟩ 0 4 hSs (readF_bad (by omega) (by rw [w0, w4]; exact hbad)))
    unfold badN at hbad
    clear w0 w4
    by_cases e1 : n + m = 4294967295
    · have e3 : m = 4294967295 - n := by omega
      have HE := Lib.hid e3
      have t1 : ((m : Int) != ((4294967295 - n : Nat) : Int)) = false := by rw [bne_eq_false_iff_eq]; omega
      by_cases e2 : n < 1
      · have t2 : ((n : Int) == 0) = true := by rw [beq_iff_eq]; omega
        clear e1 e3 hbad
        go_enter Try.func6, Try.ntmps6
        go_wp2_with (first
          | (go_at_call 8; refine (frame_known _).mono ?_; rintro e w1 ⟨rfl, hB1⟩)
          | (go_at_call 12; ((with_reducible refine (G1.out _).mono ?_); rintro e w2 ⟨rfl, hB2⟩))
          | (go_at_call 12; ((with_reducible refine (G2.out _).mono ?_); rintro e w3 ⟨rfl, hB3⟩))
          | (go_at_call 10; rw [HS.out]; ((with_reducible refine (G3.out _).mono ?_); rintro e w4 ⟨rfl, hB4⟩)))
        rotate_left 1
        · exact absurd (show (m : Int) = bits .xor .u32 IntKind.u32.max (n : Int) from by rw [hcn]; exact congrArg _ HE.out) (by assumption)
        go_ret
        exact ⟨rfl, by repeat (first | assumption | refine bel2 ?_ (by assumption))⟩
      · have t2 : ((n : Int) == 0) = false := by rw [beq_eq_false_iff_ne]; omega
        have t3 : 2000 < n := by omega
        clear e1 e3 hbad
        go_enter Try.func6, Try.ntmps6
        go_wp2_with (first
          | (go_at_call 8; refine (frame_known _).mono ?_; rintro e w1 ⟨rfl, hB1⟩)
          | (go_at_call 12; ((with_reducible refine (G1.out _).mono ?_); rintro e w2 ⟨rfl, hB2⟩))
          | (go_at_call 12; ((with_reducible refine (G2.out _).mono ?_); rintro e w3 ⟨rfl, hB3⟩))
          | (go_at_call 10; rw [HS.out]; ((with_reducible refine (G3.out _).mono ?_); rintro e w4 ⟨rfl, hB4⟩)))
        rotate_left 1
        · exact absurd (show (m : Int) = bits .xor .u32 IntKind.u32.max (n : Int) from by rw [hcn]; exact congrArg _ HE.out) (by assumption)
        go_ret
        exact ⟨rfl, by repeat (first | assumption | refine bel2 ?_ (by assumption))⟩
    · have t1 : ((m : Int) != ((4294967295 - n : Nat) : Int)) = true := by rw [bne_iff_ne]; omega
      clear hbad
      go_enter Try.func6, Try.ntmps6
      go_wp2_with (first
        | (go_at_call 8; refine (frame_known _).mono ?_; rintro e w1 ⟨rfl, hB1⟩)
        | (go_at_call 12; ((with_reducible refine (G1.out _).mono ?_); rintro e w2 ⟨rfl, hB2⟩))
        | (go_at_call 12; ((with_reducible refine (G2.out _).mono ?_); rintro e w3 ⟨rfl, hB3⟩))
        | (go_at_call 10; rw [HS.out]; ((with_reducible refine (G3.out _).mono ?_); rintro e w4 ⟨rfl, hB4⟩)))
      go_ret
      exact ⟨rfl, by repeat (first | assumption | refine bel2 ?_ (by assumption))⟩
  · have hnb : ¬ badN (wordB S 0) (wordB S 4) := by rw [w0, w4]; exact hbad
    unfold badN at hbad
    have e3 : m = 4294967295 - n := by omega
    have hn1 : 1 ≤ n := by omega
    have hn2 : n ≤ 2000 := by omega
    have t2 : ((n : Int) == 0) = false := by rw [beq_eq_false_iff_ne]; omega
    have t1 : ((m : Int) != ((4294967295 - n : Nat) : Int)) = false := by rw [bne_eq_false_iff_eq]; omega
    have HE := Lib.hid e3
    clear hbad e3
    by_cases hsz : t.size < n + 4
    · have G3 := Lib.hid (read_at S ⟨#[]⟩ 0 3 hSs (readF_torn2 (by omega) hnb (by rw [w0]; omega)))
      clear w0 w4 hnb
      go_enter Try.func6, Try.ntmps6
      go_wp2_with (first
        | (go_at_call 8; refine (frame_known _).mono ?_; rintro e w1 ⟨rfl, hB1⟩)
        | (go_at_call 12; ((with_reducible refine (G1.out _).mono ?_); rintro e w2 ⟨rfl, hB2⟩))
        | (go_at_call 12; ((with_reducible refine (G2.out _).mono ?_); rintro e w3 ⟨rfl, hB3⟩))
        | (go_at_call 10; rw [HS.out]; ((with_reducible refine (G3.out _).mono ?_); rintro e w4 ⟨rfl, hB4⟩)))
      rotate_left 1
      · exact absurd (show (m : Int) = bits .xor .u32 IntKind.u32.max (n : Int) from by rw [hcn]; exact congrArg _ HE.out) (by assumption)
      go_ret
      exact ⟨rfl, by repeat (first | assumption | refine bel2 ?_ (by assumption))⟩
    · by_cases hc : wordB S (8 + wordB S 0) = moreN 0 (S.extract 8 (8 + wordB S 0))
      · have g3 := read_at S _ _ 1 hSs (readF_whole (by omega) hnb (by rw [w0]; omega) hc)
        rw [w0] at g3
        generalize S.extract 8 (8 + n) = y at *
        have G3 := Lib.hid g3
        clear w0 w4 hnb hc g3
        go_enter Try.func6, Try.ntmps6
        go_wp2_with (first
          | (go_at_call 8; refine (frame_known _).mono ?_; rintro e w1 ⟨rfl, hB1⟩)
          | (go_at_call 12; ((with_reducible refine (G1.out _).mono ?_); rintro e w2 ⟨rfl, hB2⟩))
          | (go_at_call 12; ((with_reducible refine (G2.out _).mono ?_); rintro e w3 ⟨rfl, hB3⟩))
          | (go_at_call 10; rw [HS.out]; ((with_reducible refine (G3.out _).mono ?_); rintro e w4 ⟨rfl, hB4⟩)))
        rotate_left 1
        · exact absurd (show (m : Int) = bits .xor .u32 IntKind.u32.max (n : Int) from by rw [hcn]; exact congrArg _ HE.out) (by assumption)
        go_ret
        exact ⟨rfl, by repeat (first | assumption | refine bel2 ?_ (by assumption))⟩
      · have G3 := Lib.hid (read_at S ⟨#[]⟩ 0 4 hSs (readF_bad2 (by omega) hnb (by rw [w0]; omega) hc))
        clear w0 w4 hnb hc
        go_enter Try.func6, Try.ntmps6
        go_wp2_with (first
          | (go_at_call 8; refine (frame_known _).mono ?_; rintro e w1 ⟨rfl, hB1⟩)
          | (go_at_call 12; ((with_reducible refine (G1.out _).mono ?_); rintro e w2 ⟨rfl, hB2⟩))
          | (go_at_call 12; ((with_reducible refine (G2.out _).mono ?_); rintro e w3 ⟨rfl, hB3⟩))
          | (go_at_call 10; rw [HS.out]; ((with_reducible refine (G3.out _).mono ?_); rintro e w4 ⟨rfl, hB4⟩)))
        rotate_left 1
        · exact absurd (show (m : Int) = bits .xor .u32 IntKind.u32.max (n : Int) from by rw [hcn]; exact congrArg _ HE.out) (by assumption)
        go_ret
        exact ⟨rfl, by repeat (first | assumption | refine bel2 ?_ (by assumption))⟩

set_option maxRecDepth 100000 in
theorem lifted (os : Os) (started : os.Started) (H : Type) (enc : TypeId × Value → H) :
    ReturnsInHanded {} Try.checked os 6 .any (Rows.frameNumbersSpec.pre6 enc Try.prog Try.f6 Rows.frameNumbersRow.domain false) (Rows.frameNumbersSpec.post enc Try.prog Try.f6 false true false false) := by
  refine returnsInHanded_of_change (C := Try.checked) Try.own started (by kernel_rfl) Try.func6
    (ChangeSpec.witness6 (enc := enc) (C := Try.checked) false ⟨#[], #[.int .u32 0, .int .u32 0, .string ⟨#[]⟩], []⟩ 8 (by kernel_rfl) (by kernel_rfl) (by kernel_rfl) (by kernel_rfl)) ?_
  intro W base args ds gs before hval hW _ _
  refine law_contract (T := 4) (n := 3) Try.laid Try.underlying4 rfl rfl ⟨rfl, fun H ds h => by match ds, h with | [_, _, _], _ => rfl⟩ (of_all (by kernel_rfl)) hW ?_
  intro ps hA
  rw [Try.params6] at hA hval
  obtain ⟨v0, vs0, d0, ds0, p0, q0, hargs, rfl, rfl, h0, r0⟩ := trodAll_cons hA
  obtain ⟨v1, vs1, d1, ds1, p1, q1, rfl, rfl, rfl, h1, r1⟩ := trodAll_cons r0
  obtain ⟨v2, vs2, d2, ds2, p2, q2, rfl, rfl, rfl, h2, r2⟩ := trodAll_cons r1
  obtain ⟨rfl, rfl, rfl⟩ := trodAll_nil r2
  obtain rfl : args = #[v0, v1, v2] := by cases args; simp_all
  obtain ⟨a0, rfl, rfl, rfl, w0⟩ := open_int Try.underlying31 (hval 0 31 v0 rfl rfl) h0
  obtain ⟨a1, rfl, rfl, rfl, w1⟩ := open_int Try.underlying31 (hval 1 31 v1 rfl rfl) h1
  obtain ⟨a2, rfl, rfl, rfl, w2⟩ := open_string Try.underlying9 (hval 2 9 v2 rfl rfl) h2
  obtain ⟨n0, rfl, b0⟩ := nat_of_u32 w0
  obtain ⟨n1, rfl, b1⟩ := nat_of_u32 w1
  exact walk n0 b0 n1 b1 a2 w2 W

theorem holds : Rows.FrameNumbersSaid :=
  OpenClaim.holds_of_wide 6 Try.f6 rfl rfl rfl rfl rfl rfl rfl ⟨rfl, rfl, rfl, rfl, rfl⟩ rfl rfl rfl rfl rfl (by kernel_rfl) Try.func6 (by kernel_rfl)
    (of_decide_eq_true (by kernel_rfl)) (by unfold Func.isWrapper; first | (rw [if_pos (by decide +kernel)]; kernel_rfl) | (rw [if_neg (by decide +kernel)]; exact ⟨rfl, rfl⟩))
    (fun os started H enc _ => lifted os started H enc)
end Go.Proofs.Ytcchbpjkejklaab.frameNumbers
