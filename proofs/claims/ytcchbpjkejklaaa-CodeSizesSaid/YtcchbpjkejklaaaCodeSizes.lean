/- Law CodeSizes: for every input the call answers true; its arguments read as they did. No condition. -/
import Derived.Test.YtcchbpjkejklaaaLaw
import Derived.Test.YtcchbpjkejklaaaKnown1
import Derived.Test.YtcchbpjkejklaaaCodeMath
namespace Go.Proofs.Ytcchbpjkejklaaa.codeSizes
open Go.ChangeShapes Go.WideShapes Go.ChangeAt Go.RowKit Go.Shelf
open Go.ChangeMaps (open_string shut_string)
set_option linter.unusedVariables false
attribute [local go_sem] Oper.semAt_some wide_fn wide_round_fn


theorem and_mask (low : Int) (k : Nat) (hk : k < 62) : bits .and .i64 low (2 ^ k - 1) = ((low % 2 ^ k).toNat : Int) := by
  have h1 : (2 : Int) ^ k - 1 = ((2 ^ k - 1 : Nat) : Int) := by
    have : 0 < 2 ^ k := Nat.two_pow_pos k
    push_cast [Nat.one_le_two_pow]; rfl
  have hp : 2 ^ k ≤ 2 ^ 62 := Nat.pow_le_pow_right (by decide) (by omega)
  have hp0 : 0 < 2 ^ k := Nat.two_pow_pos k
  show IntKind.i64.wrap ((BitVec.ofInt 64 low &&& BitVec.ofInt 64 (2 ^ k - 1)).toNat : Int) = _
  rw [BitVec.toNat_and, h1, ofInt_u64 _ (by omega), Nat.and_two_pow_sub_one_eq_mod, BitVec.toNat_ofInt]
  have e : (low % (2 ^ 64 : Nat)).toNat % 2 ^ k = (low % 2 ^ k).toNat := by
    have hd : ((2 : Int) ^ k) ∣ ((2 ^ 64 : Nat) : Int) := ⟨2 ^ (64 - k), by rw [← Int.pow_add, show k + (64 - k) = 64 from by omega]; rfl⟩
    have hk0 : (0 : Int) < 2 ^ k := by exact_mod_cast hp0
    apply Int.ofNat_inj.1
    rw [Int.natCast_emod, Int.toNat_of_nonneg (Int.emod_nonneg _ (by decide)), Int.toNat_of_nonneg (Int.emod_nonneg _ (by omega))]
    rw [show ((2 ^ k : Nat) : Int) = (2 : Int) ^ k from by push_cast; rfl]
    exact Int.emod_emod_of_dvd low hd
  rw [e]
  have hlt : (low % 2 ^ k).toNat < 2 ^ k := by
    have hk0 : (0 : Int) < 2 ^ k := by exact_mod_cast hp0
    have := Int.emod_lt_of_pos low hk0
    have h2 : ((2 ^ k : Nat) : Int) = (2 : Int) ^ k := by push_cast; rfl
    omega
  exact IntWalk.i64_in _ (by omega)
theorem or_mask (k r : Nat) (hk : k < 62) (hr : r < 2 ^ k) : bits .or .i64 (2 ^ k) (r : Int) = ((2 ^ k + r : Nat) : Int) := by
  have hp : 2 ^ k ≤ 2 ^ 62 := Nat.pow_le_pow_right (by decide) (by omega)
  have h1 : (2 : Int) ^ k = ((2 ^ k : Nat) : Int) := by push_cast; rfl
  rw [h1, bits_or_i64 _ _ (by omega) (by omega), nat_join k _ _ (Nat.mod_self _) hr]
theorem sevF_len_eq : ∀ (f q j : Nat), (j = 0 ∨ 128 ^ j ≤ q) → q < 128 ^ (j + 1) → j ≤ f → (sevF f q).length = j + 1 := by
  intro f
  induction f with
  | zero => intro q j h1 h2 h3; obtain rfl : j = 0 := by omega
            simp [sevF]
  | succ f ih =>
    intro q j h1 h2 h3
    by_cases h : q < 128
    · obtain rfl : j = 0 := by
        rcases h1 with h1 | h1
        · exact h1
        · cases j with
          | zero => rfl
          | succ j => rw [Nat.pow_succ] at h1; have := Nat.pow_pos (n := j) (show 0 < 128 by decide); omega
      simp [sevF, h]
    · cases j with
      | zero => simp at h2; omega
      | succ j =>
        have h4 : 128 ^ j ≤ q / 128 := by
          rcases h1 with h1 | h1
          · omega
          · rw [Nat.pow_succ] at h1; omega
        simp only [sevF, if_neg h, List.length_cons]
        rw [ih (q / 128) j (.inr h4) (by rw [Nat.pow_succ] at h2; omega) (by omega)]
theorem sevF_bits : ∀ (f q i : Nat) (h : i < (sevF f q).length), q < 128 ^ (f + 1) → (128 ≤ ((sevF f q)[i]).toNat ↔ i + 1 < (sevF f q).length) := by
  intro f
  induction f with
  | zero =>
    intro q i h hq
    have hq' : q < 128 := by simpa using hq
    have hi : i = 0 := by simp [sevF] at h; exact h
    subst hi
    simp only [sevF, List.getElem_cons_zero, toNat_ofNat_lt (show q < 256 by omega), List.length_cons, List.length_nil]
    omega
  | succ f ih =>
    intro q i h hq
    by_cases h128 : q < 128
    · have hi : i = 0 := by simp [sevF, h128] at h; exact h
      subst hi
      simp only [sevF, if_pos h128, List.getElem_cons_zero, toNat_ofNat_lt (show q < 256 by omega), List.length_cons, List.length_nil]
      omega
    · cases i with
      | zero =>
        have := sevF_pos f (q / 128)
        simp only [sevF, if_neg h128, List.getElem_cons_zero, toNat_ofNat_lt (show q % 128 + 128 < 256 by omega), List.length_cons]
        omega
      | succ i =>
        simp only [sevF, if_neg h128, List.length_cons] at h
        have h2 := ih (q / 128) i (by omega) (by rw [Nat.pow_succ] at hq; omega)
        simp only [sevF, if_neg h128, List.getElem_cons_succ, List.length_cons]
        omega
theorem sevL_bits (q i : Nat) (hq : q < 9223372036854775808) (h : i < (sevL q).length) : 128 ≤ ((sevL q)[i]).toNat ↔ i + 1 < (sevL q).length :=
  sevF_bits 8 q i h (by rw [pow128_9]; exact hq)
theorem sevL_len_eq (k N : Nat) (hk : k < 62) (h1 : 2 ^ k ≤ N) (h2 : N < 2 ^ (k + 1)) : (sevL N).length = k / 7 + 1 := by
  refine sevF_len_eq 8 N (k / 7) (.inr ?_) ?_ (by omega)
  · rw [← pow128]; exact Nat.le_trans (Nat.pow_le_pow_right (by decide) (by omega)) h1
  · rw [← pow128]; exact Nat.lt_of_lt_of_le h2 (Nat.pow_le_pow_right (by decide) (by omega))
theorem sev_prefix (n m : Nat) (hn : n < 9223372036854775808) (hm : m < 9223372036854775808) (t : List UInt8) (h : sevL n = sevL m ++ t) : n = m ∧ t = [] := by
  have h1 := getL_sevL n [] hn
  have h2 := getL_sevL m t hm
  rw [List.append_nil] at h1
  rw [← h, h1] at h2
  simp only [Prod.mk.injEq, and_true] at h2
  obtain ⟨rfl, h3⟩ := h2
  exact ⟨rfl, by simpa using h⟩

theorem toList_data (s : ByteArray) : s.toList = s.data.toList := ByteArray.toList_eq s
theorem ret_bool {b : Bool} (h : b = true) : Ending.returned (.bool b) = Ending.returned (.bool true) := by rw [h]

set_option maxRecDepth 100000 in
set_option maxHeartbeats 2000000 in
theorem walk (b : Nat) (hb : b < 256) (low : Int) (hlow : -9223372036854775808 ≤ low ∧ low < 9223372036854775808) (o : Int) (ho : -9223372036854775808 ≤ o ∧ o < 9223372036854775808) (w : World) :
    Calls Try.prog 6 #[.int .u8 b, .int .i64 low, .int .i64 o] w fun e w' => e = .returned (.bool true) ∧ Below w.heap.size w w' := by
  have hk62 : b % 62 < 62 := by omega
  have hkc : (b : Int) % 62 = ((b % 62 : Nat) : Int) := by omega
  generalize hk : b % 62 = k at *
  have hp : 2 ^ k ≤ 2 ^ 61 := Nat.pow_le_pow_right (by decide) (by omega)
  have hV : ∃ N : Nat, bits .or .i64 (wrap64 (2 ^ k)) (bits .and .i64 low (wrap64 (wrap64 (2 ^ k) - 1))) = (N : Int) ∧ N < 9223372036854775808 ∧ (sevL N).length = k / 7 + 1 := by
    have h2 : ((2 ^ k : Nat) : Int) = (2 : Int) ^ k := by push_cast; rfl
    have hk0 : (0 : Int) < 2 ^ k := by exact_mod_cast Nat.two_pow_pos k
    have w1 : wrap64 ((2 : Int) ^ k) = 2 ^ k := IntWalk.wrap64_in _ (by omega)
    have w2 : wrap64 ((2 : Int) ^ k - 1) = 2 ^ k - 1 := IntWalk.wrap64_in _ (by omega)
    have hr : (low % 2 ^ k).toNat < 2 ^ k := by
      have := Int.emod_lt_of_pos low hk0
      omega
    refine ⟨2 ^ k + (low % 2 ^ k).toNat, ?_, by omega, sevL_len_eq k _ hk62 (by omega) (by rw [Nat.pow_succ]; omega)⟩
    rw [w1, w2, and_mask low k hk62, or_mask k _ hk62 hr]
  obtain ⟨N, hV, hN, hlen⟩ := hV
  have HV := Lib.hid hV
  obtain ⟨q, hq⟩ : ∃ q : Nat, q = o.toNat := ⟨_, rfl⟩
  have hqb : q < 9223372036854775808 := by omega
  obtain ⟨s, hs⟩ : ∃ s : ByteArray, s = ⟨(sevL N).toArray⟩ := ⟨_, rfl⟩
  obtain ⟨t, ht⟩ : ∃ t : ByteArray, t = ⟨(sevL q).toArray⟩ := ⟨_, rfl⟩
  have P1 := Lib.hid (show ∀ w, Gives Try.prog 22 #[.int .i64 N] w (.string s) from fun w => by have := put_any N (by omega) w; rwa [Int.toNat_natCast, ← hs] at this)
  have P2 := Lib.hid (show ∀ w, Gives Try.prog 22 #[.int .i64 o] w (.string t) from fun w => by have := put_any o ho.2 w; rwa [← hq, ← ht] at this)
  have hsl : s.data.toList = sevL N := by rw [hs]
  have htl : t.data.toList = sevL q := by rw [ht]
  have hss : s.size = (sevL N).length := by rw [hs]; rfl
  have hts : t.size = (sevL q).length := by rw [ht]; rfl
  have hbit : ∀ (i : Nat) (h : i < s.size), 128 ≤ (s[i]).toNat ↔ i + 1 < s.size := by
    intro i h
    have := sevL_bits N i hN (by omega)
    rw [hss]
    rw [← this]
    have e : s[i] = (sevL N)[i]'(by omega) := by subst hs; rfl
    rw [e]
  have hlt : s.size < t.size → ((t.extract 0 s.size).toList == s.toList) = false := by
    intro h
    refine beq_eq_false_iff_ne.2 fun e => ?_
    have e2 : sevL q = sevL N ++ (sevL q).drop s.size := by
      have : (sevL q).take s.size = sevL N := by rw [← htl, ← hsl, ← toList_data s, ← e, toList_data]; simp
      conv => lhs; rw [← List.take_append_drop s.size (sevL q), this]
    have := (sev_prefix q N hqb hN _ e2).2
    have h3 := congrArg List.length this
    simp at h3
    omega
  have heq : t.size ≤ s.size → ((s.extract 0 t.size).toList == t.toList) = decide (q = N) := by
    intro h
    have e1 : (s.extract 0 t.size).toList = (sevL N).take t.size := by rw [toList_data]; simp [hsl]
    have e2 : t.toList = sevL q := by rw [toList_data, htl]
    rw [e1, e2]
    by_cases e : q = N
    · subst e
      rw [List.take_of_length_le (by omega)]; simp
    · rw [decide_eq_false e]
      refine beq_eq_false_iff_ne.2 fun e3 => e ?_
      have e4 : sevL N = sevL q ++ (sevL N).drop t.size := by
        conv => lhs; rw [← List.take_append_drop t.size (sevL N), e3]
      exact ((sev_prefix N q hN hqb _ e4).1).symm
  have hsz : s.size = k / 7 + 1 := by omega
  have hs9 : s.size ≤ 9 := by omega
  have ht9 : t.size ≤ 9 := by have := sevL_len q; omega
  have HQ := Lib.hid hq
  clear hs ht hsl htl hss hts hlen hV hN hqb hq
  have hsz1 : ((s.size : Int) != (k : Int) / 7 + 1) = false := by simp; omega
  have hsz2 : 1 ≤ s.size := by omega
  have HB := Lib.hid hbit
  have HL := Lib.hid hlt
  have HE := Lib.hid heq
  clear hbit hlt heq hsz hp
  go_enter Try.func6, Try.ntmps6
  go_wp2_with (first
    | (go_at_call 15; refine (code_known _).mono ?_; rintro e w1 ⟨rfl, hB1⟩)
    | (go_at_call 22; rw [HV.out]; ((with_reducible refine (P1.out _).mono ?_); rintro e w2 ⟨rfl, hB2⟩))
    | (go_at_call 22; ((with_reducible refine (P2.out _).mono ?_); rintro e w3 ⟨rfl, hB3⟩)))
  go_loop [11] (fun i => ∃ j : Nat, j ≤ s.size ∧ i = .int .i64 j) (fun i => s.size - (intOf i).toNat)
  case atStart => exact ⟨0, by omega, rfl⟩
  case round =>
    obtain ⟨j, hj, rfl⟩ := hrel
    by_cases hlt : j < s.size
    · by_cases hj1 : j + 1 < s.size
      · have h128 := (HB.out j hlt).2 hj1
        have hx : (!(decide ((128 : Int) ≤ ((s[j]).toNat : Int)) == decide ((j : Int) < (s.size : Int) - 1))) = false := by rw [decide_eq_true (by omega), decide_eq_true (by omega)]; rfl
        go_wp2
        exact ⟨⟨j + 1, by omega, by go_num⟩, by simp [intOf]; omega⟩
      · have h128 : (s[j]).toNat < 128 := by have := mt (HB.out j hlt).1 hj1; omega
        have hx : (!(decide ((128 : Int) ≤ ((s[j]).toNat : Int)) == decide ((j : Int) < (s.size : Int) - 1))) = false := by rw [decide_eq_false (by omega), decide_eq_false (by omega)]; rfl
        go_wp2
        exact ⟨⟨j + 1, by omega, by go_num⟩, by simp [intOf]; omega⟩
    · by_cases hts : s.size < t.size
      · have hc := HL.out hts
        go_wp2
        go_ret
        exact ⟨rfl, bel2 (bel2 hB1 hB2) hB3⟩
      · have hts2 : t.size ≤ s.size := by omega
        have hc := HE.out hts2
        go_wp2
        all_goals go_ret
        all_goals refine ⟨ret_bool ?_, bel2 (bel2 hB1 hB2) hB3⟩
        all_goals
          have hq := HQ.out
          by_cases e : q = N
          · have h1 : o = (N : Int) ∨ N = 0 := by omega
            simp [e]; omega
          · simp [e]; omega

set_option maxRecDepth 100000 in
theorem lifted (os : Os) (started : os.Started) (H : Type) (enc : TypeId × Value → H) :
    ReturnsInHanded {} Try.checked os 6 .any (Rows.codeSizesSpec.pre6 enc Try.prog Try.f6 Rows.codeSizesRow.domain false) (Rows.codeSizesSpec.post enc Try.prog Try.f6 false true false false) := by
  refine returnsInHanded_of_change (C := Try.checked) Try.own started (by kernel_rfl) Try.func6
    (ChangeSpec.witness6 (enc := enc) (C := Try.checked) false ⟨#[], #[.int .u8 0, .int .i64 0, .int .i64 0], []⟩ 8 (by kernel_rfl) (by kernel_rfl) (by kernel_rfl) (by kernel_rfl)) ?_
  intro W base args ds gs before hval hW _ _
  refine law_contract (T := 4) (n := 3) Try.laid Try.underlying4 rfl rfl ⟨rfl, fun H ds h => by match ds, h with | [_, _, _], _ => rfl⟩ (of_all (by kernel_rfl)) hW ?_
  intro ps hA
  rw [Try.params6] at hA hval
  obtain ⟨v0, vs0, d0, ds0, p0, q0, hargs, rfl, rfl, h0, r0⟩ := trodAll_cons hA
  obtain ⟨v1, vs1, d1, ds1, p1, q1, rfl, rfl, rfl, h1, r1⟩ := trodAll_cons r0
  obtain ⟨v2, vs2, d2, ds2, p2, q2, rfl, rfl, rfl, h2, r2⟩ := trodAll_cons r1
  obtain ⟨rfl, rfl, rfl⟩ := trodAll_nil r2
  obtain rfl : args = #[v0, v1, v2] := by cases args; simp_all
  obtain ⟨a0, rfl, rfl, rfl, w0⟩ := open_int Try.underlying5 (hval 0 5 v0 rfl rfl) h0
  obtain ⟨a1, rfl, rfl, rfl, w1⟩ := open_int Try.underlying3 (hval 1 3 v1 rfl rfl) h1
  obtain ⟨a2, rfl, rfl, rfl, w2⟩ := open_int Try.underlying3 (hval 2 3 v2 rfl rfl) h2
  obtain ⟨n0, rfl, b0⟩ := nat_of_u8 w0
  exact walk n0 b0 a1 (bounds_i64 w1) a2 (bounds_i64 w2) W

theorem holds : Rows.CodeSizesSaid :=
  OpenClaim.holds_of_wide 6 Try.f6 rfl rfl rfl rfl rfl rfl rfl ⟨rfl, rfl, rfl, rfl, rfl⟩ rfl rfl rfl rfl rfl (by kernel_rfl) Try.func6 (by kernel_rfl)
    (of_decide_eq_true (by kernel_rfl)) (by unfold Func.isWrapper; first | (rw [if_pos (by decide +kernel)]; kernel_rfl) | (rw [if_neg (by decide +kernel)]; exact ⟨rfl, rfl⟩))
    (fun os started H enc _ => lifted os started H enc)
end Go.Proofs.Ytcchbpjkejklaaa.codeSizes
