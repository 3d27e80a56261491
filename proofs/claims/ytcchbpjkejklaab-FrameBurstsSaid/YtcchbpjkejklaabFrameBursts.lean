/- Law FrameBursts: for every input the call answers true; its arguments read as they did. No condition. -/
import Derived.Test.YtcchbpjkejklaabLaw
import Derived.Test.YtcchbpjkejklaabKnown3
import Derived.Test.YtcchbpjkejklaabFlips
namespace Go.Proofs.Ytcchbpjkejklaab.frameBursts
open Go.ChangeShapes Go.WideShapes Go.ChangeAt Go.RowKit Go.Shelf
open Go.ChangeMaps (open_string shut_string)
set_option linter.unusedVariables false
attribute [local go_sem] Oper.semAt_some wide_fn wide_round_fn


set_option maxRecDepth 100000 in
set_option maxHeartbeats 2000000 in
theorem walk (b : ByteArray) (hb : b.size ≤ maxLen) (t : ByteArray) (ht : t.size ≤ maxLen) (a : Nat) (ha : a < 65536) (fl : Nat) (hfl : fl < 4294967296) (w : World) :
    Calls Try.prog 4 #[.string b, .string t, .int .u16 a, .int .u32 fl] w fun e w' => e = .returned (.bool true) ∧ Below w.heap.size w w' := by
  unfold maxLen at hb ht
  by_cases h4 : b.size < 1
  · go_enter Try.func4, Try.ntmps4
    go_wp2_with (go_at_call 8; refine (frame_known _).mono ?_; rintro e w1 ⟨rfl, hB1⟩)
    go_ret
    exact ⟨rfl, hB1⟩
  by_cases h300 : 300 < b.size
  · go_enter Try.func4, Try.ntmps4
    go_wp2_with (go_at_call 8; refine (frame_known _).mono ?_; rintro e w1 ⟨rfl, hB1⟩)
    go_ret
    exact ⟨rfl, hB1⟩
  by_cases h400 : 400 < t.size
  · go_enter Try.func4, Try.ntmps4
    go_wp2_with (go_at_call 8; refine (frame_known _).mono ?_; rintro e w1 ⟨rfl, hB1⟩)
    go_ret
    exact ⟨rfl, hB1⟩
  by_cases h0 : fl < 1
  · obtain rfl : fl = 0 := by omega
    go_enter Try.func4, Try.ntmps4
    go_wp2_with (go_at_call 8; refine (frame_known _).mono ?_; rintro e w1 ⟨rfl, hB1⟩)
    go_ret
    exact ⟨rfl, hB1⟩
  · have hz : ((fl : Int) == 0) = false := by rw [beq_eq_false_iff_ne]; omega
    have h1' : 1 ≤ b.size := by omega
    have h300' : b.size ≤ 300 := by omega
    have h400' : t.size ≤ 400 := by omega
    clear h4 h300 h400
    have HRB := Lib.hid (fun (y : ByteArray) => read_bursts b y t h1' (by omega))
    have hX := wrapB_size b
    have G1 := Lib.hid (wrap_ok b (by omega) (by omega))
    obtain ⟨X, hXe⟩ : ∃ X, X = wrapB b := ⟨_, rfl⟩
    rw [← hXe] at G1 HRB hX
    clear hXe
    have hX2 : (X.size : Int) = (b.size : Int) + 12 := by omega
    have hne : ((X.size : Int) != (b.size : Int) + 12) = false := by rw [bne_eq_false_iff_eq]; exact hX2
    have hXb : X.size ≤ 312 := by omega
    have hX13 : 13 ≤ X.size := by omega
    have HX := Lib.hid hX
    clear hX hX2
    obtain ⟨s, hs, hs2⟩ : ∃ s : Nat, (a : Int) % (8 * (X.size : Int) - 31) = (s : Int) ∧ s + 32 ≤ 8 * X.size := ⟨a % (8 * X.size - 31), by rw [show (8 * (X.size : Int) - 31) = ((8 * X.size - 31 : Nat) : Int) by omega, Int.natCast_emod], by have := Nat.mod_lt a (show 0 < 8 * X.size - 31 by omega); omega⟩
    go_enter Try.func4, Try.ntmps4
    go_wp2_with (first
      | (go_at_call 8; refine (frame_known _).mono ?_; rintro e w1 ⟨rfl, hB1⟩)
      | (go_at_call 9; ((with_reducible refine (G1.out _).mono ?_); rintro e w2 ⟨rfl, hB2⟩; obtain ⟨cap, w3, hcap, hcv, hB3, hby⟩ := bytes_of (P := Try.prog) (src := 9) (dst := 32) Try.underlying9 Try.underlying32 Try.underlying5 X w2)))
    have hbl : X.data.toList.length = X.size := by simp
    have hB12 := bel2 hB1 hB2
    go_loopw [13] (fun i wr => ∃ (k : Nat) (l : List UInt8), k ≤ 32 ∧ i = .int .i64 k ∧ l.length = X.size ∧ BytesAt wr w2.heap.size l ∧ Below w.heap.size w wr ∧ (∀ j, bitB l j = (bitB X.data.toList j ^^ (decide (s ≤ j) && decide (j < s + k) && fl.testBit (j - s)))))
      (fun i _ => 32 - (intOf i).toNat)
    case atStart =>
      refine ⟨0, X.data.toList, by omega, rfl, hbl, hby, bel2 hB12 hB3, fun j => ?_⟩
      by_cases h : s ≤ j
      · rw [decide_eq_false (show ¬ j < s + 0 by omega)]; simp
      · rw [decide_eq_false h]; simp
    case round =>
      obtain ⟨k, l, hk, rfl, hl, hby, hB, hbits⟩ := hrel
      by_cases hlt : k < 32
      · have hbt := bit_at' fl k hfl
        rcases hq : fl.testBit k with _ | _
        · rw [hq] at hbt
          have hbt : bits .and .u32 ((fl : Int) / 2 ^ k) 1 = 0 := hbt
          have HB := Lib.hid hbits
          clear hbits
          go_wp2
          refine ⟨⟨k + 1, l, by omega, by go_num, hl, hby, hB, fun j => ?_⟩, by simp [intOf]; omega⟩
          rw [HB.out j]
          by_cases e : j = s + k
          · subst e
            rw [decide_eq_false (show ¬ s + k < s + k by omega), show s + k - s = k by omega, hq]; simp
          · by_cases e2 : j < s + k
            · rw [decide_eq_true e2, decide_eq_true (show j < s + (k + 1) by omega)]
            · rw [decide_eq_false e2, decide_eq_false (show ¬ j < s + (k + 1) by omega)]
        · rw [hq] at hbt
          have hbt : bits .and .u32 ((fl : Int) / 2 ^ k) 1 = 1 := hbt
          have HB := Lib.hid hbits
          have hp : (s + k) / 8 < l.length := by omega
          have hp' : ((s : Int) + (k : Int)) / 8 < (X.size : Int) := by omega
          have hc := hby.cell _ hp
          have hf := hby.frozen _ hp
          have hfv := flip_val l[(s + k) / 8] ((s + k) % 8) (by omega)
          have hbf := bitB_flip l (s + k) hp
          generalize UInt8.ofNat ((l[(s + k) / 8]).toNat ^^^ 2 ^ ((s + k) % 8)) = x at *
          have HS := Lib.hid (hby.set _ hp x)
          have HF := Lib.hid hbf
          clear hbf
          clear hbits
          go_wp2
          refine ⟨⟨k + 1, _, by omega, by go_num, by rw [List.length_set]; exact hl, HS.out, hB.setCell (p := ⟨w2.heap.size, (s + k) / 8, none⟩) hB12.size _, fun j => ?_⟩, by simp [intOf]; omega⟩
          rw [HF.out j, HB.out j]
          by_cases e : j = s + k
          · subst e
            rw [decide_eq_false (show ¬ s + k < s + k by omega), show s + k - s = k by omega, hq, decide_eq_true (show s + k < s + (k + 1) by omega), decide_eq_true (show s ≤ s + k by omega)]; simp
          · rw [decide_eq_false e, Bool.xor_false]
            by_cases e2 : j < s + k
            · rw [decide_eq_true e2, decide_eq_true (show j < s + (k + 1) by omega)]
            · rw [decide_eq_false e2, decide_eq_false (show ¬ j < s + (k + 1) by omega)]
      · obtain rfl : k = 32 := by omega
        have hys : (⟨l.toArray⟩ : ByteArray).size = X.size := hl
        have hbad : readF (⟨l.toArray⟩ ++ t) = (⟨#[]⟩, 0, 4) := by
          refine HRB.out ⟨l.toArray⟩ (hys.trans HX.out) (fun j => decide (s ≤ j) && decide (j < s + 32) && fl.testBit (j - s)) s (by rw [← HX.out]; exact hs2) (fun j _ => hbits j) (fun j hj => ?_) (fun j hj => ?_) ?_
          · simp only [decide_eq_false (show ¬ s ≤ j by omega), Bool.false_and]
          · simp only [decide_eq_false (show ¬ j < s + 32 by omega), Bool.false_and, Bool.and_false]
          · obtain ⟨i, hi⟩ := Nat.exists_testBit_of_ne_zero (x := fl) (by omega)
            have hi32 : i < 32 := by
              rcases Nat.lt_or_ge i 32 with h | h
              · exact h
              · rw [Nat.testBit_lt_two_pow (Nat.lt_of_lt_of_le hfl (Nat.pow_le_pow_right (n := 2) (by decide) h))] at hi; cases hi
            exact ⟨s + i, by omega, by omega, by simp only [decide_eq_true (show s ≤ s + i by omega), decide_eq_true (show s + i < s + 32 by omega), show s + i - s = i by omega, hi, Bool.true_and]⟩
        have G2 := Lib.hid (read_at (⟨l.toArray⟩ ++ t) ⟨#[]⟩ 0 4 (by rw [ByteArray.size_append, hys]; omega) hbad)
        have hcv2 := string_of (P := Try.prog) (src := 32) (dst := 9) Try.underlying32 Try.underlying5 Try.underlying9 hby X.size cap hl
        have hyb : ((⟨l.toArray⟩ : ByteArray).size : Int) ≤ 312 := by omega
        clear hbits hbad hys
        generalize (⟨l.toArray⟩ : ByteArray) = Y at *
        go_wp2_with (go_at_call 10; ((with_reducible refine (G2.out _).mono ?_); rintro e w4 ⟨rfl, hB4⟩))
        go_ret
        exact ⟨rfl, bel2 hB hB4⟩

set_option maxRecDepth 100000 in
theorem lifted (os : Os) (started : os.Started) (H : Type) (enc : TypeId × Value → H) :
    ReturnsInHanded {} Try.checked os 4 .any (Rows.frameBurstsSpec.pre6 enc Try.prog Try.f4 Rows.frameBurstsRow.domain false) (Rows.frameBurstsSpec.post enc Try.prog Try.f4 false true false false) := by
  refine returnsInHanded_of_change (C := Try.checked) Try.own started (by kernel_rfl) Try.func4
    (ChangeSpec.witness6 (enc := enc) (C := Try.checked) false ⟨#[], #[.string ⟨#[]⟩, .string ⟨#[]⟩, .int .u16 0, .int .u32 0], []⟩ 8 (by kernel_rfl) (by kernel_rfl) (by kernel_rfl) (by kernel_rfl)) ?_
  intro W base args ds gs before hval hW _ _
  refine law_contract (T := 4) (n := 4) Try.laid Try.underlying4 rfl rfl ⟨rfl, fun H ds h => by match ds, h with | [_, _, _, _], _ => rfl⟩ (of_all (by kernel_rfl)) hW ?_
  intro ps hA
  rw [Try.params4] at hA hval
  obtain ⟨v0, vs0, d0, ds0, p0, q0, hargs, rfl, rfl, h0, r0⟩ := trodAll_cons hA
  obtain ⟨v1, vs1, d1, ds1, p1, q1, rfl, rfl, rfl, h1, r1⟩ := trodAll_cons r0
  obtain ⟨v2, vs2, d2, ds2, p2, q2, rfl, rfl, rfl, h2, r2⟩ := trodAll_cons r1
  obtain ⟨v3, vs3, d3, ds3, p3, q3, rfl, rfl, rfl, h3, r3⟩ := trodAll_cons r2
  obtain ⟨rfl, rfl, rfl⟩ := trodAll_nil r3
  obtain rfl : args = #[v0, v1, v2, v3] := by cases args; simp_all
  obtain ⟨a0, rfl, rfl, rfl, w0⟩ := open_string Try.underlying9 (hval 0 9 v0 rfl rfl) h0
  obtain ⟨a1, rfl, rfl, rfl, w1⟩ := open_string Try.underlying9 (hval 1 9 v1 rfl rfl) h1
  obtain ⟨a2, rfl, rfl, rfl, w2⟩ := open_int Try.underlying22 (hval 2 22 v2 rfl rfl) h2
  obtain ⟨a3, rfl, rfl, rfl, w3⟩ := open_int Try.underlying31 (hval 3 31 v3 rfl rfl) h3
  obtain ⟨n2, rfl, b2⟩ := nat_of_u16 w2
  obtain ⟨n3, rfl, b3⟩ := nat_of_u32 w3
  exact walk a0 w0 a1 w1 n2 b2 n3 b3 W

theorem holds : Rows.FrameBurstsSaid :=
  OpenClaim.holds_of_wide 4 Try.f4 rfl rfl rfl rfl rfl rfl rfl ⟨rfl, rfl, rfl, rfl, rfl⟩ rfl rfl rfl rfl rfl (by kernel_rfl) Try.func4 (by kernel_rfl)
    (of_decide_eq_true (by kernel_rfl)) (by unfold Func.isWrapper; first | (rw [if_pos (by decide +kernel)]; kernel_rfl) | (rw [if_neg (by decide +kernel)]; exact ⟨rfl, rfl⟩))
    (fun os started H enc _ => lifted os started H enc)
end Go.Proofs.Ytcchbpjkejklaab.frameBursts
