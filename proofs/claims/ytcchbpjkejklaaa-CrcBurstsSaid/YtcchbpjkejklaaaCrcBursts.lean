/- Law CrcBursts: for every input the call answers true; its arguments read as they did. No condition. -/
import Derived.Test.YtcchbpjkejklaaaLaw
import Derived.Test.YtcchbpjkejklaaaKnown2
import Derived.Test.YtcchbpjkejklaaaBytes
namespace Go.Proofs.Ytcchbpjkejklaaa.crcBursts
open Go.ChangeShapes Go.WideShapes Go.ChangeAt Go.RowKit Go.Shelf
open Go.ChangeMaps (open_string shut_string)
set_option linter.unusedVariables false
attribute [local go_sem] Oper.semAt_some wide_fn wide_round_fn


theorem bitB_flip (l : List UInt8) (n : Nat) (hn : n / 8 < l.length) (j : Nat) : bitB (l.set (n / 8) (UInt8.ofNat ((l[n / 8]).toNat ^^^ 2 ^ (n % 8)))) j = (bitB l j ^^ decide (j = n)) := by
  have hx : (l[n / 8]).toNat ^^^ 2 ^ (n % 8) < 256 := Nat.xor_lt_two_pow (n := 8) (l[n / 8]).toNat_lt (show 2 ^ (n % 8) < 2 ^ 8 from Nat.pow_lt_pow_right (by decide) (by omega))
  unfold bitB
  by_cases h : j / 8 = n / 8
  · rw [h, List.getD_eq_getElem?_getD, List.getElem?_set_self hn, List.getD_eq_getElem?_getD, List.getElem?_eq_getElem hn]
    simp only [Option.getD_some, UInt8.toNat_ofNat']
    rw [Nat.mod_eq_of_lt hx, Nat.testBit_xor, Nat.testBit_two_pow]
    congr 1
    exact decide_eq_decide.2 ⟨fun e => by omega, fun e => by omega⟩
  · rw [List.getD_eq_getElem?_getD, List.getElem?_set_ne (Ne.symm h), ← List.getD_eq_getElem?_getD, decide_eq_false (fun e => h (by rw [e])), Bool.xor_false]
theorem bit_at' (c k : Nat) (hc : c < 4294967296) : bits .and .u32 ((c : Int) / 2 ^ k) 1 = ((c.testBit k).toNat : Int) := by
  have h1 : (c : Int) / 2 ^ k = ((c / 2 ^ k : Nat) : Int) := by push_cast; rfl
  have h2 : c / 2 ^ k < 4294967296 := Nat.lt_of_le_of_lt (Nat.div_le_self _ _) (by omega)
  rw [h1, show (1 : Int) = ((1 : Nat) : Int) from rfl, u32_and_nat _ _ h2 (by decide), lsb_and]
  rw [Nat.testBit_zero, Nat.testBit_eq_decide_div_mod_eq]
theorem flip_val (c : UInt8) (q : Nat) (hq : q < 8) : bits .xor .u8 (c.toNat : Int) (2 ^ q % 256) = ((UInt8.ofNat (c.toNat ^^^ 2 ^ q)).toNat : Int) := by
  have hp : 2 ^ q < 2 ^ 8 := Nat.pow_lt_pow_right (by decide) hq
  have hx : c.toNat ^^^ 2 ^ q < 256 := Nat.xor_lt_two_pow (n := 8) c.toNat_lt hp
  have e : ((2 : Int) ^ q % 256) = ((2 ^ q : Nat) : Int) := by
    have h2 : ((2 ^ q : Nat) : Int) = (2 : Int) ^ q := by push_cast; rfl
    rw [← h2]
    generalize 2 ^ q = m at hp
    omega
  rw [e, UInt8.toNat_ofNat', Nat.mod_eq_of_lt hx]
  show IntKind.u8.wrap ((BitVec.ofInt 8 (c.toNat : Int) ^^^ BitVec.ofInt 8 ((2 ^ q : Nat) : Int)).toNat : Int) = _
  have h1 : (BitVec.ofInt 8 (c.toNat : Int)).toNat = c.toNat := by rw [BitVec.toNat_ofInt]; have := c.toNat_lt; omega
  have h2 : (BitVec.ofInt 8 ((2 ^ q : Nat) : Int)).toNat = 2 ^ q := by rw [BitVec.toNat_ofInt]; omega
  rw [BitVec.toNat_xor, h1, h2]
  simp [IntKind.wrap, IntKind.bits, IntKind.signed]; omega

set_option maxRecDepth 100000 in
set_option maxHeartbeats 2000000 in
theorem walk (b : ByteArray) (hb : b.size ≤ maxLen) (a : Nat) (ha : a < 65536) (fl : Nat) (hfl : fl < 4294967296) (w : World) :
    Calls Try.prog 11 #[.string b, .int .u16 a, .int .u32 fl] w fun e w' => e = .returned (.bool true) ∧ Below w.heap.size w w' := by
  unfold maxLen at hb
  by_cases h4 : b.size < 4
  · go_enter Try.func11, Try.ntmps11
    go_wp2_with (go_at_call 28; refine (crc_known _).mono ?_; rintro e w1 ⟨rfl, hB1⟩)
    go_ret
    exact ⟨rfl, hB1⟩
  by_cases h200 : 200 < b.size
  · go_enter Try.func11, Try.ntmps11
    go_wp2_with (go_at_call 28; refine (crc_known _).mono ?_; rintro e w1 ⟨rfl, hB1⟩)
    go_ret
    exact ⟨rfl, hB1⟩
  by_cases h0 : fl < 1
  · obtain rfl : fl = 0 := by omega
    go_enter Try.func11, Try.ntmps11
    go_wp2_with (go_at_call 28; refine (crc_known _).mono ?_; rintro e w1 ⟨rfl, hB1⟩)
    go_ret
    exact ⟨rfl, hB1⟩
  · have hz : ((fl : Int) == 0) = false := by rw [beq_eq_false_iff_ne]; omega
    have h4' : 4 ≤ b.size := by omega
    have h200' : b.size ≤ 200 := by omega
    obtain ⟨s, hs, hs2⟩ : ∃ s : Nat, (a : Int) % (8 * (b.size : Int) - 31) = (s : Int) ∧ s + 32 ≤ 8 * b.size := ⟨a % (8 * b.size - 31), by rw [show (8 * (b.size : Int) - 31) = ((8 * b.size - 31 : Nat) : Int) by omega, Int.natCast_emod], by have := Nat.mod_lt a (show 0 < 8 * b.size - 31 by omega); omega⟩
    go_enter Try.func11, Try.ntmps11
    go_wp2_with (go_at_call 28; refine (crc_known _).mono ?_; rintro e w1 ⟨rfl, hB1⟩; obtain ⟨cap, w2, hcap, hcv, hB2, hby⟩ := bytes_of (P := Try.prog) (src := 9) (dst := 46) Try.underlying9 Try.underlying46 Try.underlying5 b w1)
    have hbl : b.data.toList.length = b.size := by simp
    go_loopw [9] (fun i wr => ∃ (k : Nat) (l : List UInt8), k ≤ 32 ∧ i = .int .i64 k ∧ l.length = b.size ∧ BytesAt wr w1.heap.size l ∧ Below w.heap.size w wr ∧ (∀ j, bitB l j = (bitB b.data.toList j ^^ (decide (s ≤ j) && decide (j < s + k) && fl.testBit (j - s)))))
      (fun i _ => 32 - (intOf i).toNat)
    case atStart =>
      refine ⟨0, b.data.toList, by omega, rfl, hbl, hby, bel2 hB1 hB2, fun j => ?_⟩
      by_cases h : s ≤ j
      · rw [decide_eq_false (show ¬ j < s + 0 by omega)]; simp
      · rw [decide_eq_false h]; simp
    case round =>
      obtain ⟨k, l, hk, rfl, hl, hby, hB, hbits⟩ := hrel
      by_cases hlt : k < 32
      · have hbt := bit_at' fl k hfl
        rcases hq : fl.testBit k with _ | _
        · rw [hq] at hbt
          have hbt : bits .and .u32 ((fl : Int) / 2 ^ k) 1 = 0 := hbt
          have HB := Lib.hid hbits
          clear hbits
          go_wp2
          refine ⟨⟨k + 1, l, by omega, by go_num, hl, hby, hB, fun j => ?_⟩, by simp [intOf]; omega⟩
          rw [HB.out j]
          by_cases e : j = s + k
          · subst e
            rw [decide_eq_false (show ¬ s + k < s + k by omega), show s + k - s = k by omega, hq]; simp
          · by_cases e2 : j < s + k
            · rw [decide_eq_true e2, decide_eq_true (show j < s + (k + 1) by omega)]
            · rw [decide_eq_false e2, decide_eq_false (show ¬ j < s + (k + 1) by omega)]
        · rw [hq] at hbt
          have hbt : bits .and .u32 ((fl : Int) / 2 ^ k) 1 = 1 := hbt
          have HB := Lib.hid hbits
          have hp : (s + k) / 8 < l.length := by omega
          have hp' : ((s : Int) + (k : Int)) / 8 < (b.size : Int) := by omega
          have hc := hby.cell _ hp
          have hf := hby.frozen _ hp
          have hfv := flip_val l[(s + k) / 8] ((s + k) % 8) (by omega)
          have hbf := bitB_flip l (s + k) hp
          generalize UInt8.ofNat ((l[(s + k) / 8]).toNat ^^^ 2 ^ ((s + k) % 8)) = x at *
          have HS := Lib.hid (hby.set _ hp x)
          have HF := Lib.hid hbf
          clear hbf
          clear hbits
          go_wp2
          refine ⟨⟨k + 1, _, by omega, by go_num, by rw [List.length_set]; exact hl, HS.out, hB.setCell (p := ⟨w1.heap.size, (s + k) / 8, none⟩) hB1.size _, fun j => ?_⟩, by simp [intOf]; omega⟩
          rw [HF.out j, HB.out j]
          by_cases e : j = s + k
          · subst e
            rw [decide_eq_false (show ¬ s + k < s + k by omega), show s + k - s = k by omega, hq, decide_eq_true (show s + k < s + (k + 1) by omega), decide_eq_true (show s ≤ s + k by omega)]; simp
          · rw [decide_eq_false e, Bool.xor_false]
            by_cases e2 : j < s + k
            · rw [decide_eq_true e2, decide_eq_true (show j < s + (k + 1) by omega)]
            · rw [decide_eq_false e2, decide_eq_false (show ¬ j < s + (k + 1) by omega)]
      · obtain rfl : k = 32 := by omega
        have hdiff : moreN 0 ⟨l.toArray⟩ ≠ moreN 0 b := by
          intro he
          have he2 := BitVec.eq_of_toNat_eq (x := crcM (BitVec.ofNat 32 0) (⟨l.toArray⟩ : ByteArray).data.toList) (y := crcM (BitVec.ofNat 32 0) b.data.toList) he
          refine crcM_bursts (BitVec.ofNat 32 0) b.data.toList l (fun j => decide (s ≤ j) && decide (j < s + 32) && fl.testBit (j - s)) s (by omega) (by omega) (fun j _ => hbits j) (fun j hj => ?_) (fun j hj => ?_) ?_ he2
          · simp only [decide_eq_false (show ¬ s ≤ j by omega), Bool.false_and]
          · simp only [decide_eq_false (show ¬ j < s + 32 by omega), Bool.false_and, Bool.and_false]
          · obtain ⟨i, hi⟩ := Nat.exists_testBit_of_ne_zero (x := fl) (by omega)
            have hi32 : i < 32 := by
              rcases Nat.lt_or_ge i 32 with h | h
              · exact h
              · rw [Nat.testBit_lt_two_pow (Nat.lt_of_lt_of_le hfl (Nat.pow_le_pow_right (n := 2) (by decide) h))] at hi; cases hi
            exact ⟨s + i, by omega, by omega, by simp only [decide_eq_true (show s ≤ s + i by omega), decide_eq_true (show s + i < s + 32 by omega), show s + i - s = i by omega, hi, Bool.true_and]⟩
        have hne : (((moreN 0 ⟨l.toArray⟩ : Nat) : Int) != ((moreN 0 b : Nat) : Int)) = true := by rw [bne_iff_ne]; intro he; exact hdiff (by omega)
        have G1 := Lib.hid (of_at ⟨l.toArray⟩ (by show l.length < _; omega)); have G2 := Lib.hid (of_at b (by omega))
        have hcv2 := string_of (P := Try.prog) (src := 46) (dst := 9) Try.underlying46 Try.underlying5 Try.underlying9 hby b.size cap hl
        clear hbits hdiff
        generalize moreN 0 ⟨l.toArray⟩ = v1 at *
        generalize moreN 0 b = v2 at *
        go_wp2_with (first
          | (go_at_call 29; ((with_reducible refine (G1.out _).mono ?_); rintro e w3 ⟨rfl, hB3⟩))
          | (go_at_call 29; ((with_reducible refine (G2.out _).mono ?_); rintro e w4 ⟨rfl, hB4⟩)))
        go_ret
        exact ⟨rfl, bel2 (bel2 hB hB3) hB4⟩

set_option maxRecDepth 100000 in
theorem lifted (os : Os) (started : os.Started) (H : Type) (enc : TypeId × Value → H) :
    ReturnsInHanded {} Try.checked os 11 .any (Rows.crcBurstsSpec.pre6 enc Try.prog Try.f11 Rows.crcBurstsRow.domain false) (Rows.crcBurstsSpec.post enc Try.prog Try.f11 false true false false) := by
  refine returnsInHanded_of_change (C := Try.checked) Try.own started (by kernel_rfl) Try.func11
    (ChangeSpec.witness6 (enc := enc) (C := Try.checked) false ⟨#[], #[.string ⟨#[]⟩, .int .u16 0, .int .u32 0], []⟩ 8 (by kernel_rfl) (by kernel_rfl) (by kernel_rfl) (by kernel_rfl)) ?_
  intro W base args ds gs before hval hW _ _
  refine law_contract (T := 4) (n := 3) Try.laid Try.underlying4 rfl rfl ⟨rfl, fun H ds h => by match ds, h with | [_, _, _], _ => rfl⟩ (of_all (by kernel_rfl)) hW ?_
  intro ps hA
  rw [Try.params11] at hA hval
  obtain ⟨v0, vs0, d0, ds0, p0, q0, hargs, rfl, rfl, h0, r0⟩ := trodAll_cons hA
  obtain ⟨v1, vs1, d1, ds1, p1, q1, rfl, rfl, rfl, h1, r1⟩ := trodAll_cons r0
  obtain ⟨v2, vs2, d2, ds2, p2, q2, rfl, rfl, rfl, h2, r2⟩ := trodAll_cons r1
  obtain ⟨rfl, rfl, rfl⟩ := trodAll_nil r2
  obtain rfl : args = #[v0, v1, v2] := by cases args; simp_all
  obtain ⟨a0, rfl, rfl, rfl, w0⟩ := open_string Try.underlying9 (hval 0 9 v0 rfl rfl) h0
  obtain ⟨a1, rfl, rfl, rfl, w1⟩ := open_int Try.underlying52 (hval 1 52 v1 rfl rfl) h1
  obtain ⟨a2, rfl, rfl, rfl, w2⟩ := open_int Try.underlying22 (hval 2 22 v2 rfl rfl) h2
  obtain ⟨n1, rfl, b1⟩ := nat_of_u16 w1
  obtain ⟨n2, rfl, b2⟩ := nat_of_u32 w2
  exact walk a0 w0 n1 b1 n2 b2 W

theorem holds : Rows.CrcBurstsSaid :=
  OpenClaim.holds_of_wide 11 Try.f11 rfl rfl rfl rfl rfl rfl rfl ⟨rfl, rfl, rfl, rfl, rfl⟩ rfl rfl rfl rfl rfl (by kernel_rfl) Try.func11 (by kernel_rfl)
    (of_decide_eq_true (by kernel_rfl)) (by unfold Func.isWrapper; first | (rw [if_pos (by decide +kernel)]; kernel_rfl) | (rw [if_neg (by decide +kernel)]; exact ⟨rfl, rfl⟩))
    (fun os started H enc _ => lifted os started H enc)
end Go.Proofs.Ytcchbpjkejklaaa.crcBursts
