/- Law SheetBursts: for every input the call answers true; its arguments read as they did. No condition. -/
import Derived.Test.YtieekahlknmkfaaLaw
import Derived.Test.YtieekahlknmkfaaKnown9
import Derived.Test.YtieekahlknmkfaaShtG
import Derived.Test.YtieekahlknmkfaaFlips
namespace Go.Proofs.Ytieekahlknmkfaa.sheetBursts
open Go.ChangeShapes Go.WideShapes Go.ChangeAt Go.RowKit Go.Shelf
open Go.ChangeMaps (open_string shut_string)
set_option linter.unusedVariables false
attribute [local go_sem] Oper.semAt_some wide_fn wide_round_fn


theorem burst_at {zs : List Int} (l : List UInt8) (hl : l.length = (shS zs).length) (s k fl : Nat) (hs : 32 ≤ s) (hk : k ≤ 32) (hsk : s + k ≤ 8 * (shS zs).length)
    (hb : ∀ j, bitB l j = (bitB (shS zs) j ^^ (decide (s ≤ j) && decide (j < s + k) && fl.testBit (j - s)))) (hne : ∃ i, i < k ∧ fl.testBit i = true) : rdOk ⟨l.toArray⟩ = false := by
  refine burst_rd l hl (fun j => decide (s ≤ j) && decide (j < s + k) && fl.testBit (j - s)) s hs (fun j _ => hb j) (fun j hj => ?_) (fun j hj => ?_) (fun j hj => ?_) ?_
  · simp only [decide_eq_false (show ¬ s ≤ j by omega), Bool.false_and]
  · simp only [decide_eq_false (show ¬ j < s + k by omega), Bool.false_and, Bool.and_false]
  · simp only [decide_eq_false (show ¬ j < s + k by omega), Bool.false_and, Bool.and_false]
  · obtain ⟨i, hi, hf⟩ := hne
    exact ⟨s + i, by simp only [decide_eq_true (show s ≤ s + i by omega), decide_eq_true (show s + i < s + k by omega), show s + i - s = i by omega, hf, Bool.true_and]⟩
theorem bit_step (l m : List UInt8) (s k fl : Nat) (h : ∀ j, bitB l j = (bitB m j ^^ (decide (s ≤ j) && decide (j < s + k) && fl.testBit (j - s)))) (hq : fl.testBit k = false) : ∀ j, bitB l j = (bitB m j ^^ (decide (s ≤ j) && decide (j < s + (k + 1)) && fl.testBit (j - s))) := fun j => by
  rw [h j]
  by_cases e : j = s + k
  · subst e
    rw [decide_eq_false (show ¬ s + k < s + k by omega), show s + k - s = k by omega, hq]; simp
  · by_cases e2 : j < s + k
    · rw [decide_eq_true e2, decide_eq_true (show j < s + (k + 1) by omega)]
    · rw [decide_eq_false e2, decide_eq_false (show ¬ j < s + (k + 1) by omega)]
theorem bit_step1 (l l' m : List UInt8) (s k fl : Nat) (h : ∀ j, bitB l j = (bitB m j ^^ (decide (s ≤ j) && decide (j < s + k) && fl.testBit (j - s)))) (hq : fl.testBit k = true) (hf : ∀ j, bitB l' j = (bitB l j ^^ decide (j = s + k))) : ∀ j, bitB l' j = (bitB m j ^^ (decide (s ≤ j) && decide (j < s + (k + 1)) && fl.testBit (j - s))) := fun j => by
  rw [hf j, h j]
  by_cases e : j = s + k
  · subst e
    rw [decide_eq_false (show ¬ s + k < s + k by omega), show s + k - s = k by omega, hq, decide_eq_true (show s + k < s + (k + 1) by omega), decide_eq_true (show s ≤ s + k by omega)]; simp
  · rw [decide_eq_false e, Bool.xor_false]
    by_cases e2 : j < s + k
    · rw [decide_eq_true e2, decide_eq_true (show j < s + (k + 1) by omega)]
    · rw [decide_eq_false e2, decide_eq_false (show ¬ j < s + (k + 1) by omega)]
set_option maxRecDepth 100000 in
set_option maxHeartbeats 4000000 in
theorem bursts_early (w : World) (sa : Option Addr) (la ca : Nat) (zs : List Int) (hz : RowI .i64 w sa la zs) (a : Nat) (ha : a < 65536) (fl : Nat) (hfl : fl < 4294967296) (h : 250 < la ∨ shB zs = false ∨ fl = 0) : Calls Try.prog 13 #[.slice sa la ca, .int .u16 a, .int .u32 fl] w fun e w' => e = .returned (.bool true) ∧ Below w.heap.size w w' := by
  have GK := Lib.hid sheet_known
  have GI := Lib.hid (fun W (hB : Below w.heap.size w W) => shIs_any sa la ca zs W (rowI_below hz hB))
  by_cases h1 : 250 < la
  · have hi : (250 : Int) < (la : Int) := by omega
    clear h
    unfold Gives at *
    go_enter Try.func13, Try.ntmps13
    go_wp2_with (go_at_call 35; ((with_reducible refine (GK.out _).mono ?_); rintro e w1 ⟨rfl, hB1⟩))
    go_ret
    exact ⟨rfl, hB1⟩
  · have hi : (la : Int) ≤ 250 := by omega
    cases hs : shB zs
    · rw [hs] at GI
      clear h h1 hs
      unfold Gives at *
      go_enter Try.func13, Try.ntmps13
      go_wp2_with (first
        | (go_at_call 35; ((with_reducible refine (GK.out _).mono ?_); rintro e w1 ⟨rfl, hB1⟩))
        | (go_at_call 37; ((with_reducible refine (GI.out _ hB1).mono ?_); rintro e w2 ⟨rfl, hB2⟩)))
      go_ret
      exact ⟨rfl, bel2 hB1 hB2⟩
    · obtain rfl : fl = 0 := by
        rcases h with h | h | h
        · omega
        · rw [h] at hs; cases hs
        · exact h
      rw [hs] at GI
      clear h h1 hs
      unfold Gives at *
      go_enter Try.func13, Try.ntmps13
      go_wp2_with (first
        | (go_at_call 35; ((with_reducible refine (GK.out _).mono ?_); rintro e w1 ⟨rfl, hB1⟩))
        | (go_at_call 37; ((with_reducible refine (GI.out _ hB1).mono ?_); rintro e w2 ⟨rfl, hB2⟩)))
      go_ret
      exact ⟨rfl, bel2 hB1 hB2⟩
set_option maxRecDepth 100000 in
set_option maxHeartbeats 4000000 in
theorem bursts_full (w : World) (sa : Option Addr) (la ca : Nat) (zs : List Int) (hz : RowI .i64 w sa la zs) (a : Nat) (ha : a < 65536) (fl : Nat) (hfl : fl < 4294967296) (hla : la ≤ 250) (hsb : shB zs = true) (h0 : fl ≠ 0) : Calls Try.prog 13 #[.slice sa la ca, .int .u16 a, .int .u32 fl] w fun e w' => e = .returned (.bool true) ∧ Below w.heap.size w w' := by
  have GK := Lib.hid sheet_known
  have GI := Lib.hid (fun W (hB : Below w.heap.size w W) => (show Gives Try.prog 37 #[.slice sa la ca] W (.bool true) from by rw [← hsb]; exact shIs_any sa la ca zs W (rowI_below hz hB)))
  have GB := Lib.hid (fun W (hB : Below w.heap.size w W) => (show Gives Try.prog 36 #[.slice sa la ca] W (.tuple #[.string (shY zs), .int .i64 0]) from by
    have := shBytes_any sa la ca zs W (rowI_below hz hB)
    rwa [show shE zs = 0 by unfold shE; rw [hsb]; rfl] at this))
  have hXs := shY_size zs
  have hXl := shY_list hsb
  have hXk : (shY zs).data.toList.length = (shY zs).size := by rw [Array.length_toList]; rfl
  have hX6 : 6 ≤ (shY zs).size := by
    rw [← hXk, hXl, shS_len]
    have hz1 : 1 ≤ zs.length := by unfold shB at hsb; simp only [Bool.and_eq_true, decide_eq_true_eq] at hsb; exact hsb.1.1
    unfold shL
    rw [List.length_append]
    have h1 : 1 ≤ (sevL zs.length).length := sevL_pos _
    cases zs with
    | nil => simp at hz1
    | cons x r =>
      rw [List.flatMap_cons, List.length_append]
      have h2 : 1 ≤ (sevL x.toNat).length := sevL_pos _
      omega
  obtain ⟨hok, hrl⟩ := rd_back hsb
  obtain ⟨X, hX⟩ : ∃ X, X = shY zs := ⟨_, rfl⟩
  rw [← hX] at GB hXs hXl hXk hX6 hok
  have HXL := Lib.hid hXl
  have HOK := Lib.hid hok
  have hi250 : (la : Int) ≤ 250 := by omega
  have hz9 : ((fl : Int) == 0) = false := by rw [beq_eq_false_iff_ne]; omega
  obtain ⟨s, hs, hs2⟩ : ∃ s : Nat, 32 + (a : Int) % (8 * (X.size : Int) - 32) = (s : Int) ∧ (32 ≤ s ∧ s < 8 * X.size) := ⟨32 + a % (8 * X.size - 32), by rw [show (8 * (X.size : Int) - 32) = ((8 * X.size - 32 : Nat) : Int) by omega]; push_cast; rfl, by have := Nat.mod_lt a (show 0 < 8 * X.size - 32 by omega); omega⟩
  have hi6 : (6 : Int) ≤ (X.size : Int) := by omega
  have hi2000 : (X.size : Int) ≤ 2000 := by omega
  have HF := Lib.hid h0
  have HZR := Lib.hid hrl
  clear hXl hok hX hrl h0 hla hsb
  unfold Gives at *
  go_enter Try.func13, Try.ntmps13
  go_wp2_with (first
    | (go_at_call 35; ((with_reducible refine (GK.out _).mono ?_); rintro e w1 ⟨rfl, hB1⟩))
    | (go_at_call 37; ((with_reducible refine (GI.out _ hB1).mono ?_); rintro e w2 ⟨rfl, hB2⟩; have hb2 := bel2 hB1 hB2))
    | (go_at_call 36; ((with_reducible refine (GB.out _ hb2).mono ?_); rintro e w3 ⟨rfl, hB3⟩; have hb3 := bel2 hb2 hB3; obtain ⟨cap, w4, hcap, hcv, hB4, hby⟩ := bytes_of (P := Try.prog) (src := 9) (dst := 64) Try.underlying9 Try.underlying64 Try.underlying5 X w3)))
  have hb4 := bel2 hb3 hB4
  have hs3 := hb3.size
  go_loopw [11, 12] (fun ch i wr => ∃ (k : Nat) (l : List UInt8) (c : Bool), k ≤ 32 ∧ s + k ≤ 8 * X.size ∧ i = .int .i64 k ∧ ch = .bool c ∧ l.length = X.size ∧ BytesAt wr w3.heap.size l ∧ Below w.heap.size w wr ∧ (∀ j, bitB l j = (bitB X.data.toList j ^^ (decide (s ≤ j) && decide (j < s + k) && fl.testBit (j - s)))) ∧ (c = false → l = X.data.toList) ∧ (c = true → ∃ i, i < k ∧ fl.testBit i = true))
    (fun _ i _ => 32 - (intOf i).toNat)
  case atStart =>
    refine ⟨0, X.data.toList, false, by omega, by omega, rfl, rfl, hXk, hby, hb4, fun j => ?_, fun _ => rfl, fun h => by cases h⟩
    by_cases h : s ≤ j
    · rw [decide_eq_false (show ¬ j < s + 0 by omega)]; simp
    · rw [decide_eq_false h]; simp
  case round =>
    obtain ⟨k, l, c, hk, hsk, rfl, rfl, hl, hby, hB, hbits, hc0, hc1⟩ := hrel
    have HB := Lib.hid hbits
    have HC0 := Lib.hid hc0
    have HC1 := Lib.hid hc1
    clear hbits hc0 hc1
    by_cases hlt : k < 32 ∧ s + k < 8 * X.size
    · obtain ⟨hlt, hlt2⟩ := hlt
      have hbt := bit_at' fl k hfl
      have hli1 : (k : Int) < 32 := by omega
      have hli2 : (s : Int) + (k : Int) < 8 * (X.size : Int) := by omega
      rcases hq : fl.testBit k with _ | _
      · rw [hq] at hbt
        have hbt : bits .and .u32 ((fl : Int) / 2 ^ k) 1 = 0 := hbt
        have HN := Lib.hid (bit_step _ _ _ _ _ HB.out hq)
        have HN1 := Lib.hid (show c = true → ∃ i, i < k + 1 ∧ fl.testBit i = true from fun h => by obtain ⟨i, h1, h2⟩ := HC1.out h; exact ⟨i, by omega, h2⟩)
        clear hq
        go_wp2
        exact ⟨⟨k + 1, l, c, by omega, by omega, by go_num, rfl, hl, hby, hB, HN.out, HC0.out, HN1.out⟩, by simp [intOf]; omega⟩
      · rw [hq] at hbt
        have hbt : bits .and .u32 ((fl : Int) / 2 ^ k) 1 = 1 := hbt
        have hp : (s + k) / 8 < l.length := by omega
        have hp' : ((s : Int) + (k : Int)) / 8 < (X.size : Int) := by omega
        have hcc := hby.cell _ hp
        have hf := hby.frozen _ hp
        have hfv := flip_val l[(s + k) / 8] ((s + k) % 8) (by omega)
        have hbf := bitB_flip l (s + k) hp
        generalize UInt8.ofNat ((l[(s + k) / 8]).toNat ^^^ 2 ^ ((s + k) % 8)) = x at *
        have HS := Lib.hid (hby.set _ hp x)
        have HN := Lib.hid (bit_step1 _ _ _ _ _ _ HB.out hq hbf)
        have HN1 := Lib.hid (⟨k, by omega, hq⟩ : ∃ i, i < k + 1 ∧ fl.testBit i = true)
        clear hbf hq
        go_wp2
        exact ⟨⟨k + 1, _, true, by omega, by omega, by go_num, rfl, by rw [List.length_set]; exact hl, HS.out, hB.setCell (p := ⟨w3.heap.size, (s + k) / 8, none⟩) hs3 _, HN.out, (fun h => by cases h), (fun _ => HN1.out)⟩, by simp [intOf]; omega⟩
    · have hys : (⟨l.toArray⟩ : ByteArray).size = X.size := hl
      have hcv2 := string_of (P := Try.prog) (src := 64) (dst := 9) Try.underlying64 Try.underlying5 Try.underlying9 hby X.size cap hl
      have HB' := Lib.hid (HXL.out ▸ HB.out)
      have HLl := Lib.hid (show l.length = (shS zs).length by rw [← HXL.out, hl]; exact hXk.symm)
      have hsk' : s + k ≤ 8 * (shS zs).length := by rw [← HLl.out, hl]; exact hsk
      have GR : (c = false → Calls Try.prog 44 #[.string ⟨l.toArray⟩] wr fun e w' => ∃ v, e = .returned (.tuple #[v, .int .i64 0]) ∧ Below wr.heap.size wr w') ∧ (c = true → Calls Try.prog 44 #[.string ⟨l.toArray⟩] wr fun e w' => ∃ va vc, e = .returned (.tuple #[.slice va 0 vc, .int .i64 21]) ∧ Below wr.heap.size wr w') := by
        constructor
        · intro hc
          have e : (⟨l.toArray⟩ : ByteArray) = X := by rw [HC0.out hc]
          rw [e]
          refine (shRead_any X (by omega) wr).mono ?_
          rintro e w' ⟨v, he, hv, hB⟩
          rw [HOK.out, if_pos rfl] at he
          exact ⟨v, he, hB⟩
        · intro hc
          have hno := burst_at l HLl.out s k fl hs2.1 hk hsk' HB'.out (HC1.out hc)
          refine (shRead_any _ (by rw [hys]; omega) wr).mono ?_
          rintro e w' ⟨v, he, hv, hB⟩
          rw [hno] at he hv
          obtain ⟨va, vc, hve, -, -⟩ := rowI_own (zs := []) hv (fun z hz => by cases hz)
          exact ⟨va, vc, by rw [he, hve]; rfl, hB⟩
      have hyb : ((⟨l.toArray⟩ : ByteArray).size : Int) ≤ 2000 := by omega
      generalize (⟨l.toArray⟩ : ByteArray) = Y at *
      obtain ⟨GR0, GR1⟩ := GR
      have hst : (32 : Int) ≤ (k : Int) ∨ ((k : Int) < 32 ∧ 8 * (X.size : Int) ≤ (s : Int) + (k : Int)) := by omega
      clear hlt
      cases c
      · have G := Lib.hid (GR0 rfl)
        clear GR0 GR1
        rcases hst with h | ⟨h, h'⟩
        all_goals
          go_wp2_with (go_at_call 44; ((with_reducible refine G.out.mono ?_); rintro e w5 ⟨v, rfl, hB5⟩))
          go_ret
          exact ⟨by simp, bel2 hB hB5⟩
      · have G := Lib.hid (GR1 rfl)
        clear GR0 GR1
        rcases hst with h | ⟨h, h'⟩
        all_goals
          go_wp2_with (go_at_call 44; ((with_reducible refine G.out.mono ?_); rintro e w5 ⟨va, vc, rfl, hB5⟩))
          go_ret
          exact ⟨by simp, bel2 hB hB5⟩
theorem walk (w : World) (sa : Option Addr) (la ca : Nat) (zs : List Int) (hz : RowI .i64 w sa la zs) (a : Nat) (ha : a < 65536) (fl : Nat) (hfl : fl < 4294967296) : Calls Try.prog 13 #[.slice sa la ca, .int .u16 a, .int .u32 fl] w fun e w' => e = .returned (.bool true) ∧ Below w.heap.size w w' := by
  by_cases h1 : 250 < la
  · exact bursts_early w sa la ca zs hz a ha fl hfl (.inl h1)
  cases hs : shB zs
  · exact bursts_early w sa la ca zs hz a ha fl hfl (.inr (.inl hs))
  by_cases h0 : fl = 0
  · exact bursts_early w sa la ca zs hz a ha fl hfl (.inr (.inr h0))
  exact bursts_full w sa la ca zs hz a ha fl hfl (by omega) hs h0

set_option maxRecDepth 100000 in
theorem lifted (os : Os) (started : os.Started) (H : Type) (enc : TypeId × Value → H) :
    ReturnsInHanded {} Try.checked os 13 .any (Rows.sheetBurstsSpec.pre6 enc Try.prog Try.f13 Rows.sheetBurstsRow.domain false) (Rows.sheetBurstsSpec.post enc Try.prog Try.f13 false true false false) := by
  refine returnsInHanded_of_change (C := Try.checked) Try.own started (by kernel_rfl) Try.func13
    (ChangeSpec.witness6 (enc := enc) (C := Try.checked) false ⟨#[], #[.slice none 0 0, .int .u16 0, .int .u32 0], []⟩ 8 (by kernel_rfl) (by kernel_rfl) (by kernel_rfl) (by kernel_rfl)) ?_
  intro W base args ds gs before hval hW _ _
  refine law_contract (T := 4) (n := 3) Try.laid Try.underlying4 rfl rfl ⟨rfl, fun H ds h => by match ds, h with | [_, _, _], _ => rfl⟩ (of_all (by kernel_rfl)) hW ?_
  intro ps hA
  rw [Try.params13] at hA hval
  obtain ⟨v0, vs0, d0, ds0, p0, q0, hargs, rfl, rfl, h0, r0⟩ := trodAll_cons hA
  obtain ⟨v1, vs1, d1, ds1, p1, q1, rfl, rfl, rfl, h1, r1⟩ := trodAll_cons r0
  obtain ⟨v2, vs2, d2, ds2, p2, q2, rfl, rfl, rfl, h2, r2⟩ := trodAll_cons r1
  obtain ⟨rfl, rfl, rfl⟩ := trodAll_nil r2
  obtain rfl : args = #[v0, v1, v2] := by cases args; simp_all
  obtain ⟨s0, l0, c0, rfl⟩ := okWide_slice Try.underlying61 (hval 0 61 v0 rfl rfl)
  obtain ⟨zs0, w0⟩ := isInts_of (k := .i64) Try.underlying61 Try.underlying3 (by kernel_rfl) h0
  obtain ⟨a1, rfl, rfl, rfl, w1⟩ := open_int Try.underlying50 (hval 1 50 v1 rfl rfl) h1
  obtain ⟨a2, rfl, rfl, rfl, w2⟩ := open_int Try.underlying76 (hval 2 76 v2 rfl rfl) h2
  obtain ⟨n1, rfl, b1⟩ := nat_of_u16 w1
  obtain ⟨n2, rfl, b2⟩ := nat_of_u32 w2
  exact walk W s0 l0 c0 _ (rowI_of w0) n1 b1 n2 b2

theorem holds : Rows.SheetBurstsSaid :=
  OpenClaim.holds_of_wide 13 Try.f13 rfl rfl rfl rfl rfl rfl rfl ⟨rfl, rfl, rfl, rfl, rfl⟩ rfl rfl rfl rfl rfl (by kernel_rfl) Try.func13 (by kernel_rfl)
    (of_decide_eq_true (by kernel_rfl)) (by unfold Func.isWrapper; first | (rw [if_pos (by decide +kernel)]; kernel_rfl) | (rw [if_neg (by decide +kernel)]; exact ⟨rfl, rfl⟩))
    (fun os started H enc _ => lifted os started H enc)
end Go.Proofs.Ytieekahlknmkfaa.sheetBursts
