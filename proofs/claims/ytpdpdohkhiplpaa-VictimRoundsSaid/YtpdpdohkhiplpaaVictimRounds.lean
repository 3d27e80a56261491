/- Law VictimRounds: for every input the call answers true; its arguments read as they did. No condition. -/
import Derived.Test.YtpdpdohkhiplpaaLaw
import Derived.Test.YtpdpdohkhiplpaaKnown16
namespace Go.Proofs.Ytpdpdohkhiplpaa.victimRounds
open Go.ChangeShapes Go.WideShapes Go.ChangeAt Go.RowKit Go.Shelf
open Go.ChangeMaps (open_string shut_string)
set_option linter.unusedVariables false
attribute [local go_sem] Oper.semAt_some wide_fn wide_round_fn


theorem infoSpot : (Try.prog.info? 33).map (fun i => (i.zero, i.size, i.bytes)) = some (some (.agg #[.int .i64 0, .int .i64 0, .int .i64 0, .int .i64 0]), 4, 32) := by kernel_rfl
theorem lsb_and (n : Nat) : n &&& 1 = (n.testBit 0).toNat := by
  have h := Nat.and_two_pow_sub_one_eq_mod n 1
  rw [show 2 ^ 1 - 1 = 1 from rfl, show 2 ^ 1 = 2 from rfl] at h
  rw [h, Nat.testBit_zero]
  rcases Nat.mod_two_eq_zero_or_one n with h2 | h2 <;> rw [h2] <;> rfl
theorem bits_and_u16 (a b : Nat) (ha : a < 65536) (hb : b < 65536) : bits .and .u16 (a : Int) (b : Int) = ((a &&& b : Nat) : Int) := by
  have hab : a &&& b < 2 ^ 16 := Nat.and_lt_two_pow _ (by omega)
  show IntKind.u16.wrap ((BitVec.ofInt 16 (a : Int) &&& BitVec.ofInt 16 (b : Int)).toNat : Int) = _
  have h1 : (BitVec.ofInt 16 (a : Int)).toNat = a := by rw [BitVec.toNat_ofInt]; omega
  have h2 : (BitVec.ofInt 16 (b : Int)).toNat = b := by rw [BitVec.toNat_ofInt]; omega
  rw [BitVec.toNat_and, h1, h2]
  simp [IntKind.wrap, IntKind.bits, IntKind.signed]; omega
theorem bit_at16 (c k : Nat) (hc : c < 65536) : bits .and .u16 ((c : Int) / 2 ^ k) 1 = ((c.testBit k).toNat : Int) := by
  have h1 : (c : Int) / 2 ^ k = ((c / 2 ^ k : Nat) : Int) := by push_cast; rfl
  have h2 : c / 2 ^ k < 65536 := Nat.lt_of_le_of_lt (Nat.div_le_self _ _) (by omega)
  rw [h1, show (1 : Int) = ((1 : Nat) : Int) from rfl, bits_and_u16 _ _ h2 (by decide), lsb_and]
  rw [Nat.testBit_zero, Nat.testBit_eq_decide_div_mod_eq]

def segsL (q : Nat) : List Int := (List.range q).map fun i : Nat => 3 + 2 * (i : Int)
theorem segsL_snoc (q : Nat) : intsV (segsL (q + 1)) = intsV (segsL q) ++ [.int .i64 (3 + 2 * (q : Int))] := by
  unfold segsL; rw [List.range_succ]; simp
theorem segsL_len (q : Nat) : (segsL q).length = q := by simp [segsL]
def spotsQ (c : Nat) : Nat → List SpotC
  | 0 => []
  | i + 1 => spotsQ c i ++ if c.testBit i then [⟨1, i + 1, 3 + 2 * i, 0⟩] else []
theorem spotsQ_len (c q : Nat) : (spotsQ c q).length ≤ q := by
  induction q with
  | zero => simp [spotsQ]
  | succ q ih => simp only [spotsQ, List.length_append]; split <;> simp <;> omega
theorem spotsQ_s (c q : Nat) : ∀ f ∈ spotsQ c q, 3 ≤ f.s ∧ f.s < 3 + 2 * q := by
  induction q with
  | zero => simp [spotsQ]
  | succ q ih =>
    intro f hf
    simp only [spotsQ, List.mem_append] at hf
    rcases hf with hf | hf
    · have := ih f hf; omega
    · split at hf
      · simp at hf; subst hf; simp only; omega
      · simp at hf
def lastQ (c k : Nat) : Nat → Nat
  | 0 => 0
  | i + 1 => if c.testBit i = true ∧ i + 1 < k then i + 1 else lastQ c k i
theorem lastQ_le (c k q : Nat) : lastQ c k q ≤ q := by
  induction q with
  | zero => simp [lastQ]
  | succ q ih => simp only [lastQ]; split <;> omega
theorem cnt_spotsQ (c q i : Nat) (hi : i < q) : cnt (spotsQ c q) (3 + 2 * (i : Int)) = if c.testBit i then 1 else 0 := by
  induction q with
  | zero => omega
  | succ q ih =>
    have hap : ∀ z, cnt (spotsQ c (q + 1)) z = cnt (spotsQ c q) z + (if c.testBit q = true ∧ (3 + 2 * (q : Int)) = z then 1 else 0) := fun z => by
      unfold cnt inL
      simp only [spotsQ, List.filter_append, List.length_append]
      congr 1
      by_cases hb : c.testBit q = true
      · by_cases hz : (3 + 2 * (q : Int)) = z <;> simp [hb, hz]
      · simp [hb]
    rw [hap]
    by_cases e : i = q
    · subst e
      have h0 : cnt (spotsQ c i) (3 + 2 * (i : Int)) = 0 := by
        unfold cnt inL
        rw [List.length_eq_zero_iff, List.filter_eq_nil_iff]
        intro f hf
        have := spotsQ_s c i f hf
        simp; omega
      rw [h0]
      by_cases hb : c.testBit i = true <;> simp [hb]
    · have h0 : (if c.testBit q = true ∧ (3 + 2 * (q : Int)) = 3 + 2 * (i : Int) then 1 else 0) = 0 := if_neg (by omega)
      rw [ih (by omega), h0, Nat.add_zero]
theorem back_last (c k : Nat) (hk : 1 ≤ k) (f : Nat → Nat) (hf : ∀ i, i < k → f i = if c.testBit i then 1 else 0) : back f (k - 1) = lastQ c k k := by
  have h : ∀ r, r ≤ k - 1 → back f r = lastQ c k r := fun r => by
    induction r with
    | zero => intro _; rfl
    | succ r ih =>
      intro hr
      simp only [back, lastQ]
      rw [hf r (by omega), ih (by omega)]
      by_cases hb : c.testBit r = true
      · simp [hb]; omega
      · simp [hb]
  rw [h (k - 1) (Nat.le_refl _)]
  obtain ⟨k, rfl⟩ : ∃ k', k = k' + 1 := ⟨k - 1, by omega⟩
  simp [lastQ]
theorem rounds_last (c k : Nat) (hk : 1 ≤ k) : roundsB (segsL k) (spotsQ c k) = lastQ c k k := by
  unfold roundsB
  rw [segsL_len]
  refine back_last c k hk _ fun i hi => ?_
  have : (segsL k).getD i 0 = 3 + 2 * (i : Int) := by simp [segsL, hi, List.getD]
  rw [this, cnt_spotsQ c k i hi]

set_option maxRecDepth 100000 in
set_option maxHeartbeats 2000000 in
theorem walk (n : Nat) (hn : n < 256) (c : Nat) (hc : c < 65536) (w : World) :
    Calls Try.prog 8 #[.int .u8 n, .int .u16 c] w fun e w' => e = .returned (.bool true) ∧ Below w.heap.size w w' := by
  obtain ⟨i0, hi, hz0, hz1, hz2⟩ := info_parts infoInt
  obtain ⟨j0, hj, hy0, hy1, hy2⟩ := info_parts infoSpot
  obtain ⟨k, hk, hk1, hk2⟩ : ∃ k : Nat, (n : Int) % 12 + 1 = (k : Int) ∧ 1 ≤ k ∧ k ≤ 12 := ⟨n % 12 + 1, by omega, by omega, by omega⟩
  go_enter Try.func8, Try.ntmps8
  go_wp2_with (go_at_call 19; refine (victim_known _).mono ?_; rintro e w1 ⟨rfl, hB1⟩)
  go_loopw [6, 7, 8, 9] (fun vs vl la i wr => ∃ q : Nat, q ≤ k ∧ i = .int .i64 q ∧ la = .int .i64 (lastQ c k q) ∧ wr.ownsRow w.heap.size 3 1 vs q (intsV (segsL q)) ∧ wr.ownsRow w.heap.size 33 4 vl (spotsQ c q).length (spotCells (spotsQ c q)) ∧ Below w.heap.size w wr) (fun _ _ _ i _ => k - (intOf i).toNat)
  case atStart => exact ⟨0, by omega, rfl, rfl, World.ownsRow_nil _ _ _ _, World.ownsRow_nil _ _ _ _, hB1⟩
  case round =>
    obtain ⟨q, hq, rfl, rfl, hs, hl, hB⟩ := hrel
    by_cases hlt : q < k
    · have hsn := Lib.hid (segsL_snoc q)
      have hln := spotsQ_len c q
      have hbt := bit_at16 c q hc
      rcases hb : c.testBit q with _ | _
      · rw [hb] at hbt
        have hbt : bits .and .u16 ((c : Int) / 2 ^ q) 1 = 0 := hbt
        have HL := Lib.hid (show spotsQ c (q + 1) = spotsQ c q by simp [spotsQ, hb])
        have HA := Lib.hid (show lastQ c k (q + 1) = lastQ c k q by simp [lastQ, hb])
        clear hb
        go_wp2_with (at_builtin; refine wpList_append_own _ rfl _ _ 23 rfl w.heap.size 3 i0 (.int .i64 0) 1 8 Try.underlying23 hi hz0 hz1 hz2 rfl (by decide) _ _ _ rfl (hs.alloc _) ⟨wr.heap.size, 0, none⟩ 1 1 [.int .i64 (3 + 2 * (q : Int))] rfl rfl (news_new _ _ _) (by simp [Value.oneCell']) (by unfold maxLen; omega) (by omega) (by have := hB.size; simp; omega) ?_; intro v' w2 hown' hgrow _)
        have hB2 : Below w.heap.size w w2 := (bel_alloc hB _).grown hgrow (by have := hB.size; simp; omega) (fun g e => ownBlock_ge hs e)
        have hl2 := (hl.alloc (.cells #[.int .i64 (3 + 2 * (q : Int))] 3)).kept hgrow (rows_apart hl hs (by decide))
        exact ⟨⟨q + 1, by omega, by go_num, by rw [HA.out], by rw [hsn.out]; exact hown', by rw [HL.out]; exact hl2, hB2⟩, by simp [intOf]; omega⟩
      · rw [hb] at hbt
        have hbt : bits .and .u16 ((c : Int) / 2 ^ q) 1 = 1 := hbt
        have HL := Lib.hid (show spotsQ c (q + 1) = spotsQ c q ++ [⟨1, q + 1, 3 + 2 * q, 0⟩] by simp [spotsQ, hb])
        have HA := Lib.hid (show lastQ c k (q + 1) = if q + 1 < k then q + 1 else lastQ c k q by simp [lastQ, hb])
        clear hb
        by_cases hlast : q + 1 < k
        · rw [if_pos hlast] at HA
          have hlast' : (q : Int) < (k : Int) - 1 := by omega
          go_wp2_with (first
            | (at_builtin; refine wpList_append_own _ rfl _ _ 23 rfl w.heap.size 3 i0 (.int .i64 0) 1 8 Try.underlying23 hi hz0 hz1 hz2 rfl (by decide) _ _ _ rfl (hs.alloc _) ⟨wr.heap.size, 0, none⟩ 1 1 [.int .i64 (3 + 2 * (q : Int))] rfl rfl (news_new _ _ _) (by simp [Value.oneCell']) (by unfold maxLen; omega) (by omega) (by have := hB.size; simp; omega) ?_; intro v' w2 hown' hgrow _; have hB2 : Below w.heap.size w w2 := (bel_alloc hB _).grown hgrow (by have := hB.size; simp; omega) (fun g e => ownBlock_ge hs e); have hl2 := (hl.alloc (.cells #[.int .i64 (3 + 2 * (q : Int))] 3)).kept hgrow (rows_apart hl hs (by decide)); have hszw := hB2.size)
            | (at_builtin; refine wpList_append_own _ rfl _ _ 22 rfl w.heap.size 33 j0 (.agg #[.int .i64 0, .int .i64 0, .int .i64 0, .int .i64 0]) 4 32 Try.underlying22 hj hy0 hy1 hy2 rfl (by decide) _ _ _ rfl (hl2.alloc _) ⟨w2.heap.size, 0, none⟩ 1 1 [.int .i64 1, .int .i64 ((q : Int) + 1), .int .i64 (3 + 2 * (q : Int)), .int .i64 0] rfl rfl (news_new _ _ _) (by simp [Value.oneCell']) (by unfold maxLen; omega) (by omega) (by simp; omega) ?_; intro v2 w3 hown2 hgrow2 _))
          have hB3 : Below w.heap.size w w3 := (bel_alloc hB2 _).grown hgrow2 (by simp; omega) (fun g e => ownBlock_ge hl2 e)
          have hs2 := (hown'.alloc (.cells #[.int .i64 1, .int .i64 ((q : Int) + 1), .int .i64 (3 + 2 * (q : Int)), .int .i64 0] 33)).kept hgrow2 (rows_apart hown' hl2 (by decide))
          exact ⟨⟨q + 1, by omega, by go_num, by rw [HA.out]; go_num, by rw [hsn.out]; exact hs2, by rw [HL.out, spotCells_snoc, List.length_append]; exact hown2, hB3⟩, by simp [intOf]; omega⟩
        · rw [if_neg hlast] at HA
          have hlast' : (k : Int) - 1 ≤ (q : Int) := by omega
          go_wp2_with (first
            | (at_builtin; refine wpList_append_own _ rfl _ _ 23 rfl w.heap.size 3 i0 (.int .i64 0) 1 8 Try.underlying23 hi hz0 hz1 hz2 rfl (by decide) _ _ _ rfl (hs.alloc _) ⟨wr.heap.size, 0, none⟩ 1 1 [.int .i64 (3 + 2 * (q : Int))] rfl rfl (news_new _ _ _) (by simp [Value.oneCell']) (by unfold maxLen; omega) (by omega) (by have := hB.size; simp; omega) ?_; intro v' w2 hown' hgrow _; have hB2 : Below w.heap.size w w2 := (bel_alloc hB _).grown hgrow (by have := hB.size; simp; omega) (fun g e => ownBlock_ge hs e); have hl2 := (hl.alloc (.cells #[.int .i64 (3 + 2 * (q : Int))] 3)).kept hgrow (rows_apart hl hs (by decide)); have hszw := hB2.size)
            | (at_builtin; refine wpList_append_own _ rfl _ _ 22 rfl w.heap.size 33 j0 (.agg #[.int .i64 0, .int .i64 0, .int .i64 0, .int .i64 0]) 4 32 Try.underlying22 hj hy0 hy1 hy2 rfl (by decide) _ _ _ rfl (hl2.alloc _) ⟨w2.heap.size, 0, none⟩ 1 1 [.int .i64 1, .int .i64 ((q : Int) + 1), .int .i64 (3 + 2 * (q : Int)), .int .i64 0] rfl rfl (news_new _ _ _) (by simp [Value.oneCell']) (by unfold maxLen; omega) (by omega) (by simp; omega) ?_; intro v2 w3 hown2 hgrow2 _))
          have hB3 : Below w.heap.size w w3 := (bel_alloc hB2 _).grown hgrow2 (by simp; omega) (fun g e => ownBlock_ge hl2 e)
          have hs2 := (hown'.alloc (.cells #[.int .i64 1, .int .i64 ((q : Int) + 1), .int .i64 (3 + 2 * (q : Int)), .int .i64 0] 33)).kept hgrow2 (rows_apart hown' hl2 (by decide))
          exact ⟨⟨q + 1, by omega, by go_num, by rw [HA.out], by rw [hsn.out]; exact hs2, by rw [HL.out, spotCells_snoc, List.length_append]; exact hown2, hB3⟩, by simp [intOf]; omega⟩
    · obtain rfl : q = k := by omega
      have hsz := spotsQ_len c q
      have hR := rounds_last c q hk1
      have hbd : ∀ f ∈ spotsQ c q, -9223372036854775808 ≤ f.s ∧ f.s < 9223372036854775808 := fun f hf => by have := spotsQ_s c q f hf; omega
      have hwz : ∀ z ∈ segsL q, (Lit.int .i64 z).wf = true := fun z hz => by
        simp only [segsL, List.mem_map, List.mem_range] at hz
        obtain ⟨i, h1, rfl⟩ := hz
        exact wf_i64 (by omega)
      obtain ⟨sa, cs, rfl, hcs, hrs⟩ := rowI_own hs hwz
      obtain ⟨al, cl, rfl, hcl, hrl⟩ := rowV_own hl
      have R1 := Lib.hid (show Gives Try.prog 22 #[.slice sa q cs, .slice al (spotsQ c q).length cl] wr (.int .i64 (lastQ c q q)) from by
        have := rounds_any (spotsQ c q) (segsL q) hbd al sa (spotsQ c q).length cl q cs rfl (by omega) (by omega) hcs wr hrl hrs
        rwa [hR] at this)
      have S1 := Lib.hid (fun (W : World) (hW : Below wr.heap.size wr W) => sealed_any sa q cs (segsL q) (by omega) hcs W (rowI_below hrs hW))
      have R2 := Lib.hid (fun (W : World) (hW : Below wr.heap.size wr W) => show Gives Try.prog 22 #[.slice none 0 0, .slice al (spotsQ c q).length cl] W (.int .i64 0) from
        rounds_any (spotsQ c q) [] hbd al none (spotsQ c q).length cl 0 0 rfl (by omega) (by decide) (by decide) W (hrl.below hW) ⟨rfl, by simp [maxLen], by simp, fun h => absurd h (by omega)⟩)
      have hq1 : ((q - 1 : Nat) : Int) = (q : Int) - 1 := by omega
      have t1 : (((q - 1 : Nat) : Int) == (q : Int) - 1) = true := by rw [beq_iff_eq]; exact hq1
      clear hs hl hR hbd hwz hrs hrl hq1 hlt
      go_wp2_with (first
        | (go_at_call 22; ((with_reducible refine (R1.out).mono ?_); rintro e w2 ⟨rfl, hB2⟩))
        | (go_at_call 21; ((with_reducible refine (S1.out w2 hB2).mono ?_); rintro e w3 ⟨v, rfl, hown, hB3⟩; obtain ⟨a', c', rfl, hn', hrow⟩ := rowV_own hown))
        | (go_at_call 22; ((with_reducible refine (R2.out w3 (bel2 hB2 hB3)).mono ?_); rintro e w4 ⟨rfl, hB4⟩)))
      go_ret
      exact ⟨rfl, bel2 (bel2 (bel2 hB hB2) hB3) hB4⟩

set_option maxRecDepth 100000 in
theorem lifted (os : Os) (started : os.Started) (H : Type) (enc : TypeId × Value → H) :
    ReturnsInHanded {} Try.checked os 8 .any (Rows.victimRoundsSpec.pre6 enc Try.prog Try.f8 Rows.victimRoundsRow.domain false) (Rows.victimRoundsSpec.post enc Try.prog Try.f8 false true false false) := by
  refine returnsInHanded_of_change (C := Try.checked) Try.own started (by kernel_rfl) Try.func8
    (ChangeSpec.witness6 (enc := enc) (C := Try.checked) false ⟨#[], #[.int .u8 0, .int .u16 0], []⟩ 8 (by kernel_rfl) (by kernel_rfl) (by kernel_rfl) (by kernel_rfl)) ?_
  intro W base args ds gs before hval hW _ _
  refine law_contract (T := 4) (n := 2) Try.laid Try.underlying4 rfl rfl ⟨rfl, fun H ds h => by match ds, h with | [_, _], _ => rfl⟩ (of_all (by kernel_rfl)) hW ?_
  intro ps hA
  rw [Try.params8] at hA hval
  obtain ⟨v0, vs0, d0, ds0, p0, q0, hargs, rfl, rfl, h0, r0⟩ := trodAll_cons hA
  obtain ⟨v1, vs1, d1, ds1, p1, q1, rfl, rfl, rfl, h1, r1⟩ := trodAll_cons r0
  obtain ⟨rfl, rfl, rfl⟩ := trodAll_nil r1
  obtain rfl : args = #[v0, v1] := by cases args; simp_all
  obtain ⟨a0, rfl, rfl, rfl, w0⟩ := open_int Try.underlying5 (hval 0 5 v0 rfl rfl) h0
  obtain ⟨a1, rfl, rfl, rfl, w1⟩ := open_int Try.underlying44 (hval 1 44 v1 rfl rfl) h1
  obtain ⟨n0, rfl, b0⟩ := nat_of_u8 w0
  obtain ⟨n1, rfl, b1⟩ := nat_of_u16 w1
  exact walk n0 b0 n1 b1 W

theorem holds : Rows.VictimRoundsSaid :=
  OpenClaim.holds_of_wide 8 Try.f8 rfl rfl rfl rfl rfl rfl rfl ⟨rfl, rfl, rfl, rfl, rfl⟩ rfl rfl rfl rfl rfl (by kernel_rfl) Try.func8 (by kernel_rfl)
    (of_decide_eq_true (by kernel_rfl)) (by unfold Func.isWrapper; first | (rw [if_pos (by decide +kernel)]; kernel_rfl) | (rw [if_neg (by decide +kernel)]; exact ⟨rfl, rfl⟩))
    (fun os started H enc _ => lifted os started H enc)
end Go.Proofs.Ytpdpdohkhiplpaa.victimRounds
