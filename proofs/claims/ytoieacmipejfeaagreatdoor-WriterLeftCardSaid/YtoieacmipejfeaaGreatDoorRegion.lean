/- A region that draws its order, within a fence that shuts nothing out: its operations but the last ones only read, and these come in one order. -/
import Derived.Test.YtoieacmipejfeaaGreatDoorKit
import Derived.StillTailTactics
namespace Go.Proofs.YtoieacmipejfeaaGreatDoor
open Go.RowKit Go.Shelf
set_option linter.unusedVariables false

/-- Left in the plain way alone. -/
def onlyNormal (Q : Exit → Act → World → Prop) (e : Exit) (a : Act) (w : World) : Prop := e = .normal ∧ Q .normal a w
theorem onlyNormal_mk {Q : Exit → Act → World → Prop} {a : Act} {w : World} (h : Q .normal a w) : onlyNormal Q .normal a w := ⟨rfl, h⟩
def isDefer : Op → Bool
  | .defer _ => true
  | _ => false

theorem operIn_of_plain {F : Fence} {n : Nat} {P : Program} {o : Oper} {a : Act} {w : World} {K : Act → World → Prop} {Q : Exit → Act → World → Prop} (hF : ∃ ro, F = { Fence.wide with round := ro }) (hd : isDefer o.op = false)
    (h : o.wp P a w K (onlyNormal Q)) : o.wpIn F n P a w K Q := by
  obtain ⟨ro, rfl⟩ := hF
  refine ⟨fun _ _ => trivial, ?_⟩
  rw [Oper.semAt_plain _ _ _ (fun c hc => by rw [hc] at hd; cases hd)]
  unfold Oper.wp at h
  generalize (execOp a.eval o).run P w = r at *
  have calls : ∀ {f args w' R}, Calls P f args w' R → CallsIn { Fence.wide with round := ro } (n - 1) P f args w' R := fun {f args w' R} h => by
    have h1 : CallsIn Fence.wide (n - 1) P f args w' R := callsIn_wide.2 h
    exact h1
  cases r with
  | ok x w' =>
    cases x <;> simp only [Oper.upon, Oper.uponIn] at h ⊢
    case value => exact h
    case skip => exact h
    case defer => exact h
    case enter f args =>
      refine ⟨fun h => by simp [Fence.wide] at h, (calls h).mono fun e w'' he => ?_⟩
      cases e with
      | returned v => exact he
      | panicked c => exact absurd he.1 (by simp)
      | outgrown => obtain ⟨_, _, hq, _⟩ := he; cases hq
    case row row args =>
      refine ⟨fun h => by simp [Fence.wide] at h, fun c cs _ => ?_⟩
      obtain ⟨v, w'', hR, hs⟩ := h c cs
      exact ⟨v, w'', hR, (stepsIn_wide (P := P)).2 hs⟩
  | halt x w' =>
    cases x <;> simp only [Oper.upon] at h
    case panic => exact absurd h.1 (by simp)

theorem anyIn_of_plain {F : Fence} {n : Nat} {P : Program} {ops : Array Oper} {md : Region.Mode} {Q : Exit → Act → World → Prop} (hF : ∃ ro, F = { Fence.wide with round := ro }) (hd : ∀ (i : Nat) (o : Oper), ops[i]? = some o → isDefer o.op = false) :
    ∀ (fuel : Nat) (listed : Array Bool) (a : Act) (w : World), wpAny P md ops (onlyNormal Q) fuel listed a w → wpAnyIn F n P md ops Q fuel listed a w := by
  intro fuel
  induction fuel with
  | zero => exact fun listed a w h => ⟨h.1, h.2.2⟩
  | succ fuel ih =>
    intro listed a w h
    refine ⟨fun hr => (h.1 hr).2, fun i hi => ?_⟩
    have h1 := h.2 i hi
    unfold wpOp at h1
    unfold wpOpIn
    cases ho : ops[i]? with
    | none => simp only [ho] at h1 ⊢; exact ih _ _ _ h1
    | some o =>
      simp only [ho] at h1 ⊢
      by_cases hw : Region.wanted o (yielded ops a.tmps) = true
      · simp only [hw, if_true] at h1 ⊢
        rcases h1 with h1 | ⟨_, _, _, hq, _⟩
        · exact Oper.wpIn_mono (fun a w => ih _ a w) (operIn_of_plain hF (hd i o ho) h1)
        · cases hq
      · simp only [hw, if_false, Bool.false_eq_true] at h1 ⊢
        obtain ⟨ro, rfl⟩ := hF
        exact ⟨fun _ _ => trivial, ih _ _ _ h1⟩

theorem wpIn_still_tail {F : Fence} {n : Nat} {P : Program} {id : Nat} {Q : Exit → Act → World → Prop} {a : Act} {w : World} {l : List Oper} (m : Nat) (hm : P.follows .mixedOrders = true) (hB : Region.lexTailB .any l.toArray m = true)
    (hd : l.all (fun o => !isDefer o.op) = true) (hF : ∃ ro, F = { Fence.wide with round := ro })
    (h : wpStill P l.toArray w.drew (fun a' => wpList P l.toArray (onlyNormal Q) (l.drop m) a' w.drew) (l.take m) a) : (Code.region id l.toArray true).wpIn F n P Q a w := by
  simp only [Region.lexTailB, Bool.and_eq_true, decide_eq_true_eq] at hB
  obtain ⟨⟨⟨⟨hsel, hn⟩, hs⟩, hc⟩, hlex⟩ := hB
  have hn' : m < l.length := by simpa using hn
  have htl : (l.take m).length = m := by simp; omega
  have hdl : (l.drop m).length = l.toArray.size - m := by simp
  have inv0 : HeadInv .any l.toArray m (Array.replicate l.toArray.size false) :=
    ⟨by simp, fun j oj _ hl => (by rw [getD_replicate_false] at hl; cases hl), fun t _ ht => getD_in (by simpa using ht) (getD_replicate_false _ _)⟩
  have H := wpAnyL_lex (md := .any) (g := l.toArray.size - m) hsel hs hc hn (l.take m) 0 _ a (fun j hj => by
    have hj' : j < m := by rw [htl] at hj; exact hj
    simp [hj']) (by simpa using htl) inv0 (by rw [htl]; exact hlex) h
  refine wpIn_region_any hm ?_
  have H2 := wpAny_of_head (Q' := onlyNormal Q) (g := l.toArray.size - m) (fun listed a' hL => by
    have h3 := wpAny_of_seq (md := .any) (Q' := onlyNormal Q) (l.drop m) m listed a' w.drew (fun j => by simp [List.getElem?_drop]) (by rw [hdl]; exact hL.1) hL.2
    rwa [hdl] at h3) _ _ _ H
  rw [htl, show m + (l.toArray.size - m) = l.toArray.size by omega] at H2
  refine anyIn_of_plain hF (fun i o ho => ?_) _ _ _ _ H2
  have hmem : o ∈ l := by
    simp only [List.getElem?_toArray] at ho
    exact List.mem_of_getElem? ho
  have := List.all_eq_true.1 hd o hmem
  simpa using this

theorem pow128 (k : Nat) : 2 ^ (7 * k) = 128 ^ k := by rw [Nat.pow_mul]
theorem pow128_9 : (128 : Nat) ^ 9 = 9223372036854775808 := by decide
theorem pow128_le {k : Nat} (hk : k ≤ 8) : 128 ^ k * 128 ≤ 9223372036854775808 := by
  rw [← pow128_9, ← Nat.pow_succ]; exact Nat.pow_le_pow_right (by decide) (by omega)
theorem bits_or_i64 (a b : Nat) (ha : a < 9223372036854775808) (hb : b < 9223372036854775808) : bits .or .i64 (a : Int) (b : Int) = ((a ||| b : Nat) : Int) := by
  have hab : a ||| b < 2 ^ 63 := Nat.or_lt_two_pow (by omega) (by omega)
  show IntKind.i64.wrap ((BitVec.ofInt 64 (a : Int) ||| BitVec.ofInt 64 (b : Int)).toNat : Int) = _
  rw [BitVec.toNat_or, ofInt_u64 a (by omega), ofInt_u64 b (by omega)]
  exact IntWalk.i64_in _ (by omega)
/-- Seven bits more, by 'or': of a sum that is less. -/
theorem or_seven {N k c : Nat} (hN : N < 128 ^ k) (hc : c < 256) (hk : k ≤ 8) :
    bits .or .i64 (N : Int) (IntKind.i64.wrap (IntKind.i64.wrap ((c : Int).tmod 128) * 2 ^ (7 * (k : Int)).toNat)) = ((N + c % 128 * 128 ^ k : Nat) : Int) := by
  have hp := pow128_le hk
  have hc2 : c % 128 < 128 := Nat.mod_lt _ (by decide)
  have hm : c % 128 * 128 ^ k ≤ 127 * 128 ^ k := Nat.mul_le_mul_right _ (by omega)
  have hlt : c % 128 * 128 ^ k < 9223372036854775808 := by omega
  have hN2 : N < 9223372036854775808 := by omega
  have e1 : (c : Int).tmod 128 = ((c % 128 : Nat) : Int) := by rw [Int.tmod_eq_emod_of_nonneg (by omega)]; rfl
  have e2 : (7 * (k : Int)).toNat = 7 * k := by omega
  have e3 : ((c % 128 : Nat) : Int) * 2 ^ (7 * k) = ((c % 128 * 128 ^ k : Nat) : Int) := by rw [← pow128]; push_cast; rfl
  have w1 : ∀ m : Nat, m < 9223372036854775808 → IntKind.i64.wrap (m : Int) = (m : Int) := fun m hm => IntWalk.i64_in _ (by omega)
  rw [e1, e2, w1 _ (by omega), e3, w1 _ hlt, bits_or_i64 _ _ hN2 hlt, Nat.or_comm, nat_join (7 * k) _ _ (by rw [pow128]; exact Nat.mul_mod_left _ _) (by rw [pow128]; exact hN), Nat.add_comm]

theorem or_seven0 {N k c : Nat} (hN : N < 128 ^ k) (hc : c < 1) (hk : k ≤ 8) :
    bits .or .i64 (N : Int) (IntKind.i64.wrap (IntKind.i64.wrap 0 * 2 ^ (7 * (k : Int)).toNat)) = ((N + c % 128 * 128 ^ k : Nat) : Int) := by
  obtain rfl : c = 0 := by omega
  have := or_seven (c := 0) hN (by decide) hk
  rwa [show ((0 : Nat) : Int).tmod 128 = 0 from rfl] at this

theorem or_byte' {N k c : Nat} (hN : N < 256 ^ k) (hc : c < 256) (hk : k < 4) : bits .or .u32 (N : Int) (IntKind.u32.wrap ((c : Int) * 2 ^ (8 * (k : Int)).toNat)) = ((N + c * 256 ^ k : Nat) : Int) := by
  have e2 : (8 * (k : Int)).toNat = 8 * k := by omega
  rw [e2, IntKind.wrap_u32', or_byte hN hc hk]

theorem bits_and_i64 (a b : Nat) (ha : a < 9223372036854775808) (hb : b < 9223372036854775808) : bits .and .i64 (a : Int) (b : Int) = ((a &&& b : Nat) : Int) := by
  have hab : a &&& b < 2 ^ 63 := Nat.and_lt_two_pow _ (by omega)
  show IntKind.i64.wrap ((BitVec.ofInt 64 (a : Int) &&& BitVec.ofInt 64 (b : Int)).toNat : Int) = _
  rw [BitVec.toNat_and, ofInt_u64 a (by omega), ofInt_u64 b (by omega)]
  exact IntWalk.i64_in _ (by omega)
/-- The low seven bits, with the eighth one set. -/
theorem seven_set (m : Nat) (hm : m < 9223372036854775808) : bits .or .u8 (bits .and .i64 (m : Int) 127 % 256) 128 = ((UInt8.ofNat (m % 128 + 128)).toNat : Int) := by
  have h1 : bits .and .i64 (m : Int) 127 = ((m % 128 : Nat) : Int) := by
    rw [show (127 : Int) = ((127 : Nat) : Int) from rfl, bits_and_i64 m 127 hm (by decide), nat_mask7]
  have h2 : ((m % 128 : Nat) : Int) % 256 = ((m % 128 : Nat) : Int) := by omega
  have hlt : m % 128 < 2 ^ 7 := Nat.mod_lt _ (by decide)
  rw [h1, h2, show (128 : Int) = ((128 : Nat) : Int) from rfl, u8_or_nat _ _ (by omega) (by decide), Nat.or_comm, nat_join 7 128 _ (by decide) hlt]
  simp; omega
theorem leN_take4 (s : ByteArray) (h : 4 ≤ s.size) : leN (s.data.toList.take 4) = (s[0]'(by omega)).toNat + 256 * ((s[1]'(by omega)).toNat + 256 * ((s[2]'(by omega)).toNat + 256 * (s[3]'(by omega)).toNat)) := by
  obtain ⟨⟨l⟩⟩ := s
  match l, h with
  | a :: b :: c :: d :: r, _ => rfl
theorem four_or (a b c d : Nat) (ha : a < 256) (hb : b < 256) (hc : c < 256) (hd : d < 256) :
    bits .or .u32 (bits .or .u32 (bits .or .u32 ((a : Int) % 4294967296) ((b : Int) % 4294967296 * 256 % 4294967296)) ((c : Int) % 4294967296 * 65536 % 4294967296)) ((d : Int) % 4294967296 * 16777216 % 4294967296) = ((a + 256 * (b + 256 * (c + 256 * d)) : Nat) : Int) := by
  have e1 : (a : Int) % 4294967296 = ((a : Nat) : Int) := by omega
  have e2 : (b : Int) % 4294967296 * 256 % 4294967296 = ((b * 256 : Nat) : Int) := by omega
  have e3 : (c : Int) % 4294967296 * 65536 % 4294967296 = ((c * 65536 : Nat) : Int) := by omega
  have e4 : (d : Int) % 4294967296 * 16777216 % 4294967296 = ((d * 16777216 : Nat) : Int) := by omega
  rw [e1, e2, u32_or_nat _ _ (by omega) (by omega), Nat.or_comm, nat_join 8 _ _ (by omega) (by omega), e3,
    u32_or_nat _ _ (by omega) (by omega), Nat.or_comm, nat_join 16 _ _ (by omega) (by omega), e4,
    u32_or_nat _ _ (by omega) (by omega), Nat.or_comm, nat_join 24 _ _ (by omega) (by omega)]
  congr 1; omega

theorem ba_append (a b : List UInt8) : (⟨a.toArray⟩ ++ ⟨b.toArray⟩ : ByteArray) = ⟨(a ++ b).toArray⟩ := by
  apply ByteArray.ext
  simp
theorem ba_self (s : ByteArray) : (⟨s.data.toList.toArray⟩ : ByteArray) = s := by cases s; simp

theorem or_seven_w {N k c : Nat} (hN : N < 128 ^ k) (hc : c < 256) (hk : k ≤ 8) :
    bits .or .i64 (N : Int) (wrap64 (wrap64 (bits .and .u8 (c : Int) 127) * 2 ^ (7 * k))) = ((N + c % 128 * 128 ^ k : Nat) : Int) := by
  have h1 : bits .and .u8 (c : Int) 127 = ((c % 128 : Nat) : Int) := by
    rw [show (127 : Int) = ((127 : Nat) : Int) from rfl, u8_and_nat c 127 hc (by decide), nat_mask7]
  have hp := pow128_le hk
  have hc2 : c % 128 < 128 := Nat.mod_lt _ (by decide)
  have hm : c % 128 * 128 ^ k ≤ 127 * 128 ^ k := Nat.mul_le_mul_right _ (by omega)
  have hlt : c % 128 * 128 ^ k < 9223372036854775808 := by omega
  have hN2 : N < 9223372036854775808 := by omega
  have e3 : ((c % 128 : Nat) : Int) * 2 ^ (7 * k) = ((c % 128 * 128 ^ k : Nat) : Int) := by rw [← pow128]; push_cast; rfl
  have w1 : ∀ m : Nat, m < 9223372036854775808 → wrap64 (m : Int) = (m : Int) := fun m hm => IntWalk.wrap64_in _ (by omega)
  rw [h1, w1 _ (by omega), e3, w1 _ hlt, bits_or_i64 _ _ hN2 hlt, Nat.or_comm, nat_join (7 * k) _ _ (by rw [pow128]; exact Nat.mul_mod_left _ _) (by rw [pow128]; exact hN), Nat.add_comm]
theorem or_seven_w8 {N c : Nat} (hN : N < 128 ^ 8) (hc : c < 256) :
    bits .or .i64 (N : Int) (wrap64 (wrap64 (bits .and .u8 (c : Int) 127) * 72057594037927936)) = ((N + c % 128 * 128 ^ 8 : Nat) : Int) := by
  have := or_seven_w hN hc (by decide)
  rwa [show (2 : Int) ^ (7 * 8) = 72057594037927936 from by decide] at this
theorem or_seven_w0 {N c : Nat} (hN : N < 128 ^ 0) (hc : c < 256) :
    bits .or .i64 (N : Int) (wrap64 (wrap64 (bits .and .u8 (c : Int) 127))) = ((N + c % 128 * 128 ^ 0 : Nat) : Int) := by
  have := or_seven_w hN hc (by decide)
  rwa [show (2 : Int) ^ (7 * 0) = 1 from by decide, Int.mul_one] at this

end Go.Proofs.YtoieacmipejfeaaGreatDoor
