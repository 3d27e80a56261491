/- CrcMath, Crc, Known2: in one text. -/
import Derived.Lib.Hide
import Derived.Test.YtoieacmipejfeaaGreatDoorKit
import Derived.Test.YtoieacmipejfeaaGreatDoorCode
/- Check sums on bits alone: a register of 32 bits that takes in one bit after another. -/
namespace Go.Proofs.YtoieacmipejfeaaGreatDoor
set_option linter.unusedVariables false

def Zc (c : BitVec 32) : BitVec 32 := (c >>> 1) ^^^ (if c.getLsbD 0 then 2197175160#32 else 0#32)
def stepC (c : BitVec 32) (b : Bool) : BitVec 32 := (c >>> 1) ^^^ (if c.getLsbD 0 ^^ b then 2197175160#32 else 0#32)
def regF (f : Nat → Bool) (c : BitVec 32) : Nat → BitVec 32
  | 0 => c
  | n + 1 => stepC (regF f c n) (f n)
def Zit : Nat → BitVec 32 → BitVec 32
  | 0, c => c
  | n + 1, c => Zit n (Zc c)
def valF (f : Nat → Bool) : Nat → BitVec 32
  | 0 => 0#32
  | n + 1 => valF f n ^^^ (if f n then 1#32 <<< n else 0#32)

theorem xor4 (a b c d : BitVec 32) : (a ^^^ b) ^^^ (c ^^^ d) = (a ^^^ c) ^^^ (b ^^^ d) := by
  rw [BitVec.xor_assoc, BitVec.xor_assoc, ← BitVec.xor_assoc b c d, BitVec.xor_comm b c, BitVec.xor_assoc c b d]
theorem ite_xor (p q : Bool) (t : BitVec 32) : (if p ^^ q then t else 0#32) = (if p then t else 0#32) ^^^ (if q then t else 0#32) := by
  cases p <;> cases q <;> simp
theorem stepC_xor (c d : BitVec 32) (b e : Bool) : stepC (c ^^^ d) (b ^^ e) = stepC c b ^^^ stepC d e := by
  unfold stepC
  rw [BitVec.ushiftRight_xor_distrib, BitVec.getLsbD_xor, xor4, ← ite_xor]
  congr 2
  cases c.getLsbD 0 <;> cases d.getLsbD 0 <;> cases b <;> cases e <;> rfl
theorem regF_xor (f g : Nat → Bool) (c d : BitVec 32) (n : Nat) : regF (fun j => f j ^^ g j) (c ^^^ d) n = regF f c n ^^^ regF g d n := by
  induction n with
  | zero => rfl
  | succ n ih => simp only [regF, ih, stepC_xor]
theorem regF_congr {f g : Nat → Bool} (c : BitVec 32) (n : Nat) (h : ∀ j, j < n → f j = g j) : regF f c n = regF g c n := by
  induction n with
  | zero => rfl
  | succ n ih => simp only [regF]; rw [ih (fun j hj => h j (by omega)), h n (by omega)]
theorem regF_add (f : Nat → Bool) (c : BitVec 32) (m n : Nat) : regF f c (m + n) = regF (fun j => f (m + j)) (regF f c m) n := by
  induction n with
  | zero => rfl
  | succ n ih => rw [← Nat.add_assoc]; simp only [regF]; rw [ih]
theorem stepC_false (c : BitVec 32) : stepC c false = Zc c := by simp [stepC, Zc]
theorem stepC_eq (c : BitVec 32) (b : Bool) : stepC c b = Zc (c ^^^ (if b then 1#32 else 0#32)) := by
  unfold stepC Zc
  cases b
  · simp
  · have h : (1#32 : BitVec 32) >>> 1 = 0#32 := by decide
    rw [if_pos rfl, BitVec.ushiftRight_xor_distrib, h, BitVec.xor_zero, BitVec.getLsbD_xor]
    rfl
theorem Zc_xor (c d : BitVec 32) : Zc (c ^^^ d) = Zc c ^^^ Zc d := by
  have := stepC_xor c d false false
  simpa [stepC_false] using this
theorem Zc_zero : Zc 0#32 = 0#32 := by decide
theorem Zit_xor (n : Nat) (c d : BitVec 32) : Zit n (c ^^^ d) = Zit n c ^^^ Zit n d := by
  induction n generalizing c d with
  | zero => rfl
  | succ n ih => simp only [Zit, Zc_xor, ih]
theorem Zit_succ (n : Nat) (c : BitVec 32) : Zit (n + 1) c = Zc (Zit n c) := by
  induction n generalizing c with
  | zero => rfl
  | succ n ih => rw [Zit, ih, Zit]
theorem Zc_zero_of {c : BitVec 32} (h : Zc c = 0#32) : c = 0#32 := by
  unfold Zc at h
  by_cases hb : c.getLsbD 0 = true
  · rw [if_pos hb] at h
    have := congrArg (fun x => x.getLsbD 31) h
    simp at this
  · have hb' : c.getLsbD 0 = false := by simpa using hb
    rw [if_neg hb, BitVec.xor_zero] at h
    refine BitVec.eq_of_getLsbD_eq fun i hi => ?_
    cases i with
    | zero => exact hb'
    | succ i =>
      have := congrArg (fun x => x.getLsbD i) h
      simpa [BitVec.getLsbD_ushiftRight, Nat.add_comm] using this
theorem Zit_zero_of (n : Nat) {c : BitVec 32} (h : Zit n c = 0#32) : c = 0#32 := by
  induction n generalizing c with
  | zero => exact h
  | succ n ih => exact Zc_zero_of (ih h)
theorem regF_false (c : BitVec 32) (f : Nat → Bool) (n : Nat) (h : ∀ j, j < n → f j = false) : regF f c n = Zit n c := by
  induction n with
  | zero => rfl
  | succ n ih => rw [Zit_succ, regF, h n (by omega), stepC_false, ih (fun j hj => h j (by omega))]
theorem Zit_zero (n : Nat) : Zit n 0#32 = 0#32 := by
  induction n with
  | zero => rfl
  | succ n ih => rw [Zit, Zc_zero, ih]
theorem Zc_one (n : Nat) (hn : n + 1 < 32) : Zc (1#32 <<< (n + 1)) = 1#32 <<< n := by
  unfold Zc
  rw [if_neg (by simp), BitVec.xor_zero]
  refine BitVec.eq_of_getLsbD_eq fun i hi => ?_
  rw [BitVec.getLsbD_ushiftRight, BitVec.getLsbD_shiftLeft, BitVec.getLsbD_shiftLeft]
  have e : 1 + i - (n + 1) = i - n := by omega
  rw [e]
  by_cases h1 : i < n
  · rw [decide_eq_true (show 1 + i < n + 1 by omega), decide_eq_true h1]; simp
  · rw [decide_eq_false (show ¬ 1 + i < n + 1 by omega), decide_eq_false h1, decide_eq_true hi]
    by_cases h2 : 1 + i < 32
    · rw [decide_eq_true h2]
    · have h3 : 0 < i - n := by omega
      simp [BitVec.getLsbD_one]; omega
theorem Zit_one (n : Nat) (hn : n < 32) : Zit n (1#32 <<< n) = 1#32 := by
  induction n with
  | zero => rfl
  | succ n ih => rw [Zit, Zc_one n hn, ih (by omega)]
theorem regF_val (f : Nat → Bool) (c : BitVec 32) (n : Nat) (hn : n ≤ 32) : regF f c n = Zit n (c ^^^ valF f n) := by
  induction n with
  | zero => simp [regF, Zit, valF]
  | succ n ih =>
    rw [regF, ih (by omega), stepC_eq, Zit_succ, valF, ← BitVec.xor_assoc, Zit_xor n (c ^^^ valF f n)]
    congr 2
    cases f n
    · simp [Zit_zero]
    · simp [Zit_one n (by omega)]
theorem valF_get (f : Nat → Bool) (n i : Nat) (hi : i < 32) : (valF f n).getLsbD i = (decide (i < n) && f i) := by
  induction n with
  | zero => simp [valF]
  | succ n ih =>
    rw [valF, BitVec.getLsbD_xor, ih]
    by_cases h : i = n
    · subst h
      cases f i <;> simp [hi]
    · have h2 : (if f n = true then 1#32 <<< n else 0#32).getLsbD i = false := by
        cases f n
        · simp
        · rw [if_pos rfl, BitVec.getLsbD_shiftLeft]
          by_cases h3 : i < n
          · simp [h3]
          · simp [BitVec.getLsbD_one]; omega
      rw [h2]
      by_cases h3 : i < n
      · simp [h3, show i < n + 1 by omega]
      · simp [h3, show ¬ i < n + 1 by omega]
theorem valF_byte (b : Nat) (hb : b < 256) : valF (fun j => b.testBit j) 8 = BitVec.ofNat 32 b := by
  refine BitVec.eq_of_getLsbD_eq fun i hi => ?_
  rw [valF_get _ _ _ hi, BitVec.getLsbD_ofNat]
  by_cases h : i < 8
  · simp [h, hi]
  · have : b.testBit i = false := Nat.testBit_lt_two_pow (Nat.lt_of_lt_of_le hb (show 2 ^ 8 ≤ 2 ^ i from Nat.pow_le_pow_right (by decide) (by omega)))
    simp [h, this]

/-- The j-th bit of bytes. -/
def bitB (l : List UInt8) (j : Nat) : Bool := (l.getD (j / 8) 0).toNat.testBit (j % 8)
/-- The sum that goes on from c with bytes. -/
def crcM (c : BitVec 32) (l : List UInt8) : BitVec 32 := ~~~ (regF (bitB l) (~~~ c) (8 * l.length))

theorem bitB_left (a b : List UInt8) (j : Nat) (hj : j < 8 * a.length) : bitB (a ++ b) j = bitB a j := by
  unfold bitB
  rw [List.getD_eq_getElem?_getD, List.getElem?_append_left (by omega), ← List.getD_eq_getElem?_getD]
theorem bitB_right (a b : List UInt8) (j : Nat) : bitB (a ++ b) (8 * a.length + j) = bitB b j := by
  unfold bitB
  rw [List.getD_eq_getElem?_getD, List.getElem?_append_right (by omega), ← List.getD_eq_getElem?_getD, show (8 * a.length + j) / 8 - a.length = j / 8 by omega, show (8 * a.length + j) % 8 = j % 8 by omega]
theorem crcM_nil (c : BitVec 32) : crcM c [] = c := by simp [crcM, regF]
theorem crcM_append (c : BitVec 32) (a b : List UInt8) : crcM c (a ++ b) = crcM (crcM c a) b := by
  unfold crcM
  rw [List.length_append, Nat.mul_add, regF_add, BitVec.not_not, regF_congr _ _ (bitB_left a b), regF_congr (f := fun j => bitB (a ++ b) (8 * a.length + j)) _ _ (fun j _ => bitB_right a b j)]
theorem crcM_xor3 (a b c d : List UInt8) (hb : b.length = a.length) (hc : c.length = a.length) (hd : d.length = a.length) (h : ∀ j, j < 8 * a.length → bitB d j = ((bitB a j ^^ bitB b j) ^^ bitB c j)) :
    crcM 0#32 d = (crcM 0#32 a ^^^ crcM 0#32 b) ^^^ crcM 0#32 c := by
  unfold crcM
  rw [hb, hc, hd, regF_congr _ _ h]
  have e : ~~~ (0#32) = ((~~~ (0#32)) ^^^ (~~~ (0#32))) ^^^ (~~~ (0#32)) := by decide
  have e2 := regF_xor (fun j => bitB a j ^^ bitB b j) (bitB c) ((~~~ (0#32)) ^^^ (~~~ (0#32))) (~~~ (0#32)) (8 * a.length)
  rw [← e, regF_xor (bitB a) (bitB b)] at e2
  rw [e2]
  generalize regF (bitB a) _ _ = x
  generalize regF (bitB b) _ _ = y
  generalize regF (bitB c) _ _ = z
  refine BitVec.eq_of_getLsbD_eq fun i hi => ?_
  simp only [BitVec.getLsbD_not, BitVec.getLsbD_xor, hi, decide_true, Bool.true_and]
  cases x.getLsbD i <;> cases y.getLsbD i <;> cases z.getLsbD i <;> rfl
/-- Bits that are flipped within 32 in a row turn the sum. -/
theorem crcM_bursts (c : BitVec 32) (b t : List UInt8) (g : Nat → Bool) (s : Nat) (hl : t.length = b.length) (hs : s + 32 ≤ 8 * b.length) (h : ∀ j, j < 8 * b.length → bitB t j = (bitB b j ^^ g j))
    (hlo : ∀ j, j < s → g j = false) (hhi : ∀ j, s + 32 ≤ j → g j = false) (hne : ∃ j, s ≤ j ∧ j < s + 32 ∧ g j = true) : crcM c t ≠ crcM c b := by
  intro he
  unfold crcM at he
  have he := congrArg (fun x => ~~~ x) he
  simp only [BitVec.not_not] at he
  rw [hl, regF_congr _ _ h] at he
  have e2 := regF_xor (bitB b) g (~~~ c) 0#32 (8 * b.length)
  rw [BitVec.xor_zero, he] at e2
  have h0 : regF g 0#32 (8 * b.length) = 0#32 := by
    have := congrArg (fun x => regF (bitB b) (~~~ c) (8 * b.length) ^^^ x) e2
    simp only [BitVec.xor_self, ← BitVec.xor_assoc, BitVec.zero_xor] at this
    exact this.symm
  obtain ⟨r, hr⟩ : ∃ r, 8 * b.length = s + (32 + r) := ⟨8 * b.length - (s + 32), by omega⟩
  rw [hr, regF_add, regF_add, regF_false 0#32 g s hlo, Zit_zero, regF_false _ _ r (fun j _ => hhi _ (by omega))] at h0
  have h1 := Zit_zero_of r h0
  rw [regF_val _ _ 32 (by omega), BitVec.zero_xor] at h1
  have h2 := Zit_zero_of 32 h1
  obtain ⟨j, hj1, hj2, hj3⟩ := hne
  have := congrArg (fun x => x.getLsbD (j - s)) h2
  simp only [valF_get _ _ _ (show j - s < 32 by omega), show s + (j - s) = j by omega, hj3] at this
  simp at this
  omega

end Go.Proofs.YtoieacmipejfeaaGreatDoor

/- The contracts of package crc's functions: the bits of a text, the sum that goes on, the sum. -/
namespace Go.Proofs.YtoieacmipejfeaaGreatDoor
open Go.RowKit Go.Shelf
set_option linter.unusedVariables false
attribute [local go_sem] Oper.semAt_some wide_fn wide_round_fn

theorem cut_at {α : Type} (xs : List α) (j : Nat) (x : α) (h : xs[j]? = some x) : xs = xs.take j ++ x :: xs.drop (j + 1) ∧ xs.take (j + 1) = xs.take j ++ [x] := by
  obtain ⟨h1, rfl⟩ := List.getElem?_eq_some_iff.1 h
  exact ⟨by rw [List.getElem_cons_drop, List.take_append_drop], List.take_succ_eq_append_getElem h1⟩
def bitsL (s : ByteArray) : List Bool := (List.range (8 * s.size)).map (bitB s.data.toList)
theorem bitsL_len (s : ByteArray) : (bitsL s).length = 8 * s.size := by simp [bitsL]
theorem bitsL_get (s : ByteArray) (i k : Nat) (hi : i < s.size) (hk : k < 8) : (bitsL s)[8 * i + k]? = some ((s[i]).toNat.testBit k) := by
  have hj : 8 * i + k < 8 * s.size := by omega
  rw [bitsL, List.getElem?_map, List.getElem?_range hj]
  simp only [Option.map_some, bitB, show (8 * i + k) / 8 = i by omega, show (8 * i + k) % 8 = k by omega]
  rw [List.getD_eq_getElem?_getD, List.getElem?_eq_getElem (by simpa using hi)]
  rfl

theorem lsb_and (n : Nat) : n &&& 1 = (n.testBit 0).toNat := by
  have h := Nat.and_two_pow_sub_one_eq_mod n 1
  rw [show 2 ^ 1 - 1 = 1 from rfl, show 2 ^ 1 = 2 from rfl] at h
  rw [h, Nat.testBit_zero]
  rcases Nat.mod_two_eq_zero_or_one n with h2 | h2 <;> rw [h2] <;> rfl
theorem bit_at (c k : Nat) (hc : c < 256) : bits .and .u32 ((c : Int) % 4294967296 / 2 ^ k) 1 = ((c.testBit k).toNat : Int) := by
  have h1 : (c : Int) % 4294967296 / 2 ^ k = ((c / 2 ^ k : Nat) : Int) := by
    rw [show (c : Int) % 4294967296 = (c : Int) by omega]; push_cast; rfl
  have h2 : c / 2 ^ k < 4294967296 := Nat.lt_of_le_of_lt (Nat.div_le_self _ _) (by omega)
  rw [h1, show (1 : Int) = ((1 : Nat) : Int) from rfl, u32_and_nat _ _ h2 (by decide), lsb_and]
  rw [Nat.testBit_zero, Nat.testBit_eq_decide_div_mod_eq]

set_option maxRecDepth 100000 in
set_option maxHeartbeats 1000000 in
theorem bits_iter (Bs : Nat) (s : ByteArray) (hs : s.size < 9223372036854775808) (S : Nat → Prop) (hS : S Bs) (w0 : World) (hBs : w0.cell? ⟨Bs, 0, none⟩ = some (.string s)) :
    Iter Tryz.prog 113 #[.pointer (some ⟨Bs, 0, none⟩)] (fun x : Bool => #[.int .u32 x.toNat]) (bitsL s) S (fun _ => False) w0 := by
  intro l J Jx W hW _ _ hY h0
  have hcs0 := hW.cell hBs hS
  refine callsIn_of_wp Tryz.func113 rfl trivial ?_ rfl
  simp only [Tryz.ntmps113, List.size_toArray, List.length_cons, List.length_nil, Nat.reduceAdd, Nat.reduceSub, Array.replicate_succ, Array.replicate_zero, List.push_toArray, List.append_toArray, List.nil_append, List.cons_append]
  gi_wp2
  gi_loopw [7] (fun p wr => ∃ (i : Nat), p = .int .i64 i ∧ i ≤ s.size ∧ J ((bitsL s).take (8 * i)) wr ∧ Rd W.heap.size S W wr)
    (fun p _ => s.size - (intOf p).toNat)
  case atStart =>
    exact ⟨0, rfl, by omega, h0, Rd.refl _ _ _⟩
  case round =>
    obtain ⟨i, rfl, hi, hJ, hR⟩ := hrel
    by_cases h4 : i < s.size
    · gi_wp2
      gi_loopw [10] (fun p wr => ∃ (k : Nat), p = .int .i64 k ∧ k ≤ 8 ∧ J ((bitsL s).take (8 * i + k)) wr ∧ Rd W.heap.size S W wr)
        (fun p _ => 8 - (intOf p).toNat)
      case atStart => exact ⟨0, rfl, by omega, hJ, hR⟩
      case round =>
        obtain ⟨k, rfl, hk, hJ, hR⟩ := hrel
        have hcs := hR.cell hcs0 hS
        by_cases h8 : k < 8
        · have HX := Lib.hid (cut_at _ _ _ (bitsL_get s i k h4 h8))
          have hy0 := hY _ _ _ wr HX.out.1 hJ
          rw [← bit_at _ k (s[i]).toNat_lt] at hy0
          obtain ⟨fn, tmps, assign, body, hy, hR1⟩ := hy0
          gi_wp2
          refine (roundIn_wide_n hR1).mono ?_
          rintro e W3 (⟨rfl, hJ3, hk3⟩ | ⟨rfl, hJx3⟩)
          · gi_wp2
            go_roundw
            case rel => exact ⟨k + 1, by go_num, by omega, by rw [← Nat.add_assoc, HX.out.2]; exact hJ3, hR.trans hk3⟩
            case measure => simp [intOf]; omega
          · gi_wp2
            refine bodyPost_ret (results_none rfl _ _ _) rfl ?_
            exact ⟨⟨_, rfl⟩, .inr ⟨_, _, _, HX.out.1, hJx3⟩⟩
        · obtain rfl : k = 8 := by omega
          gi_wp2
          go_roundw
          case rel => exact ⟨i + 1, by go_num, by omega, hJ, hR⟩
          case measure => simp [intOf]; omega
    · obtain rfl : i = s.size := by omega
      rw [List.take_of_length_le (Nat.le_of_eq (bitsL_len s))] at hJ
      gi_wp2
      refine bodyPost_end (results_none rfl _ _ _) rfl ?_
      exact ⟨⟨_, rfl⟩, .inl hJ⟩

theorem bits_makes (s : ByteArray) (hs : s.size < 9223372036854775808) (w : World) : Makes Tryz.prog 95 #[.string s] w 113 (fun x : Bool => #[.int .u32 x.toNat]) (bitsL s) := by
  unfold Makes
  go_enter Tryz.func95, Tryz.ntmps95
  go_wp2
  go_ret
  exact ⟨_, rfl, (Below.refl _ _).alloc (Nat.le_refl _) _, bits_iter _ s hs _ ⟨Nat.le_refl _, by simp⟩ _ (Boxed.new w _ _).cell⟩

def regL (c : BitVec 32) (l : List Bool) : BitVec 32 := l.foldl stepC c
theorem regL_snoc (c : BitVec 32) (l : List Bool) (x : Bool) : regL c (l ++ [x]) = stepC (regL c l) x := by simp [regL]
theorem regL_range (f : Nat → Bool) (c : BitVec 32) (n : Nat) : regL c ((List.range n).map f) = regF f c n := by
  induction n with
  | zero => rfl
  | succ n ih => rw [List.range_succ, List.map_append, List.map_cons, List.map_nil, regL_snoc, ih]; rfl
theorem regL_bits (c : BitVec 32) (s : ByteArray) : regL c (bitsL s) = regF (bitB s.data.toList) c (8 * s.data.toList.length) := by
  rw [bitsL, regL_range]; congr 1
theorem out_bit (R : BitVec 32) (x : Bool) : bits .and .u32 (bits .xor .u32 (R.toNat : Int) (x.toNat : Int)) 1 = (((R.getLsbD 0 ^^ x).toNat : Nat) : Int) := by
  have hR := R.isLt
  have hx : x.toNat < 4294967296 := by cases x <;> decide
  have hxr : R.toNat ^^^ x.toNat < 4294967296 := Nat.xor_lt_two_pow (n := 32) hR hx
  rw [u32_xor_nat _ _ hR hx, show (1 : Int) = ((1 : Nat) : Int) from rfl, u32_and_nat _ _ hxr (by decide), lsb_and, Nat.testBit_xor]
  have h : x.toNat.testBit 0 = x := by cases x <;> decide
  rw [h]; rfl
theorem half_nat (R : BitVec 32) : (R >>> 1).toNat = R.toNat / 2 := by
  rw [BitVec.toNat_ushiftRight, Nat.shiftRight_eq_div_pow]
/-- One bit taken in, as the code has it. -/
theorem crc_step (R : BitVec 32) (x : Bool) : bits .xor .u32 ((R.toNat : Int) / 2) (bits .and .u32 (bits .xor .u32 (R.toNat : Int) (x.toNat : Int)) 1 * 2197175160 % 4294967296) = ((stepC R x).toNat : Int) := by
  have hR := R.isLt
  rw [out_bit]
  unfold stepC
  have h2 : R.toNat / 2 < 4294967296 := by omega
  rw [BitVec.toNat_xor, half_nat]
  cases (R.getLsbD 0 ^^ x)
  · exact u32_xor_nat (R.toNat / 2) 0 h2 (by decide)
  · exact u32_xor_nat (R.toNat / 2) 2197175160 h2 (by decide)
theorem comp_bv (R : BitVec 32) : bits .xor .u32 (if IntKind.u32.signed = true then -1 else IntKind.u32.max) (R.toNat : Int) = ((~~~ R).toNat : Int) := by
  have hR := R.isLt
  have h := u32_xor_nat 4294967295 R.toNat (by decide) hR
  refine Eq.trans h ?_
  have e : (4294967295 : Nat) ^^^ R.toNat = ((4294967295#32) ^^^ R).toNat := by rw [BitVec.toNat_xor]; rfl
  rw [e]
  congr 2

theorem comp_max (R : BitVec 32) : bits .xor .u32 IntKind.u32.max (R.toNat : Int) = ((~~~ R).toNat : Int) := comp_bv R

set_option maxRecDepth 100000 in
set_option maxHeartbeats 1000000 in
theorem more_any (c : BitVec 32) (s : ByteArray) (hs : s.size < 9223372036854775808) (w : World) : Gives Tryz.prog 85 #[.int .u32 c.toNat, .string s] w (.int .u32 (crcM c s.data.toList).toNat) := by
  refine (callsIn_wide (n := 9)).1 ?_
  refine callsIn_of_wp_marks Tryz.func85 rfl trivial ?_ rfl
  simp only [Tryz.ntmps85, List.size_toArray, List.length_cons, List.length_nil, Nat.reduceAdd, Nat.reduceSub, Array.replicate_succ, Array.replicate_zero, List.push_toArray, List.append_toArray, List.nil_append, List.cons_append]
  have hc0 := comp_bv c
  obtain ⟨N, hN⟩ : ∃ N, N = (~~~ c).toNat := ⟨_, rfl⟩
  rw [← hN] at hc0
  have HN := Lib.hid hN
  have HC := Lib.hid hc0
  clear hN hc0
  have bO := Boxed.new w 78 (.int .u32 N)
  have hB0 : Below w.heap.size w (w.alloc (.cells #[.int .u32 N] 78)) := (Below.refl _ w).alloc (Nat.le_refl _) _
  gi_wp2_with (gi_at_call 95; rw [HC.out]; refine (callsIn_wide.2 (bits_makes s hs _)).mono ?_; rintro e w1 ⟨lb, rfl, hB1, hI1⟩)
  rw [World.size_alloc] at hI1
  rw [HN.out] at hB0 hB1 bO
  have bO1 := boxed_below bO hB1 bO.lt
  replace hB1 := bel2 hB0 hB1
  refine range_outer rfl (enters_of Tryz.func113 (by kernel_rfl) rfl) hI1 (fun _ => rfl) span_lt (fun _ h => h.elim)
    (fun pre W => boxI w w.heap.size 78 (.int .u32 (regL (~~~ c) pre).toNat) W) (fun _ _ _ => False) (fun _ => boxI_stab hB1.size) (fun _ _ => Stab.pure _) ⟨bO1, hB1⟩ ?hr ?hd (fun _ _ _ _ _ _ h => h.elim)
  case hr =>
    rintro l pre x suf W hx hl hi1 hrec
    gi_wp2
    refine rdThen_mk _ (boxI_stab hB1.size) hi1 (Rd.refl _ _ _) ?_
    clear hi1 hrec W
    rintro W hi hrec
    have hc := hi.1.cell
    have hf := hi.1.frozen
    have hst := crc_step (regL (~~~ c) pre) x
    rw [← regL_snoc] at hst
    clear hx
    generalize regL (~~~ c) pre = R at *
    gi_wp2
    exact ⟨(Rd.refl _ _ _).setBox hi.1 (not_span_lt (by omega)) _, boxI_set hi (Nat.le_refl _) _⟩
  case hd =>
    rintro W hi hD
    have hc := hi.1.cell
    gi_wp2
    refine leave_one hD (results_tmp rfl _ _ _) ⟨?_, below_putObj hi.2 (Nat.le_refl _) hB1.size _⟩
    rw [regL_bits, comp_max]
    rfl

theorem of_any (s : ByteArray) (hs : s.size < 9223372036854775808) (w : World) : Gives Tryz.prog 73 #[.string s] w (.int .u32 (crcM 0#32 s.data.toList).toNat) := by
  have G := Lib.hid (show ∀ w, Gives Tryz.prog 85 #[.int .u32 0, .string s] w (.int .u32 (crcM 0#32 s.data.toList).toNat) from fun w => more_any 0#32 s hs w)
  unfold Gives
  go_enter Tryz.func73, Tryz.ntmps73
  go_wp2_with (go_at_call 85; ((with_reducible refine (G.out _).mono ?_); rintro e w1 ⟨rfl, hB1⟩))
  go_ret
  exact ⟨rfl, hB1⟩

/-! ### The document's sum -/

theorem regF_byte (c : BitVec 32) (s : ByteArray) (i : Nat) (hi : i < s.size) : regF (bitB s.data.toList) c (8 * (i + 1)) = Zit 8 (regF (bitB s.data.toList) c (8 * i) ^^^ BitVec.ofNat 32 (s[i]).toNat) := by
  rw [show 8 * (i + 1) = 8 * i + 8 from by omega, regF_add, ← valF_byte _ (s[i]).toNat_lt, regF_val _ _ 8 (by omega)]
  have h : valF (fun j => bitB s.data.toList (8 * i + j)) 8 = valF (fun j => (s[i]).toNat.testBit j) 8 := by
    refine BitVec.eq_of_getLsbD_eq fun j hj => ?_
    rw [valF_get _ _ _ hj, valF_get _ _ _ hj]
    by_cases h8 : j < 8
    · simp only [h8, decide_true, Bool.true_and, bitB, show (8 * i + j) / 8 = i by omega, show (8 * i + j) % 8 = j by omega]
      rw [List.getD_eq_getElem?_getD, List.getElem?_eq_getElem (by simpa using hi)]
      rfl
    · simp [h8]
  rw [h]
theorem byte_in (R : BitVec 32) (b : UInt8) : bits .xor .u32 (R.toNat : Int) ((b.toNat : Int) % 4294967296) = ((R ^^^ BitVec.ofNat 32 b.toNat).toNat : Int) := by
  have hb := b.toNat_lt
  rw [show ((b.toNat : Int) % 4294967296) = ((b.toNat : Nat) : Int) by omega, u32_xor_nat _ _ R.isLt (by omega), BitVec.toNat_xor, BitVec.toNat_ofNat, Nat.mod_eq_of_lt (by omega)]
theorem low_bit (R : BitVec 32) : bits .and .u32 (R.toNat : Int) 1 = ((R.getLsbD 0).toNat : Int) := by
  rw [show (1 : Int) = ((1 : Nat) : Int) from rfl, u32_and_nat _ _ R.isLt (by decide), lsb_and]; rfl
theorem zc_one {R : BitVec 32} (h : R.getLsbD 0 = true) : bits .xor .u32 ((R.toNat : Int) / 2) 2197175160 = ((Zc R).toNat : Int) := by
  have hR := R.isLt
  unfold Zc
  rw [if_pos h, BitVec.toNat_xor, half_nat]
  exact u32_xor_nat (R.toNat / 2) 2197175160 (by omega) (by decide)
theorem zc_none {R : BitVec 32} (h : R.getLsbD 0 = false) : ((R.toNat : Int) / 2) = ((Zc R).toNat : Int) := by
  unfold Zc
  rw [if_neg (by rw [h]; decide), BitVec.xor_zero, half_nat]; rfl

set_option maxRecDepth 100000 in
set_option maxHeartbeats 1000000 in
theorem refmore_any (c : BitVec 32) (s : ByteArray) (hs : s.size < 9223372036854775808) (w : World) : Gives Tryz.prog 35 #[.int .u32 c.toNat, .string s] w (.int .u32 (crcM c s.data.toList).toNat) := by
  have hc0 := comp_max c
  unfold crcM
  obtain ⟨d, hd⟩ : ∃ d, d = ~~~ c := ⟨_, rfl⟩
  rw [← hd] at hc0 ⊢
  clear hd
  unfold Gives
  go_enter Tryz.func35, Tryz.ntmps35
  go_wp2
  go_loop [5, 6] (fun r i => ∃ k : Nat, k ≤ s.size ∧ i = .int .i64 k ∧ r = .int .u32 (regF (bitB s.data.toList) d (8 * k)).toNat) (fun _ i => s.size - (intOf i).toNat)
  case atStart => exact ⟨0, by omega, rfl, rfl⟩
  case round =>
    obtain ⟨k, hk, rfl, rfl⟩ := hrel
    by_cases hlt : k < s.size
    · have hb := byte_in (regF (bitB s.data.toList) d (8 * k)) s[k]
      have hn := Lib.hid (regF_byte d s k hlt)
      generalize regF (bitB s.data.toList) d (8 * k) = R at *
      generalize R ^^^ BitVec.ofNat 32 (s[k]).toNat = Q0 at *
      go_wp2
      go_loop [5, 7] (fun r i => ∃ j : Nat, j ≤ 8 ∧ i = .int .i64 j ∧ r = .int .u32 (Zit j Q0).toNat) (fun _ i => 8 - (intOf i).toNat)
      case atStart => exact ⟨0, by omega, rfl, rfl⟩
      case round =>
        obtain ⟨j, hj, rfl, rfl⟩ := hrel
        by_cases h8 : j < 8
        · have hz := Lib.hid (Zit_succ j Q0)
          clear hb
          generalize Zit j Q0 = Q at *
          have hl := low_bit Q
          rcases hq : Q.getLsbD 0 with _ | _
          · rw [hq] at hl
            have hv := Lib.hid (zc_none hq)
            go_wp2
            exact ⟨⟨j + 1, by omega, by go_num, by rw [hz.out, hv.out]⟩, by simp [intOf]; omega⟩
          · rw [hq] at hl
            have hv := zc_one hq
            go_wp2
            exact ⟨⟨j + 1, by omega, by go_num, by rw [hz.out]⟩, by simp [intOf]; omega⟩
        · obtain rfl : j = 8 := by omega
          rw [← hn.out]
          go_wp2
          exact ⟨⟨k + 1, by omega, by go_num, rfl⟩, by simp [intOf]; omega⟩
    · obtain rfl : k = s.size := by omega
      have he := comp_max (regF (bitB s.data.toList) d (8 * s.size))
      go_wp2
      go_ret
      exact ⟨rfl, Below.refl _ _⟩

end Go.Proofs.YtoieacmipejfeaaGreatDoor

/- What the second layer's laws hold by themselves: the examples; sums of numbers below 2^32. -/
namespace Go.Proofs.YtoieacmipejfeaaGreatDoor
open Go.RowKit Go.Shelf
set_option linter.unusedVariables false

/-- The sum that goes on, on numbers. -/
def moreN (n : Nat) (s : ByteArray) : Nat := (crcM (BitVec.ofNat 32 n) s.data.toList).toNat
theorem moreN_lt (n : Nat) (s : ByteArray) : moreN n s < 4294967296 := (crcM (BitVec.ofNat 32 n) s.data.toList).isLt
theorem moreN_append (n : Nat) (s t : ByteArray) : moreN n (s ++ t) = moreN (moreN n s) t := by
  unfold moreN
  rw [show (s ++ t).data.toList = s.data.toList ++ t.data.toList by simp, crcM_append, BitVec.ofNat_toNat, BitVec.setWidth_eq]
theorem moreN_empty (n : Nat) (hn : n < 4294967296) : moreN n ⟨#[]⟩ = n := by
  unfold moreN
  rw [show (⟨#[]⟩ : ByteArray).data.toList = [] from rfl, crcM_nil, BitVec.toNat_ofNat, Nat.mod_eq_of_lt hn]
theorem more_at (n : Nat) (hn : n < 4294967296) (s : ByteArray) (hs : s.size < 9223372036854775808) (w : World) : Gives Tryz.prog 85 #[.int .u32 n, .string s] w (.int .u32 (moreN n s)) := by
  have := more_any (BitVec.ofNat 32 n) s hs w
  rwa [BitVec.toNat_ofNat, Nat.mod_eq_of_lt (show n < 2 ^ 32 from hn)] at this
theorem refmore_at (n : Nat) (hn : n < 4294967296) (s : ByteArray) (hs : s.size < 9223372036854775808) (w : World) : Gives Tryz.prog 35 #[.int .u32 n, .string s] w (.int .u32 (moreN n s)) := by
  have := refmore_any (BitVec.ofNat 32 n) s hs w
  rwa [BitVec.toNat_ofNat, Nat.mod_eq_of_lt (show n < 2 ^ 32 from hn)] at this
theorem of_at (s : ByteArray) (hs : s.size < 9223372036854775808) (w : World) : Gives Tryz.prog 73 #[.string s] w (.int .u32 (moreN 0 s)) := of_any s hs w

end Go.Proofs.YtoieacmipejfeaaGreatDoor
