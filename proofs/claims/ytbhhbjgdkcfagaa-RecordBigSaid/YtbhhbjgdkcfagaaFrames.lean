/- CrcMath, Crc, Known2, Frame, FrameRead, FrameReads, FrameMath: in one text. -/
import Derived.Lib.Hide
import Derived.Test.YtbhhbjgdkcfagaaKit
import Derived.Test.YtbhhbjgdkcfagaaCode
import Derived.Test.YtbhhbjgdkcfagaaRef
import Derived.Deep.RegionHeld3
import Derived.Test.YtbhhbjgdkcfagaaCodeMath
/- Check sums on bits alone: a register of 32 bits that takes in one bit after another. -/
namespace Go.Proofs.Ytbhhbjgdkcfagaa
set_option linter.unusedVariables false

def Zc (c : BitVec 32) : BitVec 32 := (c >>> 1) ^^^ (if c.getLsbD 0 then 2197175160#32 else 0#32)
def stepC (c : BitVec 32) (b : Bool) : BitVec 32 := (c >>> 1) ^^^ (if c.getLsbD 0 ^^ b then 2197175160#32 else 0#32)
def regF (f : Nat → Bool) (c : BitVec 32) : Nat → BitVec 32
  | 0 => c
  | n + 1 => stepC (regF f c n) (f n)
def Zit : Nat → BitVec 32 → BitVec 32
  | 0, c => c
  | n + 1, c => Zit n (Zc c)
def valF (f : Nat → Bool) : Nat → BitVec 32
  | 0 => 0#32
  | n + 1 => valF f n ^^^ (if f n then 1#32 <<< n else 0#32)

theorem xor4 (a b c d : BitVec 32) : (a ^^^ b) ^^^ (c ^^^ d) = (a ^^^ c) ^^^ (b ^^^ d) := by
  rw [BitVec.xor_assoc, BitVec.xor_assoc, ← BitVec.xor_assoc b c d, BitVec.xor_comm b c, BitVec.xor_assoc c b d]
theorem ite_xor (p q : Bool) (t : BitVec 32) : (if p ^^ q then t else 0#32) = (if p then t else 0#32) ^^^ (if q then t else 0#32) := by
  cases p <;> cases q <;> simp
theorem stepC_xor (c d : BitVec 32) (b e : Bool) : stepC (c ^^^ d) (b ^^ e) = stepC c b ^^^ stepC d e := by
  unfold stepC
  rw [BitVec.ushiftRight_xor_distrib, BitVec.getLsbD_xor, xor4, ← ite_xor]
  congr 2
  cases c.getLsbD 0 <;> cases d.getLsbD 0 <;> cases b <;> cases e <;> rfl
theorem regF_xor (f g : Nat → Bool) (c d : BitVec 32) (n : Nat) : regF (fun j => f j ^^ g j) (c ^^^ d) n = regF f c n ^^^ regF g d n := by
  induction n with
  | zero => rfl
  | succ n ih => simp only [regF, ih, stepC_xor]
theorem regF_congr {f g : Nat → Bool} (c : BitVec 32) (n : Nat) (h : ∀ j, j < n → f j = g j) : regF f c n = regF g c n := by
  induction n with
  | zero => rfl
  | succ n ih => simp only [regF]; rw [ih (fun j hj => h j (by omega)), h n (by omega)]
theorem regF_add (f : Nat → Bool) (c : BitVec 32) (m n : Nat) : regF f c (m + n) = regF (fun j => f (m + j)) (regF f c m) n := by
  induction n with
  | zero => rfl
  | succ n ih => rw [← Nat.add_assoc]; simp only [regF]; rw [ih]
theorem stepC_false (c : BitVec 32) : stepC c false = Zc c := by simp [stepC, Zc]
theorem stepC_eq (c : BitVec 32) (b : Bool) : stepC c b = Zc (c ^^^ (if b then 1#32 else 0#32)) := by
  unfold stepC Zc
  cases b
  · simp
  · have h : (1#32 : BitVec 32) >>> 1 = 0#32 := by decide
    rw [if_pos rfl, BitVec.ushiftRight_xor_distrib, h, BitVec.xor_zero, BitVec.getLsbD_xor]
    rfl
theorem Zc_xor (c d : BitVec 32) : Zc (c ^^^ d) = Zc c ^^^ Zc d := by
  have := stepC_xor c d false false
  simpa [stepC_false] using this
theorem Zc_zero : Zc 0#32 = 0#32 := by decide
theorem Zit_xor (n : Nat) (c d : BitVec 32) : Zit n (c ^^^ d) = Zit n c ^^^ Zit n d := by
  induction n generalizing c d with
  | zero => rfl
  | succ n ih => simp only [Zit, Zc_xor, ih]
theorem Zit_succ (n : Nat) (c : BitVec 32) : Zit (n + 1) c = Zc (Zit n c) := by
  induction n generalizing c with
  | zero => rfl
  | succ n ih => rw [Zit, ih, Zit]
theorem Zc_zero_of {c : BitVec 32} (h : Zc c = 0#32) : c = 0#32 := by
  unfold Zc at h
  by_cases hb : c.getLsbD 0 = true
  · rw [if_pos hb] at h
    have := congrArg (fun x => x.getLsbD 31) h
    simp at this
  · have hb' : c.getLsbD 0 = false := by simpa using hb
    rw [if_neg hb, BitVec.xor_zero] at h
    refine BitVec.eq_of_getLsbD_eq fun i hi => ?_
    cases i with
    | zero => exact hb'
    | succ i =>
      have := congrArg (fun x => x.getLsbD i) h
      simpa [BitVec.getLsbD_ushiftRight, Nat.add_comm] using this
theorem Zit_zero_of (n : Nat) {c : BitVec 32} (h : Zit n c = 0#32) : c = 0#32 := by
  induction n generalizing c with
  | zero => exact h
  | succ n ih => exact Zc_zero_of (ih h)
theorem regF_false (c : BitVec 32) (f : Nat → Bool) (n : Nat) (h : ∀ j, j < n → f j = false) : regF f c n = Zit n c := by
  induction n with
  | zero => rfl
  | succ n ih => rw [Zit_succ, regF, h n (by omega), stepC_false, ih (fun j hj => h j (by omega))]
theorem Zit_zero (n : Nat) : Zit n 0#32 = 0#32 := by
  induction n with
  | zero => rfl
  | succ n ih => rw [Zit, Zc_zero, ih]
theorem Zc_one (n : Nat) (hn : n + 1 < 32) : Zc (1#32 <<< (n + 1)) = 1#32 <<< n := by
  unfold Zc
  rw [if_neg (by simp), BitVec.xor_zero]
  refine BitVec.eq_of_getLsbD_eq fun i hi => ?_
  rw [BitVec.getLsbD_ushiftRight, BitVec.getLsbD_shiftLeft, BitVec.getLsbD_shiftLeft]
  have e : 1 + i - (n + 1) = i - n := by omega
  rw [e]
  by_cases h1 : i < n
  · rw [decide_eq_true (show 1 + i < n + 1 by omega), decide_eq_true h1]; simp
  · rw [decide_eq_false (show ¬ 1 + i < n + 1 by omega), decide_eq_false h1, decide_eq_true hi]
    by_cases h2 : 1 + i < 32
    · rw [decide_eq_true h2]
    · have h3 : 0 < i - n := by omega
      simp [BitVec.getLsbD_one]; omega
theorem Zit_one (n : Nat) (hn : n < 32) : Zit n (1#32 <<< n) = 1#32 := by
  induction n with
  | zero => rfl
  | succ n ih => rw [Zit, Zc_one n hn, ih (by omega)]
theorem regF_val (f : Nat → Bool) (c : BitVec 32) (n : Nat) (hn : n ≤ 32) : regF f c n = Zit n (c ^^^ valF f n) := by
  induction n with
  | zero => simp [regF, Zit, valF]
  | succ n ih =>
    rw [regF, ih (by omega), stepC_eq, Zit_succ, valF, ← BitVec.xor_assoc, Zit_xor n (c ^^^ valF f n)]
    congr 2
    cases f n
    · simp [Zit_zero]
    · simp [Zit_one n (by omega)]
theorem valF_get (f : Nat → Bool) (n i : Nat) (hi : i < 32) : (valF f n).getLsbD i = (decide (i < n) && f i) := by
  induction n with
  | zero => simp [valF]
  | succ n ih =>
    rw [valF, BitVec.getLsbD_xor, ih]
    by_cases h : i = n
    · subst h
      cases f i <;> simp [hi]
    · have h2 : (if f n = true then 1#32 <<< n else 0#32).getLsbD i = false := by
        cases f n
        · simp
        · rw [if_pos rfl, BitVec.getLsbD_shiftLeft]
          by_cases h3 : i < n
          · simp [h3]
          · simp [BitVec.getLsbD_one]; omega
      rw [h2]
      by_cases h3 : i < n
      · simp [h3, show i < n + 1 by omega]
      · simp [h3, show ¬ i < n + 1 by omega]
theorem valF_byte (b : Nat) (hb : b < 256) : valF (fun j => b.testBit j) 8 = BitVec.ofNat 32 b := by
  refine BitVec.eq_of_getLsbD_eq fun i hi => ?_
  rw [valF_get _ _ _ hi, BitVec.getLsbD_ofNat]
  by_cases h : i < 8
  · simp [h, hi]
  · have : b.testBit i = false := Nat.testBit_lt_two_pow (Nat.lt_of_lt_of_le hb (show 2 ^ 8 ≤ 2 ^ i from Nat.pow_le_pow_right (by decide) (by omega)))
    simp [h, this]

/-- The j-th bit of bytes. -/
def bitB (l : List UInt8) (j : Nat) : Bool := (l.getD (j / 8) 0).toNat.testBit (j % 8)
/-- The sum that goes on from c with bytes. -/
def crcM (c : BitVec 32) (l : List UInt8) : BitVec 32 := ~~~ (regF (bitB l) (~~~ c) (8 * l.length))

theorem bitB_left (a b : List UInt8) (j : Nat) (hj : j < 8 * a.length) : bitB (a ++ b) j = bitB a j := by
  unfold bitB
  rw [List.getD_eq_getElem?_getD, List.getElem?_append_left (by omega), ← List.getD_eq_getElem?_getD]
theorem bitB_right (a b : List UInt8) (j : Nat) : bitB (a ++ b) (8 * a.length + j) = bitB b j := by
  unfold bitB
  rw [List.getD_eq_getElem?_getD, List.getElem?_append_right (by omega), ← List.getD_eq_getElem?_getD, show (8 * a.length + j) / 8 - a.length = j / 8 by omega, show (8 * a.length + j) % 8 = j % 8 by omega]
theorem crcM_nil (c : BitVec 32) : crcM c [] = c := by simp [crcM, regF]
theorem crcM_append (c : BitVec 32) (a b : List UInt8) : crcM c (a ++ b) = crcM (crcM c a) b := by
  unfold crcM
  rw [List.length_append, Nat.mul_add, regF_add, BitVec.not_not, regF_congr _ _ (bitB_left a b), regF_congr (f := fun j => bitB (a ++ b) (8 * a.length + j)) _ _ (fun j _ => bitB_right a b j)]
theorem crcM_xor3 (a b c d : List UInt8) (hb : b.length = a.length) (hc : c.length = a.length) (hd : d.length = a.length) (h : ∀ j, j < 8 * a.length → bitB d j = ((bitB a j ^^ bitB b j) ^^ bitB c j)) :
    crcM 0#32 d = (crcM 0#32 a ^^^ crcM 0#32 b) ^^^ crcM 0#32 c := by
  unfold crcM
  rw [hb, hc, hd, regF_congr _ _ h]
  have e : ~~~ (0#32) = ((~~~ (0#32)) ^^^ (~~~ (0#32))) ^^^ (~~~ (0#32)) := by decide
  have e2 := regF_xor (fun j => bitB a j ^^ bitB b j) (bitB c) ((~~~ (0#32)) ^^^ (~~~ (0#32))) (~~~ (0#32)) (8 * a.length)
  rw [← e, regF_xor (bitB a) (bitB b)] at e2
  rw [e2]
  generalize regF (bitB a) _ _ = x
  generalize regF (bitB b) _ _ = y
  generalize regF (bitB c) _ _ = z
  refine BitVec.eq_of_getLsbD_eq fun i hi => ?_
  simp only [BitVec.getLsbD_not, BitVec.getLsbD_xor, hi, decide_true, Bool.true_and]
  cases x.getLsbD i <;> cases y.getLsbD i <;> cases z.getLsbD i <;> rfl
/-- Bits that are flipped within 32 in a row turn the sum. -/
theorem crcM_bursts (c : BitVec 32) (b t : List UInt8) (g : Nat → Bool) (s : Nat) (hl : t.length = b.length) (hs : s + 32 ≤ 8 * b.length) (h : ∀ j, j < 8 * b.length → bitB t j = (bitB b j ^^ g j))
    (hlo : ∀ j, j < s → g j = false) (hhi : ∀ j, s + 32 ≤ j → g j = false) (hne : ∃ j, s ≤ j ∧ j < s + 32 ∧ g j = true) : crcM c t ≠ crcM c b := by
  intro he
  unfold crcM at he
  have he := congrArg (fun x => ~~~ x) he
  simp only [BitVec.not_not] at he
  rw [hl, regF_congr _ _ h] at he
  have e2 := regF_xor (bitB b) g (~~~ c) 0#32 (8 * b.length)
  rw [BitVec.xor_zero, he] at e2
  have h0 : regF g 0#32 (8 * b.length) = 0#32 := by
    have := congrArg (fun x => regF (bitB b) (~~~ c) (8 * b.length) ^^^ x) e2
    simp only [BitVec.xor_self, ← BitVec.xor_assoc, BitVec.zero_xor] at this
    exact this.symm
  obtain ⟨r, hr⟩ : ∃ r, 8 * b.length = s + (32 + r) := ⟨8 * b.length - (s + 32), by omega⟩
  rw [hr, regF_add, regF_add, regF_false 0#32 g s hlo, Zit_zero, regF_false _ _ r (fun j _ => hhi _ (by omega))] at h0
  have h1 := Zit_zero_of r h0
  rw [regF_val _ _ 32 (by omega), BitVec.zero_xor] at h1
  have h2 := Zit_zero_of 32 h1
  obtain ⟨j, hj1, hj2, hj3⟩ := hne
  have := congrArg (fun x => x.getLsbD (j - s)) h2
  simp only [valF_get _ _ _ (show j - s < 32 by omega), show s + (j - s) = j by omega, hj3] at this
  simp at this
  omega

end Go.Proofs.Ytbhhbjgdkcfagaa

/- The contracts of package crc's functions: the bits of a text, the sum that goes on, the sum. -/
namespace Go.Proofs.Ytbhhbjgdkcfagaa
open Go.RowKit Go.Shelf
set_option linter.unusedVariables false
attribute [local go_sem] Oper.semAt_some wide_fn wide_round_fn

theorem cut_at {α : Type} (xs : List α) (j : Nat) (x : α) (h : xs[j]? = some x) : xs = xs.take j ++ x :: xs.drop (j + 1) ∧ xs.take (j + 1) = xs.take j ++ [x] := by
  obtain ⟨h1, rfl⟩ := List.getElem?_eq_some_iff.1 h
  exact ⟨by rw [List.getElem_cons_drop, List.take_append_drop], List.take_succ_eq_append_getElem h1⟩
def bitsL (s : ByteArray) : List Bool := (List.range (8 * s.size)).map (bitB s.data.toList)
theorem bitsL_len (s : ByteArray) : (bitsL s).length = 8 * s.size := by simp [bitsL]
theorem bitsL_get (s : ByteArray) (i k : Nat) (hi : i < s.size) (hk : k < 8) : (bitsL s)[8 * i + k]? = some ((s[i]).toNat.testBit k) := by
  have hj : 8 * i + k < 8 * s.size := by omega
  rw [bitsL, List.getElem?_map, List.getElem?_range hj]
  simp only [Option.map_some, bitB, show (8 * i + k) / 8 = i by omega, show (8 * i + k) % 8 = k by omega]
  rw [List.getD_eq_getElem?_getD, List.getElem?_eq_getElem (by simpa using hi)]
  rfl

theorem lsb_and (n : Nat) : n &&& 1 = (n.testBit 0).toNat := by
  have h := Nat.and_two_pow_sub_one_eq_mod n 1
  rw [show 2 ^ 1 - 1 = 1 from rfl, show 2 ^ 1 = 2 from rfl] at h
  rw [h, Nat.testBit_zero]
  rcases Nat.mod_two_eq_zero_or_one n with h2 | h2 <;> rw [h2] <;> rfl
theorem bit_at (c k : Nat) (hc : c < 256) : bits .and .u32 ((c : Int) % 4294967296 / 2 ^ k) 1 = ((c.testBit k).toNat : Int) := by
  have h1 : (c : Int) % 4294967296 / 2 ^ k = ((c / 2 ^ k : Nat) : Int) := by
    rw [show (c : Int) % 4294967296 = (c : Int) by omega]; push_cast; rfl
  have h2 : c / 2 ^ k < 4294967296 := Nat.lt_of_le_of_lt (Nat.div_le_self _ _) (by omega)
  rw [h1, show (1 : Int) = ((1 : Nat) : Int) from rfl, u32_and_nat _ _ h2 (by decide), lsb_and]
  rw [Nat.testBit_zero, Nat.testBit_eq_decide_div_mod_eq]

set_option maxRecDepth 100000 in
set_option maxHeartbeats 1000000 in
theorem bits_iter (Bs : Nat) (s : ByteArray) (hs : s.size < 9223372036854775808) (S : Nat → Prop) (hS : S Bs) (w0 : World) (hBs : w0.cell? ⟨Bs, 0, none⟩ = some (.string s)) :
    Iter Try.prog 77 #[.pointer (some ⟨Bs, 0, none⟩)] (fun x : Bool => #[.int .u32 x.toNat]) (bitsL s) S (fun _ => False) w0 := by
  intro l J Jx W hW _ _ hY h0
  have hcs0 := hW.cell hBs hS
  refine callsIn_of_wp Try.func77 rfl trivial ?_ rfl
  simp only [Try.ntmps77, List.size_toArray, List.length_cons, List.length_nil, Nat.reduceAdd, Nat.reduceSub, Array.replicate_succ, Array.replicate_zero, List.push_toArray, List.append_toArray, List.nil_append, List.cons_append]
  gi_wp2
  gi_loopw [7] (fun p wr => ∃ (i : Nat), p = .int .i64 i ∧ i ≤ s.size ∧ J ((bitsL s).take (8 * i)) wr ∧ Rd W.heap.size S W wr)
    (fun p _ => s.size - (intOf p).toNat)
  case atStart =>
    exact ⟨0, rfl, by omega, h0, Rd.refl _ _ _⟩
  case round =>
    obtain ⟨i, rfl, hi, hJ, hR⟩ := hrel
    by_cases h4 : i < s.size
    · gi_wp2
      gi_loopw [10] (fun p wr => ∃ (k : Nat), p = .int .i64 k ∧ k ≤ 8 ∧ J ((bitsL s).take (8 * i + k)) wr ∧ Rd W.heap.size S W wr)
        (fun p _ => 8 - (intOf p).toNat)
      case atStart => exact ⟨0, rfl, by omega, hJ, hR⟩
      case round =>
        obtain ⟨k, rfl, hk, hJ, hR⟩ := hrel
        have hcs := hR.cell hcs0 hS
        by_cases h8 : k < 8
        · have HX := Lib.hid (cut_at _ _ _ (bitsL_get s i k h4 h8))
          have hy0 := hY _ _ _ wr HX.out.1 hJ
          rw [← bit_at _ k (s[i]).toNat_lt] at hy0
          obtain ⟨fn, tmps, assign, body, hy, hR1⟩ := hy0
          gi_wp2
          refine (roundIn_wide_n hR1).mono ?_
          rintro e W3 (⟨rfl, hJ3, hk3⟩ | ⟨rfl, hJx3⟩)
          · gi_wp2
            go_roundw
            case rel => exact ⟨k + 1, by go_num, by omega, by rw [← Nat.add_assoc, HX.out.2]; exact hJ3, hR.trans hk3⟩
            case measure => simp [intOf]; omega
          · gi_wp2
            refine bodyPost_ret (results_none rfl _ _ _) rfl ?_
            exact ⟨⟨_, rfl⟩, .inr ⟨_, _, _, HX.out.1, hJx3⟩⟩
        · obtain rfl : k = 8 := by omega
          gi_wp2
          go_roundw
          case rel => exact ⟨i + 1, by go_num, by omega, hJ, hR⟩
          case measure => simp [intOf]; omega
    · obtain rfl : i = s.size := by omega
      rw [List.take_of_length_le (Nat.le_of_eq (bitsL_len s))] at hJ
      gi_wp2
      refine bodyPost_end (results_none rfl _ _ _) rfl ?_
      exact ⟨⟨_, rfl⟩, .inl hJ⟩

theorem bits_makes (s : ByteArray) (hs : s.size < 9223372036854775808) (w : World) : Makes Try.prog 62 #[.string s] w 77 (fun x : Bool => #[.int .u32 x.toNat]) (bitsL s) := by
  unfold Makes
  go_enter Try.func62, Try.ntmps62
  go_wp2
  go_ret
  exact ⟨_, rfl, (Below.refl _ _).alloc (Nat.le_refl _) _, bits_iter _ s hs _ ⟨Nat.le_refl _, by simp⟩ _ (Boxed.new w _ _).cell⟩

def regL (c : BitVec 32) (l : List Bool) : BitVec 32 := l.foldl stepC c
theorem regL_snoc (c : BitVec 32) (l : List Bool) (x : Bool) : regL c (l ++ [x]) = stepC (regL c l) x := by simp [regL]
theorem regL_range (f : Nat → Bool) (c : BitVec 32) (n : Nat) : regL c ((List.range n).map f) = regF f c n := by
  induction n with
  | zero => rfl
  | succ n ih => rw [List.range_succ, List.map_append, List.map_cons, List.map_nil, regL_snoc, ih]; rfl
theorem regL_bits (c : BitVec 32) (s : ByteArray) : regL c (bitsL s) = regF (bitB s.data.toList) c (8 * s.data.toList.length) := by
  rw [bitsL, regL_range]; congr 1
theorem out_bit (R : BitVec 32) (x : Bool) : bits .and .u32 (bits .xor .u32 (R.toNat : Int) (x.toNat : Int)) 1 = (((R.getLsbD 0 ^^ x).toNat : Nat) : Int) := by
  have hR := R.isLt
  have hx : x.toNat < 4294967296 := by cases x <;> decide
  have hxr : R.toNat ^^^ x.toNat < 4294967296 := Nat.xor_lt_two_pow (n := 32) hR hx
  rw [u32_xor_nat _ _ hR hx, show (1 : Int) = ((1 : Nat) : Int) from rfl, u32_and_nat _ _ hxr (by decide), lsb_and, Nat.testBit_xor]
  have h : x.toNat.testBit 0 = x := by cases x <;> decide
  rw [h]; rfl
theorem half_nat (R : BitVec 32) : (R >>> 1).toNat = R.toNat / 2 := by
  rw [BitVec.toNat_ushiftRight, Nat.shiftRight_eq_div_pow]
/-- One bit taken in, as the code has it. -/
theorem crc_step (R : BitVec 32) (x : Bool) : bits .xor .u32 ((R.toNat : Int) / 2) (bits .and .u32 (bits .xor .u32 (R.toNat : Int) (x.toNat : Int)) 1 * 2197175160 % 4294967296) = ((stepC R x).toNat : Int) := by
  have hR := R.isLt
  rw [out_bit]
  unfold stepC
  have h2 : R.toNat / 2 < 4294967296 := by omega
  rw [BitVec.toNat_xor, half_nat]
  cases (R.getLsbD 0 ^^ x)
  · exact u32_xor_nat (R.toNat / 2) 0 h2 (by decide)
  · exact u32_xor_nat (R.toNat / 2) 2197175160 h2 (by decide)
theorem comp_bv (R : BitVec 32) : bits .xor .u32 (if IntKind.u32.signed = true then -1 else IntKind.u32.max) (R.toNat : Int) = ((~~~ R).toNat : Int) := by
  have hR := R.isLt
  have h := u32_xor_nat 4294967295 R.toNat (by decide) hR
  refine Eq.trans h ?_
  have e : (4294967295 : Nat) ^^^ R.toNat = ((4294967295#32) ^^^ R).toNat := by rw [BitVec.toNat_xor]; rfl
  rw [e]
  congr 2

theorem comp_max (R : BitVec 32) : bits .xor .u32 IntKind.u32.max (R.toNat : Int) = ((~~~ R).toNat : Int) := comp_bv R

set_option maxRecDepth 100000 in
set_option maxHeartbeats 1000000 in
theorem more_any (c : BitVec 32) (s : ByteArray) (hs : s.size < 9223372036854775808) (w : World) : Gives Try.prog 50 #[.int .u32 c.toNat, .string s] w (.int .u32 (crcM c s.data.toList).toNat) := by
  refine (callsIn_wide (n := 9)).1 ?_
  refine callsIn_of_wp_marks Try.func50 rfl trivial ?_ rfl
  simp only [Try.ntmps50, List.size_toArray, List.length_cons, List.length_nil, Nat.reduceAdd, Nat.reduceSub, Array.replicate_succ, Array.replicate_zero, List.push_toArray, List.append_toArray, List.nil_append, List.cons_append]
  have hc0 := comp_bv c
  obtain ⟨N, hN⟩ : ∃ N, N = (~~~ c).toNat := ⟨_, rfl⟩
  rw [← hN] at hc0
  have HN := Lib.hid hN
  have HC := Lib.hid hc0
  clear hN hc0
  have bO := Boxed.new w 61 (.int .u32 N)
  have hB0 : Below w.heap.size w (w.alloc (.cells #[.int .u32 N] 61)) := (Below.refl _ w).alloc (Nat.le_refl _) _
  gi_wp2_with (gi_at_call 62; rw [HC.out]; refine (callsIn_wide.2 (bits_makes s hs _)).mono ?_; rintro e w1 ⟨lb, rfl, hB1, hI1⟩)
  rw [World.size_alloc] at hI1
  rw [HN.out] at hB0 hB1 bO
  have bO1 := boxed_below bO hB1 bO.lt
  replace hB1 := bel2 hB0 hB1
  refine range_outer rfl (enters_of Try.func77 (by kernel_rfl) rfl) hI1 (fun _ => rfl) span_lt (fun _ h => h.elim)
    (fun pre W => boxI w w.heap.size 61 (.int .u32 (regL (~~~ c) pre).toNat) W) (fun _ _ _ => False) (fun _ => boxI_stab hB1.size) (fun _ _ => Stab.pure _) ⟨bO1, hB1⟩ ?hr ?hd (fun _ _ _ _ _ _ h => h.elim)
  case hr =>
    rintro l pre x suf W hx hl hi1 hrec
    gi_wp2
    refine rdThen_mk _ (boxI_stab hB1.size) hi1 (Rd.refl _ _ _) ?_
    clear hi1 hrec W
    rintro W hi hrec
    have hc := hi.1.cell
    have hf := hi.1.frozen
    have hst := crc_step (regL (~~~ c) pre) x
    rw [← regL_snoc] at hst
    clear hx
    generalize regL (~~~ c) pre = R at *
    gi_wp2
    exact ⟨(Rd.refl _ _ _).setBox hi.1 (not_span_lt (by omega)) _, boxI_set hi (Nat.le_refl _) _⟩
  case hd =>
    rintro W hi hD
    have hc := hi.1.cell
    gi_wp2
    refine leave_one hD (results_tmp rfl _ _ _) ⟨?_, below_putObj hi.2 (Nat.le_refl _) hB1.size _⟩
    rw [regL_bits, comp_max]
    rfl

theorem of_any (s : ByteArray) (hs : s.size < 9223372036854775808) (w : World) : Gives Try.prog 36 #[.string s] w (.int .u32 (crcM 0#32 s.data.toList).toNat) := by
  have G := Lib.hid (show ∀ w, Gives Try.prog 50 #[.int .u32 0, .string s] w (.int .u32 (crcM 0#32 s.data.toList).toNat) from fun w => more_any 0#32 s hs w)
  unfold Gives
  go_enter Try.func36, Try.ntmps36
  go_wp2_with (go_at_call 50; ((with_reducible refine (G.out _).mono ?_); rintro e w1 ⟨rfl, hB1⟩))
  go_ret
  exact ⟨rfl, hB1⟩

/-! ### The document's sum -/

theorem regF_byte (c : BitVec 32) (s : ByteArray) (i : Nat) (hi : i < s.size) : regF (bitB s.data.toList) c (8 * (i + 1)) = Zit 8 (regF (bitB s.data.toList) c (8 * i) ^^^ BitVec.ofNat 32 (s[i]).toNat) := by
  rw [show 8 * (i + 1) = 8 * i + 8 from by omega, regF_add, ← valF_byte _ (s[i]).toNat_lt, regF_val _ _ 8 (by omega)]
  have h : valF (fun j => bitB s.data.toList (8 * i + j)) 8 = valF (fun j => (s[i]).toNat.testBit j) 8 := by
    refine BitVec.eq_of_getLsbD_eq fun j hj => ?_
    rw [valF_get _ _ _ hj, valF_get _ _ _ hj]
    by_cases h8 : j < 8
    · simp only [h8, decide_true, Bool.true_and, bitB, show (8 * i + j) / 8 = i by omega, show (8 * i + j) % 8 = j by omega]
      rw [List.getD_eq_getElem?_getD, List.getElem?_eq_getElem (by simpa using hi)]
      rfl
    · simp [h8]
  rw [h]
theorem byte_in (R : BitVec 32) (b : UInt8) : bits .xor .u32 (R.toNat : Int) ((b.toNat : Int) % 4294967296) = ((R ^^^ BitVec.ofNat 32 b.toNat).toNat : Int) := by
  have hb := b.toNat_lt
  rw [show ((b.toNat : Int) % 4294967296) = ((b.toNat : Nat) : Int) by omega, u32_xor_nat _ _ R.isLt (by omega), BitVec.toNat_xor, BitVec.toNat_ofNat, Nat.mod_eq_of_lt (by omega)]
theorem low_bit (R : BitVec 32) : bits .and .u32 (R.toNat : Int) 1 = ((R.getLsbD 0).toNat : Int) := by
  rw [show (1 : Int) = ((1 : Nat) : Int) from rfl, u32_and_nat _ _ R.isLt (by decide), lsb_and]; rfl
theorem zc_one {R : BitVec 32} (h : R.getLsbD 0 = true) : bits .xor .u32 ((R.toNat : Int) / 2) 2197175160 = ((Zc R).toNat : Int) := by
  have hR := R.isLt
  unfold Zc
  rw [if_pos h, BitVec.toNat_xor, half_nat]
  exact u32_xor_nat (R.toNat / 2) 2197175160 (by omega) (by decide)
theorem zc_none {R : BitVec 32} (h : R.getLsbD 0 = false) : ((R.toNat : Int) / 2) = ((Zc R).toNat : Int) := by
  unfold Zc
  rw [if_neg (by rw [h]; decide), BitVec.xor_zero, half_nat]; rfl

end Go.Proofs.Ytbhhbjgdkcfagaa

/- What the second layer's laws hold by themselves: the examples; sums of numbers below 2^32. -/
namespace Go.Proofs.Ytbhhbjgdkcfagaa
open Go.RowKit Go.Shelf
set_option linter.unusedVariables false

/-- The sum that goes on, on numbers. -/
def moreN (n : Nat) (s : ByteArray) : Nat := (crcM (BitVec.ofNat 32 n) s.data.toList).toNat
theorem moreN_lt (n : Nat) (s : ByteArray) : moreN n s < 4294967296 := (crcM (BitVec.ofNat 32 n) s.data.toList).isLt
theorem moreN_append (n : Nat) (s t : ByteArray) : moreN n (s ++ t) = moreN (moreN n s) t := by
  unfold moreN
  rw [show (s ++ t).data.toList = s.data.toList ++ t.data.toList by simp, crcM_append, BitVec.ofNat_toNat, BitVec.setWidth_eq]
theorem moreN_empty (n : Nat) (hn : n < 4294967296) : moreN n ⟨#[]⟩ = n := by
  unfold moreN
  rw [show (⟨#[]⟩ : ByteArray).data.toList = [] from rfl, crcM_nil, BitVec.toNat_ofNat, Nat.mod_eq_of_lt hn]
theorem more_at (n : Nat) (hn : n < 4294967296) (s : ByteArray) (hs : s.size < 9223372036854775808) (w : World) : Gives Try.prog 50 #[.int .u32 n, .string s] w (.int .u32 (moreN n s)) := by
  have := more_any (BitVec.ofNat 32 n) s hs w
  rwa [BitVec.toNat_ofNat, Nat.mod_eq_of_lt (show n < 2 ^ 32 from hn)] at this
theorem of_at (s : ByteArray) (hs : s.size < 9223372036854775808) (w : World) : Gives Try.prog 36 #[.string s] w (.int .u32 (moreN 0 s)) := of_any s hs w

end Go.Proofs.Ytbhhbjgdkcfagaa

/- The contracts of package frame's functions: Size, number, Wrap; the document's Wrap. -/
namespace Go.Proofs.Ytbhhbjgdkcfagaa
open Go.RowKit Go.Shelf
set_option linter.unusedVariables false
attribute [local go_sem] Oper.semAt_some wide_fn wide_round_fn

/-- The number that the four bytes from k on make. -/
def wordB (s : ByteArray) (k : Nat) : Nat := leN ((s.data.toList.drop k).take 4)
theorem wordB_lt (s : ByteArray) (k : Nat) : wordB s k < 4294967296 := by
  have h := leN_lt ((s.data.toList.drop k).take 4)
  have h2 : 256 ^ ((s.data.toList.drop k).take 4).length ≤ 256 ^ 4 := Nat.pow_le_pow_right (by decide) (by simp; omega)
  rw [pow256_4] at h2
  exact Nat.lt_of_lt_of_le h h2
theorem eigL_len (n : Nat) : (eigL n).length = 4 := rfl
theorem comp_nat (n : Nat) (hn : n < 4294967296) : bits .xor .u32 IntKind.u32.max (n : Int) = ((4294967295 - n : Nat) : Int) := by
  have h := comp_max (BitVec.ofNat 32 n)
  rw [BitVec.toNat_not, BitVec.toNat_ofNat, Nat.mod_eq_of_lt (show n < 2 ^ 32 from hn)] at h
  exact h

def wrapB (b : ByteArray) : ByteArray := ⟨(eigL b.size).toArray⟩ ++ ⟨(eigL (4294967295 - b.size)).toArray⟩ ++ b ++ ⟨(eigL (moreN 0 b)).toArray⟩
theorem wrapB_size (b : ByteArray) : (wrapB b).size = b.size + 12 := by
  unfold wrapB
  rw [ByteArray.size_append, ByteArray.size_append, ByteArray.size_append]
  show 4 + 4 + b.size + 4 = _
  omega

theorem size_at (n : Int) (h0 : -9223372036854775808 ≤ n) (hn : n < 9223372036854775796) (w : World) : Gives Try.prog 42 #[.int .i64 n] w (.int .i64 (n + 12)) := by
  unfold Gives
  go_enter Try.func42, Try.ntmps42
  go_wp2
  go_ret
  exact ⟨ret1_eq (by omega), Below.refl _ _⟩

theorem number_at (s : ByteArray) (n : Nat) (hs : 4 ≤ s.size) (hm : s.size < 9223372036854775808) (h : leN (s.data.toList.take 4) = n) (w : World) : Gives Try.prog 41 #[.string s] w (.int .u32 n) := by
  have G := Lib.hid (show ∀ w, Gives Try.prog 55 #[.string s] w (.tuple #[.int .u32 n, .int .i64 0]) from fun w => by have := fix_ok s hs hm w; rwa [h] at this)
  unfold Gives
  go_enter Try.func41, Try.ntmps41
  go_wp2_with (go_at_call 55; ((with_reducible refine (G.out _).mono ?_); rintro e w1 ⟨rfl, hB1⟩))
  go_ret
  exact ⟨rfl, hB1⟩

theorem notEmpty (b : ByteArray) (h : 0 < b.size) : b.toList.isEmpty = false := by
  rw [ByteArray.toList_eq, List.isEmpty_eq_false_iff, ← List.length_pos_iff]
  simpa using h

set_option maxRecDepth 100000 in
set_option maxHeartbeats 1000000 in
theorem wrap_empty (w : World) : Gives Try.prog 20 #[.string ⟨#[]⟩] w (.tuple #[.string ⟨#[]⟩, .int .i64 11]) := by
  unfold Gives
  go_enter Try.func20, Try.ntmps20
  go_wp2
  go_ret2
  exact ⟨rfl, Below.refl _ _⟩
set_option maxRecDepth 100000 in
set_option maxHeartbeats 1000000 in
theorem wrap_large (b : ByteArray) (hb : 2000 < b.size) (hm : b.size < 9223372036854775808) (w : World) : Gives Try.prog 20 #[.string b] w (.tuple #[.string ⟨#[]⟩, .int .i64 12]) := by
  have hne := notEmpty b (by omega)
  unfold Gives
  go_enter Try.func20, Try.ntmps20
  go_wp2
  go_ret2
  exact ⟨rfl, Below.refl _ _⟩
set_option maxRecDepth 100000 in
set_option maxHeartbeats 1000000 in
theorem wrap_ok (b : ByteArray) (h0 : 0 < b.size) (hb : b.size ≤ 2000) (w : World) : Gives Try.prog 20 #[.string b] w (.tuple #[.string (wrapB b), .int .i64 0]) := by
  have g1 := fixed_any b.size (by omega); have g2 := fixed_any (4294967295 - b.size) (by omega)
  have g4 := fixed_any (moreN 0 b) (moreN_lt _ _)
  have hcn := comp_nat b.size (by omega)
  have hne := notEmpty b h0
  unfold wrapB
  obtain ⟨x1, hx1, hz1⟩ : ∃ x : ByteArray, x = ⟨(eigL b.size).toArray⟩ ∧ x.size = 4 := ⟨_, rfl, rfl⟩
  obtain ⟨x2, hx2, hz2⟩ : ∃ x : ByteArray, x = ⟨(eigL (4294967295 - b.size)).toArray⟩ ∧ x.size = 4 := ⟨_, rfl, rfl⟩
  obtain ⟨x4, hx4, hz4⟩ : ∃ x : ByteArray, x = ⟨(eigL (moreN 0 b)).toArray⟩ ∧ x.size = 4 := ⟨_, rfl, rfl⟩
  rw [← hx1] at g1 ⊢
  rw [← hx2] at g2 ⊢
  rw [← hx4] at g4 ⊢
  have hs1 : (x1 ++ x2).size = 8 := by rw [ByteArray.size_append]; omega
  have hs2 : (x1 ++ x2 ++ b).size ≤ 2008 := by rw [ByteArray.size_append]; omega
  have G1 := Lib.hid g1; have G2 := Lib.hid g2; have G4 := Lib.hid g4
  have G3 := Lib.hid (of_at b (by omega))
  clear hx1 hx2 hx4 g1 g2 g4
  unfold Gives
  go_enter Try.func20, Try.ntmps20
  go_wp2_with (first
    | (go_at_call 35; ((with_reducible refine (G1.out _).mono ?_); rintro e w1 ⟨rfl, hB1⟩))
    | (go_at_call 35; ((with_reducible refine (G2.out _).mono ?_); rintro e w2 ⟨rfl, hB2⟩))
    | (go_at_call 36; ((with_reducible refine (G3.out _).mono ?_); rintro e w3 ⟨rfl, hB3⟩))
    | (go_at_call 35; ((with_reducible refine (G4.out _).mono ?_); rintro e w4 ⟨rfl, hB4⟩)))
  go_ret2
  exact ⟨rfl, bel2 (bel2 (bel2 hB1 hB2) hB3) hB4⟩
end Go.Proofs.Ytbhhbjgdkcfagaa

/- What stands at the beginning of bytes: the contracts of package frame's Read and of the document's. -/
namespace Go.Proofs.Ytbhhbjgdkcfagaa
open Go.RowKit Go.Shelf
set_option linter.unusedVariables false
attribute [local go_sem] Oper.semAt_some wide_fn wide_round_fn

def badN (A B : Nat) : Prop := A + B ≠ 4294967295 ∨ A = 0 ∨ 2000 < A
instance (A B : Nat) : Decidable (badN A B) := by unfold badN; infer_instance
/-- What the frame at the beginning of s holds, how many bytes it is, its class. -/
def readF (s : ByteArray) : ByteArray × Nat × Nat :=
  if s.size < 1 then (⟨#[]⟩, 0, 2)
  else if s.size < 8 then (⟨#[]⟩, 0, 3)
  else if badN (wordB s 0) (wordB s 4) then (⟨#[]⟩, 0, 4)
  else if s.size < wordB s 0 + 12 then (⟨#[]⟩, 0, 3)
  else if wordB s (8 + wordB s 0) ≠ moreN 0 (s.extract 8 (8 + wordB s 0)) then (⟨#[]⟩, 0, 4)
  else (s.extract 8 (8 + wordB s 0), wordB s 0 + 12, 1)
theorem ba_size' (s : ByteArray) : s.data.toList.length = s.size := by simp
theorem extract_drop (s : ByteArray) (k : Nat) : (s.extract k s.size).data.toList = s.data.toList.drop k := by
  rw [ByteArray.data_extract, Array.toList_extract, List.extract_eq_take_drop]
  exact List.take_of_length_le (by rw [List.length_drop, ba_size']; exact Nat.le_refl _)

end Go.Proofs.Ytbhhbjgdkcfagaa

/- The contract of package frame's Read. -/
namespace Go.Proofs.Ytbhhbjgdkcfagaa
open Go.RowKit Go.Shelf
set_option linter.unusedVariables false
attribute [local go_sem] Oper.semAt_some wide_fn wide_round_fn

theorem readF_end {s : ByteArray} (h : s.size < 1) : readF s = (⟨#[]⟩, 0, 2) := by unfold readF; rw [if_pos h]
theorem readF_torn {s : ByteArray} (h1 : 1 ≤ s.size) (h : s.size < 8) : readF s = (⟨#[]⟩, 0, 3) := by unfold readF; rw [if_neg (by omega), if_pos h]
theorem readF_bad {s : ByteArray} (h8 : 8 ≤ s.size) (h : badN (wordB s 0) (wordB s 4)) : readF s = (⟨#[]⟩, 0, 4) := by unfold readF; rw [if_neg (by omega), if_neg (by omega), if_pos h]
theorem readF_torn2 {s : ByteArray} (h8 : 8 ≤ s.size) (hb : ¬ badN (wordB s 0) (wordB s 4)) (h : s.size < wordB s 0 + 12) : readF s = (⟨#[]⟩, 0, 3) := by unfold readF; rw [if_neg (by omega), if_neg (by omega), if_neg hb, if_pos h]
theorem readF_bad2 {s : ByteArray} (h8 : 8 ≤ s.size) (hb : ¬ badN (wordB s 0) (wordB s 4)) (h : wordB s 0 + 12 ≤ s.size) (hc : wordB s (8 + wordB s 0) ≠ moreN 0 (s.extract 8 (8 + wordB s 0))) : readF s = (⟨#[]⟩, 0, 4) := by
  unfold readF; rw [if_neg (by omega), if_neg (by omega), if_neg hb, if_neg (by omega), if_pos hc]
theorem readF_whole {s : ByteArray} (h8 : 8 ≤ s.size) (hb : ¬ badN (wordB s 0) (wordB s 4)) (h : wordB s 0 + 12 ≤ s.size) (hc : wordB s (8 + wordB s 0) = moreN 0 (s.extract 8 (8 + wordB s 0))) : readF s = (s.extract 8 (8 + wordB s 0), wordB s 0 + 12, 1) := by
  unfold readF; rw [if_neg (by omega), if_neg (by omega), if_neg hb, if_neg (by omega), if_neg (by simp [hc])]

/-- What has been asked by round k. -/
def asked (s : ByteArray) (k : Nat) : Prop :=
  (k < 1 ∨ 1 ≤ s.size) ∧ (k < 2 ∨ 8 ≤ s.size) ∧ (k < 3 ∨ ¬ badN (wordB s 0) (wordB s 4)) ∧ (k < 4 ∨ wordB s 0 + 12 ≤ s.size) ∧ (k < 5 ∨ wordB s (8 + wordB s 0) = moreN 0 (s.extract 8 (8 + wordB s 0)))

set_option maxRecDepth 100000 in
set_option maxHeartbeats 2000000 in
theorem read_any (s : ByteArray) (hs : s.size < 9223372036854775808) (w : World) : Gives Try.prog 22 #[.string s] w (.tuple #[.string (readF s).1, .int .i64 (readF s).2.1, .int .i64 (readF s).2.2]) := by
  obtain ⟨R, hR⟩ : ∃ R, R = readF s := ⟨_, rfl⟩
  rw [← hR]
  have HR := Lib.hid hR
  clear hR
  unfold Gives
  go_enter Try.func22, Try.ntmps22
  go_wp2
  go_step3
  go_wp2
  go_step3
  go_wp2
  go_loopw [5, 6, 10] (fun cls n q wr => ∃ k : Nat, k ≤ 5 ∧ q = .int .i64 k ∧ cls = .int .i64 1 ∧ n = .int .i64 (if k < 3 then 0 else wordB s 0 : Nat) ∧ asked s k ∧ Below w.heap.size w wr) (fun _ _ q _ => 5 - (intOf q).toNat)
  case atStart => exact ⟨0, by omega, rfl, rfl, rfl, ⟨.inl (by omega), .inl (by omega), .inl (by omega), .inl (by omega), .inl (by omega)⟩, Below.refl _ _⟩
  case round =>
    obtain ⟨k, hk, rfl, rfl, rfl, hask, hB⟩ := hrel
    have hA := wordB_lt s 0
    have hBd := wordB_lt s 4
    have hk6 : k = 0 ∨ k = 1 ∨ k = 2 ∨ k = 3 ∨ k = 4 ∨ k = 5 := by omega
    rcases hk6 with rfl | rfl | rfl | rfl | rfl | rfl
    · by_cases h1 : s.size < 1
      · obtain rfl : s = ⟨#[]⟩ := ByteArray.ext (Array.eq_empty_of_size_eq_zero (by show s.size = 0; omega))
        go_wp2
        ((try rw [Exit.noGoto_ret]); go_ret3)
        exact ⟨by rw [HR.out, readF_end h1]; rfl, hB⟩
      · have hne := notEmpty s (by omega)
        have HA := Lib.hid (show asked s 1 from ⟨.inr (by omega), .inl (by omega), .inl (by omega), .inl (by omega), .inl (by omega)⟩)
        clear hask
        go_wp2
        exact ⟨⟨1, by omega, rfl, rfl, rfl, HA.out, hB⟩, by decide⟩
    · have h1 : 1 ≤ s.size := by have := hask.1; omega
      by_cases h8 : s.size < 8
      · clear hask
        go_wp2
        ((try rw [Exit.noGoto_ret]); go_ret3)
        exact ⟨by rw [HR.out, readF_torn h1 h8]; rfl, hB⟩
      · have HA := Lib.hid (show asked s 2 from ⟨.inr (by omega), .inr (by omega), .inl (by omega), .inl (by omega), .inl (by omega)⟩)
        clear hask
        go_wp2
        exact ⟨⟨2, by omega, rfl, rfl, rfl, HA.out, hB⟩, by decide⟩
    · have h8 : 8 ≤ s.size := by have := hask.2.1; omega
      have h4i : (4 : Int) ≤ (s.size : Int) := by omega
      have G1 := Lib.hid (show ∀ w, Gives Try.prog 41 #[.string s] w (.int .u32 (wordB s 0)) from fun w => number_at s _ (by omega) hs rfl w)
      have G2 := Lib.hid (show ∀ w, Gives Try.prog 41 #[.string (s.extract 4 s.size)] w (.int .u32 (wordB s 4)) from fun w =>
        number_at (s.extract 4 s.size) _ (by rw [ByteArray.size_extract]; omega) (by rw [ByteArray.size_extract]; omega) (by rw [extract_drop]; rfl) w)
      have HBd := Lib.hid (show badN (wordB s 0) (wordB s 4) → readF s = (⟨#[]⟩, 0, 4) from fun h => readF_bad h8 h)
      have HA := Lib.hid (show ¬ badN (wordB s 0) (wordB s 4) → asked s 3 from fun h => ⟨.inr (by omega), .inr (by omega), .inr h, .inl (by omega), .inl (by omega)⟩)
      have HW := Lib.hid (show wordB s 0 = wordB s 0 from rfl)
      clear hask
      generalize hA0 : wordB s 0 = A at *
      generalize wordB s 4 = B at *
      have HA0 := Lib.hid hA0
      clear hA0
      have hcn := comp_nat B hBd
      go_wp2
      go_region_held3 (fun W' => Below wr.heap.size wr W')
        (first | assumption | exact (Below.refl _ _).drew | exact bel2 (by assumption) (by assumption))
        (first
          | (go_at_call 41; ((with_reducible refine (G1.out _).mono ?_); rintro e w4 ⟨rfl, hB4⟩))
          | (go_at_call 41; ((with_reducible refine (G2.out _).mono ?_); rintro e w5 ⟨rfl, hB5⟩)))
      have hS : Below w.heap.size w w5 := bel2 hB (by assumption)
      by_cases e1 : A + B = 4294967295
      · have e3 : A = 4294967295 - B := by omega
        have HE := Lib.hid e3
        have t1 : ((A : Int) != ((4294967295 - B : Nat) : Int)) = false := by rw [bne_eq_false_iff_eq]; omega
        by_cases e2 : A < 1
        · have t2 : (((4294967295 - B : Nat) : Int) == 0) = true := by rw [beq_iff_eq]; omega
          clear e1 e3
          go_wp2
          rotate_left 1
          · exact absurd (show (A : Int) = bits .xor .u32 IntKind.u32.max (B : Int) from by rw [hcn]; exact congrArg _ HE.out) (by assumption)
          ((try rw [Exit.noGoto_ret]); go_ret3)
          exact ⟨by rw [HR.out, HBd.out (.inr (.inl (by omega)))]; rfl, hS⟩
        · have t2 : (((4294967295 - B : Nat) : Int) == 0) = false := by rw [beq_eq_false_iff_ne]; omega
          by_cases t3 : 2000 < 4294967295 - B
          · have e4 : 2000 < A := by omega
            clear e1 e3
            go_wp2
            rotate_left 1
            · exact absurd (show (A : Int) = bits .xor .u32 IntKind.u32.max (B : Int) from by rw [hcn]; exact congrArg _ HE.out) (by assumption)
            ((try rw [Exit.noGoto_ret]); go_ret3)
            exact ⟨by rw [HR.out, HBd.out (.inr (.inr e4))]; rfl, hS⟩
          · have e4 : 1 ≤ A ∧ A ≤ 2000 ∧ A + B = 4294967295 := by omega
            have E4 := Lib.hid e4
            clear e1 e3 e4
            go_wp2
            rotate_left 1
            · exact absurd (show (A : Int) = bits .xor .u32 IntKind.u32.max (B : Int) from by rw [hcn]; exact congrArg _ HE.out) (by assumption)
            exact ⟨⟨3, by omega, rfl, rfl, by rw [← HE.out]; rfl, HA.out (by have := E4.out; unfold badN; omega), hS⟩, by decide⟩
      · have t1 : ((A : Int) != ((4294967295 - B : Nat) : Int)) = true := by rw [bne_iff_ne]; omega
        go_wp2
        ((try rw [Exit.noGoto_ret]); go_ret3)
        exact ⟨by rw [HR.out, HBd.out (.inl e1)]; rfl, hS⟩
    · have h8 : 8 ≤ s.size := by have := hask.2.1; omega
      have hnb : ¬ badN (wordB s 0) (wordB s 4) := by have := hask.2.2.1; exact this.resolve_left (by omega)
      have hA1 : wordB s 0 ≤ 2000 := by unfold badN at hnb; omega
      have GS := Lib.hid (show ∀ w, Gives Try.prog 42 #[.int .i64 (wordB s 0)] w (.int .i64 ((wordB s 0 : Int) + 12)) from size_at _ (by omega) (by omega))
      have HT := Lib.hid (show s.size < wordB s 0 + 12 → readF s = (⟨#[]⟩, 0, 3) from fun h => readF_torn2 h8 hnb h)
      have HA := Lib.hid (show wordB s 0 + 12 ≤ s.size → asked s 4 from fun h => ⟨.inr (by omega), .inr (by omega), .inr hnb, .inr h, .inl (by omega)⟩)
      clear hask hnb
      generalize hA0 : wordB s 0 = A at *
      have HA0 := Lib.hid hA0
      clear hA0
      by_cases hsz : s.size < A + 12
      · go_wp2_with (go_at_call 42; ((with_reducible refine (GS.out _).mono ?_); rintro e w4 ⟨rfl, hB4⟩))
        ((try rw [Exit.noGoto_ret]); go_ret3)
        exact ⟨by rw [HR.out, HT.out hsz]; rfl, bel2 hB hB4⟩
      · go_wp2_with (go_at_call 42; ((with_reducible refine (GS.out _).mono ?_); rintro e w4 ⟨rfl, hB4⟩))
        exact ⟨⟨4, by omega, rfl, rfl, rfl, HA.out (by omega), bel2 hB hB4⟩, by decide⟩
    · have h8 : 8 ≤ s.size := by have := hask.2.1; omega
      have hnb : ¬ badN (wordB s 0) (wordB s 4) := by have := hask.2.2.1; exact this.resolve_left (by omega)
      have hA1 : wordB s 0 ≤ 2000 := by unfold badN at hnb; omega
      have hsz : wordB s 0 + 12 ≤ s.size := by have := hask.2.2.2.1; omega
      have g3 : ∀ w, Gives Try.prog 41 #[.string (s.extract (8 + wordB s 0) s.size)] w (.int .u32 (wordB s (8 + wordB s 0))) := fun w =>
        number_at (s.extract (8 + wordB s 0) s.size) _ (by rw [ByteArray.size_extract]; omega) (by rw [ByteArray.size_extract]; omega) (by rw [extract_drop]; rfl) w
      have g4 : ∀ w, Gives Try.prog 36 #[.string (s.extract 8 (8 + wordB s 0))] w (.int .u32 (moreN 0 (s.extract 8 (8 + wordB s 0)))) := of_at _ (by rw [ByteArray.size_extract]; omega)
      have HT := Lib.hid (show wordB s (8 + wordB s 0) ≠ moreN 0 (s.extract 8 (8 + wordB s 0)) → readF s = (⟨#[]⟩, 0, 4) from fun h => readF_bad2 h8 hnb hsz h)
      have HA := Lib.hid (show wordB s (8 + wordB s 0) = moreN 0 (s.extract 8 (8 + wordB s 0)) → asked s 5 from fun h => ⟨.inr (by omega), .inr (by omega), .inr hnb, .inr hsz, .inr h⟩)
      clear hask hnb
      have G3 := Lib.hid g3; have G4 := Lib.hid g4
      clear g3 g4
      generalize wordB s (8 + wordB s 0) = C at *
      generalize moreN 0 (s.extract 8 (8 + wordB s 0)) = D at *
      generalize hA0 : wordB s 0 = A at *
      have HA0 := Lib.hid hA0
      clear hA0
      have hw1 : IntKind.i64.wrap (8 + (A : Int)) = 8 + (A : Int) := IntWalk.i64_in _ (by omega)
      have hw0 : wrap64 (8 + (A : Int)) = 8 + (A : Int) := IntWalk.wrap64_in _ (by omega)
      have hw2 : (8 : Int) ≤ 8 + (A : Int) := by omega
      have hw3 : 8 + (A : Int) ≤ (s.size : Int) := by omega
      have hw4 : (8 + (A : Int)).toNat = 8 + A := by omega
      have hw5 : (0 : Int) ≤ 8 + (A : Int) := by omega
      go_wp2
      go_region_held3 (fun W' => Below wr.heap.size wr W')
        (first | assumption | exact (Below.refl _ _).drew | exact bel2 (by assumption) (by assumption))
        (first
          | (go_at_call 41; ((with_reducible refine (G3.out _).mono ?_); rintro e w4 ⟨rfl, hB4⟩))
          | (go_at_call 36; ((with_reducible refine (G4.out _).mono ?_); rintro e w5 ⟨rfl, hB5⟩)))
      have hS : Below w.heap.size w w5 := bel2 hB (by assumption)
      by_cases e1 : C = D
      · have E1 := Lib.hid e1
        subst e1
        go_wp2
        exact ⟨⟨5, by omega, rfl, rfl, rfl, HA.out rfl, hS⟩, by decide⟩
      · have t1 : ((C : Int) != (D : Int)) = true := by rw [bne_iff_ne]; omega
        go_wp2
        ((try rw [Exit.noGoto_ret]); go_ret3)
        exact ⟨by rw [HR.out, HT.out e1]; rfl, hS⟩
    · have h8 : 8 ≤ s.size := by have := hask.2.1; omega
      have hnb : ¬ badN (wordB s 0) (wordB s 4) := by have := hask.2.2.1; exact this.resolve_left (by omega)
      have hA1 : wordB s 0 ≤ 2000 := by unfold badN at hnb; omega
      have hsz : wordB s 0 + 12 ≤ s.size := by have := hask.2.2.2.1; omega
      have GS := Lib.hid (show ∀ w, Gives Try.prog 42 #[.int .i64 (wordB s 0)] w (.int .i64 ((wordB s 0 : Int) + 12)) from size_at _ (by omega) (by omega))
      have HT := Lib.hid (readF_whole h8 hnb hsz (by have := hask.2.2.2.2; omega))
      clear hask hnb
      generalize hA0 : wordB s 0 = A at *
      have HA0 := Lib.hid hA0
      clear hA0
      have hw1 : IntKind.i64.wrap (8 + (A : Int)) = 8 + (A : Int) := IntWalk.i64_in _ (by omega)
      have hw0 : wrap64 (8 + (A : Int)) = 8 + (A : Int) := IntWalk.wrap64_in _ (by omega)
      have hw2 : (8 : Int) ≤ 8 + (A : Int) := by omega
      have hw3 : 8 + (A : Int) ≤ (s.size : Int) := by omega
      have hw4 : (8 + (A : Int)).toNat = 8 + A := by omega
      have hw5 : (0 : Int) ≤ 8 + (A : Int) := by omega
      go_wp2
      go_region_held3 (fun W' => Below wr.heap.size wr W')
        (first | assumption | exact (Below.refl _ _).drew | exact bel2 (by assumption) (by assumption))
        (first
          | (go_at_call 42; ((with_reducible refine (GS.out _).mono ?_); rintro e w5 ⟨rfl, hB5⟩)))
      have hS : Below w.heap.size w w5 := bel2 hB (by assumption)
      go_wp2
      ((try rw [Exit.noGoto_ret]); go_ret3)
      exact ⟨by rw [HR.out, HT.out]; rfl, hS⟩

end Go.Proofs.Ytbhhbjgdkcfagaa

/- What was framed is read; cut off it is torn; bits that are flipped within 32 in a row are seen: on lists of bytes alone. -/
namespace Go.Proofs.Ytbhhbjgdkcfagaa
open Go.RowKit Go.Shelf
set_option linter.unusedVariables false

theorem wordB_of (s : ByteArray) (pre suf : List UInt8) (n k : Nat) (hn : n < 4294967296) (hk : k = pre.length) (h : s.data.toList = pre ++ (eigL n ++ suf)) : wordB s k = n := by
  unfold wordB
  rw [h, hk, List.drop_left, List.take_left' (eigL_len n)]
  exact leN_eigL n hn
theorem wrapB_list (b : ByteArray) : (wrapB b).data.toList = eigL b.size ++ (eigL (4294967295 - b.size) ++ (b.data.toList ++ eigL (moreN 0 b))) := by
  unfold wrapB
  rw [ba_toList, ba_toList, ba_toList]
  simp only [List.append_assoc]
theorem ba_ext_list {s t : ByteArray} (h : s.data.toList = t.data.toList) : s = t := ByteArray.ext (Array.toList_inj.1 h)
theorem extract_at (s : ByteArray) (pre : List UInt8) (b : ByteArray) (suf : List UInt8) (i j : Nat) (hi : i = pre.length) (hj : j = i + b.size) (h : s.data.toList = pre ++ (b.data.toList ++ suf)) : s.extract i j = b := by
  apply ba_ext_list
  rw [ByteArray.data_extract, Array.toList_extract, List.extract_eq_take_drop, h, hi, List.drop_left, List.take_left' (by rw [ba_size]; omega)]
theorem read_wrap (b t : ByteArray) (h1 : 1 ≤ b.size) (h2 : b.size ≤ 2000) : readF (wrapB b ++ t) = (b, b.size + 12, 1) := by
  have hL : (wrapB b ++ t).data.toList = eigL b.size ++ (eigL (4294967295 - b.size) ++ (b.data.toList ++ (eigL (moreN 0 b) ++ t.data.toList))) := by
    rw [ba_toList, wrapB_list]; simp only [List.append_assoc]
  have hs : (wrapB b ++ t).size = b.size + 12 + t.size := by rw [ByteArray.size_append, wrapB_size]
  have w0 : wordB (wrapB b ++ t) 0 = b.size := wordB_of _ [] _ b.size 0 (by omega) rfl hL
  have w4 : wordB (wrapB b ++ t) 4 = 4294967295 - b.size := wordB_of _ (eigL b.size) _ _ 4 (by omega) rfl hL
  have hb : (wrapB b ++ t).extract 8 (8 + b.size) = b := extract_at _ (eigL b.size ++ eigL (4294967295 - b.size)) b (eigL (moreN 0 b) ++ t.data.toList) 8 _ rfl rfl (by rw [hL]; simp only [List.append_assoc])
  have wc : wordB (wrapB b ++ t) (8 + b.size) = moreN 0 b := wordB_of _ (eigL b.size ++ eigL (4294967295 - b.size) ++ b.data.toList) t.data.toList _ _ (moreN_lt _ _) (by rw [List.length_append, List.length_append, eigL_len, eigL_len, ba_size]) (by rw [hL]; simp only [List.append_assoc])
  have hnb : ¬ badN (wordB (wrapB b ++ t) 0) (wordB (wrapB b ++ t) 4) := by rw [w0, w4]; unfold badN; omega
  rw [readF_whole (by omega) hnb (by rw [w0]; omega) (by rw [w0, hb, wc]), w0, hb]
theorem wordB_take (s : ByteArray) (m k : Nat) (h : k + 4 ≤ m) : wordB (s.extract 0 m) k = wordB s k := by
  unfold wordB
  have e : (s.extract 0 m).data.toList = s.data.toList.take m := by simp
  rw [e, List.drop_take, List.take_take, Nat.min_eq_left (by omega)]
theorem frame_cut (b : ByteArray) (h1 : 1 ≤ b.size) (h2 : b.size ≤ 2000) (m : Nat) (h0 : 1 ≤ m) (hm : m < b.size + 12) : readF ((wrapB b).extract 0 m) = (⟨#[]⟩, 0, 3) := by
  have hs : ((wrapB b).extract 0 m).size = m := by rw [ByteArray.size_extract, wrapB_size]; omega
  by_cases h8 : m < 8
  · exact readF_torn (by omega) (by omega)
  · have w0 : wordB (wrapB b) 0 = b.size := wordB_of _ [] _ b.size 0 (by omega) rfl (wrapB_list b)
    have w4 : wordB (wrapB b) 4 = 4294967295 - b.size := wordB_of _ (eigL b.size) _ _ 4 (by omega) rfl (wrapB_list b)
    exact readF_torn2 (by omega) (by rw [wordB_take _ _ _ (by omega), wordB_take _ _ _ (by omega), w0, w4]; unfold badN; omega) (by rw [wordB_take _ _ _ (by omega), w0]; omega)

/-- The bits of the number that four bytes make. -/
theorem leN_bit : ∀ (l : List UInt8) (j : Nat), (leN l).testBit j = bitB l j
  | [], j => by simp [leN, bitB]
  | c :: r, j => by
    have hc := c.toNat_lt
    have e : leN (c :: r) = 2 ^ 8 * leN r + c.toNat := by simp only [leN]; omega
    rw [e, Nat.testBit_two_pow_mul_add _ hc]
    by_cases h : j < 8
    · rw [if_pos h]
      unfold bitB
      rw [show j / 8 = 0 by omega, show j % 8 = j by omega]; rfl
    · rw [if_neg h, leN_bit r (j - 8)]
      unfold bitB
      rw [show j / 8 = (j - 8) / 8 + 1 by omega, show j % 8 = (j - 8) % 8 by omega]; rfl
theorem bitB_drop (l : List UInt8) (k j : Nat) : bitB (l.drop k) j = bitB l (8 * k + j) := by
  unfold bitB
  rw [List.getD_eq_getElem?_getD, List.getElem?_drop, ← List.getD_eq_getElem?_getD, show k + j / 8 = (8 * k + j) / 8 by omega, show j % 8 = (8 * k + j) % 8 by omega]
theorem bitB_take (l : List UInt8) (k j : Nat) (h : j < 8 * k) : bitB (l.take k) j = bitB l j := by
  unfold bitB
  rw [List.getD_eq_getElem?_getD, List.getElem?_take, if_pos (by omega), ← List.getD_eq_getElem?_getD]
theorem wordB_bit (s : ByteArray) (k j : Nat) (h : j < 32) : (wordB s k).testBit j = bitB s.data.toList (8 * k + j) := by
  unfold wordB
  rw [leN_bit, bitB_take _ _ _ (by omega), bitB_drop]
theorem leN_eq_of_len : ∀ (l m : List UInt8), l.length = m.length → leN l = leN m → l = m
  | [], [], _, _ => rfl
  | c :: r, d :: s, hl, h => by
    have hc := c.toNat_lt
    have hd := d.toNat_lt
    simp only [leN] at h
    have h1 : c.toNat = d.toNat := by omega
    have h2 : leN r = leN s := by omega
    rw [UInt8.toNat_inj.1 h1, leN_eq_of_len r s (by simpa using hl) h2]
theorem eigL_leN (l : List UInt8) (h : l.length = 4) : eigL (leN l) = l := by
  refine leN_eq_of_len _ _ (by rw [h]; rfl) (leN_eigL _ ?_)
  have := leN_lt l
  rw [h, pow256_4] at this
  exact this

/-- A sum that is fed with itself. -/
theorem crcM_self (l : List UInt8) : crcM 0#32 (l ++ eigL (crcM 0#32 l).toNat) = ~~~ (Zit 32 (BitVec.allOnes 32)) := by
  rw [crcM_append]
  generalize crcM 0#32 l = c
  unfold crcM
  rw [eigL_len, regF_val _ _ _ (by omega)]
  have hv : valF (bitB (eigL c.toNat)) (8 * 4) = c := by
    refine BitVec.eq_of_getLsbD_eq fun i hi => ?_
    rw [valF_get _ _ _ hi, decide_eq_true (by omega), Bool.true_and, ← leN_bit, leN_eigL _ c.isLt]; rfl
  rw [hv]
  congr 2
  refine BitVec.eq_of_getLsbD_eq fun i hi => ?_
  rw [BitVec.getLsbD_xor, BitVec.getLsbD_not, BitVec.getLsbD_allOnes]
  simp [hi]

/-- Bits of a frame that are flipped within 32 in a row: it is bad, whatever stands behind. -/
theorem read_bursts (b t u : ByteArray) (h1 : 1 ≤ b.size) (h2 : b.size ≤ 2000) (hz : t.size = b.size + 12) (g : Nat → Bool) (s : Nat) (hs : s + 32 ≤ 8 * (b.size + 12)) (h : ∀ j, j < 8 * (b.size + 12) → bitB t.data.toList j = (bitB (wrapB b).data.toList j ^^ g j))
    (hlo : ∀ j, j < s → g j = false) (hhi : ∀ j, s + 32 ≤ j → g j = false) (hne : ∃ j, s ≤ j ∧ j < s + 32 ∧ g j = true) : readF (t ++ u) = (⟨#[]⟩, 0, 4) := by
  have hsz : (t ++ u).size = b.size + 12 + u.size := by rw [ByteArray.size_append, hz]
  have htl : t.data.toList.length = b.size + 12 := by rw [ba_size, hz]
  have wk : ∀ k, k + 4 ≤ b.size + 12 → ∀ j, j < 32 → (wordB (t ++ u) k).testBit j = ((wordB (wrapB b) k).testBit j ^^ g (8 * k + j)) := fun k hk j hj => by
    rw [wordB_bit _ _ _ hj, wordB_bit _ _ _ hj, ba_toList, bitB_left _ _ _ (by omega), h _ (by omega)]
  have w0 : wordB (wrapB b) 0 = b.size := wordB_of _ [] _ b.size 0 (by omega) rfl (wrapB_list b)
  have w4 : wordB (wrapB b) 4 = 4294967295 - b.size := wordB_of _ (eigL b.size) _ _ 4 (by omega) rfl (wrapB_list b)
  by_cases hbad : badN (wordB (t ++ u) 0) (wordB (t ++ u) 4)
  · exact readF_bad (by omega) hbad
  have hsum : wordB (t ++ u) 0 + wordB (t ++ u) 4 = 4294967295 := by unfold badN at hbad; omega
  have comp : ∀ A B : Nat, A + B = 4294967295 → ∀ j, j < 32 → B.testBit j = !A.testBit j := fun A B hAB j hj => by
    have e : B = 2 ^ 32 - (A + 1) := by omega
    rw [e, Nat.testBit_two_pow_sub_succ (by omega), decide_eq_true hj, Bool.true_and]
  have g64 : ∀ j, j < 32 → g j = false ∧ g (32 + j) = false := fun j hj => by
    have a0 := wk 0 (by omega) j hj
    have a4 := wk 4 (by omega) j hj
    rw [comp _ _ hsum j hj, comp (wordB (wrapB b) 0) (wordB (wrapB b) 4) (by rw [w0, w4]; omega) j hj, a0, show 8 * 0 + j = j by omega, show 8 * 4 + j = 32 + j by omega] at a4
    have hgg : g j = g (32 + j) := by
      generalize (wordB (wrapB b) 0).testBit j = p at a4
      generalize g j = q at a4
      generalize g (32 + j) = r at a4
      cases p <;> cases q <;> cases r <;> simp at a4 ⊢
    by_cases hj2 : j < s
    · exact ⟨hlo j hj2, by rw [← hgg]; exact hlo j hj2⟩
    · have := hhi (32 + j) (by omega)
      exact ⟨by rw [hgg]; exact this, this⟩
  have gz : ∀ j, j < 64 → g j = false := fun j hj => by
    by_cases h32 : j < 32
    · exact (g64 j h32).1
    · have := (g64 (j - 32) (by omega)).2
      rwa [show 32 + (j - 32) = j by omega] at this
  have e0 : wordB (t ++ u) 0 = b.size := by
    rw [← w0]
    refine Nat.eq_of_testBit_eq fun j => ?_
    by_cases hj : j < 32
    · rw [wk 0 (by omega) j hj, gz _ (by omega), Bool.xor_false]
    · rw [Nat.testBit_lt_two_pow (Nat.lt_of_lt_of_le (wordB_lt _ _) (show 2 ^ 32 ≤ 2 ^ j from Nat.pow_le_pow_right (by decide) (by omega))), Nat.testBit_lt_two_pow (Nat.lt_of_lt_of_le (wordB_lt _ _) (show 2 ^ 32 ≤ 2 ^ j from Nat.pow_le_pow_right (by decide) (by omega)))]
  refine readF_bad2 (by omega) hbad (by rw [e0]; omega) ?_
  rw [e0]
  intro hc
  -- the bytes behind the numbers: what the frame holds, and its sum
  have hb1 : ((t ++ u).extract 8 (8 + b.size)).data.toList = (t.data.toList.drop 8).take b.size := by
    rw [ByteArray.data_extract, Array.toList_extract, List.extract_eq_take_drop, ba_toList, List.drop_append_of_le_length (by omega), List.take_append_of_le_length (by rw [List.length_drop]; omega)]
    congr 1; omega
  have hw1 : wordB (t ++ u) (8 + b.size) = leN ((t.data.toList.drop 8).drop b.size) := by
    unfold wordB
    rw [ba_toList, List.drop_append_of_le_length (by omega), List.take_append_of_le_length (by rw [List.length_drop]; omega), List.drop_drop, List.take_of_length_le (by rw [List.length_drop]; omega)]
  have hlen4 : ((t.data.toList.drop 8).drop b.size).length = 4 := by rw [List.length_drop, List.length_drop]; omega
  have hsum2 : crcM 0#32 (t.data.toList.drop 8) = ~~~ (Zit 32 (BitVec.allOnes 32)) := by
    rw [← crcM_self ((t.data.toList.drop 8).take b.size)]
    congr 1
    have hm : (crcM 0#32 ((t.data.toList.drop 8).take b.size)).toNat = leN ((t.data.toList.drop 8).drop b.size) := by
      rw [← hw1, hc]; unfold moreN; rw [hb1]
    rw [hm, eigL_leN _ hlen4, List.take_append_drop]
  have hsum3 : crcM 0#32 ((wrapB b).data.toList.drop 8) = ~~~ (Zit 32 (BitVec.allOnes 32)) := by
    rw [← crcM_self b.data.toList]
    exact congrArg (crcM 0#32) (by rw [wrapB_list]; rfl)
  have hwl : (wrapB b).data.toList.length = b.size + 12 := by rw [ba_size, wrapB_size]
  obtain ⟨j, hj1, hj2, hj3⟩ := hne
  have hj64 : 64 ≤ j := by
    rcases Nat.lt_or_ge j 64 with hlt | hge
    · rw [gz j hlt] at hj3; cases hj3
    · exact hge
  refine crcM_bursts 0#32 ((wrapB b).data.toList.drop 8) (t.data.toList.drop 8) (fun i => g (64 + i)) (s - 64) (by rw [List.length_drop, List.length_drop]; omega) (by rw [List.length_drop]; omega)
    (fun i hi => ?_) (fun i hi => ?_) (fun i hi => ?_) ⟨j - 64, by omega, by omega, ?_⟩ (by rw [hsum2, hsum3])
  · rw [List.length_drop] at hi
    rw [bitB_drop, bitB_drop, h _ (by omega)]
  · exact hlo _ (by omega)
  · exact hhi _ (by omega)
  · show g (64 + (j - 64)) = true
    rw [show 64 + (j - 64) = j by omega]; exact hj3

end Go.Proofs.Ytbhhbjgdkcfagaa
