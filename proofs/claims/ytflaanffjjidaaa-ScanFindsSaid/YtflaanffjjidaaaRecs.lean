/- CrcMath, Crc, Known2, Frame, FrameRead, FrameReads, FrameMath, Open, OpenPart, OpenParts, OpenRec, ReadBack, IterD, Rec, RecM, RecBack, RecIs, RecSame, RecBody, RecOpen, RecOpen2, RecRead: in one text. -/
import Derived.Lib.Hide
import Derived.Test.YtflaanffjjidaaaKit
import Derived.Test.YtflaanffjjidaaaCode
import Derived.Test.YtflaanffjjidaaaRef
import Derived.Deep.RegionHeld3
import Derived.Test.YtflaanffjjidaaaRowV
import Derived.Deep.Slices
import Derived.Test.YtflaanffjjidaaaPartSame
import Derived.Test.YtflaanffjjidaaaReadM
import Derived.Test.YtflaanffjjidaaaPartFacts
import Derived.Test.YtflaanffjjidaaaCollect
import Derived.Test.YtflaanffjjidaaaQuietC
import Derived.Test.YtflaanffjjidaaaPartBytes
import Derived.Test.YtflaanffjjidaaaReadQ
/- Check sums on bits alone: a register of 32 bits that takes in one bit after another. -/
namespace Go.Proofs.Ytflaanffjjidaaa
set_option linter.unusedVariables false

def Zc (c : BitVec 32) : BitVec 32 := (c >>> 1) ^^^ (if c.getLsbD 0 then 2197175160#32 else 0#32)
def stepC (c : BitVec 32) (b : Bool) : BitVec 32 := (c >>> 1) ^^^ (if c.getLsbD 0 ^^ b then 2197175160#32 else 0#32)
def regF (f : Nat → Bool) (c : BitVec 32) : Nat → BitVec 32
  | 0 => c
  | n + 1 => stepC (regF f c n) (f n)
def Zit : Nat → BitVec 32 → BitVec 32
  | 0, c => c
  | n + 1, c => Zit n (Zc c)
def valF (f : Nat → Bool) : Nat → BitVec 32
  | 0 => 0#32
  | n + 1 => valF f n ^^^ (if f n then 1#32 <<< n else 0#32)

theorem xor4 (a b c d : BitVec 32) : (a ^^^ b) ^^^ (c ^^^ d) = (a ^^^ c) ^^^ (b ^^^ d) := by
  rw [BitVec.xor_assoc, BitVec.xor_assoc, ← BitVec.xor_assoc b c d, BitVec.xor_comm b c, BitVec.xor_assoc c b d]
theorem ite_xor (p q : Bool) (t : BitVec 32) : (if p ^^ q then t else 0#32) = (if p then t else 0#32) ^^^ (if q then t else 0#32) := by
  cases p <;> cases q <;> simp
theorem stepC_xor (c d : BitVec 32) (b e : Bool) : stepC (c ^^^ d) (b ^^ e) = stepC c b ^^^ stepC d e := by
  unfold stepC
  rw [BitVec.ushiftRight_xor_distrib, BitVec.getLsbD_xor, xor4, ← ite_xor]
  congr 2
  cases c.getLsbD 0 <;> cases d.getLsbD 0 <;> cases b <;> cases e <;> rfl
theorem regF_xor (f g : Nat → Bool) (c d : BitVec 32) (n : Nat) : regF (fun j => f j ^^ g j) (c ^^^ d) n = regF f c n ^^^ regF g d n := by
  induction n with
  | zero => rfl
  | succ n ih => simp only [regF, ih, stepC_xor]
theorem regF_congr {f g : Nat → Bool} (c : BitVec 32) (n : Nat) (h : ∀ j, j < n → f j = g j) : regF f c n = regF g c n := by
  induction n with
  | zero => rfl
  | succ n ih => simp only [regF]; rw [ih (fun j hj => h j (by omega)), h n (by omega)]
theorem regF_add (f : Nat → Bool) (c : BitVec 32) (m n : Nat) : regF f c (m + n) = regF (fun j => f (m + j)) (regF f c m) n := by
  induction n with
  | zero => rfl
  | succ n ih => rw [← Nat.add_assoc]; simp only [regF]; rw [ih]
theorem stepC_false (c : BitVec 32) : stepC c false = Zc c := by simp [stepC, Zc]
theorem stepC_eq (c : BitVec 32) (b : Bool) : stepC c b = Zc (c ^^^ (if b then 1#32 else 0#32)) := by
  unfold stepC Zc
  cases b
  · simp
  · have h : (1#32 : BitVec 32) >>> 1 = 0#32 := by decide
    rw [if_pos rfl, BitVec.ushiftRight_xor_distrib, h, BitVec.xor_zero, BitVec.getLsbD_xor]
    rfl
theorem Zc_xor (c d : BitVec 32) : Zc (c ^^^ d) = Zc c ^^^ Zc d := by
  have := stepC_xor c d false false
  simpa [stepC_false] using this
theorem Zc_zero : Zc 0#32 = 0#32 := by decide
theorem Zit_xor (n : Nat) (c d : BitVec 32) : Zit n (c ^^^ d) = Zit n c ^^^ Zit n d := by
  induction n generalizing c d with
  | zero => rfl
  | succ n ih => simp only [Zit, Zc_xor, ih]
theorem Zit_succ (n : Nat) (c : BitVec 32) : Zit (n + 1) c = Zc (Zit n c) := by
  induction n generalizing c with
  | zero => rfl
  | succ n ih => rw [Zit, ih, Zit]
theorem Zc_zero_of {c : BitVec 32} (h : Zc c = 0#32) : c = 0#32 := by
  unfold Zc at h
  by_cases hb : c.getLsbD 0 = true
  · rw [if_pos hb] at h
    have := congrArg (fun x => x.getLsbD 31) h
    simp at this
  · have hb' : c.getLsbD 0 = false := by simpa using hb
    rw [if_neg hb, BitVec.xor_zero] at h
    refine BitVec.eq_of_getLsbD_eq fun i hi => ?_
    cases i with
    | zero => exact hb'
    | succ i =>
      have := congrArg (fun x => x.getLsbD i) h
      simpa [BitVec.getLsbD_ushiftRight, Nat.add_comm] using this
theorem Zit_zero_of (n : Nat) {c : BitVec 32} (h : Zit n c = 0#32) : c = 0#32 := by
  induction n generalizing c with
  | zero => exact h
  | succ n ih => exact Zc_zero_of (ih h)
theorem regF_false (c : BitVec 32) (f : Nat → Bool) (n : Nat) (h : ∀ j, j < n → f j = false) : regF f c n = Zit n c := by
  induction n with
  | zero => rfl
  | succ n ih => rw [Zit_succ, regF, h n (by omega), stepC_false, ih (fun j hj => h j (by omega))]
theorem Zit_zero (n : Nat) : Zit n 0#32 = 0#32 := by
  induction n with
  | zero => rfl
  | succ n ih => rw [Zit, Zc_zero, ih]
theorem Zc_one (n : Nat) (hn : n + 1 < 32) : Zc (1#32 <<< (n + 1)) = 1#32 <<< n := by
  unfold Zc
  rw [if_neg (by simp), BitVec.xor_zero]
  refine BitVec.eq_of_getLsbD_eq fun i hi => ?_
  rw [BitVec.getLsbD_ushiftRight, BitVec.getLsbD_shiftLeft, BitVec.getLsbD_shiftLeft]
  have e : 1 + i - (n + 1) = i - n := by omega
  rw [e]
  by_cases h1 : i < n
  · rw [decide_eq_true (show 1 + i < n + 1 by omega), decide_eq_true h1]; simp
  · rw [decide_eq_false (show ¬ 1 + i < n + 1 by omega), decide_eq_false h1, decide_eq_true hi]
    by_cases h2 : 1 + i < 32
    · rw [decide_eq_true h2]
    · have h3 : 0 < i - n := by omega
      simp [BitVec.getLsbD_one]; omega
theorem Zit_one (n : Nat) (hn : n < 32) : Zit n (1#32 <<< n) = 1#32 := by
  induction n with
  | zero => rfl
  | succ n ih => rw [Zit, Zc_one n hn, ih (by omega)]
theorem regF_val (f : Nat → Bool) (c : BitVec 32) (n : Nat) (hn : n ≤ 32) : regF f c n = Zit n (c ^^^ valF f n) := by
  induction n with
  | zero => simp [regF, Zit, valF]
  | succ n ih =>
    rw [regF, ih (by omega), stepC_eq, Zit_succ, valF, ← BitVec.xor_assoc, Zit_xor n (c ^^^ valF f n)]
    congr 2
    cases f n
    · simp [Zit_zero]
    · simp [Zit_one n (by omega)]
theorem valF_get (f : Nat → Bool) (n i : Nat) (hi : i < 32) : (valF f n).getLsbD i = (decide (i < n) && f i) := by
  induction n with
  | zero => simp [valF]
  | succ n ih =>
    rw [valF, BitVec.getLsbD_xor, ih]
    by_cases h : i = n
    · subst h
      cases f i <;> simp [hi]
    · have h2 : (if f n = true then 1#32 <<< n else 0#32).getLsbD i = false := by
        cases f n
        · simp
        · rw [if_pos rfl, BitVec.getLsbD_shiftLeft]
          by_cases h3 : i < n
          · simp [h3]
          · simp [BitVec.getLsbD_one]; omega
      rw [h2]
      by_cases h3 : i < n
      · simp [h3, show i < n + 1 by omega]
      · simp [h3, show ¬ i < n + 1 by omega]
theorem valF_byte (b : Nat) (hb : b < 256) : valF (fun j => b.testBit j) 8 = BitVec.ofNat 32 b := by
  refine BitVec.eq_of_getLsbD_eq fun i hi => ?_
  rw [valF_get _ _ _ hi, BitVec.getLsbD_ofNat]
  by_cases h : i < 8
  · simp [h, hi]
  · have : b.testBit i = false := Nat.testBit_lt_two_pow (Nat.lt_of_lt_of_le hb (show 2 ^ 8 ≤ 2 ^ i from Nat.pow_le_pow_right (by decide) (by omega)))
    simp [h, this]

/-- The j-th bit of bytes. -/
def bitB (l : List UInt8) (j : Nat) : Bool := (l.getD (j / 8) 0).toNat.testBit (j % 8)
/-- The sum that goes on from c with bytes. -/
def crcM (c : BitVec 32) (l : List UInt8) : BitVec 32 := ~~~ (regF (bitB l) (~~~ c) (8 * l.length))

theorem bitB_left (a b : List UInt8) (j : Nat) (hj : j < 8 * a.length) : bitB (a ++ b) j = bitB a j := by
  unfold bitB
  rw [List.getD_eq_getElem?_getD, List.getElem?_append_left (by omega), ← List.getD_eq_getElem?_getD]
theorem bitB_right (a b : List UInt8) (j : Nat) : bitB (a ++ b) (8 * a.length + j) = bitB b j := by
  unfold bitB
  rw [List.getD_eq_getElem?_getD, List.getElem?_append_right (by omega), ← List.getD_eq_getElem?_getD, show (8 * a.length + j) / 8 - a.length = j / 8 by omega, show (8 * a.length + j) % 8 = j % 8 by omega]
theorem crcM_append (c : BitVec 32) (a b : List UInt8) : crcM c (a ++ b) = crcM (crcM c a) b := by
  unfold crcM
  rw [List.length_append, Nat.mul_add, regF_add, BitVec.not_not, regF_congr _ _ (bitB_left a b), regF_congr (f := fun j => bitB (a ++ b) (8 * a.length + j)) _ _ (fun j _ => bitB_right a b j)]
/-- Bits that are flipped within 32 in a row turn the sum. -/
theorem crcM_bursts (c : BitVec 32) (b t : List UInt8) (g : Nat → Bool) (s : Nat) (hl : t.length = b.length) (hs : s + 32 ≤ 8 * b.length) (h : ∀ j, j < 8 * b.length → bitB t j = (bitB b j ^^ g j))
    (hlo : ∀ j, j < s → g j = false) (hhi : ∀ j, s + 32 ≤ j → g j = false) (hne : ∃ j, s ≤ j ∧ j < s + 32 ∧ g j = true) : crcM c t ≠ crcM c b := by
  intro he
  unfold crcM at he
  have he := congrArg (fun x => ~~~ x) he
  simp only [BitVec.not_not] at he
  rw [hl, regF_congr _ _ h] at he
  have e2 := regF_xor (bitB b) g (~~~ c) 0#32 (8 * b.length)
  rw [BitVec.xor_zero, he] at e2
  have h0 : regF g 0#32 (8 * b.length) = 0#32 := by
    have := congrArg (fun x => regF (bitB b) (~~~ c) (8 * b.length) ^^^ x) e2
    simp only [BitVec.xor_self, ← BitVec.xor_assoc, BitVec.zero_xor] at this
    exact this.symm
  obtain ⟨r, hr⟩ : ∃ r, 8 * b.length = s + (32 + r) := ⟨8 * b.length - (s + 32), by omega⟩
  rw [hr, regF_add, regF_add, regF_false 0#32 g s hlo, Zit_zero, regF_false _ _ r (fun j _ => hhi _ (by omega))] at h0
  have h1 := Zit_zero_of r h0
  rw [regF_val _ _ 32 (by omega), BitVec.zero_xor] at h1
  have h2 := Zit_zero_of 32 h1
  obtain ⟨j, hj1, hj2, hj3⟩ := hne
  have := congrArg (fun x => x.getLsbD (j - s)) h2
  simp only [valF_get _ _ _ (show j - s < 32 by omega), show s + (j - s) = j by omega, hj3] at this
  simp at this
  omega

end Go.Proofs.Ytflaanffjjidaaa

/- The contracts of package crc's functions: the bits of a text, the sum that goes on, the sum. -/
namespace Go.Proofs.Ytflaanffjjidaaa
open Go.RowKit Go.Shelf
set_option linter.unusedVariables false
attribute [local go_sem] Oper.semAt_some wide_fn wide_round_fn

theorem cut_at {α : Type} (xs : List α) (j : Nat) (x : α) (h : xs[j]? = some x) : xs = xs.take j ++ x :: xs.drop (j + 1) ∧ xs.take (j + 1) = xs.take j ++ [x] := by
  obtain ⟨h1, rfl⟩ := List.getElem?_eq_some_iff.1 h
  exact ⟨by rw [List.getElem_cons_drop, List.take_append_drop], List.take_succ_eq_append_getElem h1⟩
def bitsL (s : ByteArray) : List Bool := (List.range (8 * s.size)).map (bitB s.data.toList)
theorem bitsL_len (s : ByteArray) : (bitsL s).length = 8 * s.size := by simp [bitsL]
theorem bitsL_get (s : ByteArray) (i k : Nat) (hi : i < s.size) (hk : k < 8) : (bitsL s)[8 * i + k]? = some ((s[i]).toNat.testBit k) := by
  have hj : 8 * i + k < 8 * s.size := by omega
  rw [bitsL, List.getElem?_map, List.getElem?_range hj]
  simp only [Option.map_some, bitB, show (8 * i + k) / 8 = i by omega, show (8 * i + k) % 8 = k by omega]
  rw [List.getD_eq_getElem?_getD, List.getElem?_eq_getElem (by simpa using hi)]
  rfl

theorem lsb_and (n : Nat) : n &&& 1 = (n.testBit 0).toNat := by
  have h := Nat.and_two_pow_sub_one_eq_mod n 1
  rw [show 2 ^ 1 - 1 = 1 from rfl, show 2 ^ 1 = 2 from rfl] at h
  rw [h, Nat.testBit_zero]
  rcases Nat.mod_two_eq_zero_or_one n with h2 | h2 <;> rw [h2] <;> rfl
theorem bit_at (c k : Nat) (hc : c < 256) : bits .and .u32 ((c : Int) % 4294967296 / 2 ^ k) 1 = ((c.testBit k).toNat : Int) := by
  have h1 : (c : Int) % 4294967296 / 2 ^ k = ((c / 2 ^ k : Nat) : Int) := by
    rw [show (c : Int) % 4294967296 = (c : Int) by omega]; push_cast; rfl
  have h2 : c / 2 ^ k < 4294967296 := Nat.lt_of_le_of_lt (Nat.div_le_self _ _) (by omega)
  rw [h1, show (1 : Int) = ((1 : Nat) : Int) from rfl, u32_and_nat _ _ h2 (by decide), lsb_and]
  rw [Nat.testBit_zero, Nat.testBit_eq_decide_div_mod_eq]

set_option maxRecDepth 100000 in
set_option maxHeartbeats 1000000 in
theorem bits_iter (Bs : Nat) (s : ByteArray) (hs : s.size < 9223372036854775808) (S : Nat → Prop) (hS : S Bs) (w0 : World) (hBs : w0.cell? ⟨Bs, 0, none⟩ = some (.string s)) :
    Iter Try.prog 132 #[.pointer (some ⟨Bs, 0, none⟩)] (fun x : Bool => #[.int .u32 x.toNat]) (bitsL s) S (fun _ => False) w0 := by
  intro l J Jx W hW _ _ hY h0
  have hcs0 := hW.cell hBs hS
  refine callsIn_of_wp Try.func132 rfl trivial ?_ rfl
  simp only [Try.ntmps132, List.size_toArray, List.length_cons, List.length_nil, Nat.reduceAdd, Nat.reduceSub, Array.replicate_succ, Array.replicate_zero, List.push_toArray, List.append_toArray, List.nil_append, List.cons_append]
  gi_wp2
  gi_loopw [7] (fun p wr => ∃ (i : Nat), p = .int .i64 i ∧ i ≤ s.size ∧ J ((bitsL s).take (8 * i)) wr ∧ Rd W.heap.size S W wr)
    (fun p _ => s.size - (intOf p).toNat)
  case atStart =>
    exact ⟨0, rfl, by omega, h0, Rd.refl _ _ _⟩
  case round =>
    obtain ⟨i, rfl, hi, hJ, hR⟩ := hrel
    by_cases h4 : i < s.size
    · gi_wp2
      gi_loopw [10] (fun p wr => ∃ (k : Nat), p = .int .i64 k ∧ k ≤ 8 ∧ J ((bitsL s).take (8 * i + k)) wr ∧ Rd W.heap.size S W wr)
        (fun p _ => 8 - (intOf p).toNat)
      case atStart => exact ⟨0, rfl, by omega, hJ, hR⟩
      case round =>
        obtain ⟨k, rfl, hk, hJ, hR⟩ := hrel
        have hcs := hR.cell hcs0 hS
        by_cases h8 : k < 8
        · have HX := Lib.hid (cut_at _ _ _ (bitsL_get s i k h4 h8))
          have hy0 := hY _ _ _ wr HX.out.1 hJ
          rw [← bit_at _ k (s[i]).toNat_lt] at hy0
          obtain ⟨fn, tmps, assign, body, hy, hR1⟩ := hy0
          gi_wp2
          refine (roundIn_wide_n hR1).mono ?_
          rintro e W3 (⟨rfl, hJ3, hk3⟩ | ⟨rfl, hJx3⟩)
          · gi_wp2
            go_roundw
            case rel => exact ⟨k + 1, by go_num, by omega, by rw [← Nat.add_assoc, HX.out.2]; exact hJ3, hR.trans hk3⟩
            case measure => simp [intOf]; omega
          · gi_wp2
            refine bodyPost_ret (results_none rfl _ _ _) rfl ?_
            exact ⟨⟨_, rfl⟩, .inr ⟨_, _, _, HX.out.1, hJx3⟩⟩
        · obtain rfl : k = 8 := by omega
          gi_wp2
          go_roundw
          case rel => exact ⟨i + 1, by go_num, by omega, hJ, hR⟩
          case measure => simp [intOf]; omega
    · obtain rfl : i = s.size := by omega
      rw [List.take_of_length_le (Nat.le_of_eq (bitsL_len s))] at hJ
      gi_wp2
      refine bodyPost_end (results_none rfl _ _ _) rfl ?_
      exact ⟨⟨_, rfl⟩, .inl hJ⟩

theorem bits_makes (s : ByteArray) (hs : s.size < 9223372036854775808) (w : World) : Makes Try.prog 118 #[.string s] w 132 (fun x : Bool => #[.int .u32 x.toNat]) (bitsL s) := by
  unfold Makes
  go_enter Try.func118, Try.ntmps118
  go_wp2
  go_ret
  exact ⟨_, rfl, (Below.refl _ _).alloc (Nat.le_refl _) _, bits_iter _ s hs _ ⟨Nat.le_refl _, by simp⟩ _ (Boxed.new w _ _).cell⟩

def regL (c : BitVec 32) (l : List Bool) : BitVec 32 := l.foldl stepC c
theorem regL_snoc (c : BitVec 32) (l : List Bool) (x : Bool) : regL c (l ++ [x]) = stepC (regL c l) x := by simp [regL]
theorem regL_range (f : Nat → Bool) (c : BitVec 32) (n : Nat) : regL c ((List.range n).map f) = regF f c n := by
  induction n with
  | zero => rfl
  | succ n ih => rw [List.range_succ, List.map_append, List.map_cons, List.map_nil, regL_snoc, ih]; rfl
theorem regL_bits (c : BitVec 32) (s : ByteArray) : regL c (bitsL s) = regF (bitB s.data.toList) c (8 * s.data.toList.length) := by
  rw [bitsL, regL_range]; congr 1
theorem out_bit (R : BitVec 32) (x : Bool) : bits .and .u32 (bits .xor .u32 (R.toNat : Int) (x.toNat : Int)) 1 = (((R.getLsbD 0 ^^ x).toNat : Nat) : Int) := by
  have hR := R.isLt
  have hx : x.toNat < 4294967296 := by cases x <;> decide
  have hxr : R.toNat ^^^ x.toNat < 4294967296 := Nat.xor_lt_two_pow (n := 32) hR hx
  rw [u32_xor_nat _ _ hR hx, show (1 : Int) = ((1 : Nat) : Int) from rfl, u32_and_nat _ _ hxr (by decide), lsb_and, Nat.testBit_xor]
  have h : x.toNat.testBit 0 = x := by cases x <;> decide
  rw [h]; rfl
theorem half_nat (R : BitVec 32) : (R >>> 1).toNat = R.toNat / 2 := by
  rw [BitVec.toNat_ushiftRight, Nat.shiftRight_eq_div_pow]
/-- One bit taken in, as the code has it. -/
theorem crc_step (R : BitVec 32) (x : Bool) : bits .xor .u32 ((R.toNat : Int) / 2) (bits .and .u32 (bits .xor .u32 (R.toNat : Int) (x.toNat : Int)) 1 * 2197175160 % 4294967296) = ((stepC R x).toNat : Int) := by
  have hR := R.isLt
  rw [out_bit]
  unfold stepC
  have h2 : R.toNat / 2 < 4294967296 := by omega
  rw [BitVec.toNat_xor, half_nat]
  cases (R.getLsbD 0 ^^ x)
  · exact u32_xor_nat (R.toNat / 2) 0 h2 (by decide)
  · exact u32_xor_nat (R.toNat / 2) 2197175160 h2 (by decide)
theorem comp_bv (R : BitVec 32) : bits .xor .u32 (if IntKind.u32.signed = true then -1 else IntKind.u32.max) (R.toNat : Int) = ((~~~ R).toNat : Int) := by
  have hR := R.isLt
  have h := u32_xor_nat 4294967295 R.toNat (by decide) hR
  refine Eq.trans h ?_
  have e : (4294967295 : Nat) ^^^ R.toNat = ((4294967295#32) ^^^ R).toNat := by rw [BitVec.toNat_xor]; rfl
  rw [e]
  congr 2

theorem comp_max (R : BitVec 32) : bits .xor .u32 IntKind.u32.max (R.toNat : Int) = ((~~~ R).toNat : Int) := comp_bv R

set_option maxRecDepth 100000 in
set_option maxHeartbeats 1000000 in
theorem more_any (c : BitVec 32) (s : ByteArray) (hs : s.size < 9223372036854775808) (w : World) : Gives Try.prog 99 #[.int .u32 c.toNat, .string s] w (.int .u32 (crcM c s.data.toList).toNat) := by
  refine (callsIn_wide (n := 9)).1 ?_
  refine callsIn_of_wp_marks Try.func99 rfl trivial ?_ rfl
  simp only [Try.ntmps99, List.size_toArray, List.length_cons, List.length_nil, Nat.reduceAdd, Nat.reduceSub, Array.replicate_succ, Array.replicate_zero, List.push_toArray, List.append_toArray, List.nil_append, List.cons_append]
  have hc0 := comp_bv c
  obtain ⟨N, hN⟩ : ∃ N, N = (~~~ c).toNat := ⟨_, rfl⟩
  rw [← hN] at hc0
  have HN := Lib.hid hN
  have HC := Lib.hid hc0
  clear hN hc0
  have bO := Boxed.new w 102 (.int .u32 N)
  have hB0 : Below w.heap.size w (w.alloc (.cells #[.int .u32 N] 102)) := (Below.refl _ w).alloc (Nat.le_refl _) _
  gi_wp2_with (gi_at_call 118; rw [HC.out]; refine (callsIn_wide.2 (bits_makes s hs _)).mono ?_; rintro e w1 ⟨lb, rfl, hB1, hI1⟩)
  rw [World.size_alloc] at hI1
  rw [HN.out] at hB0 hB1 bO
  have bO1 := boxed_below bO hB1 bO.lt
  replace hB1 := bel2 hB0 hB1
  refine range_outer rfl (enters_of Try.func132 (by kernel_rfl) rfl) hI1 (fun _ => rfl) span_lt (fun _ h => h.elim)
    (fun pre W => boxI w w.heap.size 102 (.int .u32 (regL (~~~ c) pre).toNat) W) (fun _ _ _ => False) (fun _ => boxI_stab hB1.size) (fun _ _ => Stab.pure _) ⟨bO1, hB1⟩ ?hr ?hd (fun _ _ _ _ _ _ h => h.elim)
  case hr =>
    rintro l pre x suf W hx hl hi1 hrec
    gi_wp2
    refine rdThen_mk _ (boxI_stab hB1.size) hi1 (Rd.refl _ _ _) ?_
    clear hi1 hrec W
    rintro W hi hrec
    have hc := hi.1.cell
    have hf := hi.1.frozen
    have hst := crc_step (regL (~~~ c) pre) x
    rw [← regL_snoc] at hst
    clear hx
    generalize regL (~~~ c) pre = R at *
    gi_wp2
    exact ⟨(Rd.refl _ _ _).setBox hi.1 (not_span_lt (by omega)) _, boxI_set hi (Nat.le_refl _) _⟩
  case hd =>
    rintro W hi hD
    have hc := hi.1.cell
    gi_wp2
    refine leave_one hD (results_tmp rfl _ _ _) ⟨?_, below_putObj hi.2 (Nat.le_refl _) hB1.size _⟩
    rw [regL_bits, comp_max]
    rfl

theorem of_any (s : ByteArray) (hs : s.size < 9223372036854775808) (w : World) : Gives Try.prog 79 #[.string s] w (.int .u32 (crcM 0#32 s.data.toList).toNat) := by
  have G := Lib.hid (show ∀ w, Gives Try.prog 99 #[.int .u32 0, .string s] w (.int .u32 (crcM 0#32 s.data.toList).toNat) from fun w => more_any 0#32 s hs w)
  unfold Gives
  go_enter Try.func79, Try.ntmps79
  go_wp2_with (go_at_call 99; ((with_reducible refine (G.out _).mono ?_); rintro e w1 ⟨rfl, hB1⟩))
  go_ret
  exact ⟨rfl, hB1⟩

/-! ### The document's sum -/

theorem regF_byte (c : BitVec 32) (s : ByteArray) (i : Nat) (hi : i < s.size) : regF (bitB s.data.toList) c (8 * (i + 1)) = Zit 8 (regF (bitB s.data.toList) c (8 * i) ^^^ BitVec.ofNat 32 (s[i]).toNat) := by
  rw [show 8 * (i + 1) = 8 * i + 8 from by omega, regF_add, ← valF_byte _ (s[i]).toNat_lt, regF_val _ _ 8 (by omega)]
  have h : valF (fun j => bitB s.data.toList (8 * i + j)) 8 = valF (fun j => (s[i]).toNat.testBit j) 8 := by
    refine BitVec.eq_of_getLsbD_eq fun j hj => ?_
    rw [valF_get _ _ _ hj, valF_get _ _ _ hj]
    by_cases h8 : j < 8
    · simp only [h8, decide_true, Bool.true_and, bitB, show (8 * i + j) / 8 = i by omega, show (8 * i + j) % 8 = j by omega]
      rw [List.getD_eq_getElem?_getD, List.getElem?_eq_getElem (by simpa using hi)]
      rfl
    · simp [h8]
  rw [h]
theorem byte_in (R : BitVec 32) (b : UInt8) : bits .xor .u32 (R.toNat : Int) ((b.toNat : Int) % 4294967296) = ((R ^^^ BitVec.ofNat 32 b.toNat).toNat : Int) := by
  have hb := b.toNat_lt
  rw [show ((b.toNat : Int) % 4294967296) = ((b.toNat : Nat) : Int) by omega, u32_xor_nat _ _ R.isLt (by omega), BitVec.toNat_xor, BitVec.toNat_ofNat, Nat.mod_eq_of_lt (by omega)]
theorem low_bit (R : BitVec 32) : bits .and .u32 (R.toNat : Int) 1 = ((R.getLsbD 0).toNat : Int) := by
  rw [show (1 : Int) = ((1 : Nat) : Int) from rfl, u32_and_nat _ _ R.isLt (by decide), lsb_and]; rfl
theorem zc_one {R : BitVec 32} (h : R.getLsbD 0 = true) : bits .xor .u32 ((R.toNat : Int) / 2) 2197175160 = ((Zc R).toNat : Int) := by
  have hR := R.isLt
  unfold Zc
  rw [if_pos h, BitVec.toNat_xor, half_nat]
  exact u32_xor_nat (R.toNat / 2) 2197175160 (by omega) (by decide)
theorem zc_none {R : BitVec 32} (h : R.getLsbD 0 = false) : ((R.toNat : Int) / 2) = ((Zc R).toNat : Int) := by
  unfold Zc
  rw [if_neg (by rw [h]; decide), BitVec.xor_zero, half_nat]; rfl

set_option maxRecDepth 100000 in
set_option maxHeartbeats 1000000 in
theorem refmore_any (c : BitVec 32) (s : ByteArray) (hs : s.size < 9223372036854775808) (w : World) : Gives Try.prog 43 #[.int .u32 c.toNat, .string s] w (.int .u32 (crcM c s.data.toList).toNat) := by
  have hc0 := comp_max c
  unfold crcM
  obtain ⟨d, hd⟩ : ∃ d, d = ~~~ c := ⟨_, rfl⟩
  rw [← hd] at hc0 ⊢
  clear hd
  unfold Gives
  go_enter Try.func43, Try.ntmps43
  go_wp2
  go_loop [5, 6] (fun r i => ∃ k : Nat, k ≤ s.size ∧ i = .int .i64 k ∧ r = .int .u32 (regF (bitB s.data.toList) d (8 * k)).toNat) (fun _ i => s.size - (intOf i).toNat)
  case atStart => exact ⟨0, by omega, rfl, rfl⟩
  case round =>
    obtain ⟨k, hk, rfl, rfl⟩ := hrel
    by_cases hlt : k < s.size
    · have hb := byte_in (regF (bitB s.data.toList) d (8 * k)) s[k]
      have hn := Lib.hid (regF_byte d s k hlt)
      generalize regF (bitB s.data.toList) d (8 * k) = R at *
      generalize R ^^^ BitVec.ofNat 32 (s[k]).toNat = Q0 at *
      go_wp2
      go_loop [5, 7] (fun r i => ∃ j : Nat, j ≤ 8 ∧ i = .int .i64 j ∧ r = .int .u32 (Zit j Q0).toNat) (fun _ i => 8 - (intOf i).toNat)
      case atStart => exact ⟨0, by omega, rfl, rfl⟩
      case round =>
        obtain ⟨j, hj, rfl, rfl⟩ := hrel
        by_cases h8 : j < 8
        · have hz := Lib.hid (Zit_succ j Q0)
          clear hb
          generalize Zit j Q0 = Q at *
          have hl := low_bit Q
          rcases hq : Q.getLsbD 0 with _ | _
          · rw [hq] at hl
            have hv := Lib.hid (zc_none hq)
            go_wp2
            exact ⟨⟨j + 1, by omega, by go_num, by rw [hz.out, hv.out]⟩, by simp [intOf]; omega⟩
          · rw [hq] at hl
            have hv := zc_one hq
            go_wp2
            exact ⟨⟨j + 1, by omega, by go_num, by rw [hz.out]⟩, by simp [intOf]; omega⟩
        · obtain rfl : j = 8 := by omega
          rw [← hn.out]
          go_wp2
          exact ⟨⟨k + 1, by omega, by go_num, rfl⟩, by simp [intOf]; omega⟩
    · obtain rfl : k = s.size := by omega
      have he := comp_max (regF (bitB s.data.toList) d (8 * s.size))
      go_wp2
      go_ret
      exact ⟨rfl, Below.refl _ _⟩

end Go.Proofs.Ytflaanffjjidaaa

/- What the second layer's laws hold by themselves: the examples; sums of numbers below 2^32. -/
namespace Go.Proofs.Ytflaanffjjidaaa
open Go.RowKit Go.Shelf
set_option linter.unusedVariables false

/-- The sum that goes on, on numbers. -/
def moreN (n : Nat) (s : ByteArray) : Nat := (crcM (BitVec.ofNat 32 n) s.data.toList).toNat
theorem moreN_lt (n : Nat) (s : ByteArray) : moreN n s < 4294967296 := (crcM (BitVec.ofNat 32 n) s.data.toList).isLt
theorem refmore_at (n : Nat) (hn : n < 4294967296) (s : ByteArray) (hs : s.size < 9223372036854775808) (w : World) : Gives Try.prog 43 #[.int .u32 n, .string s] w (.int .u32 (moreN n s)) := by
  have := refmore_any (BitVec.ofNat 32 n) s hs w
  rwa [BitVec.toNat_ofNat, Nat.mod_eq_of_lt (show n < 2 ^ 32 from hn)] at this
theorem of_at (s : ByteArray) (hs : s.size < 9223372036854775808) (w : World) : Gives Try.prog 79 #[.string s] w (.int .u32 (moreN 0 s)) := of_any s hs w

end Go.Proofs.Ytflaanffjjidaaa

/- The contracts of package frame's functions: Size, number, Wrap; the document's Wrap. -/
namespace Go.Proofs.Ytflaanffjjidaaa
open Go.RowKit Go.Shelf
set_option linter.unusedVariables false
attribute [local go_sem] Oper.semAt_some wide_fn wide_round_fn

/-- The number that the four bytes from k on make. -/
def wordB (s : ByteArray) (k : Nat) : Nat := leN ((s.data.toList.drop k).take 4)
theorem wordB_lt (s : ByteArray) (k : Nat) : wordB s k < 4294967296 := by
  have h := leN_lt ((s.data.toList.drop k).take 4)
  have h2 : 256 ^ ((s.data.toList.drop k).take 4).length ≤ 256 ^ 4 := Nat.pow_le_pow_right (by decide) (by simp; omega)
  rw [pow256_4] at h2
  exact Nat.lt_of_lt_of_le h h2
theorem eigL_len (n : Nat) : (eigL n).length = 4 := rfl
theorem comp_nat (n : Nat) (hn : n < 4294967296) : bits .xor .u32 IntKind.u32.max (n : Int) = ((4294967295 - n : Nat) : Int) := by
  have h := comp_max (BitVec.ofNat 32 n)
  rw [BitVec.toNat_not, BitVec.toNat_ofNat, Nat.mod_eq_of_lt (show n < 2 ^ 32 from hn)] at h
  exact h

def wrapB (b : ByteArray) : ByteArray := ⟨(eigL b.size).toArray⟩ ++ ⟨(eigL (4294967295 - b.size)).toArray⟩ ++ b ++ ⟨(eigL (moreN 0 b)).toArray⟩
theorem wrapB_size (b : ByteArray) : (wrapB b).size = b.size + 12 := by
  unfold wrapB
  rw [ByteArray.size_append, ByteArray.size_append, ByteArray.size_append]
  show 4 + 4 + b.size + 4 = _
  omega

theorem size_at (n : Int) (h0 : -9223372036854775808 ≤ n) (hn : n < 9223372036854775796) (w : World) : Gives Try.prog 101 #[.int .i64 n] w (.int .i64 (n + 12)) := by
  unfold Gives
  go_enter Try.func101, Try.ntmps101
  go_wp2
  go_ret
  exact ⟨ret1_eq (by omega), Below.refl _ _⟩

theorem number_at (s : ByteArray) (n : Nat) (hs : 4 ≤ s.size) (hm : s.size < 9223372036854775808) (h : leN (s.data.toList.take 4) = n) (w : World) : Gives Try.prog 100 #[.string s] w (.int .u32 n) := by
  have G := Lib.hid (show ∀ w, Gives Try.prog 119 #[.string s] w (.tuple #[.int .u32 n, .int .i64 0]) from fun w => by have := fix_ok s hs hm w; rwa [h] at this)
  unfold Gives
  go_enter Try.func100, Try.ntmps100
  go_wp2_with (go_at_call 119; ((with_reducible refine (G.out _).mono ?_); rintro e w1 ⟨rfl, hB1⟩))
  go_ret
  exact ⟨rfl, hB1⟩

theorem notEmpty (b : ByteArray) (h : 0 < b.size) : b.toList.isEmpty = false := by
  rw [ByteArray.toList_eq, List.isEmpty_eq_false_iff, ← List.length_pos_iff]
  simpa using h

set_option maxRecDepth 100000 in
set_option maxHeartbeats 1000000 in
theorem refWrap_ok (b : ByteArray) (h0 : 0 < b.size) (hb : b.size ≤ 2000) (w : World) : Gives Try.prog 46 #[.string b] w (.tuple #[.string (wrapB b), .int .i64 0]) := by
  have g1 := refFixed_any b.size (by omega); have g2 := refFixed_any (4294967295 - b.size) (by omega)
  have g4 := refFixed_any (moreN 0 b) (moreN_lt _ _)
  have hcn := comp_nat b.size (by omega)
  have hne := notEmpty b h0
  unfold wrapB
  obtain ⟨x1, hx1, hz1⟩ : ∃ x : ByteArray, x = ⟨(eigL b.size).toArray⟩ ∧ x.size = 4 := ⟨_, rfl, rfl⟩
  obtain ⟨x2, hx2, hz2⟩ : ∃ x : ByteArray, x = ⟨(eigL (4294967295 - b.size)).toArray⟩ ∧ x.size = 4 := ⟨_, rfl, rfl⟩
  obtain ⟨x4, hx4, hz4⟩ : ∃ x : ByteArray, x = ⟨(eigL (moreN 0 b)).toArray⟩ ∧ x.size = 4 := ⟨_, rfl, rfl⟩
  rw [← hx1] at g1 ⊢
  rw [← hx2] at g2 ⊢
  rw [← hx4] at g4 ⊢
  have hs1 : (x1 ++ x2).size = 8 := by rw [ByteArray.size_append]; omega
  have hs2 : (x1 ++ x2 ++ b).size ≤ 2008 := by rw [ByteArray.size_append]; omega
  have G1 := Lib.hid g1; have G2 := Lib.hid g2; have G4 := Lib.hid g4
  have G3 := Lib.hid (show ∀ w, Gives Try.prog 43 #[.int .u32 0, .string b] w (.int .u32 (moreN 0 b)) from refmore_at 0 (by decide) b (by omega))
  clear hx1 hx2 hx4 g1 g2 g4
  unfold Gives
  go_enter Try.func46, Try.ntmps46
  go_wp2_with (first
    | (go_at_call 42; ((with_reducible refine (G1.out _).mono ?_); rintro e w1 ⟨rfl, hB1⟩))
    | (go_at_call 42; ((with_reducible refine (G2.out _).mono ?_); rintro e w2 ⟨rfl, hB2⟩))
    | (go_at_call 43; ((with_reducible refine (G3.out _).mono ?_); rintro e w3 ⟨rfl, hB3⟩))
    | (go_at_call 42; ((with_reducible refine (G4.out _).mono ?_); rintro e w4 ⟨rfl, hB4⟩)))
  go_ret2
  exact ⟨rfl, bel2 (bel2 (bel2 hB1 hB2) hB3) hB4⟩

end Go.Proofs.Ytflaanffjjidaaa

/- What stands at the beginning of bytes: the contracts of package frame's Read and of the document's. -/
namespace Go.Proofs.Ytflaanffjjidaaa
open Go.RowKit Go.Shelf
set_option linter.unusedVariables false
attribute [local go_sem] Oper.semAt_some wide_fn wide_round_fn

def badN (A B : Nat) : Prop := A + B ≠ 4294967295 ∨ A = 0 ∨ 2000 < A
instance (A B : Nat) : Decidable (badN A B) := by unfold badN; infer_instance
/-- What the frame at the beginning of s holds, how many bytes it is, its class. -/
def readF (s : ByteArray) : ByteArray × Nat × Nat :=
  if s.size < 1 then (⟨#[]⟩, 0, 2)
  else if s.size < 8 then (⟨#[]⟩, 0, 3)
  else if badN (wordB s 0) (wordB s 4) then (⟨#[]⟩, 0, 4)
  else if s.size < wordB s 0 + 12 then (⟨#[]⟩, 0, 3)
  else if wordB s (8 + wordB s 0) ≠ moreN 0 (s.extract 8 (8 + wordB s 0)) then (⟨#[]⟩, 0, 4)
  else (s.extract 8 (8 + wordB s 0), wordB s 0 + 12, 1)
theorem ba_size' (s : ByteArray) : s.data.toList.length = s.size := by simp
theorem extract_drop (s : ByteArray) (k : Nat) : (s.extract k s.size).data.toList = s.data.toList.drop k := by
  rw [ByteArray.data_extract, Array.toList_extract, List.extract_eq_take_drop]
  exact List.take_of_length_le (by rw [List.length_drop, ba_size']; exact Nat.le_refl _)

end Go.Proofs.Ytflaanffjjidaaa

/- The contract of package frame's Read. -/
namespace Go.Proofs.Ytflaanffjjidaaa
open Go.RowKit Go.Shelf
set_option linter.unusedVariables false
attribute [local go_sem] Oper.semAt_some wide_fn wide_round_fn

theorem readF_end {s : ByteArray} (h : s.size < 1) : readF s = (⟨#[]⟩, 0, 2) := by unfold readF; rw [if_pos h]
theorem readF_torn {s : ByteArray} (h1 : 1 ≤ s.size) (h : s.size < 8) : readF s = (⟨#[]⟩, 0, 3) := by unfold readF; rw [if_neg (by omega), if_pos h]
theorem readF_bad {s : ByteArray} (h8 : 8 ≤ s.size) (h : badN (wordB s 0) (wordB s 4)) : readF s = (⟨#[]⟩, 0, 4) := by unfold readF; rw [if_neg (by omega), if_neg (by omega), if_pos h]
theorem readF_torn2 {s : ByteArray} (h8 : 8 ≤ s.size) (hb : ¬ badN (wordB s 0) (wordB s 4)) (h : s.size < wordB s 0 + 12) : readF s = (⟨#[]⟩, 0, 3) := by unfold readF; rw [if_neg (by omega), if_neg (by omega), if_neg hb, if_pos h]
theorem readF_bad2 {s : ByteArray} (h8 : 8 ≤ s.size) (hb : ¬ badN (wordB s 0) (wordB s 4)) (h : wordB s 0 + 12 ≤ s.size) (hc : wordB s (8 + wordB s 0) ≠ moreN 0 (s.extract 8 (8 + wordB s 0))) : readF s = (⟨#[]⟩, 0, 4) := by
  unfold readF; rw [if_neg (by omega), if_neg (by omega), if_neg hb, if_neg (by omega), if_pos hc]
theorem readF_whole {s : ByteArray} (h8 : 8 ≤ s.size) (hb : ¬ badN (wordB s 0) (wordB s 4)) (h : wordB s 0 + 12 ≤ s.size) (hc : wordB s (8 + wordB s 0) = moreN 0 (s.extract 8 (8 + wordB s 0))) : readF s = (s.extract 8 (8 + wordB s 0), wordB s 0 + 12, 1) := by
  unfold readF; rw [if_neg (by omega), if_neg (by omega), if_neg hb, if_neg (by omega), if_neg (by simp [hc])]

/-- What has been asked by round k. -/
def asked (s : ByteArray) (k : Nat) : Prop :=
  (k < 1 ∨ 1 ≤ s.size) ∧ (k < 2 ∨ 8 ≤ s.size) ∧ (k < 3 ∨ ¬ badN (wordB s 0) (wordB s 4)) ∧ (k < 4 ∨ wordB s 0 + 12 ≤ s.size) ∧ (k < 5 ∨ wordB s (8 + wordB s 0) = moreN 0 (s.extract 8 (8 + wordB s 0)))

set_option maxRecDepth 100000 in
set_option maxHeartbeats 2000000 in
theorem read_any (s : ByteArray) (hs : s.size < 9223372036854775808) (w : World) : Gives Try.prog 81 #[.string s] w (.tuple #[.string (readF s).1, .int .i64 (readF s).2.1, .int .i64 (readF s).2.2]) := by
  obtain ⟨R, hR⟩ : ∃ R, R = readF s := ⟨_, rfl⟩
  rw [← hR]
  have HR := Lib.hid hR
  clear hR
  unfold Gives
  go_enter Try.func81, Try.ntmps81
  go_wp2
  go_step3
  go_wp2
  go_step3
  go_wp2
  go_loopw [5, 6, 10] (fun cls n q wr => ∃ k : Nat, k ≤ 5 ∧ q = .int .i64 k ∧ cls = .int .i64 1 ∧ n = .int .i64 (if k < 3 then 0 else wordB s 0 : Nat) ∧ asked s k ∧ Below w.heap.size w wr) (fun _ _ q _ => 5 - (intOf q).toNat)
  case atStart => exact ⟨0, by omega, rfl, rfl, rfl, ⟨.inl (by omega), .inl (by omega), .inl (by omega), .inl (by omega), .inl (by omega)⟩, Below.refl _ _⟩
  case round =>
    obtain ⟨k, hk, rfl, rfl, rfl, hask, hB⟩ := hrel
    have hA := wordB_lt s 0
    have hBd := wordB_lt s 4
    have hk6 : k = 0 ∨ k = 1 ∨ k = 2 ∨ k = 3 ∨ k = 4 ∨ k = 5 := by omega
    rcases hk6 with rfl | rfl | rfl | rfl | rfl | rfl
    · by_cases h1 : s.size < 1
      · obtain rfl : s = ⟨#[]⟩ := ByteArray.ext (Array.eq_empty_of_size_eq_zero (by show s.size = 0; omega))
        go_wp2
        ((try rw [Exit.noGoto_ret]); go_ret3)
        exact ⟨by rw [HR.out, readF_end h1]; rfl, hB⟩
      · have hne := notEmpty s (by omega)
        have HA := Lib.hid (show asked s 1 from ⟨.inr (by omega), .inl (by omega), .inl (by omega), .inl (by omega), .inl (by omega)⟩)
        clear hask
        go_wp2
        exact ⟨⟨1, by omega, rfl, rfl, rfl, HA.out, hB⟩, by decide⟩
    · have h1 : 1 ≤ s.size := by have := hask.1; omega
      by_cases h8 : s.size < 8
      · clear hask
        go_wp2
        ((try rw [Exit.noGoto_ret]); go_ret3)
        exact ⟨by rw [HR.out, readF_torn h1 h8]; rfl, hB⟩
      · have HA := Lib.hid (show asked s 2 from ⟨.inr (by omega), .inr (by omega), .inl (by omega), .inl (by omega), .inl (by omega)⟩)
        clear hask
        go_wp2
        exact ⟨⟨2, by omega, rfl, rfl, rfl, HA.out, hB⟩, by decide⟩
    · have h8 : 8 ≤ s.size := by have := hask.2.1; omega
      have h4i : (4 : Int) ≤ (s.size : Int) := by omega
      have G1 := Lib.hid (show ∀ w, Gives Try.prog 100 #[.string s] w (.int .u32 (wordB s 0)) from fun w => number_at s _ (by omega) hs rfl w)
      have G2 := Lib.hid (show ∀ w, Gives Try.prog 100 #[.string (s.extract 4 s.size)] w (.int .u32 (wordB s 4)) from fun w =>
        number_at (s.extract 4 s.size) _ (by rw [ByteArray.size_extract]; omega) (by rw [ByteArray.size_extract]; omega) (by rw [extract_drop]; rfl) w)
      have HBd := Lib.hid (show badN (wordB s 0) (wordB s 4) → readF s = (⟨#[]⟩, 0, 4) from fun h => readF_bad h8 h)
      have HA := Lib.hid (show ¬ badN (wordB s 0) (wordB s 4) → asked s 3 from fun h => ⟨.inr (by omega), .inr (by omega), .inr h, .inl (by omega), .inl (by omega)⟩)
      have HW := Lib.hid (show wordB s 0 = wordB s 0 from rfl)
      clear hask
      generalize hA0 : wordB s 0 = A at *
      generalize wordB s 4 = B at *
      have HA0 := Lib.hid hA0
      clear hA0
      have hcn := comp_nat B hBd
      go_wp2
      go_region_held3 (fun W' => Below wr.heap.size wr W')
        (first | assumption | exact (Below.refl _ _).drew | exact bel2 (by assumption) (by assumption))
        (first
          | (go_at_call 100; ((with_reducible refine (G1.out _).mono ?_); rintro e w4 ⟨rfl, hB4⟩))
          | (go_at_call 100; ((with_reducible refine (G2.out _).mono ?_); rintro e w5 ⟨rfl, hB5⟩)))
      have hS : Below w.heap.size w w5 := bel2 hB (by assumption)
      by_cases e1 : A + B = 4294967295
      · have e3 : A = 4294967295 - B := by omega
        have HE := Lib.hid e3
        have t1 : ((A : Int) != ((4294967295 - B : Nat) : Int)) = false := by rw [bne_eq_false_iff_eq]; omega
        by_cases e2 : A < 1
        · have t2 : (((4294967295 - B : Nat) : Int) == 0) = true := by rw [beq_iff_eq]; omega
          clear e1 e3
          go_wp2
          rotate_left 1
          · exact absurd (show (A : Int) = bits .xor .u32 IntKind.u32.max (B : Int) from by rw [hcn]; exact congrArg _ HE.out) (by assumption)
          ((try rw [Exit.noGoto_ret]); go_ret3)
          exact ⟨by rw [HR.out, HBd.out (.inr (.inl (by omega)))]; rfl, hS⟩
        · have t2 : (((4294967295 - B : Nat) : Int) == 0) = false := by rw [beq_eq_false_iff_ne]; omega
          by_cases t3 : 2000 < 4294967295 - B
          · have e4 : 2000 < A := by omega
            clear e1 e3
            go_wp2
            rotate_left 1
            · exact absurd (show (A : Int) = bits .xor .u32 IntKind.u32.max (B : Int) from by rw [hcn]; exact congrArg _ HE.out) (by assumption)
            ((try rw [Exit.noGoto_ret]); go_ret3)
            exact ⟨by rw [HR.out, HBd.out (.inr (.inr e4))]; rfl, hS⟩
          · have e4 : 1 ≤ A ∧ A ≤ 2000 ∧ A + B = 4294967295 := by omega
            have E4 := Lib.hid e4
            clear e1 e3 e4
            go_wp2
            rotate_left 1
            · exact absurd (show (A : Int) = bits .xor .u32 IntKind.u32.max (B : Int) from by rw [hcn]; exact congrArg _ HE.out) (by assumption)
            exact ⟨⟨3, by omega, rfl, rfl, by rw [← HE.out]; rfl, HA.out (by have := E4.out; unfold badN; omega), hS⟩, by decide⟩
      · have t1 : ((A : Int) != ((4294967295 - B : Nat) : Int)) = true := by rw [bne_iff_ne]; omega
        go_wp2
        ((try rw [Exit.noGoto_ret]); go_ret3)
        exact ⟨by rw [HR.out, HBd.out (.inl e1)]; rfl, hS⟩
    · have h8 : 8 ≤ s.size := by have := hask.2.1; omega
      have hnb : ¬ badN (wordB s 0) (wordB s 4) := by have := hask.2.2.1; exact this.resolve_left (by omega)
      have hA1 : wordB s 0 ≤ 2000 := by unfold badN at hnb; omega
      have GS := Lib.hid (show ∀ w, Gives Try.prog 101 #[.int .i64 (wordB s 0)] w (.int .i64 ((wordB s 0 : Int) + 12)) from size_at _ (by omega) (by omega))
      have HT := Lib.hid (show s.size < wordB s 0 + 12 → readF s = (⟨#[]⟩, 0, 3) from fun h => readF_torn2 h8 hnb h)
      have HA := Lib.hid (show wordB s 0 + 12 ≤ s.size → asked s 4 from fun h => ⟨.inr (by omega), .inr (by omega), .inr hnb, .inr h, .inl (by omega)⟩)
      clear hask hnb
      generalize hA0 : wordB s 0 = A at *
      have HA0 := Lib.hid hA0
      clear hA0
      by_cases hsz : s.size < A + 12
      · go_wp2_with (go_at_call 101; ((with_reducible refine (GS.out _).mono ?_); rintro e w4 ⟨rfl, hB4⟩))
        ((try rw [Exit.noGoto_ret]); go_ret3)
        exact ⟨by rw [HR.out, HT.out hsz]; rfl, bel2 hB hB4⟩
      · go_wp2_with (go_at_call 101; ((with_reducible refine (GS.out _).mono ?_); rintro e w4 ⟨rfl, hB4⟩))
        exact ⟨⟨4, by omega, rfl, rfl, rfl, HA.out (by omega), bel2 hB hB4⟩, by decide⟩
    · have h8 : 8 ≤ s.size := by have := hask.2.1; omega
      have hnb : ¬ badN (wordB s 0) (wordB s 4) := by have := hask.2.2.1; exact this.resolve_left (by omega)
      have hA1 : wordB s 0 ≤ 2000 := by unfold badN at hnb; omega
      have hsz : wordB s 0 + 12 ≤ s.size := by have := hask.2.2.2.1; omega
      have g3 : ∀ w, Gives Try.prog 100 #[.string (s.extract (8 + wordB s 0) s.size)] w (.int .u32 (wordB s (8 + wordB s 0))) := fun w =>
        number_at (s.extract (8 + wordB s 0) s.size) _ (by rw [ByteArray.size_extract]; omega) (by rw [ByteArray.size_extract]; omega) (by rw [extract_drop]; rfl) w
      have g4 : ∀ w, Gives Try.prog 79 #[.string (s.extract 8 (8 + wordB s 0))] w (.int .u32 (moreN 0 (s.extract 8 (8 + wordB s 0)))) := of_at _ (by rw [ByteArray.size_extract]; omega)
      have HT := Lib.hid (show wordB s (8 + wordB s 0) ≠ moreN 0 (s.extract 8 (8 + wordB s 0)) → readF s = (⟨#[]⟩, 0, 4) from fun h => readF_bad2 h8 hnb hsz h)
      have HA := Lib.hid (show wordB s (8 + wordB s 0) = moreN 0 (s.extract 8 (8 + wordB s 0)) → asked s 5 from fun h => ⟨.inr (by omega), .inr (by omega), .inr hnb, .inr hsz, .inr h⟩)
      clear hask hnb
      have G3 := Lib.hid g3; have G4 := Lib.hid g4
      clear g3 g4
      generalize wordB s (8 + wordB s 0) = C at *
      generalize moreN 0 (s.extract 8 (8 + wordB s 0)) = D at *
      generalize hA0 : wordB s 0 = A at *
      have HA0 := Lib.hid hA0
      clear hA0
      have hw1 : IntKind.i64.wrap (8 + (A : Int)) = 8 + (A : Int) := IntWalk.i64_in _ (by omega)
      have hw0 : wrap64 (8 + (A : Int)) = 8 + (A : Int) := IntWalk.wrap64_in _ (by omega)
      have hw2 : (8 : Int) ≤ 8 + (A : Int) := by omega
      have hw3 : 8 + (A : Int) ≤ (s.size : Int) := by omega
      have hw4 : (8 + (A : Int)).toNat = 8 + A := by omega
      have hw5 : (0 : Int) ≤ 8 + (A : Int) := by omega
      go_wp2
      go_region_held3 (fun W' => Below wr.heap.size wr W')
        (first | assumption | exact (Below.refl _ _).drew | exact bel2 (by assumption) (by assumption))
        (first
          | (go_at_call 100; ((with_reducible refine (G3.out _).mono ?_); rintro e w4 ⟨rfl, hB4⟩))
          | (go_at_call 79; ((with_reducible refine (G4.out _).mono ?_); rintro e w5 ⟨rfl, hB5⟩)))
      have hS : Below w.heap.size w w5 := bel2 hB (by assumption)
      by_cases e1 : C = D
      · have E1 := Lib.hid e1
        subst e1
        go_wp2
        exact ⟨⟨5, by omega, rfl, rfl, rfl, HA.out rfl, hS⟩, by decide⟩
      · have t1 : ((C : Int) != (D : Int)) = true := by rw [bne_iff_ne]; omega
        go_wp2
        ((try rw [Exit.noGoto_ret]); go_ret3)
        exact ⟨by rw [HR.out, HT.out e1]; rfl, hS⟩
    · have h8 : 8 ≤ s.size := by have := hask.2.1; omega
      have hnb : ¬ badN (wordB s 0) (wordB s 4) := by have := hask.2.2.1; exact this.resolve_left (by omega)
      have hA1 : wordB s 0 ≤ 2000 := by unfold badN at hnb; omega
      have hsz : wordB s 0 + 12 ≤ s.size := by have := hask.2.2.2.1; omega
      have GS := Lib.hid (show ∀ w, Gives Try.prog 101 #[.int .i64 (wordB s 0)] w (.int .i64 ((wordB s 0 : Int) + 12)) from size_at _ (by omega) (by omega))
      have HT := Lib.hid (readF_whole h8 hnb hsz (by have := hask.2.2.2.2; omega))
      clear hask hnb
      generalize hA0 : wordB s 0 = A at *
      have HA0 := Lib.hid hA0
      clear hA0
      have hw1 : IntKind.i64.wrap (8 + (A : Int)) = 8 + (A : Int) := IntWalk.i64_in _ (by omega)
      have hw0 : wrap64 (8 + (A : Int)) = 8 + (A : Int) := IntWalk.wrap64_in _ (by omega)
      have hw2 : (8 : Int) ≤ 8 + (A : Int) := by omega
      have hw3 : 8 + (A : Int) ≤ (s.size : Int) := by omega
      have hw4 : (8 + (A : Int)).toNat = 8 + A := by omega
      have hw5 : (0 : Int) ≤ 8 + (A : Int) := by omega
      go_wp2
      go_region_held3 (fun W' => Below wr.heap.size wr W')
        (first | assumption | exact (Below.refl _ _).drew | exact bel2 (by assumption) (by assumption))
        (first
          | (go_at_call 101; ((with_reducible refine (GS.out _).mono ?_); rintro e w5 ⟨rfl, hB5⟩)))
      have hS : Below w.heap.size w w5 := bel2 hB (by assumption)
      go_wp2
      ((try rw [Exit.noGoto_ret]); go_ret3)
      exact ⟨by rw [HR.out, HT.out]; rfl, hS⟩

end Go.Proofs.Ytflaanffjjidaaa

/- What was framed is read; cut off it is torn; bits that are flipped within 32 in a row are seen: on lists of bytes alone. -/
namespace Go.Proofs.Ytflaanffjjidaaa
open Go.RowKit Go.Shelf
set_option linter.unusedVariables false

theorem wordB_of (s : ByteArray) (pre suf : List UInt8) (n k : Nat) (hn : n < 4294967296) (hk : k = pre.length) (h : s.data.toList = pre ++ (eigL n ++ suf)) : wordB s k = n := by
  unfold wordB
  rw [h, hk, List.drop_left, List.take_left' (eigL_len n)]
  exact leN_eigL n hn
theorem wrapB_list (b : ByteArray) : (wrapB b).data.toList = eigL b.size ++ (eigL (4294967295 - b.size) ++ (b.data.toList ++ eigL (moreN 0 b))) := by
  unfold wrapB
  rw [ba_toList, ba_toList, ba_toList]
  simp only [List.append_assoc]
theorem ba_ext_list {s t : ByteArray} (h : s.data.toList = t.data.toList) : s = t := ByteArray.ext (Array.toList_inj.1 h)
theorem extract_at (s : ByteArray) (pre : List UInt8) (b : ByteArray) (suf : List UInt8) (i j : Nat) (hi : i = pre.length) (hj : j = i + b.size) (h : s.data.toList = pre ++ (b.data.toList ++ suf)) : s.extract i j = b := by
  apply ba_ext_list
  rw [ByteArray.data_extract, Array.toList_extract, List.extract_eq_take_drop, h, hi, List.drop_left, List.take_left' (by rw [ba_size]; omega)]
theorem read_wrap (b t : ByteArray) (h1 : 1 ≤ b.size) (h2 : b.size ≤ 2000) : readF (wrapB b ++ t) = (b, b.size + 12, 1) := by
  have hL : (wrapB b ++ t).data.toList = eigL b.size ++ (eigL (4294967295 - b.size) ++ (b.data.toList ++ (eigL (moreN 0 b) ++ t.data.toList))) := by
    rw [ba_toList, wrapB_list]; simp only [List.append_assoc]
  have hs : (wrapB b ++ t).size = b.size + 12 + t.size := by rw [ByteArray.size_append, wrapB_size]
  have w0 : wordB (wrapB b ++ t) 0 = b.size := wordB_of _ [] _ b.size 0 (by omega) rfl hL
  have w4 : wordB (wrapB b ++ t) 4 = 4294967295 - b.size := wordB_of _ (eigL b.size) _ _ 4 (by omega) rfl hL
  have hb : (wrapB b ++ t).extract 8 (8 + b.size) = b := extract_at _ (eigL b.size ++ eigL (4294967295 - b.size)) b (eigL (moreN 0 b) ++ t.data.toList) 8 _ rfl rfl (by rw [hL]; simp only [List.append_assoc])
  have wc : wordB (wrapB b ++ t) (8 + b.size) = moreN 0 b := wordB_of _ (eigL b.size ++ eigL (4294967295 - b.size) ++ b.data.toList) t.data.toList _ _ (moreN_lt _ _) (by rw [List.length_append, List.length_append, eigL_len, eigL_len, ba_size]) (by rw [hL]; simp only [List.append_assoc])
  have hnb : ¬ badN (wordB (wrapB b ++ t) 0) (wordB (wrapB b ++ t) 4) := by rw [w0, w4]; unfold badN; omega
  rw [readF_whole (by omega) hnb (by rw [w0]; omega) (by rw [w0, hb, wc]), w0, hb]
/-- The bits of the number that four bytes make. -/
theorem leN_bit : ∀ (l : List UInt8) (j : Nat), (leN l).testBit j = bitB l j
  | [], j => by simp [leN, bitB]
  | c :: r, j => by
    have hc := c.toNat_lt
    have e : leN (c :: r) = 2 ^ 8 * leN r + c.toNat := by simp only [leN]; omega
    rw [e, Nat.testBit_two_pow_mul_add _ hc]
    by_cases h : j < 8
    · rw [if_pos h]
      unfold bitB
      rw [show j / 8 = 0 by omega, show j % 8 = j by omega]; rfl
    · rw [if_neg h, leN_bit r (j - 8)]
      unfold bitB
      rw [show j / 8 = (j - 8) / 8 + 1 by omega, show j % 8 = (j - 8) % 8 by omega]; rfl
theorem bitB_drop (l : List UInt8) (k j : Nat) : bitB (l.drop k) j = bitB l (8 * k + j) := by
  unfold bitB
  rw [List.getD_eq_getElem?_getD, List.getElem?_drop, ← List.getD_eq_getElem?_getD, show k + j / 8 = (8 * k + j) / 8 by omega, show j % 8 = (8 * k + j) % 8 by omega]
theorem bitB_take (l : List UInt8) (k j : Nat) (h : j < 8 * k) : bitB (l.take k) j = bitB l j := by
  unfold bitB
  rw [List.getD_eq_getElem?_getD, List.getElem?_take, if_pos (by omega), ← List.getD_eq_getElem?_getD]
theorem wordB_bit (s : ByteArray) (k j : Nat) (h : j < 32) : (wordB s k).testBit j = bitB s.data.toList (8 * k + j) := by
  unfold wordB
  rw [leN_bit, bitB_take _ _ _ (by omega), bitB_drop]
theorem leN_eq_of_len : ∀ (l m : List UInt8), l.length = m.length → leN l = leN m → l = m
  | [], [], _, _ => rfl
  | c :: r, d :: s, hl, h => by
    have hc := c.toNat_lt
    have hd := d.toNat_lt
    simp only [leN] at h
    have h1 : c.toNat = d.toNat := by omega
    have h2 : leN r = leN s := by omega
    rw [UInt8.toNat_inj.1 h1, leN_eq_of_len r s (by simpa using hl) h2]
theorem eigL_leN (l : List UInt8) (h : l.length = 4) : eigL (leN l) = l := by
  refine leN_eq_of_len _ _ (by rw [h]; rfl) (leN_eigL _ ?_)
  have := leN_lt l
  rw [h, pow256_4] at this
  exact this

/-- A sum that is fed with itself. -/
theorem crcM_self (l : List UInt8) : crcM 0#32 (l ++ eigL (crcM 0#32 l).toNat) = ~~~ (Zit 32 (BitVec.allOnes 32)) := by
  rw [crcM_append]
  generalize crcM 0#32 l = c
  unfold crcM
  rw [eigL_len, regF_val _ _ _ (by omega)]
  have hv : valF (bitB (eigL c.toNat)) (8 * 4) = c := by
    refine BitVec.eq_of_getLsbD_eq fun i hi => ?_
    rw [valF_get _ _ _ hi, decide_eq_true (by omega), Bool.true_and, ← leN_bit, leN_eigL _ c.isLt]; rfl
  rw [hv]
  congr 2
  refine BitVec.eq_of_getLsbD_eq fun i hi => ?_
  rw [BitVec.getLsbD_xor, BitVec.getLsbD_not, BitVec.getLsbD_allOnes]
  simp [hi]

/-- Bits of a frame that are flipped within 32 in a row: it is bad, whatever stands behind. -/
theorem read_bursts (b t u : ByteArray) (h1 : 1 ≤ b.size) (h2 : b.size ≤ 2000) (hz : t.size = b.size + 12) (g : Nat → Bool) (s : Nat) (hs : s + 32 ≤ 8 * (b.size + 12)) (h : ∀ j, j < 8 * (b.size + 12) → bitB t.data.toList j = (bitB (wrapB b).data.toList j ^^ g j))
    (hlo : ∀ j, j < s → g j = false) (hhi : ∀ j, s + 32 ≤ j → g j = false) (hne : ∃ j, s ≤ j ∧ j < s + 32 ∧ g j = true) : readF (t ++ u) = (⟨#[]⟩, 0, 4) := by
  have hsz : (t ++ u).size = b.size + 12 + u.size := by rw [ByteArray.size_append, hz]
  have htl : t.data.toList.length = b.size + 12 := by rw [ba_size, hz]
  have wk : ∀ k, k + 4 ≤ b.size + 12 → ∀ j, j < 32 → (wordB (t ++ u) k).testBit j = ((wordB (wrapB b) k).testBit j ^^ g (8 * k + j)) := fun k hk j hj => by
    rw [wordB_bit _ _ _ hj, wordB_bit _ _ _ hj, ba_toList, bitB_left _ _ _ (by omega), h _ (by omega)]
  have w0 : wordB (wrapB b) 0 = b.size := wordB_of _ [] _ b.size 0 (by omega) rfl (wrapB_list b)
  have w4 : wordB (wrapB b) 4 = 4294967295 - b.size := wordB_of _ (eigL b.size) _ _ 4 (by omega) rfl (wrapB_list b)
  by_cases hbad : badN (wordB (t ++ u) 0) (wordB (t ++ u) 4)
  · exact readF_bad (by omega) hbad
  have hsum : wordB (t ++ u) 0 + wordB (t ++ u) 4 = 4294967295 := by unfold badN at hbad; omega
  have comp : ∀ A B : Nat, A + B = 4294967295 → ∀ j, j < 32 → B.testBit j = !A.testBit j := fun A B hAB j hj => by
    have e : B = 2 ^ 32 - (A + 1) := by omega
    rw [e, Nat.testBit_two_pow_sub_succ (by omega), decide_eq_true hj, Bool.true_and]
  have g64 : ∀ j, j < 32 → g j = false ∧ g (32 + j) = false := fun j hj => by
    have a0 := wk 0 (by omega) j hj
    have a4 := wk 4 (by omega) j hj
    rw [comp _ _ hsum j hj, comp (wordB (wrapB b) 0) (wordB (wrapB b) 4) (by rw [w0, w4]; omega) j hj, a0, show 8 * 0 + j = j by omega, show 8 * 4 + j = 32 + j by omega] at a4
    have hgg : g j = g (32 + j) := by
      generalize (wordB (wrapB b) 0).testBit j = p at a4
      generalize g j = q at a4
      generalize g (32 + j) = r at a4
      cases p <;> cases q <;> cases r <;> simp at a4 ⊢
    by_cases hj2 : j < s
    · exact ⟨hlo j hj2, by rw [← hgg]; exact hlo j hj2⟩
    · have := hhi (32 + j) (by omega)
      exact ⟨by rw [hgg]; exact this, this⟩
  have gz : ∀ j, j < 64 → g j = false := fun j hj => by
    by_cases h32 : j < 32
    · exact (g64 j h32).1
    · have := (g64 (j - 32) (by omega)).2
      rwa [show 32 + (j - 32) = j by omega] at this
  have e0 : wordB (t ++ u) 0 = b.size := by
    rw [← w0]
    refine Nat.eq_of_testBit_eq fun j => ?_
    by_cases hj : j < 32
    · rw [wk 0 (by omega) j hj, gz _ (by omega), Bool.xor_false]
    · rw [Nat.testBit_lt_two_pow (Nat.lt_of_lt_of_le (wordB_lt _ _) (show 2 ^ 32 ≤ 2 ^ j from Nat.pow_le_pow_right (by decide) (by omega))), Nat.testBit_lt_two_pow (Nat.lt_of_lt_of_le (wordB_lt _ _) (show 2 ^ 32 ≤ 2 ^ j from Nat.pow_le_pow_right (by decide) (by omega)))]
  refine readF_bad2 (by omega) hbad (by rw [e0]; omega) ?_
  rw [e0]
  intro hc
  -- the bytes behind the numbers: what the frame holds, and its sum
  have hb1 : ((t ++ u).extract 8 (8 + b.size)).data.toList = (t.data.toList.drop 8).take b.size := by
    rw [ByteArray.data_extract, Array.toList_extract, List.extract_eq_take_drop, ba_toList, List.drop_append_of_le_length (by omega), List.take_append_of_le_length (by rw [List.length_drop]; omega)]
    congr 1; omega
  have hw1 : wordB (t ++ u) (8 + b.size) = leN ((t.data.toList.drop 8).drop b.size) := by
    unfold wordB
    rw [ba_toList, List.drop_append_of_le_length (by omega), List.take_append_of_le_length (by rw [List.length_drop]; omega), List.drop_drop, List.take_of_length_le (by rw [List.length_drop]; omega)]
  have hlen4 : ((t.data.toList.drop 8).drop b.size).length = 4 := by rw [List.length_drop, List.length_drop]; omega
  have hsum2 : crcM 0#32 (t.data.toList.drop 8) = ~~~ (Zit 32 (BitVec.allOnes 32)) := by
    rw [← crcM_self ((t.data.toList.drop 8).take b.size)]
    congr 1
    have hm : (crcM 0#32 ((t.data.toList.drop 8).take b.size)).toNat = leN ((t.data.toList.drop 8).drop b.size) := by
      rw [← hw1, hc]; unfold moreN; rw [hb1]
    rw [hm, eigL_leN _ hlen4, List.take_append_drop]
  have hsum3 : crcM 0#32 ((wrapB b).data.toList.drop 8) = ~~~ (Zit 32 (BitVec.allOnes 32)) := by
    rw [← crcM_self b.data.toList]
    exact congrArg (crcM 0#32) (by rw [wrapB_list]; rfl)
  have hwl : (wrapB b).data.toList.length = b.size + 12 := by rw [ba_size, wrapB_size]
  obtain ⟨j, hj1, hj2, hj3⟩ := hne
  have hj64 : 64 ≤ j := by
    rcases Nat.lt_or_ge j 64 with hlt | hge
    · rw [gz j hlt] at hj3; cases hj3
    · exact hge
  refine crcM_bursts 0#32 ((wrapB b).data.toList.drop 8) (t.data.toList.drop 8) (fun i => g (64 + i)) (s - 64) (by rw [List.length_drop, List.length_drop]; omega) (by rw [List.length_drop]; omega)
    (fun i hi => ?_) (fun i hi => ?_) (fun i hi => ?_) ⟨j - 64, by omega, by omega, ?_⟩ (by rw [hsum2, hsum3])
  · rw [List.length_drop] at hi
    rw [bitB_drop, bitB_drop, h _ (by omega)]
  · exact hlo _ (by omega)
  · exact hhi _ (by omega)
  · show g (64 + (j - 64)) = true
    rw [show 64 + (j - 64) = j by omega]; exact hj3

end Go.Proofs.Ytflaanffjjidaaa

/- Slices of structs that came in, read as lists. -/
namespace Go.Proofs.Ytflaanffjjidaaa
open Go.RowKit Go.Shelf Go.ChangeShapes Go.WideShapes Go.Deep
set_option linter.unusedVariables false

/-- A field of a struct that reads. -/
theorem trod_field {H : Type} {enc : TypeId × Value → H} {P : Program} {W : World} {base : Nat} {sp : Nat → Bool} {held : Bool} {n : Nat} {cs : List Value} {fs : Array Field} {xs : List (DataW H × List MemPlace)}
    (hf : ∀ (i : Nat) (f : Field), fs[i]? = some f → DataW.trod enc P W base sp held n f.type ((cs.drop f.offset).take (P.cellsOf f.type)) = xs[i]?) (i off k : Nat) (T : TypeId) (hi : (fs[i]?).map (fun f => (f.type, f.offset)) = some (T, off)) (hk : P.cellsOf T = k) :
    DataW.trod enc P W base sp held n T ((cs.drop off).take k) = xs[i]? := by
  cases h : fs[i]? with
  | none => rw [h] at hi; cases hi
  | some f =>
    rw [h] at hi
    simp only [Option.map_some, Option.some.injEq, Prod.mk.injEq] at hi
    obtain ⟨rfl, rfl⟩ := hi
    rw [← hk]
    exact hf i f h

/-- A slice whose elements are rows of sz cells, each of which reads as something of α. -/
theorem open_rows {H : Type} {enc : TypeId × Value → H} {P : Program} {W : World} {t e : TypeId} {a : Option Addr} {len cap : Nat} {d : DataW H} {ps : List MemPlace} {α : Type} (cells : α → List Value) (good : α → Prop) (sz : Nat) (hsz : 0 < sz) (ht : P.underlying t = some (.slice e)) (hC : P.cellsOf e = sz)
    (hcl : ∀ x, (cells x).length = sz)
    (hel : ∀ (n : Nat) (cs : List Value) (x : DataW H × List MemPlace), cs.length = sz → DataW.trod enc P W 0 (fun _ => true) true n e cs = some x → ∃ f : α, cells f = cs ∧ good f)
    (h : DataW.Trod enc P W 0 (fun _ => true) true t (.slice a len cap) d ps) : ∃ l : List α, l.length = len ∧ len ≤ cap ∧ RowV W a len sz ((l.map cells).flatten) ∧ ∀ f ∈ l, good f := by
  obtain ⟨fuel, hf⟩ := h
  rcases open_slice ht hf with ⟨hcs, _⟩ | ⟨ad, len', cap', m, n, D, Pl, hcs, hb, hl, hm, hmm, hx, hi⟩
  · simp [Value.cells] at hcs
    obtain ⟨rfl, rfl, rfl⟩ := hcs
    exact ⟨[], rfl, Nat.le_refl _, by simpa using RowV.nil W sz none, by simp⟩
  · simp [Value.cells] at hcs
    obtain ⟨rfl, rfl, rfl⟩ := hcs
    rw [if_pos rfl] at hmm
    have key : ∀ i : Fin len, ∃ f : α, good f ∧ ∀ j, j < sz → W.cell? ((ad.add (i.val * sz)).add j) = (cells f)[j]? := fun i => by
      obtain ⟨cs', hc, htr⟩ := hi i.val (by have := i.isLt; omega)
      rw [hC] at hc
      obtain ⟨_, hcl', hat⟩ := World.cells?_some hc
      obtain ⟨f, rfl, hg⟩ := hel n cs' _ hcl' htr
      exact ⟨f, hg, hat⟩
    let l : List α := List.ofFn fun i : Fin len => Classical.choose (key i)
    have hll : l.length = len := by simp [l]
    have hlg : ∀ (i : Nat) (h : i < l.length), good l[i] ∧ ∀ j, j < sz → W.cell? ((ad.add (i * sz)).add j) = (cells l[i])[j]? := fun i h => by
      have hi' : i < len := by rw [hll] at h; exact h
      have := Classical.choose_spec (key ⟨i, hi'⟩)
      simpa [l] using this
    refine ⟨l, hll, hl, ⟨by rw [flat_len cells sz hcl, hll], by omega, fun h0 => ?_⟩, fun f hf => ?_⟩
    · obtain ⟨b, off, spot⟩ := ad
      have h1 := (hlg 0 (by omega)).2 0 hsz
      have hcz : 0 < (cells l[0]).length := by rw [hcl]; exact hsz
      rw [List.getElem?_eq_getElem hcz] at h1
      simp only [Nat.zero_mul] at h1
      have hsp : spot = none := by simpa [Addr.add] using World.cell?_spot h1
      subst hsp
      refine ⟨b, off, rfl, block_of_cell (by simpa [Addr.add] using h1), fun j hj => ?_⟩
      have hfl := flat_len cells sz hcl l
      have hk : j / sz < l.length := by rw [hfl] at hj; exact Nat.div_lt_of_lt_mul (by rw [Nat.mul_comm]; exact hj)
      have hr : j % sz < sz := Nat.mod_lt _ hsz
      have hjj : j / sz * sz + j % sz = j := by rw [Nat.mul_comm]; exact Nat.div_add_mod j sz
      have h2 := (hlg _ hk).2 _ hr
      rw [add_off, add_off, Nat.add_assoc, hjj] at h2
      rw [h2, ← flat_at cells sz hcl l _ _ hk hr, hjj, List.getElem?_eq_getElem hj]
    · obtain ⟨i, hi', rfl⟩ := List.getElem_of_mem hf
      exact (hlg i hi').1

end Go.Proofs.Ytflaanffjjidaaa

/- A part, an entry, a slice of entries that came in. -/
namespace Go.Proofs.Ytflaanffjjidaaa
open Go.RowKit Go.Shelf Go.ChangeShapes Go.WideShapes Go.Deep
open Go.ChangeMaps (open_string)
set_option linter.unusedVariables false

def in64 (n : Int) : Prop := -9223372036854775808 ≤ n ∧ n < 9223372036854775808
def goodEntry (e : EntryC) : Prop := in64 e.i ∧ in64 e.t ∧ e.d.size ≤ maxLen
def goodPart (p : PartC) : Prop := (p.a = none → p.cap = 0) ∧ in64 p.g ∧ in64 p.k ∧ in64 p.ht ∧ in64 p.hv ∧ in64 p.hc ∧ in64 p.i ∧ in64 p.t

theorem entry_cells {H : Type} {enc : TypeId × Value → H} {W : World} {n : Nat} {cs : List Value} {x : DataW H × List MemPlace} (hl : cs.length = 3) (hx : DataW.trod enc Try.prog W 0 (fun _ => true) true n 67 cs = some x) :
    ∃ f : EntryC, f.cells = cs ∧ goodEntry f := by
  have k1 : Try.prog.cellsOf 3 = 1 := by kernel_rfl
  have k2 : Try.prog.cellsOf 9 = 1 := by kernel_rfl
  match cs, hl with
  | [c0, c1, c2], _ =>
    obtain ⟨xs, n', _, _, _, hxl, hf⟩ := DataW.trod_struct Try.underlying67 hx
    match xs, hxl with
    | [y0, y1, y2], _ =>
      obtain ⟨z0, e0, _, w0⟩ := DataW.trod_int Try.underlying3 (trod_field hf 0 0 1 3 rfl k1)
      obtain ⟨z1, e1, _, w1⟩ := DataW.trod_int Try.underlying3 (trod_field hf 1 1 1 3 rfl k1)
      obtain ⟨s2, e2, _, w2⟩ := DataW.trod_string Try.underlying9 (trod_field hf 2 2 1 9 rfl k2)
      simp at e0 e1 e2
      subst e0 e1 e2
      exact ⟨⟨z0, z1, s2⟩, rfl, bounds_i64 w0, bounds_i64 w1, w2⟩
theorem open_entries {H : Type} {enc : TypeId × Value → H} {W : World} {a : Option Addr} {len cap : Nat} {d : DataW H} {ps : List MemPlace}
    (h : DataW.Trod enc Try.prog W 0 (fun _ => true) true 56 (.slice a len cap) d ps) : ∃ l : List EntryC, l.length = len ∧ len ≤ cap ∧ RowV W a len 3 (entryCells l) ∧ ∀ f ∈ l, goodEntry f :=
  open_rows EntryC.cells goodEntry 3 (by decide) Try.underlying56 (by kernel_rfl) EntryC.len (fun n cs x hl hx => entry_cells hl hx) h

theorem part_cells {H : Type} {enc : TypeId × Value → H} {W : World} {n : Nat} {cs : List Value} {x : DataW H × List MemPlace} (hl : cs.length = 10) (hx : DataW.trod enc Try.prog W 0 (fun _ => true) true n 70 cs = some x) :
    ∃ p : PartC, p.arr.toList = cs ∧ goodPart p ∧ ∃ l : List EntryC, l.length = p.len ∧ RowV W p.a p.len 3 (entryCells l) ∧ ∀ e ∈ l, goodEntry e := by
  have k1 : Try.prog.cellsOf 3 = 1 := by kernel_rfl
  have kb : Try.prog.cellsOf 4 = 1 := by kernel_rfl
  have ks : Try.prog.cellsOf 56 = 1 := by kernel_rfl
  have kh : Try.prog.cellsOf 55 = 3 := by kernel_rfl
  match cs, hl with
  | [c0, c1, c2, c3, c4, c5, c6, c7, c8, c9], _ =>
    obtain ⟨xs, n', _, _, _, hxl, hf⟩ := DataW.trod_struct Try.underlying70 hx
    match xs, hxl with
    | [y0, y1, y2, y3, y4, y5, y6, y7], _ =>
      obtain ⟨z0, e0, _, w0⟩ := DataW.trod_int Try.underlying3 (trod_field hf 0 0 1 3 rfl k1)
      obtain ⟨z1, e1, _, w1⟩ := DataW.trod_int Try.underlying3 (trod_field hf 1 1 1 3 rfl k1)
      have hen := trod_field hf 2 2 1 56 rfl ks
      obtain ⟨xs2, n2, _, _, _, hxl2, hf2⟩ := DataW.trod_struct Try.underlying55 (trod_field hf 3 3 3 55 rfl kh)
      match xs2, hxl2 with
      | [u0, u1, u2], _ =>
        obtain ⟨z3, e3, _, w3⟩ := DataW.trod_int Try.underlying3 (trod_field hf2 0 0 1 3 rfl k1)
        obtain ⟨z4, e4, _, w4⟩ := DataW.trod_int Try.underlying3 (trod_field hf2 1 1 1 3 rfl k1)
        obtain ⟨z5, e5, _, w5⟩ := DataW.trod_int Try.underlying3 (trod_field hf2 2 2 1 3 rfl k1)
        obtain ⟨z6, e6, _, w6⟩ := DataW.trod_int Try.underlying3 (trod_field hf 4 6 1 3 rfl k1)
        obtain ⟨z7, e7, _, w7⟩ := DataW.trod_int Try.underlying3 (trod_field hf 5 7 1 3 rfl k1)
        obtain ⟨b8, e8, _⟩ := DataW.trod_bool Try.underlying4 (trod_field hf 6 8 1 4 rfl kb)
        obtain ⟨b9, e9, _⟩ := DataW.trod_bool Try.underlying4 (trod_field hf 7 9 1 4 rfl kb)
        simp at e0 e1 e3 e4 e5 e6 e7 e8 e9
        subst e0 e1 e3 e4 e5 e6 e7 e8 e9
        have hsl : ∃ (a : Option Addr) (len cap : Nat), c2 = .slice a len cap ∧ (a = none → cap = 0) := by
          rcases open_slice Try.underlying56 hen with ⟨hcs, _⟩ | ⟨ad, len', cap', _, _, _, _, hcs, _⟩
          · simp at hcs; exact ⟨_, _, _, hcs, fun _ => rfl⟩
          · simp at hcs; exact ⟨_, _, _, hcs, fun h => by cases h⟩
        obtain ⟨a, len, cap, rfl, hcap⟩ := hsl
        obtain ⟨l, h1, h2, h3, h4⟩ := open_entries (enc := enc) (W := W) (a := a) (len := len) (cap := cap) (d := y2.1) (ps := y2.2) ⟨n', hen⟩
        exact ⟨⟨z0, z1, a, len, cap, z3, z4, z5, z6, z7, b8, b9⟩, rfl, ⟨hcap, bounds_i64 w0, bounds_i64 w1, bounds_i64 w3, bounds_i64 w4, bounds_i64 w5, bounds_i64 w6, bounds_i64 w7⟩, l, h1, h3, h4⟩
end Go.Proofs.Ytflaanffjjidaaa

/- A slice of parts that came in, each with its entries; rows of parts. -/
namespace Go.Proofs.Ytflaanffjjidaaa
open Go.RowKit Go.Shelf Go.ChangeShapes Go.WideShapes Go.Deep
open Go.ChangeMaps (open_string)
set_option linter.unusedVariables false

/-- A part with its entries. -/
abbrev PL := PartC × List EntryC
def partCells (L : List PL) : List Value := (L.map (fun x => x.1.arr.toList)).flatten
def GoodP (W : World) (x : PL) : Prop := goodPart x.1 ∧ x.2.length = x.1.len ∧ RowV W x.1.a x.1.len 3 (entryCells x.2) ∧ ∀ e ∈ x.2, goodEntry e
theorem open_parts {H : Type} {enc : TypeId × Value → H} {W : World} {a : Option Addr} {len cap : Nat} {d : DataW H} {ps : List MemPlace}
    (h : DataW.Trod enc Try.prog W 0 (fun _ => true) true 35 (.slice a len cap) d ps) : ∃ L : List PL, L.length = len ∧ len ≤ cap ∧ RowV W a len 10 (partCells L) ∧ ∀ x ∈ L, GoodP W x :=
  open_rows (α := PL) (fun x => x.1.arr.toList) (GoodP W) 10 (by decide) Try.underlying35 (by kernel_rfl) (fun _ => rfl) (fun n cs x hl hx => by
    obtain ⟨p, hp, hg, l, h1, h2, h3⟩ := part_cells hl hx
    exact ⟨(p, l), hp, hg, h1, h2, h3⟩) h
theorem partCells_snoc (L : List PL) (x : PL) : partCells (L ++ [x]) = partCells L ++ x.1.arr.toList := by simp [partCells]
theorem part_at {w W : World} {b off : Nat} {L : List PL} (hb : b < w.heap.size) (hB : Below w.heap.size w W) (hc : ∀ j (h : j < (partCells L).length), w.cell? ⟨b, off + j, none⟩ = some (partCells L)[j]) {k : Nat} (hk : k < L.length) :
    ∀ j v, j < 10 → L[k].1.arr.toList[j]? = some v → W.cell? ⟨b, off + k * 10 + j, none⟩ = some v := fun j v hj hv => by
  rw [Nat.add_assoc]
  exact (hB.cell (p := ⟨b, off + (k * 10 + j), none⟩) hb).trans (RowV.at_ (len := L.length) (sz := 10) hc (by rw [partCells, flat_at (fun x : PL => x.1.arr.toList) 10 (fun _ => rfl) L k j hk hj]; exact hv))
theorem part_at10 {w W : World} {b off : Nat} {L : List PL} (hb : b < w.heap.size) (hB : Below w.heap.size w W) (hc : ∀ j (h : j < (partCells L).length), w.cell? ⟨b, off + j, none⟩ = some (partCells L)[j]) {k : Nat} (hk : k < L.length) :
    W.cell? ⟨b, off + k * 10, none⟩ = some (.int .i64 L[k].1.g) ∧ W.cell? ⟨b, off + k * 10 + 1, none⟩ = some (.int .i64 L[k].1.k) ∧ W.cell? ⟨b, off + k * 10 + 2, none⟩ = some (.slice L[k].1.a L[k].1.len L[k].1.cap) ∧
    W.cell? ⟨b, off + k * 10 + 3, none⟩ = some (.int .i64 L[k].1.ht) ∧ W.cell? ⟨b, off + k * 10 + 4, none⟩ = some (.int .i64 L[k].1.hv) ∧ W.cell? ⟨b, off + k * 10 + 5, none⟩ = some (.int .i64 L[k].1.hc) ∧
    W.cell? ⟨b, off + k * 10 + 6, none⟩ = some (.int .i64 L[k].1.i) ∧ W.cell? ⟨b, off + k * 10 + 7, none⟩ = some (.int .i64 L[k].1.t) ∧ W.cell? ⟨b, off + k * 10 + 8, none⟩ = some (.bool L[k].1.m) ∧ W.cell? ⟨b, off + k * 10 + 9, none⟩ = some (.bool L[k].1.h) :=
  ⟨part_at hb hB hc hk 0 _ (by decide) rfl, part_at hb hB hc hk 1 _ (by decide) rfl, part_at hb hB hc hk 2 _ (by decide) rfl, part_at hb hB hc hk 3 _ (by decide) rfl, part_at hb hB hc hk 4 _ (by decide) rfl, part_at hb hB hc hk 5 _ (by decide) rfl, part_at hb hB hc hk 6 _ (by decide) rfl, part_at hb hB hc hk 7 _ (by decide) rfl, part_at hb hB hc hk 8 _ (by decide) rfl, part_at hb hB hc hk 9 _ (by decide) rfl⟩

end Go.Proofs.Ytflaanffjjidaaa

/- A record, a slice of records that came in. -/
namespace Go.Proofs.Ytflaanffjjidaaa
open Go.RowKit Go.Shelf Go.ChangeShapes Go.WideShapes Go.Deep
open Go.ChangeMaps (open_string)
set_option linter.unusedVariables false

/-- A record as a flat value. -/
structure RecC where
  s : Int
  a : Option Addr
  len : Nat
  cap : Nat
abbrev RecC.val (r : RecC) : Value := .agg #[.int .i64 r.s, .slice r.a r.len r.cap]
abbrev RecC.cells (r : RecC) : List Value := [.int .i64 r.s, .slice r.a r.len r.cap]
/-- A record with its parts, that came in. -/
def GoodR (W : World) (r : RecC) (L : List PL) : Prop := in64 r.s ∧ L.length = r.len ∧ r.len ≤ r.cap ∧ RowV W r.a r.len 10 (partCells L) ∧ ∀ x ∈ L, GoodP W x
theorem rec_cells {H : Type} {enc : TypeId × Value → H} {W : World} {n : Nat} {cs : List Value} {x : DataW H × List MemPlace} (hl : cs.length = 2) (hx : DataW.trod enc Try.prog W 0 (fun _ => true) true n 37 cs = some x) :
    ∃ (r : RecC) (L : List PL), r.cells = cs ∧ GoodR W r L := by
  have k1 : Try.prog.cellsOf 3 = 1 := by kernel_rfl
  have ks : Try.prog.cellsOf 35 = 1 := by kernel_rfl
  match cs, hl with
  | [c0, c1], _ =>
    obtain ⟨xs, n', _, _, _, hxl, hf⟩ := DataW.trod_struct Try.underlying37 hx
    match xs, hxl with
    | [y0, y1], _ =>
      obtain ⟨z0, e0, _, w0⟩ := DataW.trod_int Try.underlying3 (trod_field hf 0 0 1 3 rfl k1)
      have hen := trod_field hf 1 1 1 35 rfl ks
      simp at e0 hen
      subst e0
      have hsl : ∃ (a : Option Addr) (len cap : Nat), c1 = .slice a len cap := by
        rcases open_slice Try.underlying35 hen with ⟨hcs, _⟩ | ⟨ad, len', cap', _, _, _, _, hcs, _⟩
        · simp at hcs; exact ⟨_, _, _, hcs⟩
        · simp at hcs; exact ⟨_, _, _, hcs⟩
      obtain ⟨a, len, cap, rfl⟩ := hsl
      obtain ⟨L, h1, h2, h3, h4⟩ := open_parts (enc := enc) (W := W) (a := a) (len := len) (cap := cap) (d := y1.1) (ps := y1.2) ⟨n', hen⟩
      exact ⟨⟨z0, a, len, cap⟩, L, rfl, bounds_i64 w0, h1, h2, h3, h4⟩
/-- A record with its parts. -/
abbrev RL := RecC × List PL
def recCells (L : List RL) : List Value := (L.map (fun x => x.1.cells)).flatten
theorem open_records {H : Type} {enc : TypeId × Value → H} {W : World} {a : Option Addr} {len cap : Nat} {d : DataW H} {ps : List MemPlace}
    (h : DataW.Trod enc Try.prog W 0 (fun _ => true) true 22 (.slice a len cap) d ps) : ∃ L : List RL, L.length = len ∧ len ≤ cap ∧ RowV W a len 2 (recCells L) ∧ ∀ x ∈ L, GoodR W x.1 x.2 :=
  open_rows (α := RL) (fun x => x.1.cells) (fun x => GoodR W x.1 x.2) 2 (by decide) Try.underlying22 (by kernel_rfl) (fun _ => rfl) (fun n cs x hl hx => by
    obtain ⟨q, L, hq, hg⟩ := rec_cells hl hx
    exact ⟨(q, L), hq, hg⟩) h
theorem rec_at {w W : World} {b off : Nat} {L : List RL} (hb : b < w.heap.size) (hB : Below w.heap.size w W) (hc : ∀ j (h : j < (recCells L).length), w.cell? ⟨b, off + j, none⟩ = some (recCells L)[j]) {k : Nat} (hk : k < L.length) :
    W.cell? ⟨b, off + k * 2, none⟩ = some (.int .i64 L[k].1.s) ∧ W.cell? ⟨b, off + k * 2 + 1, none⟩ = some (.slice L[k].1.a L[k].1.len L[k].1.cap) := by
  have cell : ∀ i v, i < 2 → (L[k].1.cells)[i]? = some v → W.cell? ⟨b, off + (k * 2 + i), none⟩ = some v := fun i v hi hv =>
    (hB.cell (p := ⟨b, off + (k * 2 + i), none⟩) hb).trans (RowV.at_ (len := L.length) (sz := 2) hc (by rw [recCells, flat_at (fun x : RL => x.1.cells) 2 (fun _ => rfl) L k i hk hi]; exact hv))
  exact ⟨cell 0 _ (by decide) rfl, cell 1 _ (by decide) rfl⟩

end Go.Proofs.Ytflaanffjjidaaa

/- What was written is read; cut off it lacks bytes; unlike parts have unlike bytes: on bytes alone. -/
namespace Go.Proofs.Ytflaanffjjidaaa
open Go.RowKit Go.Shelf
set_option linter.unusedVariables false

/-- The reader has no error, and r is what lies ahead of it. -/
def Rest (s : ByteArray) (st : RSt) (r : List UInt8) : Prop := st.e = 0 ∧ s.data.toList.drop st.at_ = r ∧ st.at_ + r.length = s.size
theorem numM_back {s : ByteArray} {st : RSt} {n : Nat} {r : List UInt8} (h : Rest s st (sevL n ++ r)) (hn : n < 9223372036854775808) : (numM s st).1 = n ∧ Rest s (numM s st).2 r := by
  obtain ⟨h1, h2, h3⟩ := h
  have hg := getL_sevL n r hn
  unfold numM
  rw [if_neg (by simpa using h1), h2, hg]
  refine ⟨rfl, rfl, ?_, ?_⟩
  · show s.data.toList.drop (st.at_ + (sevL n).length) = r
    rw [← List.drop_drop, h2, List.drop_append_of_le_length (Nat.le_refl _), List.drop_length, List.nil_append]
  · show st.at_ + (sevL n).length + r.length = s.size
    rw [List.length_append] at h3; omega
theorem numTo_back {s : ByteArray} {st : RSt} {n most : Nat} {r : List UInt8} (h : Rest s st (sevL n ++ r)) (hn : n < 9223372036854775808) (hm : n ≤ most) : (numTo s most st).1 = n ∧ Rest s (numTo s most st).2 r := by
  obtain ⟨h1, h2⟩ := numM_back h hn
  unfold numTo
  rw [if_neg (by omega)]
  exact ⟨h1, h2⟩
theorem putL_cons (x : Int) (l : List Int) : putL (x :: l) = sevL x.toNat ++ putL l := rfl
theorem hardM_back {s : ByteArray} {st : RSt} {a b c : Int} {r : List UInt8} (h : Rest s st (putL [a, b, c] ++ r)) (ha : a < 9223372036854775808) (hb : b < 9223372036854775808) (hc : c < 9223372036854775808) :
    (hardM s st).1 = (a.toNat, b.toNat, c.toNat) ∧ Rest s (hardM s st).2 r := by
  simp only [putL_cons, List.append_assoc] at h
  obtain ⟨e1, h1⟩ := numM_back h (by omega)
  obtain ⟨e2, h2⟩ := numM_back h1 (by omega)
  obtain ⟨e3, h3⟩ := numM_back h2 (by omega)
  unfold hardM
  exact ⟨by rw [e1, e2, e3], by simpa [putL] using h3⟩
theorem ba_of_list (l : List UInt8) : (⟨l.toArray⟩ : ByteArray).data.toList = l := by simp
theorem txtM_back {s : ByteArray} {st : RSt} {d : ByteArray} {r : List UInt8} (h : Rest s st ((textS d).data.toList ++ r)) (hd : d.size ≤ 40) : (txtM s st).1 = d ∧ Rest s (txtM s st).2 r := by
  obtain ⟨h1, h2, h3⟩ := h
  have hr : restB s st.at_ = (⟨(sevL d.size).toArray⟩ ++ d) ++ ⟨r.toArray⟩ := by
    apply ByteArray.ext
    apply Array.toList_inj.1
    rw [restB_list, h2, ba_toList, ba_of_list]
    rfl
  have hz : (textS d).data.toList.length = (sevL d.size).length + d.size := by
    rw [ba_size]; unfold textS; rw [ByteArray.size_append]; rfl
  have ht := textsB_most d ⟨r.toArray⟩ 40 (by omega) (by omega)
  unfold txtM
  rw [if_neg (by simpa using h1), hr, ht]
  refine ⟨rfl, rfl, ?_, ?_⟩
  · show s.data.toList.drop (st.at_ + ((sevL d.size).length + d.size)) = r
    rw [← hz, ← List.drop_drop, h2, List.drop_append_of_le_length (Nat.le_refl _), List.drop_length, List.nil_append]
  · show st.at_ + ((sevL d.size).length + d.size) + r.length = s.size
    rw [List.length_append, hz] at h3; omega
/-- Entries as they were written are read, if their Indexes are. -/
theorem entM_back {s : ByteArray} {idx : Nat → RSt → Int × RSt} (pre : EntryC → List UInt8) (tx : EntryC → List UInt8) (htx : ∀ e, tx e = pre e ++ (sevL e.t.toNat ++ (textS e.d).data.toList)) :
    ∀ (l : List EntryC) (i : Nat) (st : RSt) (r : List UInt8), Rest s st (l.flatMap tx ++ r) → (∀ e ∈ l, 0 ≤ e.t ∧ e.t < 9223372036854775808 ∧ e.d.size ≤ 40) →
      (∀ j e q r2, l[j]? = some e → Rest s q (pre e ++ r2) → (idx (i + j) q).1 = e.i ∧ Rest s (idx (i + j) q).2 r2) →
      (entM s idx l.length i st).1 = l ∧ Rest s (entM s idx l.length i st).2 r
  | [], i, st, r, h, _, _ => ⟨rfl, by simpa [entM] using h⟩
  | e :: l, i, st, r, h, hw, hi => by
    simp only [List.flatMap_cons, htx, List.append_assoc] at h
    obtain ⟨w1, w2, w3⟩ := hw e List.mem_cons_self
    obtain ⟨a1, h1⟩ := hi 0 e st _ rfl h
    rw [Nat.add_zero] at a1 h1
    obtain ⟨a2, h2⟩ := numM_back h1 (by omega)
    obtain ⟨a3, h3⟩ := txtM_back h2 w3
    have hrec := entM_back pre tx htx l (i + 1) _ r (by simpa only [htx] using h3) (fun x hx => hw x (List.mem_cons_of_mem _ hx)) (fun j x q r2 hx hq => by
      have := hi (j + 1) x q r2 (by simpa using hx) hq
      rwa [show i + (j + 1) = i + 1 + j by omega] at this)
    simp only [List.length_cons, entM]
    rw [if_neg (by rw [h3.1]; simp)]
    refine ⟨?_, hrec.2⟩
    dsimp only
    rw [hrec.1, a1, a2, a3, show ((e.t.toNat : Nat) : Int) = e.t from by omega]
theorem flat_text (k : Int) (l : List EntryC) : ((l.map (textOf k)).flatMap fun s => s.data.toList) = l.flatMap fun e => (textOf k e).data.toList := by
  rw [List.flatMap_map]
theorem text6 (e : EntryC) : (textOf 6 e).data.toList = sevL e.i.toNat ++ (sevL e.t.toNat ++ (textS e.d).data.toList) := by
  simp only [textOf, if_pos, putS, ba_toList]
theorem text1 (e : EntryC) : (textOf 1 e).data.toList = [] ++ (sevL e.t.toNat ++ (textS e.d).data.toList) := by
  simp only [textOf, putS, List.nil_append]
  rw [if_neg (by decide)]
  simp only [ba_toList]
theorem fwdN_eq (p : PartC) : putL (fwdN p) = sevL ((if p.m then 1 else 0) + (if p.h then 2 else 0)) ++ ((if p.m then putL [p.i, p.t] else []) ++ ((if p.h then putL [p.ht, p.hv, p.hc] else []) ++ sevL p.len)) := by
  obtain ⟨g, k, a, len, cap, ht, hv, hc, i, t, m, h⟩ := p
  cases m <;> cases h <;> simp [fwdN, flagN, putL]

theorem fwd_back (s : ByteArray) (p : PartC) (l : List EntryC) (hl : l.length = p.len) (hk : p.k = 6) (hB : isB p l = true) (st : RSt) (r : List UInt8) (h : Rest s st (putL (fwdN p) ++ (((l.map (textOf 6)).flatMap fun s => s.data.toList) ++ r))) (g : Int) :
    (fwdM s g st).1 = ⟨g, 6, l, p.ht, p.hv, p.hc, p.i, p.t, p.m, p.h⟩ ∧ Rest s (fwdM s g st).2 r := by
  obtain ⟨hR, hwf, _, h6, hen⟩ := isB_bounds hl hB
  have hb := ((isB_iff p l).1 hB).2
  have hz : (p.m = false → p.i = 0 ∧ p.t = 0) ∧ (p.h = false → p.ht = 0 ∧ p.hv = 0 ∧ p.hc = 0) ∧ isFwdB p l = true := by
    rcases hb with hb | hb | hb | hb | hb | hb
    · have := hb.1; omega
    · have := hb.1; omega
    · have := hb.1; omega
    · have := hb.1; omega
    · have := hb.1; omega
    · exact ⟨hb.2.2.1, hb.2.2.2, hb.2.1⟩
  obtain ⟨hm0, hh0, hf⟩ := hz
  simp only [isFwdB, Bool.and_eq_true, Bool.or_eq_true, Bool.not_eq_true'] at hf
  obtain ⟨_, hf1, hf2, _⟩ := hf
  clear hb
  rw [fwdN_eq, flat_text] at h
  have hent : ∀ e ∈ l, 0 ≤ e.t ∧ e.t < 9223372036854775808 ∧ e.d.size ≤ 40 := fun e he => by have := entryB_bd (hen e he); omega
  have hidx : ∀ j e q r2, l[j]? = some e → Rest s q (sevL e.i.toNat ++ r2) → (idxRead s (0 + j) q).1 = e.i ∧ Rest s (idxRead s (0 + j) q).2 r2 := fun j e q r2 he hq => by
    have hme := List.mem_of_getElem? he
    have := entryB_bd (hen e hme)
    obtain ⟨b1, b2⟩ := numM_back hq (by omega)
    exact ⟨by unfold idxRead; rw [b1]; omega, b2⟩
  have fin : ∀ q, Rest s q (sevL p.len ++ ((l.flatMap fun e => (textOf 6 e).data.toList) ++ r)) → (entM s (idxRead s) (numTo s 6 q).1 0 (numTo s 6 q).2).1 = l ∧ Rest s (entM s (idxRead s) (numTo s 6 q).1 0 (numTo s 6 q).2).2 r := fun q hq => by
    obtain ⟨n1, n2⟩ := numTo_back (most := 6) hq (by omega) h6
    rw [n1, ← hl]
    exact entM_back (fun e => sevL e.i.toNat) (fun e => (textOf 6 e).data.toList) text6 l 0 _ r n2 hent hidx
  obtain ⟨gg, kk, a, len, cap, ht, hv, hc, i, t, m, hd⟩ := p
  dsimp only at *
  unfold fwdM
  cases m with
  | false =>
    obtain ⟨rfl, rfl⟩ := hm0 rfl
    cases hd with
    | false =>
      obtain ⟨rfl, rfl, rfl⟩ := hh0 rfl
      simp only [Bool.false_eq_true, if_false, Nat.add_zero, List.nil_append, List.append_assoc] at h
      obtain ⟨a1, h1⟩ := numTo_back (most := 3) h (by decide) (by decide)
      obtain ⟨c1, c2⟩ := fin _ h1
      simp [a1, c1, c2]
    | true =>
      have hbd := hardB_bd (hf2.resolve_left (by simp))
      simp only [Bool.false_eq_true, if_false, if_true, Nat.zero_add, List.nil_append, List.append_assoc] at h
      obtain ⟨a1, h1⟩ := numTo_back (most := 3) h (by decide) (by decide)
      obtain ⟨b1, h2⟩ := hardM_back h1 (by omega) (by omega) (by omega)
      obtain ⟨c1, c2⟩ := fin _ h2
      simp [a1, b1, c1, c2]
      omega
  | true =>
    have hi := hf1.resolve_left (by simp)
    have w1 := wB_bd hi.1; have w2 := wB_bd hi.2
    cases hd with
    | false =>
      obtain ⟨rfl, rfl, rfl⟩ := hh0 rfl
      simp only [Bool.false_eq_true, if_false, if_true, Nat.add_zero, List.nil_append, List.append_assoc, putL_cons] at h
      obtain ⟨a1, h1⟩ := numTo_back (most := 3) h (by decide) (by decide)
      obtain ⟨b1, h2⟩ := numM_back h1 (by omega)
      obtain ⟨b2, h3⟩ := numM_back h2 (by omega)
      simp only [putL, List.flatMap_nil, List.nil_append] at h3
      obtain ⟨c1, c2⟩ := fin _ h3
      simp [a1, b1, b2, c1, c2]
      omega
    | true =>
      have hbd := hardB_bd (hf2.resolve_left (by simp))
      simp only [if_true, List.append_assoc, putL_cons] at h
      obtain ⟨a1, h1⟩ := numTo_back (most := 3) h (by decide) (by decide)
      obtain ⟨b1, h2⟩ := numM_back h1 (by omega)
      obtain ⟨b2, h3⟩ := numM_back h2 (by omega)
      simp only [putL, List.flatMap_nil, List.nil_append] at h3
      obtain ⟨d1, h4⟩ := hardM_back (a := ht) (b := hv) (c := hc) (by simpa [putL] using h3) (by omega) (by omega) (by omega)
      obtain ⟨c1, c2⟩ := fin _ h4
      simp [a1, b1, b2, d1, c1, c2]
      omega

theorem steps1_idx : ∀ (l : List EntryC) (p : Int), 1 ≤ p → p ≤ 1099511627776 → (stepsOf (some p) l).all (stepB 1) = true → ∀ (j : Nat) (e : EntryC), l[j]? = some e → e.i = p + 1 + j
  | [], _, _, _, _, j, e, h => by simp at h
  | x :: r, p, h1, h2, ha, j, e, h => by
    simp only [stepsOf, List.all_cons, Bool.and_eq_true, stepB] at ha
    obtain ⟨⟨hx, hw⟩, hr⟩ := ha
    have hb := entryB_bd hx
    have e1 : wrap64 (x.i - p) = x.i - p := IntWalk.wrap64_in _ (by omega)
    rw [e1] at hw
    have hw := wB_bd hw
    cases j with
    | zero => simp at h; subst h; simp; omega
    | succ j =>
      have := steps1_idx r x.i (by omega) (by omega) hr j e (by simpa using h)
      rw [this]; push_cast; omega
theorem are1_idx {e0 : EntryC} {r : List EntryC} (h : areB 1 (e0 :: r) = true) : ∀ (j : Nat) (e : EntryC), (e0 :: r)[j]? = some e → e.i = e0.i + j := by
  have hb := entryB_bd ((areB_bd h).2 e0 List.mem_cons_self)
  simp only [areB, Bool.and_eq_true, stepsOf, List.all_cons] at h
  intro j e he
  cases j with
  | zero => simp at he; subst he; simp
  | succ j =>
    have := steps1_idx r e0.i (by omega) (by omega) h.2.2 j e (by simpa using he)
    rw [this]; push_cast; omega

theorem bodyM_back (s : ByteArray) (p : PartC) (l : List EntryC) (hl : l.length = p.len) (hB : isB p l = true) (st : RSt) (r : List UInt8) (h : Rest s st (putL (headN p l) ++ (((l.map (textOf p.k)).flatMap fun s => s.data.toList) ++ r))) :
    (bodyM s p.g.toNat p.k.toNat st).1 = ⟨p.g, p.k, l, p.ht, p.hv, p.hc, p.i, p.t, p.m, p.h⟩ ∧ Rest s (bodyM s p.g.toNat p.k.toNat st).2 r := by
  obtain ⟨hg, hk⟩ := (isB_iff p l).1 hB
  obtain ⟨hR, _, _, h6, hen⟩ := isB_bounds hl hB
  have hgn : ((p.g.toNat : Nat) : Int) = p.g := by omega
  rcases hk with hk | hk | hk | hk | hk | hk
  · obtain ⟨k1, hn0, ha, z1, z2, z3, z4, z5, z6, z7⟩ := hk
    have hidx := fun e0 r (e : l = e0 :: r) => are1_idx (e0 := e0) (r := r) (e ▸ ha)
    obtain ⟨g, k, a, len, cap, ht, hv, hc, i, t, m, hd⟩ := p
    dsimp only at *
    subst k1 z1 z2 z3 z4 z5 z6 z7
    cases l with
    | nil => simp at hl; omega
    | cons e0 l0 =>
      have hbd := entryB_bd (hen e0 List.mem_cons_self)
      have hent : ∀ e ∈ (e0 :: l0), 0 ≤ e.t ∧ e.t < 9223372036854775808 ∧ e.d.size ≤ 40 := fun e he => by have := entryB_bd (hen e he); omega
      rw [flat_text] at h
      simp only [headN] at h
      simp only [if_pos, putL_cons, List.head?_cons, Option.map_some, Option.getD_some, List.append_assoc] at h
      obtain ⟨a1, h1⟩ := numTo_back (most := 6) h (by omega) (by simpa using h6)
      obtain ⟨a2, h2⟩ := numM_back h1 (by omega)
      simp only [putL, List.flatMap_nil, List.nil_append] at h2
      have hn : ((len : Int)).toNat = (e0 :: l0).length := by rw [hl]; omega
      obtain ⟨a3, h3⟩ := entM_back (s := s) (idx := idxFrom e0.i.toNat) (fun _ => []) (fun e => (textOf 1 e).data.toList) text1 (e0 :: l0) 0 _ r h2 hent (fun j e q r2 he hq => by
        have hje := hidx e0 l0 rfl j e he
        have hbe := entryB_bd (hen e (List.mem_of_getElem? he))
        refine ⟨?_, by simpa [idxFrom] using hq⟩
        unfold idxFrom
        dsimp only
        rw [show (((e0.i.toNat : Nat) : Int) + ((0 + j : Nat) : Int)) = e.i from by rw [hje]; push_cast; omega]
        exact IntWalk.wrap64_in _ (by omega))
      rw [← hn, ← a1] at a3 h3
      rw [← a2] at a3 h3
      unfold bodyM
      simp only [show (1 : Int).toNat = 1 from rfl, if_pos]
      exact ⟨by rw [a3, hgn], h3⟩
  · obtain ⟨k1, hh, rfl, z4, z5, z6, z7⟩ := hk
    have hbd := hardB_bd hh
    obtain ⟨g, k, a, len, cap, ht, hv, hc, i, t, m, hd⟩ := p
    dsimp only at *
    subst k1 z4 z5 z6 z7
    simp only [headN, List.map_nil, List.flatMap_nil, List.nil_append] at h
    rw [if_neg (by decide), if_pos (by decide)] at h
    obtain ⟨a1, h1⟩ := hardM_back h (by omega) (by omega) (by omega)
    unfold bodyM
    simp only [show (2 : Int).toNat = 2 from rfl]
    rw [if_neg (by decide), if_pos (by decide)]
    exact ⟨by simp [a1]; omega, h1⟩
  · obtain ⟨k1, hi, ht0, rfl, z1, z2, z3, z6, z7⟩ := hk
    have w1 := wB_bd hi
    have w2 : 0 ≤ p.t ∧ p.t ≤ 1099511627776 := by rcases ht0 with h0 | h0; have := wB_bd h0; omega; omega
    obtain ⟨g, k, a, len, cap, ht, hv, hc, i, t, m, hd⟩ := p
    dsimp only at *
    subst k1 z1 z2 z3 z6 z7
    simp only [headN, List.map_nil, List.flatMap_nil, List.nil_append] at h
    rw [if_neg (by decide), if_neg (by decide), if_pos (by decide)] at h
    simp only [putL_cons, List.append_assoc] at h
    obtain ⟨a1, h1⟩ := numM_back h (by omega)
    obtain ⟨a2, h2⟩ := numM_back h1 (by omega)
    simp only [putL, List.flatMap_nil, List.nil_append] at h2
    unfold bodyM
    simp only [show (3 : Int).toNat = 3 from rfl]
    rw [if_neg (by decide), if_neg (by decide), if_pos (by decide)]
    exact ⟨by simp [a1, a2]; omega, h2⟩
  · obtain ⟨k1, hi, ht0, rfl, z1, z2, z3, z6, z7⟩ := hk
    have w1 := wB_bd hi
    have w2 := wB_bd ht0
    obtain ⟨g, k, a, len, cap, ht, hv, hc, i, t, m, hd⟩ := p
    dsimp only at *
    subst k1 z1 z2 z3 z6 z7
    simp only [headN, List.map_nil, List.flatMap_nil, List.nil_append] at h
    rw [if_neg (by decide), if_neg (by decide), if_pos (by decide)] at h
    simp only [putL_cons, List.append_assoc] at h
    obtain ⟨a1, h1⟩ := numM_back h (by omega)
    obtain ⟨a2, h2⟩ := numM_back h1 (by omega)
    simp only [putL, List.flatMap_nil, List.nil_append] at h2
    unfold bodyM
    simp only [show (4 : Int).toNat = 4 from rfl]
    rw [if_neg (by decide), if_neg (by decide), if_pos (by decide)]
    exact ⟨by simp [a1, a2]; omega, h2⟩
  · obtain ⟨k1, rfl, z1, z2, z3, z4, z5, z6, z7⟩ := hk
    obtain ⟨g, k, a, len, cap, ht, hv, hc, i, t, m, hd⟩ := p
    dsimp only at *
    subst k1 z1 z2 z3 z4 z5 z6 z7
    simp only [headN, List.map_nil, List.flatMap_nil, List.nil_append] at h
    rw [if_neg (by decide), if_neg (by decide), if_neg (by decide), if_neg (by decide)] at h
    simp only [putL, List.flatMap_nil, List.nil_append] at h
    unfold bodyM
    simp only [show (5 : Int).toNat = 5 from rfl]
    rw [if_neg (by decide), if_neg (by decide), if_neg (by decide), if_neg (by decide)]
    exact ⟨by simp; omega, h⟩
  · have hk6 := hk.1
    have e1 : headN p l = fwdN p := by simp [headN, hk6]
    rw [e1, hk6] at h
    have := fwd_back s p l hl hk6 hB st r h p.g
    unfold bodyM
    rw [hk6]
    simp only [show (6 : Int).toNat = 6 from rfl]
    rw [if_neg (by decide), if_neg (by decide), if_neg (by decide), if_pos (by decide), hgn]
    exact this

theorem rest_start (p : PartC) (l : List EntryC) (s tail : ByteArray) (hB : isB p l = true) (hs : s = bytesS p l ++ tail) :
    Rest s ⟨0, 0⟩ (sevL p.g.toNat ++ (sevL p.k.toNat ++ (putL (headN p l) ++ (((l.map (textOf p.k)).flatMap fun s => s.data.toList) ++ tail.data.toList)))) := by
  have e1 : bytesS p l = ⟨(bytesL p l).toArray⟩ := by unfold bytesS; rw [if_pos hB]
  have hd : s.data.toList = bytesL p l ++ tail.data.toList := by rw [hs, ba_toList, e1, ba_of_list]
  have hz : s.size = (bytesL p l).length + tail.size := by rw [← ba_size, hd, List.length_append, ba_size]
  have e2 : bytesL p l ++ tail.data.toList = sevL p.g.toNat ++ (sevL p.k.toNat ++ (putL (headN p l) ++ (((l.map (textOf p.k)).flatMap fun s => s.data.toList) ++ tail.data.toList))) := by
    unfold bytesL
    simp [putL]
  refine ⟨rfl, ?_, ?_⟩
  · rw [← e2, ← hd]; simp
  · rw [← e2, List.length_append, ba_size, hz]; simp
/-- A part's bytes, whatever stands behind them, are read as the part. -/
theorem read_back (p : PartC) (l : List EntryC) (hl : l.length = p.len) (hB : isB p l = true) (s tail : ByteArray) (hs : s = bytesS p l ++ tail) :
    readM s = (⟨p.g, p.k, l, p.ht, p.hv, p.hc, p.i, p.t, p.m, p.h⟩, (bytesS p l).size, 0) := by
  obtain ⟨hg, hk⟩ := (isB_iff p l).1 hB
  have hk6 : 0 ≤ p.k ∧ p.k ≤ 6 := by
    rcases hk with hk | hk | hk | hk | hk | hk <;> (have := hk.1; omega)
  have h0 := rest_start p l s tail hB hs
  obtain ⟨a1, h1⟩ := numM_back h0 (by omega)
  obtain ⟨a2, h2⟩ := numTo_back (most := 6) h1 (by omega) (by omega)
  obtain ⟨a3, h3⟩ := bodyM_back s p l hl hB _ _ h2
  have hraw : rawM s = bodyM s p.g.toNat p.k.toNat (numTo s 6 (numM s ⟨0, 0⟩).2).2 := by
    unfold rawM
    rw [a1, a2]
  have e1 : bytesS p l = ⟨(bytesL p l).toArray⟩ := by unfold bytesS; rw [if_pos hB]
  have hat : (bodyM s p.g.toNat p.k.toNat (numTo s 6 (numM s ⟨0, 0⟩).2).2).2.at_ = (bytesS p l).size := by
    have := h3.2.2
    have hz : s.size = (bytesS p l).size + tail.size := by rw [hs, ByteArray.size_append]
    rw [ba_size, hz] at this
    omega
  have herr : errM (rawM s) = 0 := by
    unfold errM
    rw [hraw, a3, h3.1]
    rw [if_neg]
    rintro ⟨_, hh⟩
    simp only [ReadC.part] at hh
    rw [hl, ← isB_addr p.g p.k p.a p.len p.cap p.ht p.hv p.hc p.i p.t p.m p.h l, hB] at hh
    cases hh
  unfold readM
  rw [if_neg (by rw [herr]; simp), hraw, a3, hat]

end Go.Proofs.Ytflaanffjjidaaa

/- An iterator whose elements are known only as it goes (they lie in memory that it makes): the protocol, and the law of a loop over it; no program is named here. -/
namespace Go.Proofs.Ytflaanffjjidaaa
set_option linter.unusedVariables false
open Go.RowKit Go.Shelf

/-- As Iter; what it hands out next is one of those that Nx tells, and when it ends what it has handed out is one of those that Fin tells. -/
def IterD (P : Program) (g : Nat) (lb : Array Value) {α : Type} (encs : α → Array Value) (Nx : List α → α → World → World → Prop) (Fin : List α → Prop) (S T : Nat → Prop) (w0 : World) : Prop :=
  ∀ (l : Nat) (J Jx : List α → World → Prop) (W : World), Rd w0.heap.size S w0 W → (∀ s, Stab W.heap.size T (J s)) → (∀ s, Stab W.heap.size T (Jx s)) →
    (∀ pre x W2 W1, J pre W2 → Nx pre x W2 W1 → J pre W1 → YieldAt Fence.wide 9 P l (encs x) W1 fun e W' =>
      (e = .returned (.bool true) ∧ J (pre ++ [x]) W' ∧ Rd W.heap.size S W1 W') ∨ (e = .returned (.bool false) ∧ Jx (pre ++ [x]) W')) →
    J [] W →
    CallsIn Fence.wide 9 P g (#[.func (.yield l) #[] #[]] ++ lb) W fun e W' => (∃ v, e = .returned v) ∧ ((∃ xs, Fin xs ∧ J xs W') ∨ (∃ pre x, Jx (pre ++ [x]) W'))

/-- A LOOP OVER SUCH AN ITERATOR, outside every other one. -/
theorem range_outerD {α : Type} {P : Program} {g : Operand} {ps : Array Tmp} {assign body : Code} {Q : Exit → Act → World → Prop} {a : Act} {w : World}
    {gf : Nat} {lb : Array Value} (hg : a.eval g = .func (.func gf) #[] lb) (eg : Enters P gf)
    {encs : α → Array Value} {Nx : List α → α → World → World → Prop} {Fin : List α → Prop} {S T : Nat → Prop} (hseq : IterD P gf lb encs Nx Fin S T w) (hps : ∀ x, (encs x).size = ps.size) (hS : ∀ k, S k → k < w.heap.size) (hT : ∀ k, T k → k < w.heap.size)
    (I : List α → World → Prop) (Ix : Code → List α → World → Prop) (hI : ∀ s, Stab w.heap.size T (I s)) (hIx : ∀ c s, Stab w.heap.size T (Ix c s)) (h0 : I [] w)
    (hround : ∀ l pre x W2 W, I pre W2 → Nx pre x W2 W → w.heap.size < l → I pre W → (∃ r, W.heap[l]? = some (.loop r)) →
      assign.wpIn (Fence.wide.inRound l) 9 P (Exit.then (rdThen l P w.heap.size S I Ix (pre ++ [x]) body W) (fun _ _ _ => False))
      { tmps := (ps.zip (encs x)).foldl (fun t (p, v) => t.setIfInBounds p v) a.tmps, defers := [] } W)
    (hdone : ∀ xs W, Fin xs → I xs W → W.heap[w.heap.size]? = some (.deferred (some [])) → Q .normal { a with defers := { target := .collected w.heap.size, args := #[] } :: a.defers } W)
    (hstop : ∀ c pre x W, Ix c (pre ++ [x]) W → W.heap[w.heap.size]? = some (.deferred (some [])) → c.wpIn Fence.wide 9 P Q { a with defers := { target := .collected w.heap.size, args := #[] } :: a.defers } W) :
    (Code.rangeFunc g ps assign body).wpIn Fence.wide 9 P Q a w := by
  refine wpIn_rangeFunc ?_
  intro fn hfn
  obtain ⟨rec, hrec⟩ : ∃ rec : LoopState → Option Code → Loop, rec = fun st pe => { state := st, pending := pe, fn, tmps := a.tmps, params := ps, assign, body, defers := w.heap.size } := ⟨_, rfl⟩
  obtain ⟨W1, hW1⟩ : ∃ W1, (w.alloc (.deferred (some []))).alloc (.loop (rec .ready none)) = W1 := ⟨_, rfl⟩
  have hL1 : W1.heap[w.heap.size + 1]? = some (.loop (rec .ready none)) := by
    rw [← hW1]; have := World.alloc_heap_new (w.alloc (.deferred (some []))) (.loop (rec .ready none)); rwa [World.size_alloc] at this
  have hK1 : W1.heap[w.heap.size]? = some (.deferred (some [])) := by
    rw [← hW1]; exact (Below.heap_alloc _ _ _ (by simp)).trans (World.alloc_heap_new w _)
  have hsz : W1.heap.size = w.heap.size + 2 := by rw [← hW1]; simp
  have hb1 : Below w.heap.size w W1 := by
    rw [← hW1]; exact ((Below.refl _ w).alloc (Nat.le_refl _) _).alloc (by simp) _
  refine ⟨w.heap.size + 1, [{ target := .collected w.heap.size, args := #[] }], W1, { target := .fn (.func gf) lb, args := #[.func (.yield (w.heap.size + 1)) #[] #[]] }, W1, gf,
    #[.func (.yield (w.heap.size + 1)) #[] #[]] ++ lb, W1, ?_, ?_, ?_, ?_, fun _ => by omega, ?_⟩
  · rw [← hW1, hrec]; exact run_enterLoop_outer _ _ _ _ _
  · simp only [resolve, hg]
    simp [go_sem]
  · intro f' hf'; exact trivial
  · simp [invoke, go_sem, eg _ _]
  · have hJS : ∀ {r : Loop} {p : World → Prop}, Stab w.heap.size T p → Stab W1.heap.size T (fun W => p W ∧ W.heap[w.heap.size + 1]? = some (.loop r) ∧ heldD (some w.heap.size) W) := fun {r p} hp W W' h hm =>
      ⟨hp W W' h.1 (hm.up (by omega)), hm.block _ _ h.2.1 (fun ht => by have := hT _ ht; omega) (.inl (by omega)),
        fun d hd => by cases hd; exact hm.block _ _ (h.2.2 _ rfl) (fun ht => by have := hT _ ht; omega) (.inl (by omega))⟩
    refine callsIn_wide_n ((hseq (w.heap.size + 1)
      (fun pre W => I pre W ∧ W.heap[w.heap.size + 1]? = some (.loop (rec .ready none)) ∧ heldD (some w.heap.size) W)
      (fun pre W => ∃ c, Ix c pre W ∧ W.heap[w.heap.size + 1]? = some (.loop (rec .done (some c))) ∧ heldD (some w.heap.size) W)
      W1 (.below hb1) (fun s => hJS (hI s)) (fun s => Stab.ex fun c => hJS (hIx c s)) ?_ ⟨hI _ _ _ h0 (.below hb1), hL1, fun d hd => by cases hd; exact hK1⟩).mono ?_)
    · rintro pre x W2 W h2 hx ⟨hi, hl, hk⟩
      exact range_round rec hrec hps (by omega) (by omega) hS (fun d hd => by cases hd; omega) I Ix hI hIx pre x W (fun hi' hl' => hround _ pre x W2 W h2.1 hx (by omega) hi' hl') hi hl hk
    · rintro e W2 ⟨⟨v, rfl⟩, (⟨xs, hx, hi, hl, hk⟩ | ⟨pre, x, c, hi, hl, hk⟩)⟩
      · exact ⟨none, _, by have := run_endLoop (P := P) hl (by rw [hrec]; simp); rw [hrec] at this; exact this,
          hdone xs _ hx (hI _ _ _ hi (Moves.putObj _ _ (by omega) hl rfl)) ((World.putObj_heap_other (by omega)).trans (hk _ rfl))⟩
      · exact ⟨some c, _, by have := run_endLoop (P := P) hl (by rw [hrec]; simp); rw [hrec] at this; exact this,
          hstop c pre x _ (hIx c _ _ _ hi (Moves.putObj _ _ (by omega) hl rfl)) ((World.putObj_heap_other (by omega)).trans (hk _ rfl))⟩


end Go.Proofs.Ytflaanffjjidaaa

/- A record as a flat value; whether it is well-formed, its bytes, whether two are alike: as plain mathematics. -/
namespace Go.Proofs.Ytflaanffjjidaaa
open Go.RowKit Go.Shelf
set_option linter.unusedVariables false

/-- What is in a row of parts. -/
def HasP (w : World) (a : Option Addr) (len : Nat) (L : List PL) : Prop := L.length = len ∧ len < 1000000 ∧ RowV w a len 10 (partCells L) ∧ ∀ x ∈ L, HasE w x.1 x.2
theorem HasP.below {w W : World} {a : Option Addr} {len : Nat} {L : List PL} (h : HasP w a len L) (hB : Below w.heap.size w W) : HasP W a len L := ⟨h.1, h.2.1, h.2.2.1.below hB, fun x hx => (h.2.2.2 x hx).below hB⟩
theorem hasP_nil (w : World) (a : Option Addr) : HasP w a 0 [] := ⟨rfl, by decide, RowV.nil _ _ _, fun x hx => by cases hx⟩
def okR (f : Bool) (x : PL) : Bool := isB x.1 x.2 && (decide (x.1.k = 6) == f)
def fwdOf (L : List PL) : Bool := (L.head?.map fun x => decide (x.1.k = 6)).getD false
def recB (s : Int) (L : List PL) : Bool := (decide (1 ≤ s) && decide (s ≤ 1125899906842624)) && ((decide (1 ≤ L.length) && decide (L.length ≤ 4)) && L.all (okR (fwdOf L)))
theorem recB_iff {s : Int} {L : List PL} : recB s L = true ↔ (1 ≤ s ∧ s ≤ 1125899906842624) ∧ (1 ≤ L.length ∧ L.length ≤ 4) ∧ ∀ x ∈ L, okR (fwdOf L) x = true := by
  simp only [recB, Bool.and_eq_true, decide_eq_true_eq, List.all_eq_true]
theorem okR_isB {f : Bool} {x : PL} (h : okR f x = true) : isB x.1 x.2 = true := by
  simp only [okR, Bool.and_eq_true] at h; exact h.1
/-- The parts' bytes. -/
def bytP (x : PL) : List UInt8 := bytesL x.1 x.2
def allB (M : List PL) : List UInt8 := M.flatMap bytP
theorem allB_snoc (M : List PL) (x : PL) : allB (M ++ [x]) = allB M ++ bytP x := by simp [allB]
/-- What the frame of a record holds. -/
def bodyL (s : Int) (L : List PL) : List UInt8 := sevL s.toNat ++ (sevL L.length ++ allB L)
def bodyS (s : Int) (L : List PL) : ByteArray := ⟨(bodyL s L).toArray⟩
def recS (s : Int) (L : List PL) : ByteArray := if recB s L then wrapB (bodyS s L) else ⟨#[]⟩
def recE (s : Int) (L : List PL) : Int := if recB s L then 0 else 11
theorem bytP_len {x : PL} (hl : x.2.length = x.1.len) (h : isB x.1 x.2 = true) : (bytP x).length ≤ 483 := by
  obtain ⟨_, _, _, h6, hen⟩ := isB_bounds hl h
  have h1 := text_len x.1.k x.2 (fun e he => (entryB_bd (hen e he)).2.2)
  unfold bytP bytesL
  simp only [List.length_append]
  have h2 := putL_len [x.1.g, x.1.k]
  have h3 : (putL (headN x.1 x.2)).length ≤ 63 := by
    refine Nat.le_trans (putL_len _) ?_
    have : (headN x.1 x.2).length ≤ 7 := by
      unfold headN
      split
      · simp
      · split
        · simp
        · split
          · simp
          · split
            · exact fwdN_len _
            · simp
    omega
  have h4 : x.2.length ≤ 6 := by omega
  simp only [List.length_cons, List.length_nil] at h2
  omega
theorem allB_len {L : List PL} (hl : ∀ x ∈ L, x.2.length = x.1.len) (h : ∀ x ∈ L, isB x.1 x.2 = true) : (allB L).length ≤ 483 * L.length := by
  induction L with
  | nil => simp [allB]
  | cons x r ih =>
    have h1 := bytP_len (hl x List.mem_cons_self) (h x List.mem_cons_self)
    have h2 := ih (fun y hy => hl y (List.mem_cons_of_mem _ hy)) (fun y hy => h y (List.mem_cons_of_mem _ hy))
    have h3 : allB (x :: r) = bytP x ++ allB r := rfl
    rw [h3, List.length_append, List.length_cons]; omega
theorem bodyL_len {s : Int} {L : List PL} (hl : ∀ x ∈ L, x.2.length = x.1.len) (h : recB s L = true) : 2 ≤ (bodyL s L).length ∧ (bodyL s L).length ≤ 1950 := by
  obtain ⟨_, ⟨_, h4⟩, ho⟩ := recB_iff.1 h
  have h1 := sevL_len s.toNat; have h2 := sevL_len L.length
  have h3 := allB_len hl (fun x hx => okR_isB (ho x hx))
  have p1 := sevL_pos s.toNat; have p2 := sevL_pos L.length
  unfold bodyL
  simp only [List.length_append]
  omega
/-- Two rows of parts are alike. -/
def samePs : List PL → List PL → Bool
  | [], [] => true
  | x :: l, y :: m => sameB x.1 y.1 x.2 y.2 && samePs l m
  | _, _ => false
def sameR (s t : Int) (L M : List PL) : Bool := decide (s = t) && samePs L M
theorem samePs_len : ∀ {L M : List PL}, samePs L M = true → L.length = M.length
  | [], [], _ => rfl
  | x :: l, y :: m, h => by
    simp only [samePs, Bool.and_eq_true] at h
    simp only [List.length_cons, samePs_len h.2]
  | [], y :: m, h => by simp [samePs] at h
  | x :: l, [], h => by simp [samePs] at h
theorem samePs_take : ∀ {L M : List PL} {k : Nat} (h1 : k < L.length) (h2 : k < M.length), samePs (L.take (k + 1)) (M.take (k + 1)) = (samePs (L.take k) (M.take k) && sameB L[k].1 M[k].1 L[k].2 M[k].2)
  | x :: l, y :: m, 0, _, _ => by simp [samePs]
  | x :: l, y :: m, k + 1, h1, h2 => by
    have ih := samePs_take (L := l) (M := m) (k := k) (by simpa using h1) (by simpa using h2)
    rw [List.take_succ_cons, List.take_succ_cons, List.take_succ_cons, List.take_succ_cons]
    simp only [samePs, ih, Bool.and_assoc, List.getElem_cons_succ]
theorem samePs_no : ∀ {L M : List PL} {k : Nat} (h1 : k < L.length) (h2 : k < M.length), sameB L[k].1 M[k].1 L[k].2 M[k].2 = false → samePs L M = false
  | x :: l, y :: m, 0, _, _, h => by simp only [List.getElem_cons_zero] at h; simp [samePs, h]
  | x :: l, y :: m, k + 1, h1, h2, h => by
    have ih := samePs_no (L := l) (M := m) (k := k) (by simpa using h1) (by simpa using h2) (by simpa using h)
    simp [samePs, ih]

end Go.Proofs.Ytflaanffjjidaaa

/- What package record's Read tells, as plain mathematics. -/
namespace Go.Proofs.Ytflaanffjjidaaa
open Go.RowKit Go.Shelf
set_option linter.unusedVariables false

/-- A part, but for where its entries lie. -/
def core (x : PL) : ReadC := ⟨x.1.g, x.1.k, x.2, x.1.ht, x.1.hv, x.1.hc, x.1.i, x.1.t, x.1.m, x.1.h⟩
def plOf (r : ReadC) : PL := (r.part none 0, r.l)
theorem plOf_core {x : PL} (h : x.2.length = x.1.len) : plOf (core x) = (⟨x.1.g, x.1.k, none, x.1.len, 0, x.1.ht, x.1.hv, x.1.hc, x.1.i, x.1.t, x.1.m, x.1.h⟩, x.2) := by
  unfold plOf core ReadC.part; rw [h]
theorem isB_core {x : PL} (h : x.2.length = x.1.len) : isB (plOf (core x)).1 (plOf (core x)).2 = isB x.1 x.2 := by
  rw [plOf_core h]; exact (isB_addr x.1.g x.1.k x.1.a x.1.len x.1.cap x.1.ht x.1.hv x.1.hc x.1.i x.1.t x.1.m x.1.h x.2).symm
theorem bytP_core {x : PL} (h : x.2.length = x.1.len) : bytP (plOf (core x)) = bytP x := by
  rw [plOf_core h]; rfl
theorem allB_core : ∀ {L : List PL}, (∀ x ∈ L, x.2.length = x.1.len) → allB ((L.map core).map plOf) = allB L
  | [], _ => rfl
  | x :: r, h => by
    have h1 : allB (((x :: r).map core).map plOf) = bytP (plOf (core x)) ++ allB ((r.map core).map plOf) := rfl
    have h2 : allB (x :: r) = bytP x ++ allB r := rfl
    rw [h1, h2, bytP_core (h x List.mem_cons_self), allB_core fun y hy => h y (List.mem_cons_of_mem _ hy)]
theorem bodyL_core {s : Int} {L : List PL} (h : ∀ x ∈ L, x.2.length = x.1.len) : bodyL s ((L.map core).map plOf) = bodyL s L := by
  unfold bodyL; rw [allB_core h]; simp
theorem bodyS_core {s : Int} {L : List PL} (h : ∀ x ∈ L, x.2.length = x.1.len) : bodyS s ((L.map core).map plOf) = bodyS s L := by
  unfold bodyS; rw [bodyL_core h]
theorem all_core {f : Bool} : ∀ {L : List PL}, (∀ x ∈ L, x.2.length = x.1.len) → ((L.map core).map plOf).all (okR f) = L.all (okR f)
  | [], _ => rfl
  | x :: r, h => by
    have h1 : okR f (plOf (core x)) = okR f x := by unfold okR; rw [isB_core (h x List.mem_cons_self)]; rfl
    simp only [List.map_cons, List.all_cons, h1, all_core fun y hy => h y (List.mem_cons_of_mem _ hy)]
theorem recB_core {s : Int} {L : List PL} (h : ∀ x ∈ L, x.2.length = x.1.len) : recB s ((L.map core).map plOf) = recB s L := by
  have h1 : fwdOf ((L.map core).map plOf) = fwdOf L := by cases L <;> rfl
  unfold recB; rw [h1, all_core h]; simp
theorem core_iff {x y : PL} : core x = core y ↔ sameB x.1 y.1 x.2 y.2 = true := by
  rw [sameB_iff]; simp only [core, ReadC.mk.injEq]; grind
theorem samePs_core : ∀ {L M : List PL}, samePs L M = true ↔ L.map core = M.map core
  | [], [] => by simp [samePs]
  | x :: l, y :: m => by simp only [samePs, Bool.and_eq_true, List.map_cons, List.cons.injEq, core_iff, samePs_core (L := l) (M := m)]
  | [], y :: m => by simp [samePs]
  | x :: l, [] => by simp [samePs]
theorem sameR_iff {s t : Int} {L M : List PL} : sameR s t L M = true ↔ s = t ∧ L.map core = M.map core := by
  simp only [sameR, Bool.and_eq_true, decide_eq_true_eq, samePs_core]

theorem fwdM_ok {s : ByteArray} {g : Int} {st : RSt} (h : st.ok s) : (fwdM s g st).2.ok s := by
  have h1 := numTo_ok (most := 3) h
  unfold fwdM
  dsimp only
  refine entM_ok (idxRead_ok s) _ _ _ (numTo_ok ?_)
  generalize numTo s 3 st = f at *
  cases (f.1 % 2 == 1) <;> cases (f.1 / 2 == 1) <;> simp only [if_true, Bool.false_eq_true, if_false]
  · exact h1
  · exact hardM_ok h1
  · exact numM_ok (numM_ok h1)
  · exact hardM_ok (numM_ok (numM_ok h1))
theorem bodyM_ok {s : ByteArray} {g k : Nat} {st : RSt} (h : st.ok s) : (bodyM s g k st).2.ok s := by
  unfold bodyM
  split
  · exact entM_ok (idxFrom_ok s _) _ _ _ (numM_ok (numTo_ok h))
  · split
    · exact hardM_ok h
    · split
      · exact numM_ok (numM_ok h)
      · split
        · exact fwdM_ok h
        · exact h
theorem readM_le (s : ByteArray) : (readM s).2.1 ≤ s.size := by
  unfold readM
  split
  · exact Nat.zero_le _
  · exact (bodyM_ok (numTo_ok (numM_ok ⟨Nat.zero_le _, Nat.zero_le _⟩))).1
/-- At most n parts, one behind the other. -/
def partsM : Nat → ByteArray → List ReadC
  | 0, _ => []
  | n + 1, s => if (readM s).2.2 ≠ 0 then [] else (readM s).1 :: partsM n (restB s (readM s).2.1)
theorem partsM_len : ∀ (n : Nat) (s : ByteArray), (partsM n s).length ≤ n
  | 0, _ => Nat.le_refl _
  | n + 1, s => by
    unfold partsM
    split
    · exact Nat.zero_le _
    · have := partsM_len n (restB s (readM s).2.1)
      simp only [List.length_cons]; omega
def seqM (b : ByteArray) : Nat × Nat × Nat := getL b.data.toList
def cntM (b : ByteArray) : Nat × Nat × Nat := getL (restB b (seqM b).2.1).data.toList
def openM (b : ByteArray) : Int × List ReadC :=
  if (seqM b).2.2 ≠ 0 ∨ (cntM b).2.2 ≠ 0 ∨ 4 < (cntM b).1 then (0, []) else ((seqM b).1, partsM (cntM b).1 (restB b ((seqM b).2.1 + (cntM b).2.1)))
/-- Seq, the parts, how many bytes, the class. -/
def recM (s : ByteArray) : Int × List ReadC × Nat × Nat :=
  if (readF s).2.2 ≠ 1 then (0, [], 0, (readF s).2.2)
  else if recB (openM (readF s).1).1 ((openM (readF s).1).2.map plOf) = true ∧ bodyS (openM (readF s).1).1 ((openM (readF s).1).2.map plOf) = (readF s).1 then ((openM (readF s).1).1, (openM (readF s).1).2, (readF s).2.1, 1)
  else (0, [], 0, 4)

end Go.Proofs.Ytflaanffjjidaaa

/- A record that was written is read; cut off it is torn: on bytes alone. -/
namespace Go.Proofs.Ytflaanffjjidaaa
open Go.RowKit Go.Shelf
set_option linter.unusedVariables false

def mkBA (l : List UInt8) : ByteArray := ⟨l.toArray⟩
theorem mkBA_list (l : List UInt8) : (mkBA l).data.toList = l := by simp [mkBA]
theorem mkBA_self (s : ByteArray) : mkBA s.data.toList = s := by simp [mkBA]
theorem mkBA_size (l : List UInt8) : (mkBA l).size = l.length := rfl
theorem restB_mk (l : List UInt8) (k : Nat) : restB (mkBA l) k = mkBA (l.drop k) := by
  rw [← mkBA_self (restB (mkBA l) k), restB_list, mkBA_list]
theorem bytesS_mk {x : PL} (h : isB x.1 x.2 = true) : bytesS x.1 x.2 = mkBA (bytP x) := by unfold bytesS; rw [if_pos h]; rfl
theorem mkBA_app (l m : List UInt8) : mkBA (l ++ m) = mkBA l ++ mkBA m := by
  rw [← mkBA_self (mkBA l ++ mkBA m), ba_toList, mkBA_list, mkBA_list]
theorem readM_part {x : PL} (hl : x.2.length = x.1.len) (h : isB x.1 x.2 = true) (t : List UInt8) : readM (mkBA (bytP x ++ t)) = (core x, (bytP x).length, 0) := by
  have := read_back x.1 x.2 hl h (mkBA (bytP x ++ t)) (mkBA t) (by rw [bytesS_mk h, mkBA_app])
  rw [this, bytesS_mk h]; rfl
theorem partsM_back : ∀ (L : List PL) (t : List UInt8), (∀ x ∈ L, x.2.length = x.1.len) → (∀ x ∈ L, isB x.1 x.2 = true) → partsM L.length (mkBA (allB L ++ t)) = L.map core
  | [], _, _, _ => rfl
  | x :: r, t, hl, h => by
    have h1 : allB (x :: r) ++ t = bytP x ++ (allB r ++ t) := by
      have : allB (x :: r) = bytP x ++ allB r := rfl
      rw [this, List.append_assoc]
    have h2 := readM_part (hl x List.mem_cons_self) (h x List.mem_cons_self) (allB r ++ t)
    rw [List.length_cons, partsM, h1, h2]
    simp only [ne_eq, not_true_eq_false, if_false, List.map_cons, List.cons.injEq, true_and]
    rw [restB_mk, List.drop_left]
    exact partsM_back r t (fun y hy => hl y (List.mem_cons_of_mem _ hy)) (fun y hy => h y (List.mem_cons_of_mem _ hy))
theorem seqM_body {s : Int} {L : List PL} (h1 : 1 ≤ s) (h2 : s ≤ 1125899906842624) : seqM (bodyS s L) = (s.toNat, (sevL s.toNat).length, 0) := by
  unfold seqM bodyS bodyL
  rw [show ((⟨(sevL s.toNat ++ (sevL L.length ++ allB L)).toArray⟩ : ByteArray)).data.toList = sevL s.toNat ++ (sevL L.length ++ allB L) by simp]
  exact getL_sevL _ _ (by omega)
theorem cntM_body {s : Int} {L : List PL} (h1 : 1 ≤ s) (h2 : s ≤ 1125899906842624) (h3 : L.length ≤ 4) : cntM (bodyS s L) = (L.length, (sevL L.length).length, 0) := by
  unfold cntM
  rw [seqM_body h1 h2]
  dsimp only
  have : restB (bodyS s L) (sevL s.toNat).length = mkBA (sevL L.length ++ allB L) := by
    have := restB_mk (bodyL s L) (sevL s.toNat).length
    unfold bodyL at this
    rw [List.drop_left] at this
    exact this
  rw [this, mkBA_list]
  exact getL_sevL _ _ (by omega)
theorem openM_body {s : Int} {L : List PL} (hl : ∀ x ∈ L, x.2.length = x.1.len) (h : recB s L = true) : openM (bodyS s L) = (s, L.map core) := by
  obtain ⟨⟨h1, h2⟩, ⟨_, h4⟩, ho⟩ := recB_iff.1 h
  unfold openM
  rw [seqM_body h1 h2, cntM_body h1 h2 h4]
  dsimp only
  rw [if_neg (by omega)]
  have e : restB (bodyS s L) ((sevL s.toNat).length + (sevL L.length).length) = mkBA (allB L ++ []) := by
    have := restB_mk (bodyL s L) ((sevL s.toNat).length + (sevL L.length).length)
    unfold bodyL at this
    rw [← List.drop_drop, List.drop_left, List.drop_left] at this
    rw [List.append_nil]; exact this
  rw [e, partsM_back L [] hl fun x hx => okR_isB (ho x hx)]
  refine Prod.ext ?_ rfl
  show ((s.toNat : Nat) : Int) = s
  omega
theorem recS_ok {s : Int} {L : List PL} (h : recB s L = true) : recS s L = wrapB (bodyS s L) := by unfold recS; rw [if_pos h]
theorem recS_no {s : Int} {L : List PL} (h : recB s L = false) : recS s L = ⟨#[]⟩ := by unfold recS; rw [h]; rfl
theorem recE_ok {s : Int} {L : List PL} (h : recB s L = true) : recE s L = 0 := by unfold recE; rw [if_pos h]
theorem recE_no {s : Int} {L : List PL} (h : recB s L = false) : recE s L = 11 := by unfold recE; rw [h]; rfl
theorem recS_len {s : Int} {L : List PL} (hl : ∀ x ∈ L, x.2.length = x.1.len) (h : recB s L = true) : 14 ≤ (recS s L).size ∧ (recS s L).size ≤ 1962 ∧ (bodyS s L).size + 12 = (recS s L).size := by
  have h1 := bodyL_len hl h
  rw [recS_ok h, wrapB_size]
  have : (bodyS s L).size = (bodyL s L).length := rfl
  omega
/-- WHAT WAS WRITTEN IS READ, whatever stands behind it. -/
theorem recM_back {s : Int} {L : List PL} (hl : ∀ x ∈ L, x.2.length = x.1.len) (h : recB s L = true) (t : ByteArray) : recM (recS s L ++ t) = (s, L.map core, (recS s L).size, 1) := by
  have hb := bodyL_len hl h
  have hz := recS_len hl h
  have hr := read_wrap (bodyS s L) t (by show 1 ≤ (bodyL s L).length; omega) (by show (bodyL s L).length ≤ 2000; omega)
  rw [← recS_ok h] at hr
  unfold recM
  rw [hr]
  dsimp only
  rw [if_neg (by simp), openM_body hl h]
  dsimp only
  rw [if_pos ⟨by rw [recB_core hl]; exact h, bodyS_core hl⟩, hz.2.2]
theorem recM_end {s : ByteArray} (h : s.size < 1) : recM s = (0, [], 0, 2) := by
  unfold recM; rw [readF_end h]; dsimp only; rw [if_pos (by decide)]
end Go.Proofs.Ytflaanffjjidaaa

/- The contract of package record's Is. -/
namespace Go.Proofs.Ytflaanffjjidaaa
open Go.RowKit Go.Shelf
set_option linter.unusedVariables false
attribute [local go_sem] Oper.semAt_some wide_fn wide_round_fn

theorem three_a (w : World) (A B C : Array Value) (T U V : TypeId) : (((w.alloc (.cells A T)).alloc (.cells B U)).alloc (.cells C V)).heap[w.heap.size]? = some (.cells A T (0, 0)) :=
  ((bel_alloc (bel_alloc (Below.refl _ _) _) _).block _ (by simp)).trans (World.alloc_heap_new w _)
theorem three_c (w : World) (A B C : Array Value) (T U V : TypeId) : (((w.alloc (.cells A T)).alloc (.cells B U)).alloc (.cells C V)).heap[w.heap.size + 1 + 1]? = some (.cells C V (0, 0)) :=
  alloc_new1 _ _ _ (by simp)
theorem head_k {L : List PL} (h : 0 < L.length) : fwdOf L = decide (L[0].1.k = 6) := by
  cases L with
  | nil => simp at h
  | cons x l => rfl
theorem recB_short {s : Int} {L : List PL} (h : s < 1 ∨ 1125899906842624 < s ∨ L.length < 1 ∨ 4 < L.length) : recB s L = false := by
  rw [Bool.eq_false_iff, Ne, recB_iff]; rintro ⟨h1, h2, _⟩; omega
theorem recB_no {s : Int} {L : List PL} {k : Nat} (hk : k < L.length) (h : okR (fwdOf L) L[k] = false) : recB s L = false := by
  rw [Bool.eq_false_iff, Ne, recB_iff]; rintro ⟨_, _, h2⟩; rw [h2 _ (List.getElem_mem hk)] at h; cases h
theorem recB_all {s : Int} {L : List PL} (hs : 1 ≤ s ∧ s ≤ 1125899906842624) (hl : 1 ≤ L.length ∧ L.length ≤ 4) (h : (L.take L.length).all (okR (fwdOf L)) = true) : recB s L = true := by
  rw [recB_iff]; rw [List.take_length, List.all_eq_true] at h; exact ⟨hs, hl, h⟩

set_option maxRecDepth 100000 in
set_option maxHeartbeats 2000000 in
theorem recIs_short (s : Int) (a : Option Addr) (len cap : Nat) (L : List PL) (w : World) (hL : L.length = len) (hm : len < 1000000) (h : s < 1 ∨ 1125899906842624 < s ∨ len < 1 ∨ 4 < len) : Gives Try.prog 65 #[.agg #[.int .i64 s, .slice a len cap]] w (.bool false) := by
  have hA := bel_alloc (Below.refl w.heap.size w) (.cells #[.int .i64 s, .slice a len cap] 37)
  unfold Gives
  by_cases h1 : s < 1
  · go_enter Try.func65, Try.ntmps65
    go_wp2
    go_ret
    exact ⟨rfl, hA⟩
  have h1' : 1 ≤ s := by omega
  by_cases h2 : 1125899906842624 < s
  · go_enter Try.func65, Try.ntmps65
    go_wp2
    go_ret
    exact ⟨rfl, hA⟩
  have h2' : s ≤ 1125899906842624 := by omega
  by_cases h3 : len < 1
  · obtain rfl : len = 0 := by omega
    go_enter Try.func65, Try.ntmps65
    go_wp2
    go_ret
    exact ⟨rfl, hA⟩
  have h3' : 1 ≤ len := by omega
  have h4 : 4 < len := by omega
  go_enter Try.func65, Try.ntmps65
  go_wp2
  go_ret
  exact ⟨rfl, hA⟩

set_option maxRecDepth 100000 in
set_option maxHeartbeats 4000000 in
theorem recIs_any (s : Int) (a : Option Addr) (len cap : Nat) (L : List PL) (w : World) (h : HasP w a len L) : Gives Try.prog 65 #[.agg #[.int .i64 s, .slice a len cap]] w (.bool (recB s L)) := by
  by_cases hs : s < 1 ∨ 1125899906842624 < s ∨ len < 1 ∨ 4 < len
  · rw [recB_short (by rw [h.1]; exact hs)]; exact recIs_short s a len cap L w h.1 h.2.1 hs
  have s1 : 1 ≤ s := by omega
  have s2 : s ≤ 1125899906842624 := by omega
  have l1 : 1 ≤ len := by omega
  have l2 : len ≤ 4 := by omega
  clear hs
  obtain ⟨hL, hm, hrow, hE⟩ := h
  have HE := Lib.hid hE
  have HL := Lib.hid hL
  obtain ⟨b, off, rfl, hb, hx⟩ := hrow.2.2 l1
  have HX := Lib.hid hx
  have hA := bel_alloc (Below.refl w.heap.size w) (.cells #[.int .i64 s, .slice (some ⟨b, off, none⟩) len cap] 37)
  have hk0 : (w.alloc (.cells #[.int .i64 s, .slice (some ⟨b, off, none⟩) len cap] 37)).cell? ⟨b, off + 1, none⟩ = some (.int .i64 L[0].1.k) := by
    have := (part_at10 hb hA hx (k := 0) (by omega)).2.1
    simpa using this
  have HF := Lib.hid (head_k (L := L) (by omega))
  have HN := Lib.hid (fun (k : Nat) (hk : k < L.length) h => recB_no (s := s) hk h)
  have HY := Lib.hid (fun h => recB_all (L := L) ⟨s1, s2⟩ (by omega) h)
  generalize L[0].1.k = k0 at *
  clear hE hL hrow hx
  unfold Gives
  cases hf : fwdOf L
  · rw [hf] at HF HN HY
    have hkn : ¬ k0 = 6 := of_decide_eq_false HF.out.symm
    have hk6 : (k0 == 6) = false := by simpa using hkn
    have HK := Lib.hid hkn
    clear hkn
    clear HF hf
    go_enter Try.func65, Try.ntmps65
    go_wp2
    go_loopw [35] (fun q wr => ∃ k : Nat, k ≤ len ∧ q = .int .i64 k ∧ (L.take k).all (okR false) = true ∧ Below w.heap.size w wr) (fun q _ => len - (intOf q).toNat)
    case atStart => exact ⟨0, by omega, rfl, rfl, hA⟩
    case round =>
      obtain ⟨k, hk, rfl, ha, hB⟩ := hrel
      have HAl := Lib.hid ha
      clear ha hk0
      by_cases hlt : k < len
      · have hkl : k < L.length := by rw [HL.out]; exact hlt
        obtain ⟨c0, c1, c2, c3, c4, c5, c6, c7, c8, c9⟩ := part_at10 hb hB HX.out hkl
        have HN2 := Lib.hid (HN.out k hkl)
        have HY2 := Lib.hid (show okR false L[k] = true → (L.take (k + 1)).all (okR false) = true from fun h => by rw [List.take_succ_eq_append_getElem hkl, List.all_append, HAl.out]; simp [h])
        have hEk := HE.out L[k] (List.getElem_mem hkl)
        clear HN HY HE HX HL HAl
        generalize L[k] = x at *
        obtain ⟨p, l⟩ := x
        have GI := Lib.hid (fun W (hW : Below w.heap.size w W) => is_any p l W (hEk.below hW))
        have HO := Lib.hid (show okR false (p, l) = (isB p l && (decide (p.k = 6) == false)) from rfl)
        obtain ⟨pg, pk, pa, plen, pcap, pht, phv, phc, pi, pt, pm, ph⟩ := p
        dsimp only [PartC.val] at *
        have hBw := bel2 hB (bel_alloc (Below.refl wr.heap.size wr) (.cells #[.int .i64 pg, .int .i64 pk, .slice pa plen pcap, .int .i64 pht, .int .i64 phv, .int .i64 phc, .int .i64 pi, .int .i64 pt, .bool pm, .bool ph] 70))
        clear hEk
        cases hi : isB ⟨pg, pk, pa, plen, pcap, pht, phv, phc, pi, pt, pm, ph⟩ l
        · rw [hi] at GI HO
          go_wp2_with (go_at_call 90; ((with_reducible refine (GI.out _ hBw).mono ?_); rintro e w1 ⟨rfl, hB1⟩))
          go_ret
          exact ⟨by rw [HN2.out HO.out]; rfl, bel2 hBw hB1⟩
        · rw [hi] at GI HO
          by_cases h6 : pk = 6
          · subst h6
            have HO2 := Lib.hid (show okR false (_, l) = false from HO.out.trans (by simp ))
            clear HO
            go_wp2_with (go_at_call 90; ((with_reducible refine (GI.out _ hBw).mono ?_); rintro e w1 ⟨rfl, hB1⟩; have d1 : w1.cell? ⟨wr.heap.size, 1, none⟩ = some (.int .i64 6) := blk_cell hB1 1))
            go_ret
            exact ⟨by rw [HN2.out HO2.out]; rfl, bel2 hBw hB1⟩
          · have h6' : (pk == 6) = false := by simpa using h6
            have H6 := Lib.hid h6
            clear h6
            have HO2 := Lib.hid (show okR false (_, l) = true from HO.out.trans (by simp [H6.out]))
            clear HO
            go_wp2_with (go_at_call 90; ((with_reducible refine (GI.out _ hBw).mono ?_); rintro e w1 ⟨rfl, hB1⟩; have d1 : w1.cell? ⟨wr.heap.size, 1, none⟩ = some (.int .i64 pk) := blk_cell hB1 1))
            go_roundw
            case rel => exact ⟨k + 1, by omega, by go_num, HY2.out HO2.out, bel2 hBw hB1⟩
            case measure => simp [intOf]; omega
      · obtain rfl : k = len := by omega
        have HV := Lib.hid (HY.out (by rw [HL.out]; exact HAl.out))
        go_wp2
        go_ret
        exact ⟨by rw [HV.out]; rfl, hB⟩
  · rw [hf] at HF HN HY
    have hk6 : k0 = 6 := of_decide_eq_true HF.out.symm
    subst hk6
    clear HF hf
    go_enter Try.func65, Try.ntmps65
    go_wp2
    go_loopw [35] (fun q wr => ∃ k : Nat, k ≤ len ∧ q = .int .i64 k ∧ (L.take k).all (okR true) = true ∧ Below w.heap.size w wr) (fun q _ => len - (intOf q).toNat)
    case atStart => exact ⟨0, by omega, rfl, rfl, hA⟩
    case round =>
      obtain ⟨k, hk, rfl, ha, hB⟩ := hrel
      have HAl := Lib.hid ha
      clear ha hk0
      by_cases hlt : k < len
      · have hkl : k < L.length := by rw [HL.out]; exact hlt
        obtain ⟨c0, c1, c2, c3, c4, c5, c6, c7, c8, c9⟩ := part_at10 hb hB HX.out hkl
        have HN2 := Lib.hid (HN.out k hkl)
        have HY2 := Lib.hid (show okR true L[k] = true → (L.take (k + 1)).all (okR true) = true from fun h => by rw [List.take_succ_eq_append_getElem hkl, List.all_append, HAl.out]; simp [h])
        have hEk := HE.out L[k] (List.getElem_mem hkl)
        clear HN HY HE HX HL HAl
        generalize L[k] = x at *
        obtain ⟨p, l⟩ := x
        have GI := Lib.hid (fun W (hW : Below w.heap.size w W) => is_any p l W (hEk.below hW))
        have HO := Lib.hid (show okR true (p, l) = (isB p l && (decide (p.k = 6) == true)) from rfl)
        obtain ⟨pg, pk, pa, plen, pcap, pht, phv, phc, pi, pt, pm, ph⟩ := p
        dsimp only [PartC.val] at *
        have hBw := bel2 hB (bel_alloc (Below.refl wr.heap.size wr) (.cells #[.int .i64 pg, .int .i64 pk, .slice pa plen pcap, .int .i64 pht, .int .i64 phv, .int .i64 phc, .int .i64 pi, .int .i64 pt, .bool pm, .bool ph] 70))
        clear hEk
        cases hi : isB ⟨pg, pk, pa, plen, pcap, pht, phv, phc, pi, pt, pm, ph⟩ l
        · rw [hi] at GI HO
          go_wp2_with (go_at_call 90; ((with_reducible refine (GI.out _ hBw).mono ?_); rintro e w1 ⟨rfl, hB1⟩))
          go_ret
          exact ⟨by rw [HN2.out HO.out]; rfl, bel2 hBw hB1⟩
        · rw [hi] at GI HO
          by_cases h6 : pk = 6
          · subst h6
            have HO2 := Lib.hid (show okR true (_, l) = true from HO.out.trans (by simp ))
            clear HO
            go_wp2_with (go_at_call 90; ((with_reducible refine (GI.out _ hBw).mono ?_); rintro e w1 ⟨rfl, hB1⟩; have d1 : w1.cell? ⟨wr.heap.size, 1, none⟩ = some (.int .i64 6) := blk_cell hB1 1))
            go_roundw
            case rel => exact ⟨k + 1, by omega, by go_num, HY2.out HO2.out, bel2 hBw hB1⟩
            case measure => simp [intOf]; omega
          · have h6' : (pk == 6) = false := by simpa using h6
            have H6 := Lib.hid h6
            clear h6
            have HO2 := Lib.hid (show okR true (_, l) = false from HO.out.trans (by simp [H6.out]))
            clear HO
            go_wp2_with (go_at_call 90; ((with_reducible refine (GI.out _ hBw).mono ?_); rintro e w1 ⟨rfl, hB1⟩; have d1 : w1.cell? ⟨wr.heap.size, 1, none⟩ = some (.int .i64 pk) := blk_cell hB1 1))
            go_ret
            exact ⟨by rw [HN2.out HO2.out]; rfl, bel2 hBw hB1⟩
      · obtain rfl : k = len := by omega
        have HV := Lib.hid (HY.out (by rw [HL.out]; exact HAl.out))
        go_wp2
        go_ret
        exact ⟨by rw [HV.out]; rfl, hB⟩


end Go.Proofs.Ytflaanffjjidaaa

/- The contracts of slices.EqualFunc at parts, and of package record's Same. -/
namespace Go.Proofs.Ytflaanffjjidaaa
open Go.RowKit Go.Shelf
set_option linter.unusedVariables false
attribute [local go_sem] Oper.semAt_some wide_fn wide_round_fn


end Go.Proofs.Ytflaanffjjidaaa

/- The contracts of package record's texts, body, Bytes, Size. -/
namespace Go.Proofs.Ytflaanffjjidaaa
open Go.RowKit Go.Shelf
set_option linter.unusedVariables false
attribute [local go_sem] Oper.semAt_some wide_fn wide_round_fn

theorem Rd.toBelow {B n : Nat} {S : Nat → Prop} {w w' : World} (h : Rd B S w w') (hn : n ≤ w.heap.size) (hS : ∀ k, k < n → S k) : Below n w w' :=
  ⟨h.os, h.tape, h.output, h.size, fun k hk => by
    obtain ⟨o, ho⟩ : ∃ o, w.heap[k]? = some o := ⟨_, Array.getElem?_eq_some_iff.2 ⟨by omega, rfl⟩⟩
    rw [ho]; exact h.block k o ho (.inl (hS k hk))⟩

set_option maxRecDepth 100000 in
set_option maxHeartbeats 4000000 in
theorem recTexts_iter (Bp : Nat) (a : Option Addr) (len cap : Nat) (L : List PL) (w w0 : World) (h : HasP w a len L) (hok : ∀ x ∈ L, isB x.1 x.2 = true) (hB0 : Below w.heap.size w w0) (hBp : w0.heap[Bp]? = some (.cells #[.slice a len cap] 35 (0, 0))) :
    Iter Try.prog 115 #[.pointer (some ⟨Bp, 0, none⟩)] (fun s : ByteArray => #[.string s]) (L.map fun x => bytesS x.1 x.2) (fun k => k < w.heap.size ∨ k = Bp) (fun _ => False) w0 := by
  intro J0 J Jx W hW hJs _ hY h0
  have hcl0 : W.cell? ⟨Bp, 0, none⟩ = some (.slice a len cap) := cell_of_row _ _ 0 _ _ _ (hW.get hBp (.inr rfl))
  have hBW : Below w.heap.size w W := hB0.trans (hW.toBelow hB0.size fun k hk => .inl hk)
  obtain ⟨hL, hm, hrow, hE⟩ := h
  have HL := Lib.hid hL
  have HE := Lib.hid hE
  have HO := Lib.hid hok
  have hcs := hrow.2.2
  clear hL hE hok hrow
  refine callsIn_of_wp Try.func115 rfl trivial ?_ rfl
  simp only [Try.ntmps115, List.size_toArray, List.length_cons, List.length_nil, Nat.reduceAdd, Nat.reduceSub, Array.replicate_succ, Array.replicate_zero, List.push_toArray, List.append_toArray, List.nil_append, List.cons_append]
  gi_wp2
  gi_loopw [9] (fun q wr => ∃ (k : Nat) (pre : List ByteArray), k ≤ len ∧ q = .int .i64 k ∧ (L.map fun x => bytesS x.1 x.2) = pre ++ (L.drop k).map (fun x => bytesS x.1 x.2) ∧ J pre wr ∧ Rd W.heap.size (fun k => k < w.heap.size ∨ k = Bp) W wr) (fun q _ => len - (intOf q).toNat)
  case atStart => exact ⟨0, [], by omega, rfl, rfl, h0, Rd.refl _ _ _⟩
  case round =>
    obtain ⟨k, pre, hk, rfl, hX, hJ, hR⟩ := hrel
    have HX0 := Lib.hid hX
    clear hX
    by_cases hlt : k < len
    · obtain ⟨b, off, rfl, hb, hx⟩ := hcs (by omega)
      have hkl : k < L.length := by rw [HL.out]; exact hlt
      have hB : Below w.heap.size w wr := hBW.trans (hR.toBelow hBW.size fun k hk => .inl hk)
      obtain ⟨c0, c1, c2, c3, c4, c5, c6, c7, c8, c9⟩ := part_at10 hb hB hx hkl
      have HX := Lib.hid (show (L.map fun x => bytesS x.1 x.2) = pre ++ (bytesS L[k].1 L[k].2 :: (L.drop (k + 1)).map (fun x => bytesS x.1 x.2)) by rw [HX0.out, List.drop_eq_getElem_cons hkl]; rfl)
      have hEk := HE.out L[k] (List.getElem_mem hkl)
      have hok := HO.out L[k] (List.getElem_mem hkl)
      have GB := Lib.hid (fun W (hW : Below w.heap.size w W) => show Gives Try.prog 116 #[L[k].1.val] W (.tuple #[.string (bytesS L[k].1 L[k].2), .int .i64 0]) from by have := bytes_any L[k].1 L[k].2 W (hEk.below hW); unfold bytesE at this; rwa [if_pos hok] at this)
      clear hx HX0 hEk hok hcl0
      generalize L[k] = x at *
      obtain ⟨p, l⟩ := x
      dsimp only at *
      generalize bytesS p l = X at *
      obtain ⟨pg, pk, pa, plen, pcap, pht, phv, phc, pi, pt, pm, ph⟩ := p
      dsimp only [PartC.val] at *
      have hBw := bel2 hB (bel_alloc (Below.refl wr.heap.size wr) (.cells #[.int .i64 pg, .int .i64 pk, .slice pa plen pcap, .int .i64 pht, .int .i64 phv, .int .i64 phc, .int .i64 pi, .int .i64 pt, .bool pm, .bool ph] 70))
      have hRR := hR.alloc (.cells #[.int .i64 pg, .int .i64 pk, .slice pa plen pcap, .int .i64 pht, .int .i64 phv, .int .i64 phc, .int .i64 pi, .int .i64 pt, .bool pm, .bool ph] 70)
      have hJJ := hJs _ _ _ hJ (Moves.alloc wr (.cells #[.int .i64 pg, .int .i64 pk, .slice pa plen pcap, .int .i64 pht, .int .i64 phv, .int .i64 phc, .int .i64 pi, .int .i64 pt, .bool pm, .bool ph] 70))
      clear hJ
      gi_wp2_with (gi_at_call 116; refine (callsIn_wide.2 (GB.out _ hBw)).mono ?_; rintro e w4 ⟨rfl, hB⟩; replace hRR := hRR.trans (Rd.below hB); replace hJJ := hJs _ _ _ hJJ (Moves.below hB); obtain ⟨fn, tmps, assign, body, hy, hR1⟩ := hY _ _ _ w4 HX.out hJJ)
      refine (roundIn_wide_n hR1).mono ?_
      rintro e W3 (⟨rfl, hJ3, hk3⟩ | ⟨rfl, hJx3⟩)
      · gi_wp2
        go_roundw
        case rel => exact ⟨k + 1, _, by omega, by go_num, by rw [HX.out]; simp, hJ3, hRR.trans hk3⟩
        case measure => simp [intOf]; omega
      · gi_wp2
        refine bodyPost_ret (results_none rfl _ _ _) rfl ?_
        exact ⟨⟨_, rfl⟩, .inr ⟨_, _, _, HX.out, hJx3⟩⟩
    · obtain rfl : k = len := by omega
      have HX := Lib.hid (show (L.map fun x => bytesS x.1 x.2) = pre by rw [HX0.out, List.drop_of_length_le (by rw [HL.out]; omega)]; simp)
      gi_wp2
      refine bodyPost_end (results_none rfl _ _ _) rfl ?_
      exact ⟨⟨_, rfl⟩, .inl (by rw [HX.out]; exact hJ)⟩

theorem recTexts_makes (a : Option Addr) (len cap : Nat) (L : List PL) (w w0 : World) (h : HasP w a len L) (hok : ∀ x ∈ L, isB x.1 x.2 = true) (hB0 : Below w.heap.size w w0) :
    Calls Try.prog 93 #[.slice a len cap] w0 fun e w' => ∃ lb, e = .returned (.func (.func 115) #[] lb) ∧ w' = w0.alloc (.cells #[.slice a len cap] 35) ∧
      Iter Try.prog 115 lb (fun s : ByteArray => #[.string s]) (L.map fun x => bytesS x.1 x.2) (fun k => k < w.heap.size ∨ k = w0.heap.size) (fun _ => False) w' := by
  have HI := Lib.hid (recTexts_iter w0.heap.size a len cap L w (w0.alloc (.cells #[.slice a len cap] 35)) h hok (bel2 hB0 (bel_alloc (Below.refl _ _) _)) (World.alloc_heap_new w0 _))
  clear h hok hB0
  go_enter Try.func93, Try.ntmps93
  go_wp2
  go_ret
  exact ⟨_, rfl, rfl, HI.out⟩

/-- What body's loop holds: the builder, its pointer, the parts that the iterator reads. -/
def bodI (w : World) (b q X : Nat) (v : Value) (bs : List UInt8) (pre : List ByteArray) (W : World) : Prop :=
  Builds w.heap.size b (Lib.byteCells (bs ++ pre.flatMap fun s => s.data.toList)) W ∧ (W.heap[q]? = some (.cells #[.pointer (some ⟨b, 0, none⟩)] 147 (0, 0)) ∧
    (W.heap[X]? = some (.cells #[v] 35 (0, 0)) ∧ Below w.heap.size w W))
theorem bodI_stab {w : World} {b q X C : Nat} {v : Value} {bs : List UInt8} {pre : List ByteArray} (h : w.heap.size ≤ C) : Stab C (fun _ => False) (bodI w b q X v bs pre) :=
  builds_stab.and ((Stab.block id (.inr rfl)).and ((Stab.block id (.inr rfl)).and (Stab.below (Nat.le_refl _) h (fun _ h => h.elim))))
theorem flat_bytes {L : List PL} (h : ∀ x ∈ L, isB x.1 x.2 = true) : ((L.map fun x => bytesS x.1 x.2).flatMap fun s => s.data.toList) = allB L := by
  induction L with
  | nil => rfl
  | cons x r ih =>
    have h1 := h x List.mem_cons_self
    have e1 : (bytesS x.1 x.2).data.toList = bytP x := by unfold bytesS; rw [if_pos h1]; rfl
    simp only [List.map_cons, List.flatMap_cons, e1, ih (fun y hy => h y (List.mem_cons_of_mem _ hy))]
    rfl
set_option maxRecDepth 100000 in
set_option maxHeartbeats 8000000 in
theorem recBody_any (s : Int) (a : Option Addr) (len cap : Nat) (L : List PL) (w : World) (h : HasP w a len L) (hok : recB s L = true) : Gives Try.prog 67 #[.agg #[.int .i64 s, .slice a len cap]] w (.string (bodyS s L)) := by
  obtain ⟨hsb, hLb, hAll⟩ := recB_iff.1 hok
  have hIs : ∀ x ∈ L, isB x.1 x.2 = true := fun x hx => okR_isB (hAll x hx)
  have HLen := Lib.hid (bodyL_len (fun x hx => (h.2.2.2 x hx).1) hok)
  have HV := Lib.hid (show bodyL s L = (sevL s.toNat ++ sevL ((len : Int)).toNat) ++ ((L.map fun x => bytesS x.1 x.2).flatMap fun s => s.data.toList) by rw [flat_bytes hIs]; unfold bodyL; rw [h.1, List.append_assoc]; rfl)
  have GS := Lib.hid (put_any s (by omega)); have GN := Lib.hid (put_any (len : Int) (by have := h.2.1; omega))
  have HH := Lib.hid h
  have HI := Lib.hid hIs
  have hl1 := sevL_len s.toNat; have hl2 := sevL_len ((len : Int)).toNat
  have hz1 : (⟨(sevL s.toNat).toArray⟩ : ByteArray).size = (sevL s.toNat).length := rfl
  have hz2 : (⟨(sevL ((len : Int)).toNat).toArray⟩ : ByteArray).size = (sevL ((len : Int)).toNat).length := rfl
  have HP := Lib.hid (show (⟨(sevL s.toNat).toArray⟩ ++ ⟨(sevL ((len : Int)).toNat).toArray⟩ : ByteArray).data.toList = sevL s.toNat ++ sevL ((len : Int)).toNat by simp)
  have HPz := Lib.hid (show (Lib.byteCells []).length + (⟨(sevL s.toNat).toArray⟩ ++ ⟨(sevL ((len : Int)).toNat).toArray⟩ : ByteArray).size ≤ 140737488355328 by rw [ByteArray.size_append, hz1, hz2]; have : (Lib.byteCells []).length = 0 := rfl; omega)
  generalize (⟨(sevL s.toNat).toArray⟩ : ByteArray) = X1 at *
  generalize (⟨(sevL ((len : Int)).toNat).toArray⟩ : ByteArray) = X2 at *
  have hcat : ¬ 9223372036854775807 < X1.size + X2.size := by omega
  have HV2 := Lib.hid (show bodyL s L = (X1 ++ X2).data.toList ++ ((L.map fun x => bytesS x.1 x.2).flatMap fun s => s.data.toList) by rw [HP.out]; exact HV.out)
  have HV3 := Lib.hid (show bodyL s L = X1.data.toList ++ (X2.data.toList ++ ((L.map fun x => bytesS x.1 x.2).flatMap fun s => s.data.toList)) by rw [HV2.out]; simp)
  have HT := Lib.hid (show ((X1 ++ X2).data.toList ++ ((L.map fun x => bytesS x.1 x.2).flatMap fun s => s.data.toList)).length ≤ 1950 by rw [← HV2.out]; exact HLen.out.2)
  have HNe := Lib.hid (show (X1 ++ X2).data.toList ++ ((L.map fun x => bytesS x.1 x.2).flatMap fun s => s.data.toList) ≠ [] by rw [← HV2.out]; intro e; have := HLen.out.1; rw [e] at this; simp at this)
  clear hIs hAll h hok hLb hsb hz1 hz2 hl1 hl2
  refine (callsIn_wide (n := 9)).1 ?_
  refine callsIn_of_wp_marks Try.func67 rfl trivial ?_ rfl
  simp only [Try.ntmps67, List.size_toArray, List.length_cons, List.length_nil, Nat.reduceAdd, Nat.reduceSub, Array.replicate_succ, Array.replicate_zero, List.push_toArray, List.append_toArray, List.nil_append, List.cons_append]
  gi_wp2
  have hr := three_a w #[.int .i64 s, .slice a len cap] #[.pointer none, .slice none 0 0] #[.pointer (some ⟨w.heap.size + 1, 0, none⟩)] 37 149 147
  have hq := three_c w #[.int .i64 s, .slice a len cap] #[.pointer none, .slice none 0 0] #[.pointer (some ⟨w.heap.size + 1, 0, none⟩)] 37 149 147
  have hA := bel_alloc (bel_alloc (bel_alloc (Below.refl w.heap.size w) (.cells #[.int .i64 s, .slice a len cap] 37)) (.cells #[.pointer none, .slice none 0 0] 149)) (.cells #[.pointer (some ⟨w.heap.size + 1, 0, none⟩)] 147)
  have HB := Lib.hid (show Builds w.heap.size (w.heap.size + 1) (Lib.byteCells []) (((w.alloc (.cells #[.int .i64 s, .slice a len cap] 37)).alloc (.cells #[.pointer none, .slice none 0 0] 149)).alloc (.cells #[.pointer (some ⟨w.heap.size + 1, 0, none⟩)] 147)) from Builds.kept (.inl ⟨by omega, .slice none 0 0, alloc_new1 _ _ _ (by simp), World.ownsRow_nil _ _ _ _, by simp [Value.ownBlock]⟩) (bel_alloc (Below.refl _ _) _))
  obtain ⟨W3, hW3⟩ : ∃ W3, W3 = ((w.alloc (.cells #[.int .i64 s, .slice a len cap] 37)).alloc (.cells #[.pointer none, .slice none 0 0] 149)).alloc (.cells #[.pointer (some ⟨w.heap.size + 1, 0, none⟩)] 147) := ⟨_, rfl⟩
  rw [← hW3] at hr hq hA HB ⊢
  clear hW3
  have c0 : W3.cell? ⟨w.heap.size, 0, none⟩ = some (.int .i64 s) := cell_of_row _ _ 0 _ _ _ hr
  have c1 : W3.cell? ⟨w.heap.size, 1, none⟩ = some (.slice a len cap) := cell_of_row _ _ 1 _ _ _ hr
  have cq : W3.cell? ⟨w.heap.size + 1 + 1, 0, none⟩ = some (.pointer (some ⟨w.heap.size + 1, 0, none⟩)) := cell_of_row _ _ 0 _ _ _ hq
  replace hA := hA.drew
  replace HB := Lib.hid (show Builds w.heap.size (w.heap.size + 1) (Lib.byteCells []) W3.drew from HB.out)
  replace hr : W3.drew.heap[w.heap.size]? = _ := hr
  replace hq : W3.drew.heap[w.heap.size + 1 + 1]? = _ := hq
  refine wpIn_wide.2 ?_
  go_region_held3 (fun W' => W'.cell? ⟨w.heap.size + 1 + 1, 0, none⟩ = some (.pointer (some ⟨w.heap.size + 1, 0, none⟩)) ∧ W'.cell? ⟨w.heap.size, 0, none⟩ = some (.int .i64 s) ∧ W'.cell? ⟨w.heap.size, 1, none⟩ = some (.slice a len cap)) (go_keep) (first
    | (go_at_call 92; (with_reducible refine (GS.out _).mono ?_); rintro e w4 ⟨rfl, hX⟩; replace hA := bel2 hA hX; replace HB := Lib.hid (HB.out.kept hX); replace hr := (hX.block _ (heap_lt hr)).trans hr; replace hq := (hX.block _ (heap_lt hq)).trans hq; clear c0 c1 cq hX; have c0 : w4.cell? ⟨w.heap.size, 0, none⟩ = some (.int .i64 s) := cell_of_row _ _ 0 _ _ _ hr; have c1 : w4.cell? ⟨w.heap.size, 1, none⟩ = some (.slice a len cap) := cell_of_row _ _ 1 _ _ _ hr; have cq : w4.cell? ⟨w.heap.size + 1 + 1, 0, none⟩ = some (.pointer (some ⟨w.heap.size + 1, 0, none⟩)) := cell_of_row _ _ 0 _ _ _ hq)
    | (go_at_call 92; (with_reducible refine (GN.out _).mono ?_); rintro e w5 ⟨rfl, hX⟩; replace hA := bel2 hA hX; replace HB := Lib.hid (HB.out.kept hX); replace hr := (hX.block _ (heap_lt hr)).trans hr; replace hq := (hX.block _ (heap_lt hq)).trans hq; clear c0 c1 cq hX; have c0 : w5.cell? ⟨w.heap.size, 0, none⟩ = some (.int .i64 s) := cell_of_row _ _ 0 _ _ _ hr; have c1 : w5.cell? ⟨w.heap.size, 1, none⟩ = some (.slice a len cap) := cell_of_row _ _ 1 _ _ _ hr; have cq : w5.cell? ⟨w.heap.size + 1 + 1, 0, none⟩ = some (.pointer (some ⟨w.heap.size + 1, 0, none⟩)) := cell_of_row _ _ 0 _ _ _ hq)
    | (go_at_call 91; (refine (writeString_any w.heap.size (w.heap.size + 1) _ _ _ HB.out HPz.out hA.size).mono ?_); rintro e w6 ⟨rfl, h1, h2, h3⟩; have HB6 := Lib.hid h1; replace hA := hA.trans h2; replace hr := h3.cells hr (Nat.succ_ne_self _).symm (by decide); replace hq := h3.cells hq (Nat.succ_ne_self _) (by decide); clear c0 c1 cq h1 h2 h3; have c0 : w6.cell? ⟨w.heap.size, 0, none⟩ = some (.int .i64 s) := cell_of_row _ _ 0 _ _ _ hr; have c1 : w6.cell? ⟨w.heap.size, 1, none⟩ = some (.slice a len cap) := cell_of_row _ _ 1 _ _ _ hr; have cq : w6.cell? ⟨w.heap.size + 1 + 1, 0, none⟩ = some (.pointer (some ⟨w.heap.size + 1, 0, none⟩)) := cell_of_row _ _ 0 _ _ _ hq))
  all_goals
    have HB7 := Lib.hid (show Builds w.heap.size (w.heap.size + 1) (Lib.byteCells ((X1 ++ X2).data.toList ++ ([] : List ByteArray).flatMap fun s => s.data.toList)) w6 from .inr (by have := HB6.out; simp only [List.flatMap_nil, List.append_nil]; exact this))
    clear HB HB6
    gi_wp2_with (gi_at_call 93; refine (callsIn_wide.2 (recTexts_makes a len cap L w w6 HH.out HI.out hA)).mono ?_; rintro e w9 ⟨lb, rfl, rfl, hI9⟩)
    have hW9 : Below w6.heap.size w6 (w6.alloc (.cells #[.slice a len cap] 35)) := bel_alloc (Below.refl _ _) _
    have hs9 : w.heap.size ≤ (w6.alloc (.cells #[.slice a len cap] 35)).heap.size := Nat.le_trans hA.size hW9.size
    refine range_outer rfl (enters_of Try.func115 (by kernel_rfl) rfl) hI9 (fun _ => rfl) (fun k hk => hk.elim (fun h => Nat.lt_of_lt_of_le h hs9) (fun e => by rw [e, World.size_alloc]; exact Nat.lt_succ_self _)) (fun _ h => h.elim)
      (fun pre W => bodI w (w.heap.size + 1) (w.heap.size + 1 + 1) w6.heap.size (.slice a len cap) (X1 ++ X2).data.toList pre W) (fun _ _ _ => False) (fun _ => bodI_stab hs9) (fun _ _ => Stab.pure _)
      ⟨HB7.out.kept hW9, (hW9.block _ (heap_lt hq)).trans hq, World.alloc_heap_new _ _, hA.trans (hW9.mono hA.size)⟩ ?hr ?hd (fun _ _ _ _ _ _ h => h.elim)
    case hr =>
      rintro L0 pre x suf W hx hl' hi1 hrec
      dsimp only
      gi_wp2
      refine rdThen_mk _ (bodI_stab hs9) hi1 (Rd.refl _ _ _) ?_
      clear hi1 hrec W
      rintro W ⟨hb, hqW, hX, hBl⟩ hrec
      have cqW : W.cell? ⟨w.heap.size + 1 + 1, 0, none⟩ = some (.pointer (some ⟨w.heap.size + 1, 0, none⟩)) := cell_of_row _ _ 0 _ _ _ hqW
      have HLx := Lib.hid (show (Lib.byteCells ((X1 ++ X2).data.toList ++ pre.flatMap fun s => s.data.toList)).length + x.size ≤ 140737488355328 by
        have h1 := HT.out
        rw [hx] at h1
        have h3 : x.size = x.data.toList.length := by rw [Array.length_toList]; rfl
        rw [byteCells_len]
        simp only [List.flatMap_append, List.flatMap_cons, List.length_append] at *
        omega)
      have HBx := Lib.hid hb
      have hWs := hBl.size
      clear hx hb
      gi_wp2_with (gi_at_call 91; refine (callsIn_wide.2 (writeString_any w.heap.size (w.heap.size + 1) _ x W HBx.out HLx.out hWs)).mono ?_; rintro e w7 ⟨rfl, h1, h2, h3⟩)
      have hnX : w6.heap.size ≠ w.heap.size + 1 := by have := HB7.out.lt; omega
      refine ⟨rd_of_keeps HBx.out h3 h2 (fun k hk => hk.elim (fun h => .inl h) (fun e => .inr ⟨by rw [e]; exact hnX, #[.slice a len cap], 35, (0, 0), by rw [e]; exact hX, by decide⟩)), .inr ?_, h3.cells hqW (Nat.succ_ne_self _) (by decide), h3.cells hX hnX (by decide), hBl.trans h2⟩
      have e1 : Lib.byteCells ((X1 ++ X2).data.toList ++ (pre ++ [x]).flatMap fun s => s.data.toList) = Lib.byteCells ((X1 ++ X2).data.toList ++ pre.flatMap fun s => s.data.toList) ++ Lib.strCells x := by
        rw [List.flatMap_append, ← List.append_assoc, byteCells_app, List.flatMap_singleton]; rfl
      rw [e1]
      exact h1
    case hd =>
      rintro W ⟨hb, hqW, hX, hBl⟩ hD
      have cqW : W.cell? ⟨w.heap.size + 1 + 1, 0, none⟩ = some (.pointer (some ⟨w.heap.size + 1, 0, none⟩)) := cell_of_row _ _ 0 _ _ _ hqW
      have HBx := Lib.hid hb
      clear hb
      gi_wp2_with (gi_at_call 94; refine (callsIn_wide.2 (string_full w.heap.size (w.heap.size + 1) _ W HBx.out HNe.out)).mono ?_; rintro e w8 ⟨rfl, h2, h3⟩)
      have hD2 := h3.block _ _ hD (by rintro e; obtain ⟨cs, hcs⟩ := HBx.out.cells; rw [e, hcs] at hD; cases hD) (by rintro cs fr ⟨⟩)
      rw [World.size_alloc] at hD2
      exact leave_one hD2 (results_tmp rfl _ _ _) ⟨by unfold bodyS; rw [HV3.out]; rfl, below_putObj (hBl.trans h2) (Nat.le_refl _) (by rw [World.size_alloc] at hs9; exact hs9) _⟩

end Go.Proofs.Ytflaanffjjidaaa

/- The contracts of package record's parts, open. -/
namespace Go.Proofs.Ytflaanffjjidaaa
open Go.RowKit Go.Shelf
set_option linter.unusedVariables false
attribute [local go_sem] Oper.semAt_some wide_fn wide_round_fn

theorem infoPart : (Try.prog.info? 70).map (fun i => (i.zero, i.size, i.bytes)) = some (some (.agg #[.int .i64 0, .int .i64 0, .slice none 0 0, .int .i64 0, .int .i64 0, .int .i64 0, .int .i64 0, .int .i64 0, .bool false, .bool false]), 10, 88) := by kernel_rfl
theorem HasE.frame {T : Nat → Prop} {W W' : World} {P : PartC} {l : List EntryC} (h : HasE W P l) (hF : FrameT T W W') (hne : ∀ k, inBlkE P.a P.len k → ¬ T k) : HasE W' P l := by
  refine ⟨h.1, h.2.1, h.2.2.1, h.2.2.2.1, fun h0 => ?_⟩
  obtain ⟨c, off, e, hlt, hc⟩ := h.2.2.2.2 h0
  refine ⟨c, off, e, Nat.lt_of_lt_of_le hlt hF.size, fun j hj => ?_⟩
  exact (World.cell?_of_block (w := W) (hF.block c hlt (hne c ⟨c, off, e, h0, rfl⟩))).trans (hc j hj)
theorem hasE_stab {B : Nat} {P : PartC} {l : List EntryC} : Stab B (fun _ => False) (fun W => HasE W P l) := fun W W' h hm => by
  refine ⟨h.1, h.2.1, h.2.2.1, h.2.2.2.1, fun h0 => ?_⟩
  obtain ⟨c, off, e, hlt, hc⟩ := h.2.2.2.2 h0
  exact ⟨c, off, e, Nat.lt_of_lt_of_le hlt hm.size, fun j hj => Stab.cell (B := B) (T := fun _ => False) id W W' (hc j hj) hm⟩
theorem FrameT.grownRow {w w' : World} {row : Option Nat} (h : w.grownBy w' row) : FrameT (fun k => some k = row) w w' := ⟨h.os, h.tape, h.output, h.size, fun k hk hT => h.block k hk hT⟩
theorem inBlkE_len {W : World} {P : PartC} {l : List EntryC} (h : HasE W P l) {k : Nat} (hk : inBlkE P.a P.len k) : k < W.heap.size := inBlkE_lt h.2.2 hk
theorem wpListIn_append_at {F : Fence} {n : Nat} {P : Program} (w : World) {ops : Array Oper} {rest : List Oper} {o : Oper} {a : Act} {Q : Exit → Act → World → Prop}
    (hg : o.guard = none) (s x : Operand) (t : TypeId) (hop : o.op = Op.call { callee := Callee.builtin Builtin.append, args := #[s, x], argTypes := #[t, t] })
    (base : Nat) (e : TypeId) (i : TypeInfo) (z : Value) (size bytes : Nat) (h1 : P.underlying t = some (.slice e)) (h2 : P.info? e = some i) (h3 : i.zero = some z) (h4 : i.size = size) (h5 : i.bytes = bytes) (h6 : z.cells.size = size) (h7 : 0 < size)
    (v : Value) (k : Nat) (xs : List Value) (hs : a.eval s = v) (hown : w.ownsRow base e size v k xs) (ad : Addr) (m c : Nat) (news : List Value) (hx : a.eval x = .slice (some ad) m c) (hn : news.length = m * size)
    (hc : ∀ j u, news[j]? = some u → w.cell? (ad.add j) = some u) (h1c : ∀ u ∈ news, u.oneCell' = true) (b1 : k + m ≤ maxLen) (b2 : (k + m) * bytes ≤ 140737488355328) (b3 : base ≤ w.heap.size)
    (hK : ∀ v' w', w'.ownsRow base e size v' (k + m) (xs ++ news) → w.grownBy w' v.ownBlock → (v'.ownBlock = v.ownBlock ∨ v'.ownBlock = some w.heap.size) → wpListIn F n P ops Q rest (a.put o.dst v') w') :
    wpListIn F n P ops Q (o :: rest) a w := by
  refine wpListIn_plain hg fun K hK' => ?_
  obtain ⟨v', w', hrun, r1, r2, _, r3⟩ := run_append_own_at (P := P) (w := w) base t o.type e i z size bytes h1 h2 h3 h4 h5 h6 h7 v k xs hown ad m c news hn hc h1c b1 b2 b3
  unfold Oper.wpIn
  refine ⟨?_, ?_⟩
  · simp [Oper.about, hop, resolve, Target.leads, Sem.run_pure]
  · rw [Oper.semAt_plain F _ _ (by rw [hop]; intro c hc'; cases hc')]
    simp [execOp, hop, resolve, invoke, builtin, hs, hx, hrun, Result.andThen]
    exact hK' _ _ (hK v' w' r1 r2 r3)

/-- What parts hands out next: few, in new memory. -/
def nxP (pre : List PL) (x : PL) (W2 W : World) : Prop := pre.length < 4 ∧ HasE W x.1 x.2 ∧ (∀ k, inBlkE x.1.a x.1.len k → W2.heap.size ≤ k) ∧ Below W2.heap.size W2 W

set_option maxRecDepth 100000 in
set_option maxHeartbeats 4000000 in
theorem recParts_iter (Bs Bn : Nat) (s : ByteArray) (n : Nat) (hn : n ≤ 4) (hs : s.size < 4611686018427387904) (w0 : World) (h1 : w0.heap[Bs]? = some (.cells #[.string s] 9 (0, 0))) (h2 : w0.heap[Bn]? = some (.cells #[.int .i64 n] 3 (0, 0))) :
    IterD Try.prog 121 #[.pointer (some ⟨Bs, 0, none⟩), .pointer (some ⟨Bn, 0, none⟩)] (fun x : PL => #[x.1.val]) nxP (fun ys => ys.map core = partsM n s) (fun k => k = Bs ∨ k = Bn) (fun _ => False) w0 := by
  intro J0 J Jx W hW hJs _ hY h0
  have cs0 : W.cell? ⟨Bs, 0, none⟩ = some (.string s) := cell_of_row _ _ 0 _ _ _ (hW.get h1 (.inl rfl))
  have cn0 : W.cell? ⟨Bn, 0, none⟩ = some (.int .i64 n) := cell_of_row _ _ 0 _ _ _ (hW.get h2 (.inr rfl))
  clear h1 h2
  refine callsIn_of_wp Try.func121 rfl trivial ?_ rfl
  simp only [Try.ntmps121, List.size_toArray, List.length_cons, List.length_nil, Nat.reduceAdd, Nat.reduceSub, Array.replicate_succ, Array.replicate_zero, List.push_toArray, List.append_toArray, List.nil_append, List.cons_append]
  gi_wp2
  gi_loopw [4, 10] (fun sl q wr => ∃ (k : Nat) (pre : List PL) (left : ByteArray), k ≤ n ∧ sl = .string left ∧ q = .int .i64 k ∧ left.size ≤ s.size ∧ pre.length = k ∧ pre.map core ++ partsM (n - k) left = partsM n s ∧ J pre wr ∧ Rd W.heap.size (fun k => k = Bs ∨ k = Bn) W wr) (fun _ q _ => n - (intOf q).toNat)
  case atStart => exact ⟨0, [], s, by omega, rfl, rfl, Nat.le_refl _, rfl, rfl, h0, Rd.refl _ _ _⟩
  case round =>
    obtain ⟨k, pre, left, hk, rfl, rfl, hz, hpl, hP, hJ, hR⟩ := hrel
    have HPl := Lib.hid hpl
    have HP := Lib.hid hP
    clear hpl hP cs0 cn0
    by_cases hlt : k < n
    · obtain ⟨r, m, x, hr⟩ : ∃ r m x, readM left = (r, m, x) := ⟨_, _, _, rfl⟩
      have hm := readM_le left
      rw [hr] at hm
      dsimp only at hm
      have hpm : partsM (n - k) left = if x ≠ 0 then [] else r :: partsM (n - (k + 1)) (restB left m) := by
        rw [show n - k = (n - (k + 1)) + 1 by omega, partsM, hr]
      by_cases hx : x = 0
      · subst hx
        have GR := Lib.hid (fun W => partRead_new left r m 0 (by omega) hr W)
        have HP2 := Lib.hid (show (pre.map core ++ [r]) ++ partsM (n - (k + 1)) (restB left m) = partsM n s by rw [← HP.out, hpm]; simp)
        have hz2 : (restB left m).size = left.size - m := restB_size left m hm
        have hm0 : (0 : Int) ≤ (m : Int) := by omega
        have hm1 : (m : Int) ≤ (left.size : Int) := by omega
        have HRB := Lib.hid (show restB left m = left.extract m left.size from rfl)
        have HZ2 := Lib.hid hz2
        clear hr hpm hz2 HP
        obtain ⟨rg, rk, l, rht, rhv, rhc, ri, rt, rm, rh⟩ := r
        gi_wp2_with (gi_at_call 122; refine (callsIn_wide.2 (GR.out _)).mono ?_; rintro e w4 ⟨xa, xc, rfl, hE, hB, hO⟩; dsimp only [ReadC.part, PartC.val]; have hBy := bel2 hB (bel_alloc (Below.refl w4.heap.size w4) (.cells #[.int .i64 rg, .int .i64 rk, .slice xa l.length xc, .int .i64 rht, .int .i64 rhv, .int .i64 rhc, .int .i64 ri, .int .i64 rt, .bool rm, .bool rh] 70)); have hRR := hR.trans (Rd.below hBy); obtain ⟨fn, tmps, assign, body, hy, hR1⟩ := hY pre ((⟨rg, rk, xa, l.length, xc, rht, rhv, rhc, ri, rt, rm, rh⟩ : PartC), l) wr (w4.alloc (.cells #[.int .i64 rg, .int .i64 rk, .slice xa l.length xc, .int .i64 rht, .int .i64 rhv, .int .i64 rhc, .int .i64 ri, .int .i64 rt, .bool rm, .bool rh] 70)) hJ ⟨by rw [HPl.out]; omega, hE.below (bel_alloc (Below.refl _ _) _), fun k hk => Nat.le_of_lt (hO k hk), hBy⟩ (hJs _ _ _ hJ (Moves.below hBy)); clear hE hB hO hBy)
        refine (roundIn_wide_n hR1).mono ?_
        rintro e W3 (⟨rfl, hJ3, hk3⟩ | ⟨rfl, hJx3⟩)
        · gi_wp2
          go_roundw
          case rel => exact ⟨k + 1, _, restB left m, by omega, by rw [HRB.out], by go_num, by rw [HZ2.out]; omega, by rw [List.length_append, HPl.out]; rfl, by rw [List.map_append]; exact HP2.out, hJ3, hRR.trans hk3⟩
          case measure => simp [intOf]; omega
        · gi_wp2
          refine bodyPost_ret (results_none rfl _ _ _) rfl ?_
          exact ⟨⟨_, rfl⟩, .inr ⟨_, _, hJx3⟩⟩
      · have GR := Lib.hid (fun W => partRead_new left r m x (by omega) hr W)
        have HF := Lib.hid (show pre.map core = partsM n s by rw [← HP.out, hpm, if_pos hx]; simp)
        have hx1 : ((x : Int) == 0) = false := by rw [beq_eq_false_iff_ne]; omega
        have hx2 : ((x : Int) != 0) = true := by rw [bne_iff_ne]; omega
        clear hr hpm HP hx
        obtain ⟨rg, rk, l, rht, rhv, rhc, ri, rt, rm, rh⟩ := r
        gi_wp2_with (gi_at_call 122; refine (callsIn_wide.2 (GR.out _)).mono ?_; rintro e w4 ⟨xa, xc, rfl, hE, hB, hO⟩; dsimp only [ReadC.part, PartC.val]; have hJJ := hJs _ _ _ hJ (Moves.below (bel2 hB (bel_alloc (Below.refl w4.heap.size w4) (.cells #[.int .i64 rg, .int .i64 rk, .slice xa l.length xc, .int .i64 rht, .int .i64 rhv, .int .i64 rhc, .int .i64 ri, .int .i64 rt, .bool rm, .bool rh] 70)))); clear hE hB hO)
        refine bodyPost_ret (results_none rfl _ _ _) rfl ?_
        exact ⟨⟨_, rfl⟩, .inl ⟨_, HF.out, hJJ⟩⟩
    · obtain rfl : k = n := by omega
      have HF := Lib.hid (show pre.map core = partsM k s by rw [← HP.out, Nat.sub_self]; simp [partsM])
      gi_wp2
      refine bodyPost_end (results_none rfl _ _ _) rfl ?_
      exact ⟨⟨_, rfl⟩, .inl ⟨_, HF.out, hJ⟩⟩

theorem two_boxes (w : World) (A B : Array Value) (T U : TypeId) : ((w.alloc (.cells A T)).alloc (.cells B U)).heap[w.heap.size]? = some (.cells A T (0, 0)) ∧ ((w.alloc (.cells A T)).alloc (.cells B U)).heap[w.heap.size + 1]? = some (.cells B U (0, 0)) :=
  ⟨two_a w A B T U, two_b w A B T U⟩
theorem recParts_makes (s : ByteArray) (n : Nat) (hn : n ≤ 4) (hs : s.size < 4611686018427387904) (w : World) :
    Calls Try.prog 103 #[.string s, .int .i64 n] w fun e w' => ∃ lb, e = .returned (.func (.func 121) #[] lb) ∧ w' = (w.alloc (.cells #[.string s] 9)).alloc (.cells #[.int .i64 n] 3) ∧
      IterD Try.prog 121 lb (fun x : PL => #[x.1.val]) nxP (fun ys => ys.map core = partsM n s) (fun k => k = w.heap.size ∨ k = w.heap.size + 1) (fun _ => False) w' := by
  have HI := Lib.hid (recParts_iter w.heap.size (w.heap.size + 1) s n hn hs ((w.alloc (.cells #[.string s] 9)).alloc (.cells #[.int .i64 n] 3)) (two_boxes _ _ _ _ _).1 (two_boxes _ _ _ _ _).2)
  clear hn hs
  go_enter Try.func103, Try.ntmps103
  go_wp2
  go_ret
  exact ⟨_, rfl, rfl, HI.out⟩

end Go.Proofs.Ytflaanffjjidaaa

/- The contract of package record's open. -/
namespace Go.Proofs.Ytflaanffjjidaaa
open Go.RowKit Go.Shelf
set_option linter.unusedVariables false
attribute [local go_sem] Oper.semAt_some wide_fn wide_round_fn

/-- What a row of parts holds lies in new memory. -/
def NewP (n : Nat) (a : Option Addr) (len : Nat) (L : List PL) : Prop := (∀ k, inBlkE a len k → n ≤ k) ∧ ∀ x, x ∈ L → ∀ k, inBlkE x.1.a x.1.len k → n ≤ k
theorem NewP.le {n m : Nat} {a : Option Addr} {len : Nat} {L : List PL} (h : NewP n a len L) (hm : m ≤ n) : NewP m a len L := ⟨fun k hk => Nat.le_trans hm (h.1 k hk), fun x hx k hk => Nat.le_trans hm (h.2 x hx k hk)⟩
theorem newP_nil (n : Nat) : NewP n none 0 [] := ⟨fun k hk => absurd hk inBlkE_nil, fun x hx => by cases hx⟩
theorem HasP.frame {T : Nat → Prop} {W W' : World} {a : Option Addr} {len n : Nat} {L : List PL} (h : HasP W a len L) (hF : FrameT T W W') (hn : NewP n a len L) (hT : ∀ k, n ≤ k → ¬ T k) : HasP W' a len L := by
  obtain ⟨h1, h2, h3, h4⟩ := h
  refine ⟨h1, h2, ⟨h3.1, h3.2.1, fun h0 => ?_⟩, fun x hx => (h4 x hx).frame hF fun k hk => hT k (hn.2 x hx k hk)⟩
  obtain ⟨c, off, e, hlt, hc⟩ := h3.2.2 h0
  exact ⟨c, off, e, Nat.lt_of_lt_of_le hlt hF.size, fun j hj => (World.cell?_of_block (w := W) (hF.block c hlt (hT c (hn.1 c ⟨c, off, e, h0, rfl⟩)))).trans (hc j hj)⟩
/-- A record whose parts are those, in new memory. -/
def OpenPost (q : Int) (rs : List ReadC) (w : World) (e : Ending) (w' : World) : Prop :=
  ∃ (a : Option Addr) (len cap : Nat) (L : List PL), e = .returned (.agg #[.int .i64 q, .slice a len cap]) ∧ HasP w' a len L ∧ L.map core = rs ∧ Below w.heap.size w w' ∧ NewP w.heap.size a len L
theorem openPost_nil {w w' : World} {e : Ending} (he : e = .returned (.agg #[.int .i64 0, .slice none 0 0])) (hB : Below w.heap.size w w') : OpenPost 0 [] w e w' := ⟨none, 0, 0, [], he, hasP_nil _ _, rfl, hB, newP_nil _⟩
/-- A record that grows: it lies at X, its row of parts from C on; what its parts hold lies elsewhere. -/
def opV (w : World) (R X C : Nat) (q : Int) (v : Value) (pre : List PL) (W : World) : Prop :=
  W.heap[X]? = some (.cells #[.int .i64 q, v] 37 (0, 0)) ∧ (W.ownsRow C 70 10 v pre.length (partCells pre) ∧ ((∀ x, x ∈ pre → HasE W x.1 x.2 ∧ ∀ k, inBlkE x.1.a x.1.len k → C ≤ k ∧ some k ≠ v.ownBlock) ∧
    (W.heap[R]? = some (.cells #[.int .i64 0, .slice none 0 0] 37 (0, 0)) ∧ (Below w.heap.size w W ∧ C ≤ W.heap.size))))
def opI (w : World) (R X C : Nat) (q : Int) (pre : List PL) (W : World) : Prop := ∃ v, opV w R X C q v pre W
theorem opV_stab {w : World} {R X C : Nat} {q : Int} {v : Value} {pre : List PL} (h : w.heap.size ≤ C) : Stab C (fun _ => False) (opV w R X C q v pre) :=
  (Stab.block id (.inr rfl)).and ((Stab.ownsRow (fun _ h => h.elim)).and ((Stab.all fun x => Stab.imp fun _ => hasE_stab.and (Stab.pure _)).and ((Stab.block id (.inr rfl)).and ((Stab.below (Nat.le_refl _) h (fun _ h => h.elim)).and Stab.size))))
theorem opI_stab {w : World} {R X C : Nat} {q : Int} {pre : List PL} (h : w.heap.size ≤ C) : Stab C (fun _ => False) (opI w R X C q pre) := Stab.ex fun _ => opV_stab h
theorem ownBlock_lt {W : World} {base : Nat} {e : TypeId} {size : Nat} {v : Value} {k : Nat} {xs : List Value} (h : W.ownsRow base e size v k xs) {j : Nat} (hj : some j = v.ownBlock) : j < W.heap.size ∧ base ≤ j ∧ ∃ o : Obj, W.heap[j]? = some o ∧ o.isCells = true := by
  rcases h.2 with ⟨rfl, _⟩ | ⟨g, cap, cur, rfl, hb, hg, _⟩
  · simp [Value.ownBlock] at hj
  · obtain rfl : j = g := by simpa [Value.ownBlock] using hj
    exact ⟨(Array.getElem?_eq_some_iff.1 hg).1, hb, _, hg, rfl⟩
theorem FrameT.toRd {T S : Nat → Prop} {B : Nat} {w w' : World} (h : FrameT T w w') (hT : ∀ k o, w.heap[k]? = some o → (S k ∨ (B ≤ k ∧ o.isCells = false)) → ¬ T k) : Rd B S w w' :=
  ⟨h.os, h.tape, h.output, h.size, fun k o ho hc => h.get ho (hT k o ho hc)⟩
/-- 'r.Parts = append(r.Parts, p)' on such a record. -/
theorem opV_append {w W W1 w2 : World} {R X C : Nat} {q : Int} {v v' : Value} {pre : List PL} {x : PL} {S : Nat → Prop} (h : opV w R X C q v pre W) (hC : w.heap.size ≤ R ∧ R < X ∧ X < C) (hS : ∀ k, S k → k < C ∧ k ≠ X)
    (hx : HasE W x.1 x.2 ∧ ∀ k, inBlkE x.1.a x.1.len k → C ≤ k ∧ some k ≠ v.ownBlock) (h1 : Below W.heap.size W W1) (hown : w2.ownsRow C 70 10 v' (pre.length + 1) (partCells pre ++ x.1.arr.toList)) (hg : W1.grownBy w2 v.ownBlock) (hn : v'.ownBlock = v.ownBlock ∨ v'.ownBlock = some W1.heap.size) :
    w2.heap[X]? = some (.cells #[.int .i64 q, v] 37 (0, 0)) ∧ Rd C S W (w2.setCell ⟨X, 1, none⟩ v') ∧ opV w R X C q v' (pre ++ [x]) (w2.setCell ⟨X, 1, none⟩ v') := by
  obtain ⟨hX, hrow, hall, hR, hB, hs⟩ := h
  have hFg : FrameT (fun k => some k = v.ownBlock) W w2 := (FrameT.below h1).mono (fun _ h => h) |>.trans (FrameT.grownRow hg)
  have hXo : ∀ {z : Value} {Z : World} {n : Nat} {ys : List Value}, Z.ownsRow C 70 10 z n ys → some X ≠ z.ownBlock := fun hr e => by have := (ownBlock_lt hr e).2.1; omega
  have hX2 : w2.heap[X]? = some (.cells #[.int .i64 q, v] 37 (0, 0)) := hFg.get hX (hXo hrow)
  have hF : FrameT (fun k => some k = v.ownBlock ∨ k = X) W (w2.setCell ⟨X, 1, none⟩ v') := (hFg.mono fun _ h => .inl h).trans ((FrameT.setCell w2 X 1 v').mono fun _ h => .inr h)
  have hE : ∀ y : PL, HasE W y.1 y.2 ∧ (∀ k, inBlkE y.1.a y.1.len k → C ≤ k ∧ some k ≠ v.ownBlock) → HasE (w2.setCell ⟨X, 1, none⟩ v') y.1 y.2 ∧ ∀ k, inBlkE y.1.a y.1.len k → C ≤ k ∧ some k ≠ v'.ownBlock := fun y hy =>
    ⟨hy.1.frame hF (fun k hk hT => by
        have := hy.2 k hk
        rcases hT with hT | hT
        · exact this.2 hT
        · omega), fun k hk => ⟨(hy.2 k hk).1, fun e => by
        have h3 := inBlkE_len hy.1 hk
        have h4 := h1.size
        rcases hn with hn | hn
        · exact (hy.2 k hk).2 (e.trans hn)
        · rw [hn] at e; cases e; omega⟩⟩
  refine ⟨hX2, hF.toRd ?_, ?_, ?_, ?_, ?_, ?_, ?_⟩
  · rintro k o ho hc (hT | hT)
    · obtain ⟨_, hb, o2, ho2, hc2⟩ := ownBlock_lt hrow hT
      rcases hc with hc | hc
      · have := hS k hc; omega
      · rw [ho] at ho2; cases ho2; rw [hc.2] at hc2; cases hc2
    · rcases hc with hc | hc
      · exact (hS k hc).2 hT
      · omega
  · have := heap_setCell_same w2 X 1 _ _ v' hX2
    exact this
  · rw [List.length_append, partCells_snoc]
    exact hown.kept (row := some X) ⟨rfl, rfl, rfl, by simp, fun k _ hne => heap_setCell_other _ _ _ _ (fun e => hne (congrArg some e))⟩ (.inr (hXo hown).symm)
  · intro y hy
    rcases List.mem_append.1 hy with hy | hy
    · exact hE y (hall y hy)
    · rw [List.mem_singleton] at hy; subst hy; exact hE _ hx
  · exact hF.get hR (by
      rintro (e | e)
      · have := (ownBlock_lt hrow e).2.1; omega
      · omega)
  · exact hB.trans (hF.toBelow hB.size (fun k hk => by
      rcases hk with e | e
      · have := (ownBlock_lt hrow e).2.1; omega
      · omega))
  · exact Nat.le_trans hs hF.size

set_option maxRecDepth 100000 in
set_option maxHeartbeats 4000000 in
theorem recOpen_short (b : ByteArray) (hb : b.size < 4611686018427387904) (w : World) (h : (seqM b).2.2 ≠ 0 ∨ (cntM b).2.2 ≠ 0 ∨ 4 < (cntM b).1) : Calls Try.prog 82 #[.string b] w (OpenPost 0 [] w) := by
  have g1 := get_any b (by omega)
  have b1 := getL_bound b.data.toList
  have hsz : b.data.toList.length = b.size := by simp
  have g2 := get_any (restB b (seqM b).2.1) (by have := restB_size b (seqM b).2.1 (by unfold seqM; omega); omega)
  have b2 := getL_bound (restB b (seqM b).2.1).data.toList
  rw [show getL (restB b (seqM b).2.1).data.toList = cntM b from rfl] at g2 b2
  rw [show getL b.data.toList = seqM b from rfl] at g1 b1
  generalize cntM b = c at *
  generalize seqM b = d at *
  obtain ⟨q, k, e1⟩ := d
  obtain ⟨n, j, e2⟩ := c
  dsimp only at *
  have hk0 : (0 : Int) ≤ (k : Int) := by omega
  have hk1 : (k : Int) ≤ (b.size : Int) := by omega
  rw [show restB b k = b.extract k b.size from rfl] at g2
  have G1 := Lib.hid g1; have G2 := Lib.hid g2
  clear g1 g2 hsz b1
  by_cases h1 : e1 = 0
  · subst h1
    by_cases h2 : e2 = 0
    · subst h2
      have h3 : 4 < n := by omega
      have h3i : (4 : Int) < (n : Int) := by omega
      go_enter Try.func82, Try.ntmps82
      go_wp2_with (first
        | (go_at_call 102; ((with_reducible refine (G1.out _).mono ?_); rintro e w1 ⟨rfl, hB1⟩; have hr := (hB1.block _ (by simp)).trans (World.alloc_heap_new w (.cells #[.int .i64 0, .slice none 0 0] 37)); have hA := bel2 (bel_alloc (Below.refl w.heap.size w) (.cells #[.int .i64 0, .slice none 0 0] 37)) hB1; have c0 : w1.cell? ⟨w.heap.size, 0, none⟩ = some (.int .i64 0) := cell_of_row _ _ 0 _ _ _ hr; have c1 : w1.cell? ⟨w.heap.size, 1, none⟩ = some (.slice none 0 0) := cell_of_row _ _ 1 _ _ _ hr; have f0 := frozen_of_row _ _ 0 _ _ hr; have f1 := frozen_of_row _ _ 1 _ _ hr))
        | (go_at_call 102; ((with_reducible refine (G2.out _).mono ?_); rintro e w2 ⟨rfl, hB2⟩; replace hr := (hB2.block _ (heap_lt hr)).trans hr; replace hA := bel2 hA hB2; clear c0 c1 f0 f1; have c0 : w2.cell? ⟨w.heap.size, 0, none⟩ = some (.int .i64 0) := cell_of_row _ _ 0 _ _ _ hr; have c1 : w2.cell? ⟨w.heap.size, 1, none⟩ = some (.slice none 0 0) := cell_of_row _ _ 1 _ _ _ hr; have f0 := frozen_of_row _ _ 0 _ _ hr; have f1 := frozen_of_row _ _ 1 _ _ hr)))
      refine bodyPost_ret (v := .agg #[.int .i64 0, .slice none 0 0]) (by simp [results, Try.results82, go_sem, c0, c1]) rfl ?_
      exact openPost_nil rfl ((hA.setCell (p := ⟨w.heap.size, 0, none⟩) (Nat.le_refl _) _).setCell (p := ⟨w.heap.size, 1, none⟩) (Nat.le_refl _) _)
    · have x1 : ((e2 : Int) == 0) = false := by rw [beq_eq_false_iff_ne]; omega
      have x2 : ((e2 : Int) != 0) = true := by rw [bne_iff_ne]; omega
      clear h2 h
      go_enter Try.func82, Try.ntmps82
      go_wp2_with (first
        | (go_at_call 102; ((with_reducible refine (G1.out _).mono ?_); rintro e w1 ⟨rfl, hB1⟩; have hr := (hB1.block _ (by simp)).trans (World.alloc_heap_new w (.cells #[.int .i64 0, .slice none 0 0] 37)); have hA := bel2 (bel_alloc (Below.refl w.heap.size w) (.cells #[.int .i64 0, .slice none 0 0] 37)) hB1; have c0 : w1.cell? ⟨w.heap.size, 0, none⟩ = some (.int .i64 0) := cell_of_row _ _ 0 _ _ _ hr; have c1 : w1.cell? ⟨w.heap.size, 1, none⟩ = some (.slice none 0 0) := cell_of_row _ _ 1 _ _ _ hr; have f0 := frozen_of_row _ _ 0 _ _ hr; have f1 := frozen_of_row _ _ 1 _ _ hr))
        | (go_at_call 102; ((with_reducible refine (G2.out _).mono ?_); rintro e w2 ⟨rfl, hB2⟩; replace hr := (hB2.block _ (heap_lt hr)).trans hr; replace hA := bel2 hA hB2; clear c0 c1 f0 f1; have c0 : w2.cell? ⟨w.heap.size, 0, none⟩ = some (.int .i64 0) := cell_of_row _ _ 0 _ _ _ hr; have c1 : w2.cell? ⟨w.heap.size, 1, none⟩ = some (.slice none 0 0) := cell_of_row _ _ 1 _ _ _ hr; have f0 := frozen_of_row _ _ 0 _ _ hr; have f1 := frozen_of_row _ _ 1 _ _ hr)))
      refine bodyPost_ret (v := .agg #[.int .i64 0, .slice none 0 0]) (by simp [results, Try.results82, go_sem, c0, c1]) rfl ?_
      exact openPost_nil rfl ((hA.setCell (p := ⟨w.heap.size, 0, none⟩) (Nat.le_refl _) _).setCell (p := ⟨w.heap.size, 1, none⟩) (Nat.le_refl _) _)
  · have x1 : ((e1 : Int) == 0) = false := by rw [beq_eq_false_iff_ne]; omega
    have x2 : ((e1 : Int) != 0) = true := by rw [bne_iff_ne]; omega
    clear h1 h
    go_enter Try.func82, Try.ntmps82
    go_wp2_with (first
      | (go_at_call 102; ((with_reducible refine (G1.out _).mono ?_); rintro e w1 ⟨rfl, hB1⟩; have hr := (hB1.block _ (by simp)).trans (World.alloc_heap_new w (.cells #[.int .i64 0, .slice none 0 0] 37)); have hA := bel2 (bel_alloc (Below.refl w.heap.size w) (.cells #[.int .i64 0, .slice none 0 0] 37)) hB1; have c0 : w1.cell? ⟨w.heap.size, 0, none⟩ = some (.int .i64 0) := cell_of_row _ _ 0 _ _ _ hr; have c1 : w1.cell? ⟨w.heap.size, 1, none⟩ = some (.slice none 0 0) := cell_of_row _ _ 1 _ _ _ hr; have f0 := frozen_of_row _ _ 0 _ _ hr; have f1 := frozen_of_row _ _ 1 _ _ hr))
      | (go_at_call 102; ((with_reducible refine (G2.out _).mono ?_); rintro e w2 ⟨rfl, hB2⟩; replace hr := (hB2.block _ (heap_lt hr)).trans hr; replace hA := bel2 hA hB2; clear c0 c1 f0 f1; have c0 : w2.cell? ⟨w.heap.size, 0, none⟩ = some (.int .i64 0) := cell_of_row _ _ 0 _ _ _ hr; have c1 : w2.cell? ⟨w.heap.size, 1, none⟩ = some (.slice none 0 0) := cell_of_row _ _ 1 _ _ _ hr; have f0 := frozen_of_row _ _ 0 _ _ hr; have f1 := frozen_of_row _ _ 1 _ _ hr)))
    refine bodyPost_ret (v := .agg #[.int .i64 0, .slice none 0 0]) (by simp [results, Try.results82, go_sem, c0, c1]) rfl ?_
    exact openPost_nil rfl ((hA.setCell (p := ⟨w.heap.size, 0, none⟩) (Nat.le_refl _) _).setCell (p := ⟨w.heap.size, 1, none⟩) (Nat.le_refl _) _)

theorem rec_block {w w1 : World} (hB : Below (w.alloc (.cells #[.int .i64 0, .slice none 0 0] 37)).heap.size (w.alloc (.cells #[.int .i64 0, .slice none 0 0] 37)) w1) : w1.heap[w.heap.size]? = some (.cells #[.int .i64 0, .slice none 0 0] 37 (0, 0)) :=
  (hB.block _ (by simp)).trans (World.alloc_heap_new w _)
set_option maxRecDepth 100000 in
set_option maxHeartbeats 8000000 in
theorem recOpen_full (b : ByteArray) (hb : b.size < 4611686018427387904) (q k n j : Nat) (w : World) (h1 : seqM b = (q, k, 0)) (h2 : cntM b = (n, j, 0)) (hn : n ≤ 4) : Calls Try.prog 82 #[.string b] w (OpenPost q (partsM n (restB b (k + j))) w) := by
  have g1 := get_any b (by omega)
  have b1 := getL_bound b.data.toList
  have hsz : b.data.toList.length = b.size := by simp
  have g2 := get_any (restB b (seqM b).2.1) (by have := restB_size b (seqM b).2.1 (by unfold seqM; omega); omega)
  have b2 := getL_bound (restB b (seqM b).2.1).data.toList
  have hsz2 : (restB b (seqM b).2.1).data.toList.length = (restB b (seqM b).2.1).size := by simp
  rw [restB_size b _ (by unfold seqM; omega)] at hsz2
  rw [show getL (restB b (seqM b).2.1).data.toList = cntM b from rfl, h2] at g2 b2
  rw [show getL b.data.toList = seqM b from rfl, h1] at g1 b1
  rw [h1] at g2 hsz2 b2
  dsimp only at *
  have hk0 : (0 : Int) ≤ (k : Int) := by omega
  have hk1 : (k : Int) ≤ (b.size : Int) := by omega
  have hj0 : (0 : Int) ≤ (k : Int) + (j : Int) := by omega
  have hj1 : (k : Int) + (j : Int) ≤ (b.size : Int) := by omega
  have hn4 : (n : Int) ≤ 4 := by omega
  have hkj : ((k : Int) + (j : Int)).toNat = k + j := by omega
  have hrs : (restB b (k + j)).size < 4611686018427387904 := by rw [restB_size b _ (by omega)]; omega
  rw [show restB b k = b.extract k b.size from rfl] at g2
  have hRB : restB b (k + j) = b.extract (k + j) b.size := rfl
  have gP := fun W => recParts_makes (restB b (k + j)) n hn hrs W
  rw [hRB] at gP
  have GP := Lib.hid gP
  have HRB := Lib.hid hRB
  have HKJ := Lib.hid hkj
  have G1 := Lib.hid g1; have G2 := Lib.hid g2
  obtain ⟨i0, hi, hz0, hz1, hz2⟩ := info_parts infoPart
  clear g1 g2 hsz hsz2 b1 b2 h1 h2 hkj hrs hRB gP
  refine (callsIn_wide (n := 9)).1 ?_
  refine callsIn_of_wp_marks Try.func82 rfl trivial ?_ rfl
  simp only [Try.ntmps82, List.size_toArray, List.length_cons, List.length_nil, Nat.reduceAdd, Nat.reduceSub, Array.replicate_succ, Array.replicate_zero, List.push_toArray, List.append_toArray, List.nil_append, List.cons_append]
  gi_wp2_with (first
    | (gi_at_call 102; (with_reducible refine (callsIn_wide.2 (G1.out _)).mono ?_); rintro e w1 ⟨rfl, hB1⟩)
    | (gi_at_call 102; (with_reducible refine (callsIn_wide.2 (G2.out _)).mono ?_); rintro e w2 ⟨rfl, hB2⟩)
    | (gi_at_call 103; (with_reducible refine (callsIn_wide.2 (GP.out _)).mono ?_); rintro e w5 ⟨lb, rfl, rfl, hI5⟩))
  have hr1 := rec_block hB1
  have hR2 := (hB2.block _ (heap_lt hr1)).trans hr1
  have hX5 := three_a w2 #[.int .i64 q, .slice none 0 0] #[.string (b.extract (k + j) b.size)] #[.int .i64 n] 37 9 3
  have hB5 := bel_alloc (bel_alloc (bel_alloc (Below.refl w2.heap.size w2) (.cells #[.int .i64 q, .slice none 0 0] 37)) (.cells #[.string (b.extract (k + j) b.size)] 9)) (.cells #[.int .i64 n] 3)
  have hA5 := bel2 (bel2 (bel2 (bel_alloc (Below.refl w.heap.size w) (.cells #[.int .i64 0, .slice none 0 0] 37)) hB1) hB2) hB5
  have hR5 := (hB5.block _ (heap_lt hR2)).trans hR2
  have hlt := heap_lt hR2
  have hs5 : (((w2.alloc (.cells #[.int .i64 q, .slice none 0 0] 37)).alloc (.cells #[.string (b.extract (k + j) b.size)] 9)).alloc (.cells #[.int .i64 n] 3)).heap.size = w2.heap.size + 3 := by simp
  have hs4 : (w2.alloc (.cells #[.int .i64 q, .slice none 0 0] 37)).heap.size = w2.heap.size + 1 := by simp
  obtain ⟨w5, hw5⟩ : ∃ w5, w5 = ((w2.alloc (.cells #[.int .i64 q, .slice none 0 0] 37)).alloc (.cells #[.string (b.extract (k + j) b.size)] 9)).alloc (.cells #[.int .i64 n] 3) := ⟨_, rfl⟩
  rw [← hw5] at hI5 hX5 hA5 hR5 hs5 ⊢
  rw [hs4] at hI5
  have HI5 := Lib.hid hI5
  have hC : w.heap.size ≤ w.heap.size ∧ w.heap.size < w2.heap.size ∧ w2.heap.size < w5.heap.size := by omega
  have hS : ∀ k, (k = w2.heap.size + 1 ∨ k = w2.heap.size + 1 + 1) → k < w5.heap.size ∧ k ≠ w2.heap.size := fun k hk => by omega
  have hle : w.heap.size ≤ w5.heap.size := by omega
  clear hw5 hs4 hI5 hr1 hR2 hB5 hB1 hB2 hlt hs5
  refine range_outerD rfl (enters_of Try.func121 (by kernel_rfl) rfl) HI5.out (fun _ => rfl) (fun k hk => (hS k hk).1) (fun _ h => h.elim)
    (fun pre W => opI w w.heap.size w2.heap.size w5.heap.size q pre W) (fun _ _ _ => False) (fun _ => opI_stab hle) (fun _ _ => Stab.pure _)
    ⟨_, hX5, World.ownsRow_nil _ _ _ _, (fun x hx => by cases hx), hR5, hA5, Nat.le_refl _⟩ ?hr ?hd (fun _ _ _ _ h => h.elim)
  case hr =>
    rintro l0 pre x W2 W h2 hnx hl hi1 hrec
    obtain ⟨v2, hv2⟩ := h2
    obtain ⟨v, hv⟩ := hi1
    obtain ⟨hpl, hxE, hxN, hWW⟩ := hnx
    obtain rfl : v = v2 := by
      have e1 := (hWW.block _ (heap_lt hv2.1)).trans hv2.1
      rw [hv.1] at e1
      simpa using e1
    have hxo : ∀ k, inBlkE x.1.a x.1.len k → w5.heap.size ≤ k ∧ some k ≠ v.ownBlock := fun k hk => ⟨Nat.le_trans hv2.2.2.2.2.2 (hxN k hk), fun e => by have := (ownBlock_lt hv2.2.1 e).1; have := hxN k hk; omega⟩
    clear hv2 hxN hWW hX5 hA5 hR5
    obtain ⟨⟨pg, pk, pa, plen, pcap, pht, phv, phc, pi, pt, pm, ph⟩, l⟩ := x
    dsimp only [PartC.val] at *
    have HXo := Lib.hid hxo
    clear hxo
    gi_wp2
    refine rdThen_mk (fun W' => opV w w.heap.size w2.heap.size w5.heap.size q v pre W' ∧ (W'.heap[W.heap.size]? = some (.cells #[.int .i64 pg, .int .i64 pk, .slice pa plen pcap, .int .i64 pht, .int .i64 phv, .int .i64 phc, .int .i64 pi, .int .i64 pt, .bool pm, .bool ph] 70 (0, 0)) ∧ HasE W' ⟨pg, pk, pa, plen, pcap, pht, phv, phc, pi, pt, pm, ph⟩ l))
      ((opV_stab hle).and ((Stab.block id (.inr rfl)).and hasE_stab)) ⟨opV_stab hle _ _ hv (Moves.alloc _ _), World.alloc_heap_new W _, hxE.below (bel_alloc (Below.refl _ _) _)⟩ ((Rd.refl _ _ _).alloc _) ?_
    clear hv hrec hxE
    obtain ⟨Xb, hXb⟩ : ∃ Xb, Xb = W.heap.size := ⟨_, rfl⟩
    rw [← hXb]
    clear hXb W
    rintro W ⟨hop, hblk, hE⟩ hrec
    obtain ⟨d0, d1, d2, d3, d4, d5, d6, d7, d8, d9⟩ := arr10q hblk
    have c1 : W.cell? ⟨w2.heap.size, 1, none⟩ = some v := cell_of_row _ _ 1 _ _ _ hop.1
    have hrow := hop.2.1
    have hCs := hop.2.2.2.2.2
    have HOp := Lib.hid hop
    have HEx := Lib.hid hE
    clear hop hE hblk
    gi_wp2_with (gi_at_builtin; refine wpListIn_append_at _ rfl _ _ 35 rfl w5.heap.size 70 i0 (.agg #[.int .i64 0, .int .i64 0, .slice none 0 0, .int .i64 0, .int .i64 0, .int .i64 0, .int .i64 0, .int .i64 0, .bool false, .bool false]) 10 88 Try.underlying35 hi hz0 hz1 hz2 rfl (by decide) _ _ _ rfl (hrow.alloc _) ⟨W.heap.size, 0, none⟩ 1 1 [.int .i64 pg, .int .i64 pk, .slice pa plen pcap, .int .i64 pht, .int .i64 phv, .int .i64 phc, .int .i64 pi, .int .i64 pt, .bool pm, .bool ph] rfl rfl (news_new _ _ _) (by simp [Value.oneCell']) (by unfold maxLen; omega) (by omega) (by simp; omega) ?_; intro v' w9 hown' hgrow hnew; obtain ⟨g', cap', rfl⟩ := ownsRow_succ hown'; obtain ⟨hX9, hRd, hop9⟩ := opV_append (x := (⟨pg, pk, pa, plen, pcap, pht, phv, phc, pi, pt, pm, ph⟩, l)) HOp.out hC hS ⟨HEx.out, HXo.out⟩ (bel_alloc (Below.refl W.heap.size W) (.cells #[.int .i64 pg, .int .i64 pk, .slice pa plen pcap, .int .i64 pht, .int .i64 phv, .int .i64 phc, .int .i64 pi, .int .i64 pt, .bool pm, .bool ph] 70)) hown' hgrow hnew; have cx9 : w9.cell? ⟨w2.heap.size, 1, none⟩ = some v := cell_of_row _ _ 1 _ _ _ hX9; have fx9 : w9.frozen? ⟨w2.heap.size, 1, none⟩ = false := frozen_of_row _ _ 1 _ _ hX9)
    exact ⟨hRd, _, hop9⟩
  case hd =>
    rintro xs W hF ⟨v, hX, hrow, hall, hR, hBl, hs⟩ hD
    have HFx := Lib.hid hF
    obtain ⟨va, vc, rfl, _, _⟩ := rowV_own hrow
    have HNew := Lib.hid (show NewP w.heap.size va xs.length xs from ⟨fun k ⟨g, off, e, _, hk⟩ => by subst e; have := (ownBlock_lt hrow (j := g) rfl).2.1; omega, fun x hx k hk => Nat.le_trans hle ((hall x hx).2 k hk).1⟩)
    have cx0 : W.cell? ⟨w2.heap.size, 0, none⟩ = some (.int .i64 q) := cell_of_row _ _ 0 _ _ _ hX
    have cx1 : W.cell? ⟨w2.heap.size, 1, none⟩ = some (.slice va xs.length vc) := cell_of_row _ _ 1 _ _ _ hX
    have cr0 : W.cell? ⟨w.heap.size, 0, none⟩ = some (.int .i64 0) := cell_of_row _ _ 0 _ _ _ hR
    have cr1 : W.cell? ⟨w.heap.size, 1, none⟩ = some (.slice none 0 0) := cell_of_row _ _ 1 _ _ _ hR
    have fr0 : W.frozen? ⟨w.heap.size, 0, none⟩ = false := frozen_of_row _ _ 0 _ _ hR
    have fr1 : W.frozen? ⟨w.heap.size, 1, none⟩ = false := frozen_of_row _ _ 1 _ _ hR
    have hWf : ((W.setCell ⟨w.heap.size, 0, none⟩ (.int .i64 q)).setCell ⟨w.heap.size, 1, none⟩ (.slice va xs.length vc)).heap[w.heap.size]? = some (.cells #[.int .i64 q, .slice va xs.length vc] 37 (0, 0)) :=
      heap_setCell_same _ _ 1 _ _ _ (heap_setCell_same W w.heap.size 0 _ _ _ hR)
    have hFr := (FrameT.setCell W w.heap.size 0 (.int .i64 q)).trans (FrameT.setCell (W.setCell ⟨w.heap.size, 0, none⟩ (.int .i64 q)) w.heap.size 1 (.slice va xs.length vc))
    have hD2 := hFr.get hD (show w5.heap.size ≠ w.heap.size by omega)
    have hrow2 := hrow.kept (row := some w.heap.size) (w' := (W.setCell ⟨w.heap.size, 0, none⟩ (.int .i64 q)).setCell ⟨w.heap.size, 1, none⟩ (.slice va xs.length vc)) ⟨rfl, rfl, rfl, hFr.size, fun k hk hne => hFr.block k hk (fun e => hne (congrArg some e))⟩ (.inr (fun e => by have := (ownBlock_lt hrow e.symm).2.1; omega))
    have hall2 : ∀ x ∈ xs, HasE ((W.setCell ⟨w.heap.size, 0, none⟩ (.int .i64 q)).setCell ⟨w.heap.size, 1, none⟩ (.slice va xs.length vc)) x.1 x.2 := fun x hx => (hall x hx).1.frame hFr (fun k hk e => by have := ((hall x hx).2 k hk).1; omega)
    have hBl2 := hBl.trans (hFr.toBelow hBl.size (fun k hk => Nat.le_of_eq hk.symm))
    have hlen : xs.length ≤ 4 := by
      have h1 := congrArg List.length hF
      have h2 := partsM_len n (b.extract (k + j) b.size)
      rw [List.length_map] at h1; omega
    clear hF hall hX hrow
    gi_wp2
    have HRow := Lib.hid hrow2
    refine leave_one hD2 (v := .agg #[.int .i64 q, .slice va xs.length vc]) ?_ ?_
    · have e0 := cell_putObj (o' := .deferred none) (cell_of_row _ _ 0 _ _ _ hWf) hD2 rfl
      have e1 := cell_putObj (o' := .deferred none) (cell_of_row _ _ 1 _ _ _ hWf) hD2 rfl
      simp [results, Try.results82, go_sem, e0, e1]
    · have hm : Moves w5.heap.size (fun _ => False) _ _ := Moves.putObj _ (.deferred none) (Nat.le_refl _) hD2 rfl
      obtain ⟨va', vc', e, _, hrv⟩ := rowV_own (Stab.ownsRow (B := w5.heap.size) (T := fun _ => False) (fun _ h => h.elim) _ _ HRow.out hm)
      cases e
      exact ⟨va, _, vc, xs, rfl, ⟨rfl, by omega, hrv, fun x hx => hasE_stab _ _ (hall2 x hx) hm⟩, by rw [HRB.out]; exact HFx.out, below_putObj hBl2 (Nat.le_refl _) hle _, HNew.out⟩

end Go.Proofs.Ytflaanffjjidaaa

/- The contract of package record's Read. -/
namespace Go.Proofs.Ytflaanffjjidaaa
open Go.RowKit Go.Shelf
set_option linter.unusedVariables false
attribute [local go_sem] Oper.semAt_some wide_fn wide_round_fn

/-- What record.Read, and the document's, answer. -/
def RecPost (s : ByteArray) (w : World) (e : Ending) (w' : World) : Prop :=
  ∃ (a : Option Addr) (len cap : Nat) (L : List PL), e = .returned (.tuple #[.agg #[.int .i64 (recM s).1, .slice a len cap], .int .i64 (recM s).2.2.1, .int .i64 (recM s).2.2.2]) ∧ HasP w' a len L ∧ L.map core = (recM s).2.1 ∧ Below w.heap.size w w' ∧ NewP w.heap.size a len L
theorem recPost_bad {s : ByteArray} {c : Nat} {w w' : World} {e : Ending} (h : recM s = (0, [], 0, c)) (he : e = .returned (.tuple #[.agg #[.int .i64 0, .slice none 0 0], .int .i64 0, .int .i64 c])) (hB : Below w.heap.size w w') : RecPost s w e w' :=
  ⟨none, 0, 0, [], he.trans (by rw [h]; rfl), hasP_nil _ _, by rw [h]; rfl, hB, newP_nil _⟩
theorem recOpen_any (b : ByteArray) (hb : b.size < 4611686018427387904) (w : World) : Calls Try.prog 82 #[.string b] w (OpenPost (openM b).1 (openM b).2 w) := by
  by_cases h : (seqM b).2.2 ≠ 0 ∨ (cntM b).2.2 ≠ 0 ∨ 4 < (cntM b).1
  · have e : openM b = (0, []) := by unfold openM; rw [if_pos h]
    rw [e]; exact recOpen_short b hb w h
  · have e : openM b = (((seqM b).1 : Int), partsM (cntM b).1 (restB b ((seqM b).2.1 + (cntM b).2.1))) := by unfold openM; rw [if_neg h]
    rw [e]
    obtain ⟨q, k, e1, h1⟩ : ∃ q k e1, seqM b = (q, k, e1) := ⟨_, _, _, rfl⟩
    obtain ⟨n, j, e2, h2⟩ : ∃ n j e2, cntM b = (n, j, e2) := ⟨_, _, _, rfl⟩
    rw [h1, h2] at h ⊢
    dsimp only at h ⊢
    obtain rfl : e1 = 0 := by omega
    obtain rfl : e2 = 0 := by omega
    exact recOpen_full b hb q k n j w h1 h2 (by omega)

theorem frameRead_at (s x : ByteArray) (n c : Nat) (hs : s.size < 9223372036854775808) (h : readF s = (x, n, c)) (w : World) : Gives Try.prog 81 #[.string s] w (.tuple #[.string x, .int .i64 n, .int .i64 c]) := by
  have := read_any s hs w
  rwa [h] at this
theorem readF_size (s : ByteArray) : (readF s).1.size ≤ s.size := by
  unfold readF
  repeat' split
  all_goals first
    | exact Nat.zero_le _
    | (rw [ByteArray.size_extract]; omega)

set_option maxRecDepth 100000 in
set_option maxHeartbeats 8000000 in
theorem recRead_any (s : ByteArray) (hs : s.size < 4611686018427387904) (w : World) : Calls Try.prog 51 #[.string s] w (RecPost s w) := by
  obtain ⟨x, n, c, hF⟩ : ∃ x n c, readF s = (x, n, c) := ⟨_, _, _, rfl⟩
  have hx : x.size ≤ s.size := by have := readF_size s; rw [hF] at this; exact this
  by_cases hc : c = 1
  · subst hc
    have GF := Lib.hid (fun W => (show Gives Try.prog 81 #[.string s] W (.tuple #[.string x, .int .i64 n, .int .i64 1]) from frameRead_at s x n 1 (by omega) hF W))
    have GO := Lib.hid (fun W => (show Calls Try.prog 82 #[.string x] W (fun e w' => ∃ (a : Option Addr) (len cap : Nat) (L : List PL), e = .returned (.agg #[.int .i64 (openM x).1, .slice a len cap]) ∧ HasP w' a len L ∧ L.map core = (openM x).2 ∧ Below W.heap.size W w' ∧ NewP W.heap.size a len L) from recOpen_any x (by omega) W))
    obtain ⟨q, rs, hO⟩ : ∃ q rs, openM x = (q, rs) := ⟨_, _, rfl⟩
    rw [hO] at GO
    dsimp only at GO
    have hM : recM s = if recB q (rs.map plOf) = true ∧ bodyS q (rs.map plOf) = x then (q, rs, n, 1) else (0, [], 0, 4) := by unfold recM; rw [hF]; dsimp only; rw [if_neg (by simp), hO]
    clear hO hF hx
    by_cases hok : recB q (rs.map plOf) = true
    · obtain ⟨Y, hY⟩ : ∃ Y, bodyS q (rs.map plOf) = Y := ⟨_, rfl⟩
      rw [hY] at hM
      have HYe := Lib.hid hY
      have Hok := Lib.hid hok
      by_cases hbd : Y = x
      · have HM := Lib.hid (show recM s = (q, rs, n, 1) by rw [hM, if_pos ⟨hok, hbd⟩])
        clear hM hY hok
        subst hbd
        go_enter Try.func51, Try.ntmps51
        go_wp2_with (first
          | (go_at_call 81; ((with_reducible refine (GF.out _).mono ?_); rintro e w1 ⟨rfl, hB1⟩; have hr := rec_block hB1; have hA := bel2 (bel_alloc (Below.refl w.heap.size w) (.cells #[.int .i64 0, .slice none 0 0] 37)) hB1; have c0 : w1.cell? ⟨w.heap.size, 0, none⟩ = some (.int .i64 0) := cell_of_row _ _ 0 _ _ _ hr; have c1 : w1.cell? ⟨w.heap.size, 1, none⟩ = some (.slice none 0 0) := cell_of_row _ _ 1 _ _ _ hr; have f0 : w1.frozen? ⟨w.heap.size, 0, none⟩ = false := frozen_of_row _ _ 0 _ _ hr; have f1 : w1.frozen? ⟨w.heap.size, 1, none⟩ = false := frozen_of_row _ _ 1 _ _ hr))
          | (go_at_call 82; ((with_reducible refine (GO.out _).mono ?_); rintro e w2 ⟨a, len, cap, L, rfl, hP, hL, hB2, hN⟩; have hlt1 := heap_lt hr; replace hr := (hB2.block _ (heap_lt hr)).trans hr; have hsz := hA.size; replace hA := bel2 hA hB2; clear c0 c1 f0 f1; have hAx := bel_alloc (Below.refl w2.heap.size w2) (.cells #[.int .i64 q, .slice a len cap] 37); have HP3 := Lib.hid (hP.below hAx); have HL := Lib.hid hL; have HN := Lib.hid hN; have hX3 := World.alloc_heap_new w2 (.cells #[.int .i64 q, .slice a len cap] 37); replace hr := (hAx.block _ (heap_lt hr)).trans hr; replace hA := bel2 hA hAx; have x0 : (w2.alloc (.cells #[.int .i64 q, .slice a len cap] 37)).cell? ⟨w2.heap.size, 0, none⟩ = some (.int .i64 q) := cell_of_row _ _ 0 _ _ _ hX3; have x1 : (w2.alloc (.cells #[.int .i64 q, .slice a len cap] 37)).cell? ⟨w2.heap.size, 1, none⟩ = some (.slice a len cap) := cell_of_row _ _ 1 _ _ _ hX3; have hlens : ∀ x ∈ L, x.2.length = x.1.len := fun x hx => (hP.2.2.2 x hx).1; have hq := recB_core (s := q) hlens; have hy := bodyS_core (s := q) hlens; rw [hL] at hq hy; have HQ := Lib.hid hq; have HY := Lib.hid hy; clear hq hy hlens hP hL hN hAx))
          | (go_at_call 65; ((refine (show Gives Try.prog 65 #[.agg #[.int .i64 q, .slice a len cap]] (w2.alloc (.cells #[.int .i64 q, .slice a len cap] 37)) (.bool true) from (by have h := recIs_any q a len cap L _ HP3.out; rwa [HQ.out.symm.trans Hok.out] at h)).mono ?_); rintro e w4 ⟨rfl, hB4⟩; replace hr := (hB4.block _ (heap_lt hr)).trans hr; replace hA := bel2 hA hB4; have hX4 := (hB4.block _ (heap_lt hX3)).trans hX3; have HP4 := Lib.hid (HP3.out.below hB4); clear x0 x1; have x0 : w4.cell? ⟨w2.heap.size, 0, none⟩ = some (.int .i64 q) := cell_of_row _ _ 0 _ _ _ hX4; have x1 : w4.cell? ⟨w2.heap.size, 1, none⟩ = some (.slice a len cap) := cell_of_row _ _ 1 _ _ _ hX4))
          | (go_at_call 67; ((refine (show Gives Try.prog 67 #[.agg #[.int .i64 q, .slice a len cap]] w4 (.string Y) from (by have h := recBody_any q a len cap L _ HP4.out (HQ.out.symm.trans Hok.out); rwa [HY.out.symm.trans HYe.out] at h)).mono ?_); rintro e w5 ⟨rfl, hB5⟩; replace hr := (hB5.block _ (heap_lt hr)).trans hr; replace hA := bel2 hA hB5; have hX5 := (hB5.block _ (heap_lt hX4)).trans hX4; have HP5 := Lib.hid (HP4.out.below hB5); clear x0 x1; have x0 : w5.cell? ⟨w2.heap.size, 0, none⟩ = some (.int .i64 q) := cell_of_row _ _ 0 _ _ _ hX5; have x1 : w5.cell? ⟨w2.heap.size, 1, none⟩ = some (.slice a len cap) := cell_of_row _ _ 1 _ _ _ hX5; have c0 : w5.cell? ⟨w.heap.size, 0, none⟩ = some (.int .i64 0) := cell_of_row _ _ 0 _ _ _ hr; have c1 : w5.cell? ⟨w.heap.size, 1, none⟩ = some (.slice none 0 0) := cell_of_row _ _ 1 _ _ _ hr; have f0 : w5.frozen? ⟨w.heap.size, 0, none⟩ = false := frozen_of_row _ _ 0 _ _ hr; have f1 : w5.frozen? ⟨w.heap.size, 1, none⟩ = false := frozen_of_row _ _ 1 _ _ hr)))
        have hWf : ((w5.setCell ⟨w.heap.size, 0, none⟩ (.int .i64 q)).setCell ⟨w.heap.size, 1, none⟩ (.slice a len cap)).heap.size = w5.heap.size := by simp
        have hFr := (FrameT.setCell w5 w.heap.size 0 (.int .i64 q)).trans (FrameT.setCell (w5.setCell ⟨w.heap.size, 0, none⟩ (.int .i64 q)) w.heap.size 1 (.slice a len cap))
        refine bodyPost_ret (v := .tuple #[.agg #[.int .i64 q, .slice a len cap], .int .i64 n, .int .i64 1]) (by simp [results, Try.results51, go_sem, c0, c1]) rfl ?_
        exact ⟨a, len, cap, L, by rw [HM.out]; rfl, HP5.out.frame hFr HN.out (fun k (hk : w1.heap.size ≤ k) (e : k = w.heap.size) => by omega), by rw [HM.out]; exact HL.out, hA.trans (hFr.toBelow hA.size (fun k hk => Nat.le_of_eq hk.symm)), HN.out.le hsz⟩
      · have HM := Lib.hid (show recM s = (0, [], 0, 4) by rw [hM, if_neg (fun h => hbd h.2)])
        have hne : (Y.toList == x.toList) = false := by rw [beq_eq_false_iff_ne]; intro h; exact hbd ((listEq _ _).1 h)
        clear hM hY hok hbd
        go_enter Try.func51, Try.ntmps51
        go_wp2_with (first
          | (go_at_call 81; ((with_reducible refine (GF.out _).mono ?_); rintro e w1 ⟨rfl, hB1⟩; have hr := rec_block hB1; have hA := bel2 (bel_alloc (Below.refl w.heap.size w) (.cells #[.int .i64 0, .slice none 0 0] 37)) hB1; have c0 : w1.cell? ⟨w.heap.size, 0, none⟩ = some (.int .i64 0) := cell_of_row _ _ 0 _ _ _ hr; have c1 : w1.cell? ⟨w.heap.size, 1, none⟩ = some (.slice none 0 0) := cell_of_row _ _ 1 _ _ _ hr; have f0 : w1.frozen? ⟨w.heap.size, 0, none⟩ = false := frozen_of_row _ _ 0 _ _ hr; have f1 : w1.frozen? ⟨w.heap.size, 1, none⟩ = false := frozen_of_row _ _ 1 _ _ hr))
          | (go_at_call 82; ((with_reducible refine (GO.out _).mono ?_); rintro e w2 ⟨a, len, cap, L, rfl, hP, hL, hB2, hN⟩; have hlt1 := heap_lt hr; replace hr := (hB2.block _ (heap_lt hr)).trans hr; have hsz := hA.size; replace hA := bel2 hA hB2; clear c0 c1 f0 f1; have hAx := bel_alloc (Below.refl w2.heap.size w2) (.cells #[.int .i64 q, .slice a len cap] 37); have HP3 := Lib.hid (hP.below hAx); have HL := Lib.hid hL; have HN := Lib.hid hN; have hX3 := World.alloc_heap_new w2 (.cells #[.int .i64 q, .slice a len cap] 37); replace hr := (hAx.block _ (heap_lt hr)).trans hr; replace hA := bel2 hA hAx; have x0 : (w2.alloc (.cells #[.int .i64 q, .slice a len cap] 37)).cell? ⟨w2.heap.size, 0, none⟩ = some (.int .i64 q) := cell_of_row _ _ 0 _ _ _ hX3; have x1 : (w2.alloc (.cells #[.int .i64 q, .slice a len cap] 37)).cell? ⟨w2.heap.size, 1, none⟩ = some (.slice a len cap) := cell_of_row _ _ 1 _ _ _ hX3; have hlens : ∀ x ∈ L, x.2.length = x.1.len := fun x hx => (hP.2.2.2 x hx).1; have hq := recB_core (s := q) hlens; have hy := bodyS_core (s := q) hlens; rw [hL] at hq hy; have HQ := Lib.hid hq; have HY := Lib.hid hy; clear hq hy hlens hP hL hN hAx))
          | (go_at_call 65; ((refine (show Gives Try.prog 65 #[.agg #[.int .i64 q, .slice a len cap]] (w2.alloc (.cells #[.int .i64 q, .slice a len cap] 37)) (.bool true) from (by have h := recIs_any q a len cap L _ HP3.out; rwa [HQ.out.symm.trans Hok.out] at h)).mono ?_); rintro e w4 ⟨rfl, hB4⟩; replace hr := (hB4.block _ (heap_lt hr)).trans hr; replace hA := bel2 hA hB4; have hX4 := (hB4.block _ (heap_lt hX3)).trans hX3; have HP4 := Lib.hid (HP3.out.below hB4); clear x0 x1; have x0 : w4.cell? ⟨w2.heap.size, 0, none⟩ = some (.int .i64 q) := cell_of_row _ _ 0 _ _ _ hX4; have x1 : w4.cell? ⟨w2.heap.size, 1, none⟩ = some (.slice a len cap) := cell_of_row _ _ 1 _ _ _ hX4))
          | (go_at_call 67; ((refine (show Gives Try.prog 67 #[.agg #[.int .i64 q, .slice a len cap]] w4 (.string Y) from (by have h := recBody_any q a len cap L _ HP4.out (HQ.out.symm.trans Hok.out); rwa [HY.out.symm.trans HYe.out] at h)).mono ?_); rintro e w5 ⟨rfl, hB5⟩; replace hr := (hB5.block _ (heap_lt hr)).trans hr; replace hA := bel2 hA hB5; have hX5 := (hB5.block _ (heap_lt hX4)).trans hX4; have HP5 := Lib.hid (HP4.out.below hB5); clear x0 x1; have x0 : w5.cell? ⟨w2.heap.size, 0, none⟩ = some (.int .i64 q) := cell_of_row _ _ 0 _ _ _ hX5; have x1 : w5.cell? ⟨w2.heap.size, 1, none⟩ = some (.slice a len cap) := cell_of_row _ _ 1 _ _ _ hX5; have c0 : w5.cell? ⟨w.heap.size, 0, none⟩ = some (.int .i64 0) := cell_of_row _ _ 0 _ _ _ hr; have c1 : w5.cell? ⟨w.heap.size, 1, none⟩ = some (.slice none 0 0) := cell_of_row _ _ 1 _ _ _ hr; have f0 : w5.frozen? ⟨w.heap.size, 0, none⟩ = false := frozen_of_row _ _ 0 _ _ hr; have f1 : w5.frozen? ⟨w.heap.size, 1, none⟩ = false := frozen_of_row _ _ 1 _ _ hr)))
        refine bodyPost_ret (v := .tuple #[.agg #[.int .i64 0, .slice none 0 0], .int .i64 0, .int .i64 4]) (by simp [results, Try.results51, go_sem, c0, c1]) rfl ?_
        exact recPost_bad HM.out rfl ((hA.setCell (p := ⟨w.heap.size, 0, none⟩) (Nat.le_refl _) _).setCell (p := ⟨w.heap.size, 1, none⟩) (Nat.le_refl _) _)
    · have HM := Lib.hid (show recM s = (0, [], 0, 4) by rw [hM, if_neg (fun h => hok h.1)])
      have Hok := Lib.hid (Bool.eq_false_iff.2 hok)
      clear hM hok
      go_enter Try.func51, Try.ntmps51
      go_wp2_with (first
        | (go_at_call 81; ((with_reducible refine (GF.out _).mono ?_); rintro e w1 ⟨rfl, hB1⟩; have hr := rec_block hB1; have hA := bel2 (bel_alloc (Below.refl w.heap.size w) (.cells #[.int .i64 0, .slice none 0 0] 37)) hB1; have c0 : w1.cell? ⟨w.heap.size, 0, none⟩ = some (.int .i64 0) := cell_of_row _ _ 0 _ _ _ hr; have c1 : w1.cell? ⟨w.heap.size, 1, none⟩ = some (.slice none 0 0) := cell_of_row _ _ 1 _ _ _ hr; have f0 : w1.frozen? ⟨w.heap.size, 0, none⟩ = false := frozen_of_row _ _ 0 _ _ hr; have f1 : w1.frozen? ⟨w.heap.size, 1, none⟩ = false := frozen_of_row _ _ 1 _ _ hr))
        | (go_at_call 82; ((with_reducible refine (GO.out _).mono ?_); rintro e w2 ⟨a, len, cap, L, rfl, hP, hL, hB2, hN⟩; have hlt1 := heap_lt hr; replace hr := (hB2.block _ (heap_lt hr)).trans hr; have hsz := hA.size; replace hA := bel2 hA hB2; clear c0 c1 f0 f1; have hAx := bel_alloc (Below.refl w2.heap.size w2) (.cells #[.int .i64 q, .slice a len cap] 37); have HP3 := Lib.hid (hP.below hAx); have HL := Lib.hid hL; have HN := Lib.hid hN; have hX3 := World.alloc_heap_new w2 (.cells #[.int .i64 q, .slice a len cap] 37); replace hr := (hAx.block _ (heap_lt hr)).trans hr; replace hA := bel2 hA hAx; have x0 : (w2.alloc (.cells #[.int .i64 q, .slice a len cap] 37)).cell? ⟨w2.heap.size, 0, none⟩ = some (.int .i64 q) := cell_of_row _ _ 0 _ _ _ hX3; have x1 : (w2.alloc (.cells #[.int .i64 q, .slice a len cap] 37)).cell? ⟨w2.heap.size, 1, none⟩ = some (.slice a len cap) := cell_of_row _ _ 1 _ _ _ hX3; have hlens : ∀ x ∈ L, x.2.length = x.1.len := fun x hx => (hP.2.2.2 x hx).1; have hq := recB_core (s := q) hlens; have hy := bodyS_core (s := q) hlens; rw [hL] at hq hy; have HQ := Lib.hid hq; have HY := Lib.hid hy; clear hq hy hlens hP hL hN hAx))
        | (go_at_call 65; ((refine (show Gives Try.prog 65 #[.agg #[.int .i64 q, .slice a len cap]] (w2.alloc (.cells #[.int .i64 q, .slice a len cap] 37)) (.bool false) from (by have h := recIs_any q a len cap L _ HP3.out; rwa [HQ.out.symm.trans Hok.out] at h)).mono ?_); rintro e w4 ⟨rfl, hB4⟩; replace hr := (hB4.block _ (heap_lt hr)).trans hr; replace hA := bel2 hA hB4; have hX4 := (hB4.block _ (heap_lt hX3)).trans hX3; have HP4 := Lib.hid (HP3.out.below hB4); clear x0 x1; have x0 : w4.cell? ⟨w2.heap.size, 0, none⟩ = some (.int .i64 q) := cell_of_row _ _ 0 _ _ _ hX4; have x1 : w4.cell? ⟨w2.heap.size, 1, none⟩ = some (.slice a len cap) := cell_of_row _ _ 1 _ _ _ hX4; have c0 : w4.cell? ⟨w.heap.size, 0, none⟩ = some (.int .i64 0) := cell_of_row _ _ 0 _ _ _ hr; have c1 : w4.cell? ⟨w.heap.size, 1, none⟩ = some (.slice none 0 0) := cell_of_row _ _ 1 _ _ _ hr; have f0 : w4.frozen? ⟨w.heap.size, 0, none⟩ = false := frozen_of_row _ _ 0 _ _ hr; have f1 : w4.frozen? ⟨w.heap.size, 1, none⟩ = false := frozen_of_row _ _ 1 _ _ hr)))
      refine bodyPost_ret (v := .tuple #[.agg #[.int .i64 0, .slice none 0 0], .int .i64 0, .int .i64 4]) (by simp [results, Try.results51, go_sem, c0, c1]) rfl ?_
      exact recPost_bad HM.out rfl ((hA.setCell (p := ⟨w.heap.size, 0, none⟩) (Nat.le_refl _) _).setCell (p := ⟨w.heap.size, 1, none⟩) (Nat.le_refl _) _)
  · have hM := Lib.hid (show recM s = (0, [], 0, c) by unfold recM; rw [hF]; dsimp only; rw [if_pos (by simpa using hc)])
    have GF := Lib.hid (fun W => frameRead_at s x n c (by omega) hF W)
    have x1 : ((c : Int) == 1) = false := by rw [beq_eq_false_iff_ne]; omega
    have x2 : ((c : Int) != 1) = true := by rw [bne_iff_ne]; omega
    clear hc hF
    go_enter Try.func51, Try.ntmps51
    go_wp2_with (go_at_call 81; ((with_reducible refine (GF.out _).mono ?_); rintro e w1 ⟨rfl, hB1⟩; have hr := rec_block hB1; have hA := bel2 (bel_alloc (Below.refl w.heap.size w) (.cells #[.int .i64 0, .slice none 0 0] 37)) hB1; have c0 : w1.cell? ⟨w.heap.size, 0, none⟩ = some (.int .i64 0) := cell_of_row _ _ 0 _ _ _ hr; have c1 : w1.cell? ⟨w.heap.size, 1, none⟩ = some (.slice none 0 0) := cell_of_row _ _ 1 _ _ _ hr; have f0 : w1.frozen? ⟨w.heap.size, 0, none⟩ = false := frozen_of_row _ _ 0 _ _ hr; have f1 : w1.frozen? ⟨w.heap.size, 1, none⟩ = false := frozen_of_row _ _ 1 _ _ hr))
    refine bodyPost_ret (v := .tuple #[.agg #[.int .i64 0, .slice none 0 0], .int .i64 0, .int .i64 c]) (by simp [results, Try.results51, go_sem, c0, c1]) rfl ?_
    exact recPost_bad hM.out rfl ((hA.setCell (p := ⟨w.heap.size, 0, none⟩) (Nat.le_refl _) _).setCell (p := ⟨w.heap.size, 1, none⟩) (Nat.le_refl _) _)

end Go.Proofs.Ytflaanffjjidaaa
