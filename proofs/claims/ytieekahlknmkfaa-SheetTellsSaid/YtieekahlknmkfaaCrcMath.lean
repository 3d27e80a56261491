/- Check sums on bits alone: a register of 32 bits that takes in one bit after another. -/
import Derived.Lib.Hide
namespace Go.Proofs.Ytieekahlknmkfaa
set_option linter.unusedVariables false

def Zc (c : BitVec 32) : BitVec 32 := (c >>> 1) ^^^ (if c.getLsbD 0 then 2197175160#32 else 0#32)
def stepC (c : BitVec 32) (b : Bool) : BitVec 32 := (c >>> 1) ^^^ (if c.getLsbD 0 ^^ b then 2197175160#32 else 0#32)
def regF (f : Nat → Bool) (c : BitVec 32) : Nat → BitVec 32
  | 0 => c
  | n + 1 => stepC (regF f c n) (f n)
def Zit : Nat → BitVec 32 → BitVec 32
  | 0, c => c
  | n + 1, c => Zit n (Zc c)
def valF (f : Nat → Bool) : Nat → BitVec 32
  | 0 => 0#32
  | n + 1 => valF f n ^^^ (if f n then 1#32 <<< n else 0#32)

theorem xor4 (a b c d : BitVec 32) : (a ^^^ b) ^^^ (c ^^^ d) = (a ^^^ c) ^^^ (b ^^^ d) := by
  rw [BitVec.xor_assoc, BitVec.xor_assoc, ← BitVec.xor_assoc b c d, BitVec.xor_comm b c, BitVec.xor_assoc c b d]
theorem ite_xor (p q : Bool) (t : BitVec 32) : (if p ^^ q then t else 0#32) = (if p then t else 0#32) ^^^ (if q then t else 0#32) := by
  cases p <;> cases q <;> simp
theorem stepC_xor (c d : BitVec 32) (b e : Bool) : stepC (c ^^^ d) (b ^^ e) = stepC c b ^^^ stepC d e := by
  unfold stepC
  rw [BitVec.ushiftRight_xor_distrib, BitVec.getLsbD_xor, xor4, ← ite_xor]
  congr 2
  cases c.getLsbD 0 <;> cases d.getLsbD 0 <;> cases b <;> cases e <;> rfl
theorem regF_xor (f g : Nat → Bool) (c d : BitVec 32) (n : Nat) : regF (fun j => f j ^^ g j) (c ^^^ d) n = regF f c n ^^^ regF g d n := by
  induction n with
  | zero => rfl
  | succ n ih => simp only [regF, ih, stepC_xor]
theorem regF_congr {f g : Nat → Bool} (c : BitVec 32) (n : Nat) (h : ∀ j, j < n → f j = g j) : regF f c n = regF g c n := by
  induction n with
  | zero => rfl
  | succ n ih => simp only [regF]; rw [ih (fun j hj => h j (by omega)), h n (by omega)]
theorem regF_add (f : Nat → Bool) (c : BitVec 32) (m n : Nat) : regF f c (m + n) = regF (fun j => f (m + j)) (regF f c m) n := by
  induction n with
  | zero => rfl
  | succ n ih => rw [← Nat.add_assoc]; simp only [regF]; rw [ih]
theorem stepC_false (c : BitVec 32) : stepC c false = Zc c := by simp [stepC, Zc]
theorem stepC_eq (c : BitVec 32) (b : Bool) : stepC c b = Zc (c ^^^ (if b then 1#32 else 0#32)) := by
  unfold stepC Zc
  cases b
  · simp
  · have h : (1#32 : BitVec 32) >>> 1 = 0#32 := by decide
    rw [if_pos rfl, BitVec.ushiftRight_xor_distrib, h, BitVec.xor_zero, BitVec.getLsbD_xor]
    rfl
theorem Zc_xor (c d : BitVec 32) : Zc (c ^^^ d) = Zc c ^^^ Zc d := by
  have := stepC_xor c d false false
  simpa [stepC_false] using this
theorem Zc_zero : Zc 0#32 = 0#32 := by decide
theorem Zit_xor (n : Nat) (c d : BitVec 32) : Zit n (c ^^^ d) = Zit n c ^^^ Zit n d := by
  induction n generalizing c d with
  | zero => rfl
  | succ n ih => simp only [Zit, Zc_xor, ih]
theorem Zit_succ (n : Nat) (c : BitVec 32) : Zit (n + 1) c = Zc (Zit n c) := by
  induction n generalizing c with
  | zero => rfl
  | succ n ih => rw [Zit, ih, Zit]
theorem Zc_zero_of {c : BitVec 32} (h : Zc c = 0#32) : c = 0#32 := by
  unfold Zc at h
  by_cases hb : c.getLsbD 0 = true
  · rw [if_pos hb] at h
    have := congrArg (fun x => x.getLsbD 31) h
    simp at this
  · have hb' : c.getLsbD 0 = false := by simpa using hb
    rw [if_neg hb, BitVec.xor_zero] at h
    refine BitVec.eq_of_getLsbD_eq fun i hi => ?_
    cases i with
    | zero => exact hb'
    | succ i =>
      have := congrArg (fun x => x.getLsbD i) h
      simpa [BitVec.getLsbD_ushiftRight, Nat.add_comm] using this
theorem Zit_zero_of (n : Nat) {c : BitVec 32} (h : Zit n c = 0#32) : c = 0#32 := by
  induction n generalizing c with
  | zero => exact h
  | succ n ih => exact Zc_zero_of (ih h)
theorem regF_false (c : BitVec 32) (f : Nat → Bool) (n : Nat) (h : ∀ j, j < n → f j = false) : regF f c n = Zit n c := by
  induction n with
  | zero => rfl
  | succ n ih => rw [Zit_succ, regF, h n (by omega), stepC_false, ih (fun j hj => h j (by omega))]
theorem Zit_zero (n : Nat) : Zit n 0#32 = 0#32 := by
  induction n with
  | zero => rfl
  | succ n ih => rw [Zit, Zc_zero, ih]
theorem Zc_one (n : Nat) (hn : n + 1 < 32) : Zc (1#32 <<< (n + 1)) = 1#32 <<< n := by
  unfold Zc
  rw [if_neg (by simp), BitVec.xor_zero]
  refine BitVec.eq_of_getLsbD_eq fun i hi => ?_
  rw [BitVec.getLsbD_ushiftRight, BitVec.getLsbD_shiftLeft, BitVec.getLsbD_shiftLeft]
  have e : 1 + i - (n + 1) = i - n := by omega
  rw [e]
  by_cases h1 : i < n
  · rw [decide_eq_true (show 1 + i < n + 1 by omega), decide_eq_true h1]; simp
  · rw [decide_eq_false (show ¬ 1 + i < n + 1 by omega), decide_eq_false h1, decide_eq_true hi]
    by_cases h2 : 1 + i < 32
    · rw [decide_eq_true h2]
    · have h3 : 0 < i - n := by omega
      simp [BitVec.getLsbD_one]; omega
theorem Zit_one (n : Nat) (hn : n < 32) : Zit n (1#32 <<< n) = 1#32 := by
  induction n with
  | zero => rfl
  | succ n ih => rw [Zit, Zc_one n hn, ih (by omega)]
theorem regF_val (f : Nat → Bool) (c : BitVec 32) (n : Nat) (hn : n ≤ 32) : regF f c n = Zit n (c ^^^ valF f n) := by
  induction n with
  | zero => simp [regF, Zit, valF]
  | succ n ih =>
    rw [regF, ih (by omega), stepC_eq, Zit_succ, valF, ← BitVec.xor_assoc, Zit_xor n (c ^^^ valF f n)]
    congr 2
    cases f n
    · simp [Zit_zero]
    · simp [Zit_one n (by omega)]
theorem valF_get (f : Nat → Bool) (n i : Nat) (hi : i < 32) : (valF f n).getLsbD i = (decide (i < n) && f i) := by
  induction n with
  | zero => simp [valF]
  | succ n ih =>
    rw [valF, BitVec.getLsbD_xor, ih]
    by_cases h : i = n
    · subst h
      cases f i <;> simp [hi]
    · have h2 : (if f n = true then 1#32 <<< n else 0#32).getLsbD i = false := by
        cases f n
        · simp
        · rw [if_pos rfl, BitVec.getLsbD_shiftLeft]
          by_cases h3 : i < n
          · simp [h3]
          · simp [BitVec.getLsbD_one]; omega
      rw [h2]
      by_cases h3 : i < n
      · simp [h3, show i < n + 1 by omega]
      · simp [h3, show ¬ i < n + 1 by omega]
theorem valF_byte (b : Nat) (hb : b < 256) : valF (fun j => b.testBit j) 8 = BitVec.ofNat 32 b := by
  refine BitVec.eq_of_getLsbD_eq fun i hi => ?_
  rw [valF_get _ _ _ hi, BitVec.getLsbD_ofNat]
  by_cases h : i < 8
  · simp [h, hi]
  · have : b.testBit i = false := Nat.testBit_lt_two_pow (Nat.lt_of_lt_of_le hb (show 2 ^ 8 ≤ 2 ^ i from Nat.pow_le_pow_right (by decide) (by omega)))
    simp [h, this]

/-- The j-th bit of bytes. -/
def bitB (l : List UInt8) (j : Nat) : Bool := (l.getD (j / 8) 0).toNat.testBit (j % 8)
/-- The sum that goes on from c with bytes. -/
def crcM (c : BitVec 32) (l : List UInt8) : BitVec 32 := ~~~ (regF (bitB l) (~~~ c) (8 * l.length))

theorem bitB_left (a b : List UInt8) (j : Nat) (hj : j < 8 * a.length) : bitB (a ++ b) j = bitB a j := by
  unfold bitB
  rw [List.getD_eq_getElem?_getD, List.getElem?_append_left (by omega), ← List.getD_eq_getElem?_getD]
theorem bitB_right (a b : List UInt8) (j : Nat) : bitB (a ++ b) (8 * a.length + j) = bitB b j := by
  unfold bitB
  rw [List.getD_eq_getElem?_getD, List.getElem?_append_right (by omega), ← List.getD_eq_getElem?_getD, show (8 * a.length + j) / 8 - a.length = j / 8 by omega, show (8 * a.length + j) % 8 = j % 8 by omega]
theorem crcM_nil (c : BitVec 32) : crcM c [] = c := by simp [crcM, regF]
theorem crcM_append (c : BitVec 32) (a b : List UInt8) : crcM c (a ++ b) = crcM (crcM c a) b := by
  unfold crcM
  rw [List.length_append, Nat.mul_add, regF_add, BitVec.not_not, regF_congr _ _ (bitB_left a b), regF_congr (f := fun j => bitB (a ++ b) (8 * a.length + j)) _ _ (fun j _ => bitB_right a b j)]
theorem crcM_xor3 (a b c d : List UInt8) (hb : b.length = a.length) (hc : c.length = a.length) (hd : d.length = a.length) (h : ∀ j, j < 8 * a.length → bitB d j = ((bitB a j ^^ bitB b j) ^^ bitB c j)) :
    crcM 0#32 d = (crcM 0#32 a ^^^ crcM 0#32 b) ^^^ crcM 0#32 c := by
  unfold crcM
  rw [hb, hc, hd, regF_congr _ _ h]
  have e : ~~~ (0#32) = ((~~~ (0#32)) ^^^ (~~~ (0#32))) ^^^ (~~~ (0#32)) := by decide
  have e2 := regF_xor (fun j => bitB a j ^^ bitB b j) (bitB c) ((~~~ (0#32)) ^^^ (~~~ (0#32))) (~~~ (0#32)) (8 * a.length)
  rw [← e, regF_xor (bitB a) (bitB b)] at e2
  rw [e2]
  generalize regF (bitB a) _ _ = x
  generalize regF (bitB b) _ _ = y
  generalize regF (bitB c) _ _ = z
  refine BitVec.eq_of_getLsbD_eq fun i hi => ?_
  simp only [BitVec.getLsbD_not, BitVec.getLsbD_xor, hi, decide_true, Bool.true_and]
  cases x.getLsbD i <;> cases y.getLsbD i <;> cases z.getLsbD i <;> rfl
/-- Bits that are flipped within 32 in a row turn the sum. -/
theorem crcM_bursts (c : BitVec 32) (b t : List UInt8) (g : Nat → Bool) (s : Nat) (hl : t.length = b.length) (hs : s + 32 ≤ 8 * b.length) (h : ∀ j, j < 8 * b.length → bitB t j = (bitB b j ^^ g j))
    (hlo : ∀ j, j < s → g j = false) (hhi : ∀ j, s + 32 ≤ j → g j = false) (hne : ∃ j, s ≤ j ∧ j < s + 32 ∧ g j = true) : crcM c t ≠ crcM c b := by
  intro he
  unfold crcM at he
  have he := congrArg (fun x => ~~~ x) he
  simp only [BitVec.not_not] at he
  rw [hl, regF_congr _ _ h] at he
  have e2 := regF_xor (bitB b) g (~~~ c) 0#32 (8 * b.length)
  rw [BitVec.xor_zero, he] at e2
  have h0 : regF g 0#32 (8 * b.length) = 0#32 := by
    have := congrArg (fun x => regF (bitB b) (~~~ c) (8 * b.length) ^^^ x) e2
    simp only [BitVec.xor_self, ← BitVec.xor_assoc, BitVec.zero_xor] at this
    exact this.symm
  obtain ⟨r, hr⟩ : ∃ r, 8 * b.length = s + (32 + r) := ⟨8 * b.length - (s + 32), by omega⟩
  rw [hr, regF_add, regF_add, regF_false 0#32 g s hlo, Zit_zero, regF_false _ _ r (fun j _ => hhi _ (by omega))] at h0
  have h1 := Zit_zero_of r h0
  rw [regF_val _ _ 32 (by omega), BitVec.zero_xor] at h1
  have h2 := Zit_zero_of 32 h1
  obtain ⟨j, hj1, hj2, hj3⟩ := hne
  have := congrArg (fun x => x.getLsbD (j - s)) h2
  simp only [valF_get _ _ _ (show j - s < 32 by omega), show s + (j - s) = j by omega, hj3] at this
  simp at this
  omega

end Go.Proofs.Ytieekahlknmkfaa
