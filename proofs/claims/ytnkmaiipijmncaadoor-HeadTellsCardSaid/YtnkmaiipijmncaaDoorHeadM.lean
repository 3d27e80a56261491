/- Names and heads of segments, as plain lists of bytes. -/
import Derived.Test.YtnkmaiipijmncaaDoorCodeMath
import Derived.Test.YtnkmaiipijmncaaDoorKnown2
import Derived.Lib.AtoiAll
import Derived.Lib.Strings
namespace Go.Proofs.YtnkmaiipijmncaaDoor
open Go.RowKit Go.Shelf
set_option linter.unusedVariables false

def dg (n u : Nat) : UInt8 := UInt8.ofNat (48 + n / u % 10)
theorem dg_nat (n u : Nat) : (dg n u).toNat = 48 + n / u % 10 := by
  unfold dg; rw [UInt8.toNat_ofNat']; omega
def digL (n : Nat) : List UInt8 := [dg n 10000000, dg n 1000000, dg n 100000, dg n 10000, dg n 1000, dg n 100, dg n 10, dg n 1]
def nameL (n : Nat) : List UInt8 := [115, 101, 103, 45] ++ digL n
theorem nameL_len (n : Nat) : (nameL n).length = 12 := rfl
/-- The number that a segment is given, held within what a name can say. -/
def heldN (i : Int) : Nat := (min (max i 1) 99999999).toNat
theorem heldN_bd (i : Int) : 1 ≤ heldN i ∧ heldN i ≤ 99999999 := by unfold heldN; omega
theorem heldN_self {n : Nat} (h1 : 1 ≤ n) (h2 : n ≤ 99999999) : heldN (n : Int) = n := by unfold heldN; omega
/-- What eight digits say. -/
def numL (l : List UInt8) : Nat := l.foldl (fun a c => 10 * a + (c.toNat - 48)) 0
theorem numL_dig {n : Nat} (h : n ≤ 99999999) : numL (digL n) = n := by
  simp only [numL, digL, List.foldl_cons, List.foldl_nil, dg_nat]; omega
theorem digL_inj {n m : Nat} (hn : n ≤ 99999999) (hm : m ≤ 99999999) (h : digL n = digL m) : n = m := by
  have := congrArg numL h; rwa [numL_dig hn, numL_dig hm] at this
theorem nameL_inj {n m : Nat} (hn : n ≤ 99999999) (hm : m ≤ 99999999) (h : nameL n = nameL m) : n = m :=
  digL_inj hn hm (List.append_cancel_left h)
def isDig (c : UInt8) : Bool := decide (48 ≤ c.toNat) && decide (c.toNat ≤ 57)
theorem dg_isDig (n u : Nat) : isDig (dg n u) = true := by
  unfold isDig; rw [dg_nat, Bool.and_eq_true, decide_eq_true_eq, decide_eq_true_eq]; omega
/-- Eight digits are those of their number. -/
theorem digL_num {l : List UInt8} (hl : l.length = 8) (h : ∀ c ∈ l, isDig c = true) : numL l ≤ 99999999 ∧ digL (numL l) = l := by
  match l, hl with
  | [a, b, c, d, e, f, g, k], _ =>
    simp only [List.mem_cons, List.not_mem_nil, or_false, forall_eq_or_imp, forall_eq, isDig, Bool.and_eq_true, decide_eq_true_eq] at h
    have hx : ∀ (x y : UInt8), x.toNat = y.toNat → x = y := fun x y h => UInt8.toNat_inj.1 h
    refine ⟨by simp only [numL, List.foldl_cons, List.foldl_nil]; omega, ?_⟩
    simp only [digL, List.cons.injEq, and_true]
    refine ⟨hx _ _ ?_, hx _ _ ?_, hx _ _ ?_, hx _ _ ?_, hx _ _ ?_, hx _ _ ?_, hx _ _ ?_, hx _ _ ?_⟩ <;> (rw [dg_nat]; simp only [numL, List.foldl_cons, List.foldl_nil]; omega)
theorem pu_step (acc d : Nat) (r : List UInt8) (hd : d < 10) (ha : acc < 1000000000) : Lib.parseUint10 acc (UInt8.ofNat (48 + d) :: r) = Lib.parseUint10 (acc * 10 + d) r := by
  have h : (UInt8.ofNat (48 + d)).toNat = 48 + d := by rw [UInt8.toNat_ofNat']; omega
  rw [Lib.parseUint10, h, if_pos (by omega), if_neg (by omega), if_neg (by omega), show 48 + d - 48 = d by omega]
/-- strconv.Atoi reads a name's digits. -/
theorem atoi_dig {n : Nat} (h : n ≤ 99999999) : Lib.atoiAll (digL n) = .ok (n : Int) := by
  have hp : Lib.parseMag (digL n) = .ok n := by
    unfold Lib.parseMag
    rw [if_neg (by simp [digL])]
    unfold digL dg
    rw [pu_step _ _ _ (by omega) (by omega), pu_step _ _ _ (by omega) (by omega), pu_step _ _ _ (by omega) (by omega), pu_step _ _ _ (by omega) (by omega), pu_step _ _ _ (by omega) (by omega), pu_step _ _ _ (by omega) (by omega), pu_step _ _ _ (by omega) (by omega), pu_step _ _ _ (by omega) (by omega), Lib.parseUint10]
    congr 1
    omega
  have h0 := dg_nat n 10000000
  unfold Lib.atoiAll
  unfold digL at hp ⊢
  simp only
  rw [if_neg (by omega), hp]
  dsimp only
  rw [if_neg (by omega), if_neg (by omega), if_neg (by omega)]
theorem trim_name (n : Nat) : Lib.trimPrefix (nameL n) [115, 101, 103, 45] = digL n := by
  simp [Lib.trimPrefix, Lib.hasPrefix, nameL, List.isPrefixOf]
/-- What head.ID answers. -/
def idM (l : List UInt8) : Int × Bool :=
  match Lib.atoiAll (Lib.trimPrefix l [115, 101, 103, 45]) with
  | .ok v => if nameL (heldN v) = l then (v, true) else (0, false)
  | _ => (0, false)
theorem idM_name {n : Nat} (h1 : 1 ≤ n) (h2 : n ≤ 99999999) : idM (nameL n) = ((n : Int), true) := by
  unfold idM
  rw [trim_name, atoi_dig h2]
  dsimp only
  rw [heldN_self h1 h2, if_pos rfl]
theorem idM_other {l : List UInt8} (h : ∀ n, 1 ≤ n → n ≤ 99999999 → l ≠ nameL n) : idM l = (0, false) := by
  unfold idM
  split
  · rename_i v hv
    have := heldN_bd v
    rw [if_neg (fun e => h _ this.1 this.2 e.symm)]
  · rfl
theorem idM_cases (l : List UInt8) : (∃ n, 1 ≤ n ∧ n ≤ 99999999 ∧ l = nameL n ∧ idM l = ((n : Int), true)) ∨ ((∀ n, 1 ≤ n → n ≤ 99999999 → l ≠ nameL n) ∧ idM l = (0, false)) := by
  by_cases h : ∃ n, 1 ≤ n ∧ n ≤ 99999999 ∧ l = nameL n
  · obtain ⟨n, h1, h2, rfl⟩ := h
    exact .inl ⟨n, h1, h2, rfl, idM_name h1 h2⟩
  · have h' : ∀ n, 1 ≤ n → n ≤ 99999999 → l ≠ nameL n := fun n h1 h2 e => h ⟨n, h1, h2, e⟩
    exact .inr ⟨h', idM_other h'⟩
/-- Names rise as numbers do. -/
def sufL (x : Nat) : Nat → List UInt8
  | 0 => []
  | k + 1 => dg x (10 ^ k) :: sufL x k
theorem less_num {p q q' r r' : Nat} (hr : r < p) (hr' : r' < p) : (decide (q < q') || (decide (q = q') && decide (r < r'))) = decide (p * q + r < p * q' + r') := by
  rw [Bool.eq_iff_iff]
  simp only [Bool.or_eq_true, Bool.and_eq_true, decide_eq_true_eq]
  constructor
  · rintro (h | ⟨rfl, h⟩)
    · have := Nat.mul_le_mul_left p (show q + 1 ≤ q' from h)
      rw [Nat.mul_succ] at this; omega
    · omega
  · intro h
    rcases Nat.lt_trichotomy q q' with h1 | rfl | h1
    · exact .inl h1
    · exact .inr ⟨rfl, by omega⟩
    · have := Nat.mul_le_mul_left p (show q' + 1 ≤ q from h1)
      rw [Nat.mul_succ] at this; omega
theorem less_suf (x y : Nat) : ∀ k, Op.bytesLess (sufL x k) (sufL y k) = decide (x % 10 ^ k < y % 10 ^ k)
  | 0 => by simp [sufL, Op.bytesLess, Nat.mod_one]
  | k + 1 => by
    have e1 : decide (dg x (10 ^ k) < dg y (10 ^ k)) = decide (x / 10 ^ k % 10 < y / 10 ^ k % 10) := by
      rw [decide_eq_decide, UInt8.lt_iff_toNat_lt, dg_nat, dg_nat]; omega
    have e2 : (dg x (10 ^ k) == dg y (10 ^ k)) = decide (x / 10 ^ k % 10 = y / 10 ^ k % 10) := by
      rw [Bool.eq_iff_iff, beq_iff_eq, decide_eq_true_iff, ← UInt8.toNat_inj, dg_nat, dg_nat]; omega
    show (decide (dg x (10 ^ k) < dg y (10 ^ k)) || (dg x (10 ^ k) == dg y (10 ^ k) && Op.bytesLess (sufL x k) (sufL y k))) = _
    rw [e1, e2, less_suf x y k, less_num (Nat.mod_lt _ (Nat.pow_pos (by decide))) (Nat.mod_lt _ (Nat.pow_pos (by decide))), Nat.pow_succ, Nat.mod_mul, Nat.mod_mul]
    congr 2 <;> exact Nat.add_comm _ _
theorem less_name {x y : Nat} (hx : x ≤ 99999999) (hy : y ≤ 99999999) : Op.bytesLess (nameL x) (nameL y) = decide (x < y) := by
  have h := less_suf x y 8
  rw [Nat.mod_eq_of_lt (show x < 10 ^ 8 by omega), Nat.mod_eq_of_lt (show y < 10 ^ 8 by omega)] at h
  rw [← h]
  show Op.bytesLess (115 :: 101 :: 103 :: 45 :: sufL x 8) (115 :: 101 :: 103 :: 45 :: sufL y 8) = _
  generalize sufL x 8 = l
  generalize sufL y 8 = m
  simp [Op.bytesLess]
/-- What a segment begins with. -/
def headA (n : Nat) : ByteArray := ⟨#[76, 65, 68, 69]⟩ ++ ⟨(eigL n).toArray⟩ ++ ⟨#[0, 0, 0, 0]⟩
def headS (n : Nat) : ByteArray := headA n ++ ⟨(eigL (moreN 0 (headA n))).toArray⟩
theorem headA_size (n : Nat) : (headA n).size = 12 := by
  unfold headA; rw [ByteArray.size_append, ByteArray.size_append]; rfl
theorem headS_size (n : Nat) : (headS n).size = 16 := by
  unfold headS; rw [ByteArray.size_append, headA_size]; rfl
theorem headS_list (n : Nat) : (headS n).data.toList = [76, 65, 68, 69] ++ (eigL n ++ ([0, 0, 0, 0] ++ eigL (moreN 0 (headA n)))) := by
  unfold headS; rw [ba_toList]; conv => lhs; arg 1; unfold headA
  rw [ba_toList, ba_toList]; simp
theorem headS_inj {n m : Nat} (hn : n < 4294967296) (hm : m < 4294967296) (h : (headS n).data.toList = (headS m).data.toList) : n = m := by
  rw [headS_list, headS_list] at h
  have h2 := List.append_cancel_left h
  have h3 := List.append_inj_left h2 rfl
  have := congrArg leN h3
  rwa [leN_eigL n hn, leN_eigL m hm] at this
/-- What head.Check answers. -/
def chkM (s h : List UInt8) : Int := if Lib.hasPrefix s h then 1 else if Lib.hasPrefix h s then 3 else 4

end Go.Proofs.YtnkmaiipijmncaaDoor
