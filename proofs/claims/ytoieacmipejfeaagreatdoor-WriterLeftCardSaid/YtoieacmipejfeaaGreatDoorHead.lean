/- HeadM, Head: in one text. -/
import Derived.Test.YtoieacmipejfeaaGreatDoorRef
import Derived.Test.YtoieacmipejfeaaGreatDoorCrc
import Derived.Lib.AtoiAll
import Derived.Lib.Strings
import Derived.Test.YtoieacmipejfeaaGreatDoorKnown1
import Derived.Test.YtoieacmipejfeaaGreatDoorShelf
import Derived.Maps.AppendAt
import Derived.Laws.OwnMore
import Derived.Lib.SlBytesConst
import Derived.ArgAppend
/- Names and heads of segments, as plain lists of bytes. -/
namespace Go.Proofs.YtoieacmipejfeaaGreatDoor
open Go.RowKit Go.Shelf
set_option linter.unusedVariables false

def dg (n u : Nat) : UInt8 := UInt8.ofNat (48 + n / u % 10)
theorem dg_nat (n u : Nat) : (dg n u).toNat = 48 + n / u % 10 := by
  unfold dg; rw [UInt8.toNat_ofNat']; omega
def digL (n : Nat) : List UInt8 := [dg n 10000000, dg n 1000000, dg n 100000, dg n 10000, dg n 1000, dg n 100, dg n 10, dg n 1]
def nameL (n : Nat) : List UInt8 := [115, 101, 103, 45] ++ digL n
theorem nameL_len (n : Nat) : (nameL n).length = 12 := rfl
/-- The number that a segment is given, held within what a name can say. -/
def heldN (i : Int) : Nat := (min (max i 1) 99999999).toNat
theorem heldN_bd (i : Int) : 1 ≤ heldN i ∧ heldN i ≤ 99999999 := by unfold heldN; omega
theorem heldN_self {n : Nat} (h1 : 1 ≤ n) (h2 : n ≤ 99999999) : heldN (n : Int) = n := by unfold heldN; omega
/-- What eight digits say. -/
def numL (l : List UInt8) : Nat := l.foldl (fun a c => 10 * a + (c.toNat - 48)) 0
theorem numL_dig {n : Nat} (h : n ≤ 99999999) : numL (digL n) = n := by
  simp only [numL, digL, List.foldl_cons, List.foldl_nil, dg_nat]; omega
theorem digL_inj {n m : Nat} (hn : n ≤ 99999999) (hm : m ≤ 99999999) (h : digL n = digL m) : n = m := by
  have := congrArg numL h; rwa [numL_dig hn, numL_dig hm] at this
theorem nameL_inj {n m : Nat} (hn : n ≤ 99999999) (hm : m ≤ 99999999) (h : nameL n = nameL m) : n = m :=
  digL_inj hn hm (List.append_cancel_left h)
def isDig (c : UInt8) : Bool := decide (48 ≤ c.toNat) && decide (c.toNat ≤ 57)
theorem dg_isDig (n u : Nat) : isDig (dg n u) = true := by
  unfold isDig; rw [dg_nat, Bool.and_eq_true, decide_eq_true_eq, decide_eq_true_eq]; omega
/-- Eight digits are those of their number. -/
theorem digL_num {l : List UInt8} (hl : l.length = 8) (h : ∀ c ∈ l, isDig c = true) : numL l ≤ 99999999 ∧ digL (numL l) = l := by
  match l, hl with
  | [a, b, c, d, e, f, g, k], _ =>
    simp only [List.mem_cons, List.not_mem_nil, or_false, forall_eq_or_imp, forall_eq, isDig, Bool.and_eq_true, decide_eq_true_eq] at h
    have hx : ∀ (x y : UInt8), x.toNat = y.toNat → x = y := fun x y h => UInt8.toNat_inj.1 h
    refine ⟨by simp only [numL, List.foldl_cons, List.foldl_nil]; omega, ?_⟩
    simp only [digL, List.cons.injEq, and_true]
    refine ⟨hx _ _ ?_, hx _ _ ?_, hx _ _ ?_, hx _ _ ?_, hx _ _ ?_, hx _ _ ?_, hx _ _ ?_, hx _ _ ?_⟩ <;> (rw [dg_nat]; simp only [numL, List.foldl_cons, List.foldl_nil]; omega)
theorem pu_step (acc d : Nat) (r : List UInt8) (hd : d < 10) (ha : acc < 1000000000) : Lib.parseUint10 acc (UInt8.ofNat (48 + d) :: r) = Lib.parseUint10 (acc * 10 + d) r := by
  have h : (UInt8.ofNat (48 + d)).toNat = 48 + d := by rw [UInt8.toNat_ofNat']; omega
  rw [Lib.parseUint10, h, if_pos (by omega), if_neg (by omega), if_neg (by omega), show 48 + d - 48 = d by omega]
/-- strconv.Atoi reads a name's digits. -/
theorem atoi_dig {n : Nat} (h : n ≤ 99999999) : Lib.atoiAll (digL n) = .ok (n : Int) := by
  have hp : Lib.parseMag (digL n) = .ok n := by
    unfold Lib.parseMag
    rw [if_neg (by simp [digL])]
    unfold digL dg
    rw [pu_step _ _ _ (by omega) (by omega), pu_step _ _ _ (by omega) (by omega), pu_step _ _ _ (by omega) (by omega), pu_step _ _ _ (by omega) (by omega), pu_step _ _ _ (by omega) (by omega), pu_step _ _ _ (by omega) (by omega), pu_step _ _ _ (by omega) (by omega), pu_step _ _ _ (by omega) (by omega), Lib.parseUint10]
    congr 1
    omega
  have h0 := dg_nat n 10000000
  unfold Lib.atoiAll
  unfold digL at hp ⊢
  simp only
  rw [if_neg (by omega), hp]
  dsimp only
  rw [if_neg (by omega), if_neg (by omega), if_neg (by omega)]
theorem trim_name (n : Nat) : Lib.trimPrefix (nameL n) [115, 101, 103, 45] = digL n := by
  simp [Lib.trimPrefix, Lib.hasPrefix, nameL, List.isPrefixOf]
/-- What head.ID answers. -/
def idM (l : List UInt8) : Int × Bool :=
  match Lib.atoiAll (Lib.trimPrefix l [115, 101, 103, 45]) with
  | .ok v => if nameL (heldN v) = l then (v, true) else (0, false)
  | _ => (0, false)
theorem idM_name {n : Nat} (h1 : 1 ≤ n) (h2 : n ≤ 99999999) : idM (nameL n) = ((n : Int), true) := by
  unfold idM
  rw [trim_name, atoi_dig h2]
  dsimp only
  rw [heldN_self h1 h2, if_pos rfl]
theorem idM_other {l : List UInt8} (h : ∀ n, 1 ≤ n → n ≤ 99999999 → l ≠ nameL n) : idM l = (0, false) := by
  unfold idM
  split
  · rename_i v hv
    have := heldN_bd v
    rw [if_neg (fun e => h _ this.1 this.2 e.symm)]
  · rfl
theorem idM_cases (l : List UInt8) : (∃ n, 1 ≤ n ∧ n ≤ 99999999 ∧ l = nameL n ∧ idM l = ((n : Int), true)) ∨ ((∀ n, 1 ≤ n → n ≤ 99999999 → l ≠ nameL n) ∧ idM l = (0, false)) := by
  by_cases h : ∃ n, 1 ≤ n ∧ n ≤ 99999999 ∧ l = nameL n
  · obtain ⟨n, h1, h2, rfl⟩ := h
    exact .inl ⟨n, h1, h2, rfl, idM_name h1 h2⟩
  · have h' : ∀ n, 1 ≤ n → n ≤ 99999999 → l ≠ nameL n := fun n h1 h2 e => h ⟨n, h1, h2, e⟩
    exact .inr ⟨h', idM_other h'⟩
/-- Names rise as numbers do. -/
def sufL (x : Nat) : Nat → List UInt8
  | 0 => []
  | k + 1 => dg x (10 ^ k) :: sufL x k
theorem less_num {p q q' r r' : Nat} (hr : r < p) (hr' : r' < p) : (decide (q < q') || (decide (q = q') && decide (r < r'))) = decide (p * q + r < p * q' + r') := by
  rw [Bool.eq_iff_iff]
  simp only [Bool.or_eq_true, Bool.and_eq_true, decide_eq_true_eq]
  constructor
  · rintro (h | ⟨rfl, h⟩)
    · have := Nat.mul_le_mul_left p (show q + 1 ≤ q' from h)
      rw [Nat.mul_succ] at this; omega
    · omega
  · intro h
    rcases Nat.lt_trichotomy q q' with h1 | rfl | h1
    · exact .inl h1
    · exact .inr ⟨rfl, by omega⟩
    · have := Nat.mul_le_mul_left p (show q' + 1 ≤ q from h1)
      rw [Nat.mul_succ] at this; omega
theorem less_suf (x y : Nat) : ∀ k, Op.bytesLess (sufL x k) (sufL y k) = decide (x % 10 ^ k < y % 10 ^ k)
  | 0 => by simp [sufL, Op.bytesLess, Nat.mod_one]
  | k + 1 => by
    have e1 : decide (dg x (10 ^ k) < dg y (10 ^ k)) = decide (x / 10 ^ k % 10 < y / 10 ^ k % 10) := by
      rw [decide_eq_decide, UInt8.lt_iff_toNat_lt, dg_nat, dg_nat]; omega
    have e2 : (dg x (10 ^ k) == dg y (10 ^ k)) = decide (x / 10 ^ k % 10 = y / 10 ^ k % 10) := by
      rw [Bool.eq_iff_iff, beq_iff_eq, decide_eq_true_iff, ← UInt8.toNat_inj, dg_nat, dg_nat]; omega
    show (decide (dg x (10 ^ k) < dg y (10 ^ k)) || (dg x (10 ^ k) == dg y (10 ^ k) && Op.bytesLess (sufL x k) (sufL y k))) = _
    rw [e1, e2, less_suf x y k, less_num (Nat.mod_lt _ (Nat.pow_pos (by decide))) (Nat.mod_lt _ (Nat.pow_pos (by decide))), Nat.pow_succ, Nat.mod_mul, Nat.mod_mul]
    congr 2 <;> exact Nat.add_comm _ _
theorem less_name {x y : Nat} (hx : x ≤ 99999999) (hy : y ≤ 99999999) : Op.bytesLess (nameL x) (nameL y) = decide (x < y) := by
  have h := less_suf x y 8
  rw [Nat.mod_eq_of_lt (show x < 10 ^ 8 by omega), Nat.mod_eq_of_lt (show y < 10 ^ 8 by omega)] at h
  rw [← h]
  show Op.bytesLess (115 :: 101 :: 103 :: 45 :: sufL x 8) (115 :: 101 :: 103 :: 45 :: sufL y 8) = _
  generalize sufL x 8 = l
  generalize sufL y 8 = m
  simp [Op.bytesLess]
/-- What a segment begins with. -/
def headA (n : Nat) : ByteArray := ⟨#[76, 65, 68, 69]⟩ ++ ⟨(eigL n).toArray⟩ ++ ⟨#[0, 0, 0, 0]⟩
def headS (n : Nat) : ByteArray := headA n ++ ⟨(eigL (moreN 0 (headA n))).toArray⟩
theorem headA_size (n : Nat) : (headA n).size = 12 := by
  unfold headA; rw [ByteArray.size_append, ByteArray.size_append]; rfl
theorem headS_size (n : Nat) : (headS n).size = 16 := by
  unfold headS; rw [ByteArray.size_append, headA_size]; rfl
theorem headS_list (n : Nat) : (headS n).data.toList = [76, 65, 68, 69] ++ (eigL n ++ ([0, 0, 0, 0] ++ eigL (moreN 0 (headA n)))) := by
  unfold headS; rw [ba_toList]; conv => lhs; arg 1; unfold headA
  rw [ba_toList, ba_toList]; simp
theorem headS_inj {n m : Nat} (hn : n < 4294967296) (hm : m < 4294967296) (h : (headS n).data.toList = (headS m).data.toList) : n = m := by
  rw [headS_list, headS_list] at h
  have h2 := List.append_cancel_left h
  have h3 := List.append_inj_left h2 rfl
  have := congrArg leN h3
  rwa [leN_eigL n hn, leN_eigL m hm] at this
/-- What head.Check answers. -/
def chkM (s h : List UInt8) : Int := if Lib.hasPrefix s h then 1 else if Lib.hasPrefix h s then 3 else 4

end Go.Proofs.YtoieacmipejfeaaGreatDoor

/- The contracts of package head's functions but ID: held, digits, Name, Bytes, Check. -/
namespace Go.Proofs.YtoieacmipejfeaaGreatDoor
open Go.RowKit Go.Shelf
set_option linter.unusedVariables false
attribute [local go_sem] Oper.semAt_some wide_fn wide_round_fn

theorem hbel_drewN {n : Nat} {w W : World} (h : Below n w W) (k : Nat) : Below n w (W.drewN k) := ⟨h.os, h.tape, h.output, h.size, h.block⟩
theorem heldN_eq (i : Int) : ((heldN i : Nat) : Int) = min (max i 1) 99999999 := by unfold heldN; omega
theorem held_any (i : Int) (w : World) : Calls Tryz.prog 62 #[.int .i64 i] w fun e w' => e = .returned (.int .i64 (heldN i)) ∧ w' = w := by
  rw [heldN_eq]
  go_enter Tryz.func62, Tryz.ntmps62
  go_wp2
  go_ret
  exact ⟨rfl, rfl⟩

theorem quo_bd {m u : Nat} (hm : m ≤ 99999999) : 0 ≤ (m : Int) / (u : Int) ∧ (m : Int) / (u : Int) ≤ 99999999 := by
  have h1 : (m : Int) / (u : Int) = ((m / u : Nat) : Int) := by simp
  have h2 := Nat.div_le_self m u
  rw [h1]
  exact ⟨Int.natCast_nonneg _, Int.ofNat_le.2 (Nat.le_trans h2 hm)⟩
def unK (k : Nat) : Nat := [10000000, 1000000, 100000, 10000, 1000, 100, 10, 1, 0].getD k 0
set_option maxRecDepth 100000 in
set_option maxHeartbeats 1000000 in
theorem digits_iter (Bn m : Nat) (hm : m ≤ 99999999) (S : Nat → Prop) (hS : S Bn) (w0 : World) (hBn : w0.cell? ⟨Bn, 0, none⟩ = some (.int .i64 m)) :
    Iter Tryz.prog 75 #[.pointer (some ⟨Bn, 0, none⟩)] (fun x : UInt8 => #[.int .u8 x.toNat]) (digL m) S (fun _ => False) w0 := by
  intro l J Jx W hW _ _ hY h0
  refine callsIn_of_wp Tryz.func75 rfl trivial ?_ rfl
  simp only [Tryz.ntmps75, List.size_toArray, List.length_cons, List.length_nil, Nat.reduceAdd, Nat.reduceSub, Array.replicate_succ, Array.replicate_zero, List.push_toArray, List.append_toArray, List.nil_append, List.cons_append]
  gi_wp2
  gi_loopw [3] (fun p wr => ∃ (k : Nat), p = .int .i64 (unK k : Nat) ∧ k ≤ 8 ∧ J ((digL m).take k) wr ∧ Rd W.heap.size S W wr)
    (fun p _ => (intOf p).toNat)
  case atStart =>
    exact ⟨0, rfl, by omega, h0, Rd.refl _ _ _⟩
  case round =>
    obtain ⟨k, rfl, hk, hJ, hR⟩ := hrel
    have hc := hR.cell (hW.cell hBn hS) hS
    by_cases h8 : k < 8
    · have HX := Lib.hid (show digL m = (digL m).take k ++ (dg m (unK k) :: (digL m).drop (k + 1)) by
        match k, h8 with
        | 0, _ => rfl
        | 1, _ => rfl
        | 2, _ => rfl
        | 3, _ => rfl
        | 4, _ => rfl
        | 5, _ => rfl
        | 6, _ => rfl
        | 7, _ => rfl)
      have HT := Lib.hid (show (digL m).take (k + 1) = (digL m).take k ++ [dg m (unK k)] by
        match k, h8 with
        | 0, _ => rfl
        | 1, _ => rfl
        | 2, _ => rfl
        | 3, _ => rfl
        | 4, _ => rfl
        | 5, _ => rfl
        | 6, _ => rfl
        | 7, _ => rfl)
      have HU := Lib.hid (show unK (k + 1) = unK k / 10 ∧ 1 ≤ unK k ∧ unK k ≤ 10000000 by
        match k, h8 with
        | 0, _ => decide
        | 1, _ => decide
        | 2, _ => decide
        | 3, _ => decide
        | 4, _ => decide
        | 5, _ => decide
        | 6, _ => decide
        | 7, _ => decide)
      have hy0 := hY _ _ _ wr HX.out hJ
      have HD := Lib.hid (dg_nat m (unK k))
      obtain ⟨u, hu⟩ : ∃ u, u = unK k := ⟨_, rfl⟩
      rw [← hu] at hy0 HD HU HX HT ⊢
      clear hu
      have hu1 : (1 : Int) ≤ (u : Int) := by have := HU.out.2.1; omega
      have hu2 : (u : Int) ≤ 10000000 := by have := HU.out.2.2; omega
      obtain ⟨hq0, hq1⟩ := quo_bd (u := u) hm
      rw [show (((dg m u).toNat : Nat) : Int) = (48 + (m : Int) / (u : Int) % 10) from by rw [HD.out]; simp] at hy0
      obtain ⟨fn, tmps, assign, body, hy, hR1⟩ := hy0
      have hu0 : 0 < u := by omega
      gi_wp2
      refine (roundIn_wide_n hR1).mono ?_
      rintro e W3 (⟨rfl, hJ3, hk3⟩ | ⟨rfl, hJx3⟩)
      · gi_wp2
        go_roundw
        case rel => exact ⟨k + 1, by rw [HU.out.1]; simp, by omega, by rw [HT.out]; exact hJ3, hR.trans hk3⟩
        case measure => simp [intOf]; omega
      · gi_wp2
        refine bodyPost_ret (results_none rfl _ _ _) rfl ?_
        exact ⟨⟨_, rfl⟩, .inr ⟨_, _, _, HX.out, hJx3⟩⟩
    · obtain rfl : k = 8 := by omega
      gi_wp2
      refine bodyPost_end (results_none rfl _ _ _) rfl ?_
      exact ⟨⟨_, rfl⟩, .inl (by simpa [digL] using hJ)⟩

theorem digits_makes (m : Nat) (hm : m ≤ 99999999) (w : World) : Makes Tryz.prog 61 #[.int .i64 m] w 75 (fun x : UInt8 => #[.int .u8 x.toNat]) (digL m) := by
  unfold Makes
  go_enter Tryz.func61, Tryz.ntmps61
  go_wp2
  go_ret
  exact ⟨_, rfl, (Below.refl _ _).alloc (Nat.le_refl _) _, digits_iter _ m hm _ ⟨Nat.le_refl _, by simp⟩ _ (Boxed.new w _ _).cell⟩

/-- As collI; but the slice's row is at first a literal's, at n0, to which nothing is appended in place. -/
def litI (w w1 : World) (n0 b : Nat) (t e : TypeId) (lit : List Value) (n : Nat) (ys : List Value) (W : World) : Prop :=
  (n = 0 ∧ (Boxed W b t (.slice (some ⟨n0, 0, none⟩) lit.length lit.length) ∧ ((∀ j u, lit[j]? = some u → W.cell? ⟨n0, j, none⟩ = some u) ∧ (Below w.heap.size w W ∧ w1.heap.size ≤ W.heap.size)))) ∨
  (n ≠ 0 ∧ collI w w1 b t e 1 (lit.length + n) (lit ++ ys) W)
theorem litI_stab {w w1 : World} {n0 b : Nat} {t e : TypeId} {lit : List Value} {n : Nat} {ys : List Value} (h : w.heap.size ≤ w1.heap.size) : Stab w1.heap.size (fun _ => False) (litI w w1 n0 b t e lit n ys) :=
  ((Stab.pure _).and ((Stab.boxed id).and ((Stab.all fun j => Stab.all fun u => Stab.imp fun _ => Stab.cell id).and ((Stab.below (Nat.le_refl _) h (fun _ h => h.elim)).and Stab.size)))).or ((Stab.pure _).and (collI_stab h))
theorem wpListIn_append_arg1 {F : Fence} {n : Nat} {P : Program} (w : World) {ops : Array Oper} {rest : List Oper} {o : Oper} {a : Act} {Q : Exit → Act → World → Prop}
    (hg : o.guard = none) (s x : Operand) (t : TypeId) (hop : o.op = Op.call { callee := Callee.builtin Builtin.append, args := #[s, x], argTypes := #[t, t] })
    (e : TypeId) (i : TypeInfo) (z : Value) (size bytes : Nat) (h1 : P.underlying t = some (.slice e)) (h2 : P.info? e = some i) (h3 : i.zero = some z) (h4 : i.size = size) (h5 : i.bytes = bytes) (h6 : z.cells.size = size) (h7 : 0 < size)
    (b : Addr) (k cap : Nat) (xs : List Value) (hs : a.eval s = .slice (some b) k cap) (hlo : xs.length = k * size) (holds : ∀ j u, xs[j]? = some u → w.cell? (b.add j) = some u) (ad : Addr) (m c : Nat) (news : List Value) (hx : a.eval x = .slice (some ad) m c) (hn : news.length = m * size)
    (hc : ∀ j u, news[j]? = some u → w.cell? (ad.add j) = some u) (hgr : cap < k + m) (b1 : k + m ≤ maxLen) (b2 : (k + m) * bytes ≤ 140737488355328)
    (hK : ∀ v' w', w'.ownsRow w.heap.size e size v' (k + m) (xs ++ news) → w.grownBy w' none → wpListIn F n P ops Q rest (a.put o.dst v') w') :
    wpListIn F n P ops Q (o :: rest) a w := by
  refine wpListIn_plain hg fun K hK' => ?_
  obtain ⟨v', w', hrun, r1, r2⟩ := run_append_arg_grows (P := P) (w := w) t o.type e i z size bytes h1 h2 h3 h4 h5 h6 h7 b k cap xs hlo holds ad m c news hn hc hgr b1 b2
  unfold Oper.wpIn
  refine ⟨?_, ?_⟩
  · simp [Oper.about, hop, resolve, Target.leads, Sem.run_pure]
  · rw [Oper.semAt_plain F _ _ (by rw [hop]; intro c hc'; cases hc')]
    simp [execOp, hop, resolve, invoke, builtin, hs, hx, hrun, Result.andThen]
    exact hK' _ _ (hK v' w' r1 r2)
theorem boxed_grown {W w1 : World} {n0 B1 b B0 : Nat} {S : Nat → Prop} {t e : TypeId} {size : Nat} {v v' : Value} {m : Nat} {ys : List Value} {tmp : Obj}
    (hv : Boxed W b t v) (hte : t ≠ e) (hn : n0 ≤ B1) (hs : B1 ≤ W.heap.size) (hB : n0 ≤ b) (hSb : ¬ S b) (hown' : w1.ownsRow (W.alloc tmp).heap.size e size v' m ys) (hgrow : (W.alloc tmp).grownBy w1 none) :
    Boxed w1 b t v ∧ Boxed (w1.setCell ⟨b, 0, none⟩ v') b t v' ∧ (w1.setCell ⟨b, 0, none⟩ v').ownsRow B1 e size v' m ys ∧ Rd B0 S W (w1.setCell ⟨b, 0, none⟩ v') ∧ Below n0 W (w1.setCell ⟨b, 0, none⟩ v') := by
  have h1 : Boxed w1 b t v := (hv.alloc tmp).kept hgrow (by simp)
  have ho := ownsRow_base hown' (show B1 ≤ _ by simp; omega)
  exact ⟨h1, h1.set v', ho.kept (grownBy_setCell' w1 b v') (.inr (h1.not_row hte ho).symm), (((Rd.refl B0 S W).alloc tmp).grown hgrow fun k e => by cases e).setBox h1 hSb v',
    ((((Below.refl n0 W).alloc (by omega) tmp).grown hgrow (by simp; omega) fun k e => by cases e).setCell (p := ⟨b, 0, none⟩) hB v')⟩

set_option maxRecDepth 100000 in
set_option maxHeartbeats 1000000 in
theorem name_any (i : Int) (w : World) : Gives Tryz.prog 44 #[.int .i64 i] w (.string ⟨(nameL (heldN i)).toArray⟩) := by
  obtain ⟨i0, hi, hz0, hz1, hz2⟩ := info_parts Tryz.infoU8
  refine (callsIn_wide (n := 9)).1 ?_
  refine callsIn_of_wp_marks Tryz.func44 rfl trivial ?_ rfl
  simp only [Tryz.ntmps44, List.size_toArray, List.length_cons, List.length_nil, Nat.reduceAdd, Nat.reduceSub, Array.replicate_succ, Array.replicate_zero, List.push_toArray, List.append_toArray, List.nil_append, List.cons_append]
  have HH := Lib.hid (held_any i)
  have HD := Lib.hid (digits_makes (heldN i) (heldN_bd i).2)
  generalize heldN i = q at *
  have kc := Lib.run_convert_bytes_const (P := Tryz.prog) w 55 5 #[.int .u8 115, .int .u8 101, .int .u8 103, .int .u8 45] 4 4 Tryz.underlying55 Tryz.underlying5
  have hA0 := bel_alloc (bel_alloc (Below.refl w.heap.size w) (.cells #[.int .u8 115, .int .u8 101, .int .u8 103, .int .u8 45] 5 (4, 5))) (.cells #[.slice (some ⟨w.heap.size, 0, none⟩) 4 4] 55)
  have bA := Boxed.new (w.alloc (.cells #[.int .u8 115, .int .u8 101, .int .u8 103, .int .u8 45] 5 (4, 5))) 55 (.slice (some ⟨w.heap.size, 0, none⟩) 4 4)
  have lA := (bel_alloc (Below.refl (w.alloc (.cells #[.int .u8 115, .int .u8 101, .int .u8 103, .int .u8 45] 5 (4, 5))).heap.size _) (.cells #[.slice (some ⟨w.heap.size, 0, none⟩) 4 4] 55)).block w.heap.size (by simp) |>.trans (World.alloc_heap_new w _)
  rw [World.size_alloc] at bA
  gi_wp2_with (first
    | (gi_at_call 62; refine (callsIn_wide.2 (HH.out _)).mono ?_; rintro e w1 ⟨rfl, rfl⟩)
    | (gi_at_call 61; refine (callsIn_wide.2 (HD.out _)).mono ?_; rintro e w1 ⟨lb, rfl, hB1, hI1⟩))
  have hz : ((w.alloc (.cells #[.int .u8 115, .int .u8 101, .int .u8 103, .int .u8 45] 5 (4, 5))).alloc (.cells #[.slice (some ⟨w.heap.size, 0, none⟩) 4 4] 55)).heap.size = w.heap.size + 2 := by simp
  have bO := boxed_below bA hB1 (by rw [hz]; omega)
  have lO := (hB1.block w.heap.size (by rw [hz]; omega)).trans lA
  rw [hz] at hB1 hI1
  replace hB1 := hA0.trans (hB1.mono (by omega))
  have hlit : ∀ j u, [Value.int .u8 115, .int .u8 101, .int .u8 103, .int .u8 45][j]? = some u → w1.cell? ⟨w.heap.size, j, none⟩ = some u := fun j u h => by
    rw [cell_of_row _ _ j _ _ _ lO]; simpa using h
  clear bA lA hA0 hz kc lO
  refine range_outer rfl (enters_of Tryz.func75 (by kernel_rfl) rfl) hI1 (fun _ => rfl) span_lt (fun _ h => h.elim)
    (fun pre W => litI w w1 w.heap.size (w.heap.size + 1) 55 5 [.int .u8 115, .int .u8 101, .int .u8 103, .int .u8 45] pre.length (pre.map vb) W) (fun _ _ _ => False) (fun _ => litI_stab hB1.size) (fun _ _ => Stab.pure _) (.inl ⟨rfl, bO, hlit, hB1, Nat.le_refl _⟩) ?hr ?hd (fun _ _ _ _ _ _ h => h.elim)
  case hr =>
    clear hlit bO
    rintro l pre x suf W hx hl hi1 hrec
    gi_wp2
    refine rdThen_mk _ (litI_stab hB1.size) hi1 (Rd.refl _ _ _) ?_
    clear hi1 hrec W
    have hpl : pre.length < 8 := by have := congrArg List.length hx; simp [digL] at this; omega
    have hs1 := hB1.size
    rintro W (⟨hp0, hv, hlit, hB, hs⟩ | ⟨hp1, v, hv, hrow, hB, hs⟩) hrec
    · have hc := hv.cell
      have hlit2 : ∀ (o : Obj) j u, [Value.int .u8 115, .int .u8 101, .int .u8 103, .int .u8 45][j]? = some u → (W.alloc o).cell? ((⟨w.heap.size, 0, none⟩ : Addr).add j) = some u := fun o j u h => by
        rw [show (⟨w.heap.size, 0, none⟩ : Addr).add j = ⟨w.heap.size, j, none⟩ from by cases j <;> simp [Addr.add]]
        exact (Below.cell (bel_alloc (Below.refl W.heap.size W) o) (p := ⟨w.heap.size, j, none⟩) (by have := hv.lt; show w.heap.size < W.heap.size; omega)).trans (hlit j u h)
      have HP := Lib.hid hp0
      clear hlit hp0
      gi_wp2_with (gi_at_builtin; refine wpListIn_append_arg1 _ rfl _ _ 55 rfl 5 i0 (.int .u8 0) 1 1 Tryz.underlying55 hi hz0 hz1 hz2 rfl (by decide) ⟨w.heap.size, 0, none⟩ 4 4 [.int .u8 115, .int .u8 101, .int .u8 103, .int .u8 45] rfl rfl (hlit2 _) ⟨W.heap.size, 0, none⟩ 1 1 [vb x] rfl rfl (cell_one_new _ _ _) (by omega) (by unfold maxLen; omega) (by omega) ?_; intro v' w2 hown' hgrow; obtain ⟨g', cap', rfl⟩ := ownsRow_succ (k := 4) hown'; obtain ⟨hv1, hv2, hr2, hk2, hb2⟩ := boxed_grown (n0 := w.heap.size) (B1 := w1.heap.size) (B0 := w1.heap.size) (S := span (w.heap.size + 2) w1.heap.size) hv (by decide) hs1 hs (by omega) (not_span_lt (by omega)) hown' hgrow; have hc1 := hv1.cell; have hf1 := hv1.frozen)
      refine ⟨hk2, .inr ⟨by simp, _, hv2, ?_, hB.trans hb2, Nat.le_trans hs hk2.size⟩⟩
      have h0 := List.eq_nil_of_length_eq_zero HP.out
      subst h0
      exact hr2
    · have hc := hv.cell
      gi_wp2_with (gi_at_builtin; refine wpListIn_append_own _ rfl _ _ 55 rfl w1.heap.size 5 i0 (.int .u8 0) 1 1 Tryz.underlying55 hi hz0 hz1 hz2 rfl (by decide) _ _ _ rfl (hrow.alloc _) ⟨W.heap.size, 0, none⟩ 1 1 [vb x] rfl rfl (cell_one_new _ _ _) (by simp [Value.oneCell']) (by unfold maxLen; simp; omega) (by simp; omega) (by simp; omega) ?_; intro v' w2 hown' hgrow _; obtain ⟨g', cap', rfl⟩ := ownsRow_succ hown'; obtain ⟨hv1, hv2, hr2, hk2, hb2⟩ := boxed_appended (n₀ := w.heap.size) (B0 := w1.heap.size) (S := span (w.heap.size + 2) w1.heap.size) hv (by decide) hrow hB1.size hs (by omega) (not_span_lt (by omega)) not_span_ge hown' hgrow; have hc1 := hv1.cell; have hf1 := hv1.frozen)
      exact ⟨hk2, .inr ⟨by simp, _, hv2, by simpa [Nat.add_assoc] using hr2, hB.trans hb2, Nat.le_trans hs hk2.size⟩⟩
  case hd =>
    rintro W (⟨hp0, _⟩ | ⟨hp1, v, hv, hrow, hB, hs⟩) hD
    · simp [digL] at hp0
    · have hc := hv.cell
      replace hrow : W.ownsRow w1.heap.size 5 1 v 12 ((nameL q).map vb) := hrow
      have hcv := run_string_owned (P := Tryz.prog) (src := 55) (dst := 9) Tryz.underlying55 Tryz.underlying5 Tryz.underlying9 (l := nameL q) hrow
      gi_wp2
      exact leave_one hD (results_tmp rfl _ _ _) ⟨rfl, below_putObj hB (Nat.le_refl _) hB1.size _⟩


theorem giv_same {P : Program} {f : FuncId} {args : Array Value} {w : World} {v : Value} (h : Calls P f args w fun e w' => e = .returned v ∧ w' = w) : Gives P f args w v := h.mono fun e w' ⟨he, hw⟩ => ⟨he, by rw [hw]; exact Below.refl _ _⟩
set_option maxRecDepth 100000 in
set_option maxHeartbeats 1000000 in
theorem headBytes_any (i : Int) (w : World) : Gives Tryz.prog 69 #[.int .i64 i] w (.string (headS (heldN i))) := by
  have HH := Lib.hid (held_any i)
  have hb := heldN_bd i
  have G1 := Lib.hid (fixed_any (heldN i) (by omega))
  have G2 := Lib.hid (of_at (headA (heldN i)) (by rw [headA_size]; decide))
  have G3 := Lib.hid (fixed_any (moreN 0 (headA (heldN i))) (moreN_lt _ _))
  have HS := Lib.hid (show headA (heldN i) ++ ⟨(eigL (moreN 0 (headA (heldN i)))).toArray⟩ = headS (heldN i) from rfl)
  have HA := Lib.hid (show (⟨#[76, 65, 68, 69]⟩ : ByteArray) ++ ⟨(eigL (heldN i)).toArray⟩ ++ ⟨#[0, 0, 0, 0]⟩ = headA (heldN i) from rfl)
  have hx1 : (0 : Int) ≤ (heldN i : Int) := by omega
  have hx2 : (heldN i : Int) ≤ 99999999 := by omega
  have hs1 : (((⟨(eigL (heldN i)).toArray⟩ : ByteArray).size : Nat) : Int) ≤ 4 := by show ((4 : Nat) : Int) ≤ 4; omega
  have hs2 : (((⟨(eigL (moreN 0 (headA (heldN i)))).toArray⟩ : ByteArray).size : Nat) : Int) ≤ 4 := by show ((4 : Nat) : Int) ≤ 4; omega
  have hs3 : (((headA (heldN i)).size : Nat) : Int) ≤ 12 := by rw [headA_size]; omega
  generalize headS (heldN i) = s at *
  generalize headA (heldN i) = a at *
  generalize hm : moreN 0 a = m at *
  generalize heldN i = q at *
  generalize (⟨(eigL q).toArray⟩ : ByteArray) = e1 at *
  generalize (⟨(eigL m).toArray⟩ : ByteArray) = e2 at *
  clear hb hm
  unfold Gives
  go_enter Tryz.func69, Tryz.ntmps69
  go_wp2_with (first
    | (go_at_call 62; ((with_reducible refine (HH.out _).mono ?_); rintro e w1 ⟨rfl, rfl⟩))
    | (go_at_call 72; ((with_reducible refine (G1.out _).mono ?_); rintro e w1 ⟨rfl, hB1⟩))
    | (go_at_call 73; (rw [HA.out]; (with_reducible refine (G2.out _).mono ?_); rintro e w2 ⟨rfl, hB2⟩))
    | (go_at_call 72; ((with_reducible refine (G3.out _).mono ?_); rintro e w3 ⟨rfl, hB3⟩)))
  go_ret
  exact ⟨by rw [HS.out]; rfl, bel2 (bel2 hB1 hB2) hB3⟩

end Go.Proofs.YtoieacmipejfeaaGreatDoor
