/- Get, Read: in one text. -/
import Derived.Test.YtflaanffjjidaaaKit
import Derived.Test.YtflaanffjjidaaaCode
import Derived.Test.YtflaanffjjidaaaRegion
/- The contracts of package code's functions that read: Get. -/
namespace Go.Proofs.Ytflaanffjjidaaa
open Go.RowKit Go.Shelf
set_option linter.unusedVariables false
attribute [local go_sem] Oper.semAt_some wide_fn wide_round_fn

/-- The number at the beginning of bytes, how many bytes it has, what is wrong; N: what k bytes ahead made. -/
def getA (k N : Nat) : List UInt8 → Nat × Nat × Nat
  | [] => (0, 0, 10)
  | c :: r => if c.toNat < 128 then (if c.toNat = 0 ∧ 0 < k then (0, 0, 11) else (N + c.toNat * 128 ^ k, k + 1, 0)) else if k = 8 then (0, 0, 11) else getA (k + 1) (N + c.toNat % 128 * 128 ^ k) r
def getL (s : List UInt8) : Nat × Nat × Nat := getA 0 0 s

abbrev getB (w : World) (a b c : Int) (N : Nat) : List (Nat × TypeId × Value) :=
  [(w.heap.size, 3, .int .i64 a), (w.heap.size + 1, 3, .int .i64 b), (w.heap.size + 1 + 1, 90, .int .i64 c), (w.heap.size + 1 + 1 + 1, 3, .int .i64 N)]

theorem getB_store {w W : World} {x y z : Int} {N : Nat} (h : boxesI w (getB w x y z N) W) (B : Nat) (a b c : Int) :
    Rd B (fun _ => False) W (((W.setCell ⟨w.heap.size, 0, none⟩ (.int .i64 a)).setCell ⟨w.heap.size + 1, 0, none⟩ (.int .i64 b)).setCell ⟨w.heap.size + 1 + 1, 0, none⟩ (.int .i64 c)) ∧
    boxesI w (getB w a b c N) (((W.setCell ⟨w.heap.size, 0, none⟩ (.int .i64 a)).setCell ⟨w.heap.size + 1, 0, none⟩ (.int .i64 b)).setCell ⟨w.heap.size + 1 + 1, 0, none⟩ (.int .i64 c)) := by
  have hb1 := boxesI_put h (by simp; omega) 0 rfl (by simp) (.int .i64 a)
  have hb2 := boxesI_put hb1 (by simp; omega) 1 rfl (by simp) (.int .i64 b)
  have hb3 := boxesI_put hb2 (by simp; omega) 2 rfl (by simp; omega) (.int .i64 c)
  exact ⟨boxesI_rd hb2 (boxesI_rd hb1 (boxesI_rd h (Rd.refl _ _ _) 0 rfl id _) 1 rfl id _) 2 rfl id _, hb3⟩
theorem getB_num {w W : World} {x y z : Int} {N : Nat} (h : boxesI w (getB w x y z N) W) (M : Nat) : boxesI w (getB w x y z M) (W.setCell ⟨w.heap.size + 1 + 1 + 1, 0, none⟩ (.int .i64 M)) :=
  boxesI_put h (by simp; omega) 3 rfl (by simp; omega) (.int .i64 M)

def getI (w : World) (s : List UInt8) (pre : List (Nat × UInt8)) (W : World) : Prop :=
  ∃ N, getL s = getA pre.length N (s.drop pre.length) ∧ N < 128 ^ pre.length ∧ pre.length ≤ 8 ∧ boxesI w (getB w 0 0 0 N) W
def getX (w : World) (s : List UInt8) (c : Code) (W : World) : Prop :=
  ∃ N, c = .ret ∧ boxesI w (getB w (getL s).1 (getL s).2.1 (getL s).2.2 N) W

set_option maxRecDepth 100000 in
set_option maxHeartbeats 1000000 in
theorem get_any (s : ByteArray) (hm : s.size < 9223372036854775808) (w : World) : Gives Try.prog 102 #[.string s] w (.tuple #[.int .i64 (getL s.data.toList).1, .int .i64 (getL s.data.toList).2.1, .int .i64 (getL s.data.toList).2.2]) := by
  have hmx : Try.prog.follows .mixedOrders = true := by kernel_rfl
  refine (callsIn_wide (n := 9)).1 ?_
  refine callsIn_of_wp_marks Try.func102 rfl trivial ?_ rfl
  simp only [Try.ntmps102, List.size_toArray, List.length_cons, List.length_nil, Nat.reduceAdd, Nat.reduceSub, Array.replicate_succ, Array.replicate_zero, List.push_toArray, List.append_toArray, List.nil_append, List.cons_append]
  have b0 := boxesI_alloc (boxesI_alloc (boxesI_alloc (boxesI_alloc (boxesI_nil w) 3 (.int .i64 0)) 3 (.int .i64 0)) 90 (.int .i64 0)) 3 (.int .i64 0)
  simp only [World.size_alloc, List.nil_append, List.cons_append] at b0
  gi_wp2_with (gi_at_call 120; refine (callsIn_wide.2 (front_makes s 9 hm (by omega) _)).mono ?_; rintro e w1 ⟨lb, rfl, hB1, hI1⟩)
  have b1 := boxesI_below b0 hB1
  clear b0 hB1
  simp only [World.size_alloc] at hI1
  refine range_outer rfl (enters_of Try.func133 (by kernel_rfl) rfl) hI1 (fun _ => rfl) span_lt (fun _ h => h.elim)
    (getI w s.data.toList) (fun c _ => getX w s.data.toList c) (fun _ => Stab.ex fun _ => (Stab.pure _).and ((Stab.pure _).and ((Stab.pure _).and (boxesI_stab b1.2.size)))) (fun _ _ => Stab.ex fun _ => (Stab.pure _).and (boxesI_stab b1.2.size)) ⟨0, by simp [getL], by simp, by simp, b1⟩ ?hr ?hd ?hs
  case hr =>
    rintro l pre ⟨i, c⟩ suf W hx hl hi1 hrec
    gi_wp2
    refine rdThen_mk _ (Stab.ex fun _ => (Stab.pure _).and ((Stab.pure _).and ((Stab.pure _).and (boxesI_stab b1.2.size)))) hi1 (Rd.refl _ _ _) ?_
    clear hi1 hrec W
    rintro W ⟨N, hg, hN, hp, hi⟩ hrec
    obtain ⟨h1, h2, h3, h4⟩ := frontL_at hx
    dsimp only at h1 h3
    subst h1
    have hd := Lib.hid (show s.data.toList.drop pre.length = c :: s.data.toList.drop (pre.length + 1) by
      obtain ⟨a, b⟩ := List.getElem?_eq_some_iff.1 h3
      rw [← b, List.getElem_cons_drop])
    have Hg := Lib.hid hg
    clear h3 h4 hx hg
    have hl9 := Lib.hid (show (pre ++ [(pre.length, c)]).length = pre.length + 1 by simp)
    generalize hk : pre.length = k at *
    clear hk
    have hc0 := c.toNat_lt
    have c0 := boxesI_cell hi 0 rfl
    have c1 := boxesI_cell hi 1 rfl
    have c2 := boxesI_cell hi 2 rfl
    have c3 := boxesI_cell hi 3 rfl
    have f0 := boxesI_frozen hi 0 rfl
    have f1 := boxesI_frozen hi 1 rfl
    have f2 := boxesI_frozen hi 2 rfl
    have f3 := boxesI_frozen hi 3 rfl
    dsimp only at c0 c1 c2 c3 f0 f1 f2 f3
    by_cases hc1 : c.toNat < 128
    · by_cases hc2 : c.toNat = 0 ∧ 0 < k
      · have hv := Lib.hid (show getL s.data.toList = (0, 0, 11) by rw [Hg.out, hd.out]; simp [getA, hc2])
        gi_wp2
        obtain ⟨r1, r2⟩ := getB_store hi w1.heap.size 0 0 11
        exact ⟨r1, N, rfl, by rw [hv.out]; exact r2⟩
      · have hv := Lib.hid (show getL s.data.toList = (N + c.toNat * 128 ^ k, k + 1, 0) by rw [Hg.out, hd.out]; simp [getA, hc1, hc2])
        have hw1 : IntKind.i64.wrap (7 * (k : Int)) = 7 * (k : Int) := IntWalk.i64_in _ (by omega)
        have hw0 : (0 : Int) ≤ 7 * (k : Int) := by omega
        have hw3 : min (7 * (k : Int)).toNat 64 = 7 * k := by omega
        by_cases hz : 0 < c.toNat
        · gi_wp2
          refine wpIn_still_tail 8 hmx (by kernel_rfl) (by kernel_rfl) ⟨_, rfl⟩ ?_
          simp only [List.take_succ_cons, List.take_zero, List.drop_succ_cons, List.drop_zero]
          repeat still_step
          refine wpStill_nil ?_
          first | rw [or_seven hN c.toNat_lt hp] | rw [or_seven0 (c := c.toNat) hN (by omega) hp]
          generalize hM : N + c.toNat % 128 * 128 ^ k = M
          have HM := Lib.hid hM
          clear hM
          go_wp2
          refine onlyNormal_mk ?_
          gi_wp2
          obtain ⟨r1, r2⟩ := getB_store (getB_num hi M) w1.heap.size M (k + 1) 0
          refine ⟨(((Rd.refl _ _ _).setBox (boxesI_at hi 3 rfl) id _).trans (by simpa using r1)).drew, M, rfl, ?_⟩
          rw [hv.out, show N + c.toNat * 128 ^ k = M from by rw [← HM.out, Nat.mod_eq_of_lt hc1]]
          exact boxesI_drew (by simpa using r2)
        · have hk0 : k ≤ 0 := by omega
          have hz0 : c.toNat + k < 1 + k := by omega
          clear hc2 hz
          gi_wp2
          refine wpIn_still_tail 8 hmx (by kernel_rfl) (by kernel_rfl) ⟨_, rfl⟩ ?_
          simp only [List.take_succ_cons, List.take_zero, List.drop_succ_cons, List.drop_zero]
          repeat still_step
          refine wpStill_nil ?_
          first | rw [or_seven hN c.toNat_lt hp] | rw [or_seven0 (c := c.toNat) hN (by omega) hp]
          generalize hM : N + c.toNat % 128 * 128 ^ k = M
          have HM := Lib.hid hM
          clear hM
          go_wp2
          refine onlyNormal_mk ?_
          gi_wp2
          obtain ⟨r1, r2⟩ := getB_store (getB_num hi M) w1.heap.size M (k + 1) 0
          refine ⟨(((Rd.refl _ _ _).setBox (boxesI_at hi 3 rfl) id _).trans (by simpa using r1)).drew, M, rfl, ?_⟩
          rw [hv.out, show N + c.toNat * 128 ^ k = M from by rw [← HM.out, Nat.mod_eq_of_lt hc1]]
          exact boxesI_drew (by simpa using r2)
    · by_cases hc8 : k = 8
      · have hv := Lib.hid (show getL s.data.toList = (0, 0, 11) by rw [Hg.out, hd.out]; simp [getA, hc1, hc8])
        have h8 : 8 ≤ k := by omega
        clear hc8
        gi_wp2
        obtain ⟨r1, r2⟩ := getB_store hi w1.heap.size 0 0 11
        exact ⟨r1, N, rfl, by rw [hv.out]; exact r2⟩
      · have hv := Lib.hid (show getL s.data.toList = getA (k + 1) (N + c.toNat % 128 * 128 ^ k) (s.data.toList.drop (k + 1)) by rw [Hg.out, hd.out]; simp [getA, hc1, hc8])
        have hw1 : IntKind.i64.wrap (7 * (k : Int)) = 7 * (k : Int) := IntWalk.i64_in _ (by omega)
        have hw0 : (0 : Int) ≤ 7 * (k : Int) := by omega
        have hw3 : min (7 * (k : Int)).toNat 64 = 7 * k := by omega
        gi_wp2
        refine wpIn_still_tail 8 hmx (by kernel_rfl) (by kernel_rfl) ⟨_, rfl⟩ ?_
        simp only [List.take_succ_cons, List.take_zero, List.drop_succ_cons, List.drop_zero]
        repeat still_step
        refine wpStill_nil ?_
        rw [or_seven hN c.toNat_lt hp]
        generalize hM : N + c.toNat % 128 * 128 ^ k = M
        have HM := Lib.hid hM
        clear hM
        go_wp2
        refine onlyNormal_mk ?_
        gi_wp2
        refine ⟨((Rd.refl _ _ _).setBox (boxesI_at hi 3 rfl) (not_span_lt (by omega)) _).drew, M, ?_, ?_, ?_, boxesI_drew (getB_num hi M)⟩
        · rw [hl9.out, hv.out, HM.out]
        · rw [hl9.out, ← HM.out, Nat.pow_succ]
          have : c.toNat % 128 * 128 ^ k ≤ 127 * 128 ^ k := Nat.mul_le_mul_right _ (by omega)
          omega
        · rw [hl9.out]; omega
  case hd =>
    rintro W ⟨N, hg, hN, hp, hi⟩ hD
    have hlen : (frontL s.data.toList 9).length = min 9 s.data.toList.length := by simp [frontL]
    have hv := Lib.hid (show getL s.data.toList = (0, 0, 10) by
      rw [hg, List.drop_of_length_le (by omega)]; simp [getA])
    clear hg hN hp hlen
    have c0 := boxesI_cell hi 0 rfl
    have c1 := boxesI_cell hi 1 rfl
    have c2 := boxesI_cell hi 2 rfl
    have f0 := boxesI_frozen hi 0 rfl
    have f1 := boxesI_frozen hi 1 rfl
    have f2 := boxesI_frozen hi 2 rfl
    dsimp only at c0 c1 c2 f0 f1 f2
    gi_wp2
    obtain ⟨r1, r2⟩ := getB_store hi w1.heap.size 0 0 10
    have hD2 := r1.block _ _ hD (.inr ⟨Nat.le_refl _, rfl⟩)
    have c0 := cell_putObj (o' := .deferred none) (boxesI_cell r2 0 rfl) hD2 rfl
    have c1 := cell_putObj (o' := .deferred none) (boxesI_cell r2 1 rfl) hD2 rfl
    have c2 := cell_putObj (o' := .deferred none) (boxesI_cell r2 2 rfl) hD2 rfl
    dsimp only at c0 c1 c2
    exact leave_one hD2 (by simp [results, Try.results102, go_sem, c0, c1, c2, hv.out]) ⟨rfl, below_putObj r2.2 (Nat.le_refl _) b1.2.size _⟩
  case hs =>
    rintro c pre x suf W hx ⟨N, rfl, hi⟩ hD
    gi_wp2
    have c0 := cell_putObj (o' := .deferred none) (boxesI_cell hi 0 rfl) hD rfl
    have c1 := cell_putObj (o' := .deferred none) (boxesI_cell hi 1 rfl) hD rfl
    have c2 := cell_putObj (o' := .deferred none) (boxesI_cell hi 2 rfl) hD rfl
    dsimp only at c0 c1 c2
    exact leave_one hD (by simp [results, Try.results102, go_sem, c0, c1, c2]) ⟨rfl, below_putObj hi.2 (Nat.le_refl _) b1.2.size _⟩

theorem getA_bound (l : List UInt8) : ∀ (k N : Nat), k ≤ 8 → N < 128 ^ k → (getA k N l).1 < 9223372036854775808 ∧ (getA k N l).2.1 ≤ 9 ∧ (getA k N l).2.1 ≤ k + l.length ∧ (getA k N l).2.2 ≤ 11 := by
  induction l with
  | nil => intro k N hk hN; simp [getA]
  | cons c r ih =>
    intro k N hk hN
    simp only [getA]
    split
    · rename_i hc
      split
      · simp
      · have hp := pow128_le hk
        have : c.toNat * 128 ^ k ≤ 127 * 128 ^ k := Nat.mul_le_mul_right _ (by omega)
        simp; omega
    · split
      · simp
      · rename_i hc hk8
        have hc2 : c.toNat % 128 < 128 := Nat.mod_lt _ (by decide)
        have : c.toNat % 128 * 128 ^ k ≤ 127 * 128 ^ k := Nat.mul_le_mul_right _ (by omega)
        obtain ⟨h1, h2, h3, h4⟩ := ih (k + 1) (N + c.toNat % 128 * 128 ^ k) (by omega) (by rw [Nat.pow_succ]; omega)
        refine ⟨h1, h2, ?_, h4⟩
        simp only [List.length_cons]; omega
theorem getL_bound (l : List UInt8) : (getL l).1 < 9223372036854775808 ∧ (getL l).2.1 ≤ 9 ∧ (getL l).2.1 ≤ l.length ∧ (getL l).2.2 ≤ 11 := by
  have := getA_bound l 0 0 (by decide) (by decide)
  simpa [getL] using this

end Go.Proofs.Ytflaanffjjidaaa

/- The contracts of package code's functions that read: Fix, Get, Texts; and Text. -/
namespace Go.Proofs.Ytflaanffjjidaaa
open Go.RowKit Go.Shelf
set_option linter.unusedVariables false
attribute [local go_sem] Oper.semAt_some wide_fn wide_round_fn

set_option maxRecDepth 100000 in
set_option maxHeartbeats 1000000 in
theorem fix_ok (s : ByteArray) (hs : 4 ≤ s.size) (hm : s.size < 9223372036854775808) (w : World) : Gives Try.prog 119 #[.string s] w (.tuple #[.int .u32 (leN (s.data.toList.take 4)), .int .i64 0]) := by
  have hmx : Try.prog.follows .mixedOrders = true := by kernel_rfl
  refine (callsIn_wide (n := 9)).1 ?_
  refine callsIn_of_wp_marks Try.func119 rfl trivial ?_ rfl
  simp only [Try.ntmps119, List.size_toArray, List.length_cons, List.length_nil, Nat.reduceAdd, Nat.reduceSub, Array.replicate_succ, Array.replicate_zero, List.push_toArray, List.append_toArray, List.nil_append, List.cons_append]
  have bO := Boxed.new w 102 (.int .u32 0)
  have hB0 : Below w.heap.size w (w.alloc (.cells #[.int .u32 0] 102)) := (Below.refl _ w).alloc (Nat.le_refl _) _
  gi_wp2_with (gi_at_call 120; refine (callsIn_wide.2 (front_makes s 4 hm (by omega) _)).mono ?_; rintro e w1 ⟨lb, rfl, hB1, hI1⟩)
  rw [World.size_alloc] at hB1 hI1
  have bO1 := boxed_below bO hB1 (by omega)
  replace hB1 := hB0.trans (hB1.mono (by omega))
  refine range_outer rfl (enters_of Try.func133 (by kernel_rfl) rfl) hI1 (fun _ => rfl) span_lt (fun _ h => h.elim)
    (fun pre W => boxI w w.heap.size 102 (.int .u32 (leN (pre.map (·.2)))) W) (fun _ _ _ => False) (fun _ => boxI_stab hB1.size) (fun _ _ => Stab.pure _) ⟨bO1, hB1⟩ ?hr ?hd (fun _ _ _ _ _ _ h => h.elim)
  case hr =>
    rintro l pre ⟨i, c⟩ suf W hx hl hi1 hrec
    gi_wp2
    refine rdThen_mk _ (boxI_stab hB1.size) hi1 (Rd.refl _ _ _) ?_
    clear hi1 hrec W
    rintro W hi hrec
    have hc := hi.1.cell
    have hf := hi.1.frozen
    obtain ⟨h1, h2, h3, h4⟩ := frontL_at hx
    dsimp only at h1
    subst h1
    have hlt := leN_lt (pre.map (·.2))
    have hsn := Lib.hid (leN_snoc (pre.map (·.2)) c)
    rw [List.length_map] at hlt hsn
    clear h3 h4 hx
    generalize hN : leN (pre.map (·.2)) = N at *
    generalize hk : pre.length = k at *
    have HN := Lib.hid hN
    clear hN hk
    have hw1 : IntKind.i64.wrap (8 * (k : Int)) = 8 * (k : Int) := IntWalk.i64_in _ (by omega)
    have hw0 : (0 : Int) ≤ 8 * (k : Int) := by omega
    have hw2 : IntKind.u32.wrap (c.toNat : Int) = (c.toNat : Int) := by have := c.toNat_lt; simp [IntKind.wrap, IntKind.bits, IntKind.signed]; omega
    have hw3 : min (8 * (k : Int)).toNat 32 = 8 * k := by omega
    gi_wp2
    refine wpIn_still_tail 7 hmx (by kernel_rfl) (by kernel_rfl) ⟨_, rfl⟩ ?_
    simp only [List.take_succ_cons, List.take_zero, List.drop_succ_cons, List.drop_zero]
    repeat still_step
    refine wpStill_nil ?_
    rw [or_byte' hlt c.toNat_lt h2]
    generalize hM : N + c.toNat * 256 ^ k = M at hsn
    clear hM
    go_wp2
    refine onlyNormal_mk ?_
    gi_wp2
    refine ⟨((Rd.refl _ _ _).setBox hi.1 (not_span_lt (by omega)) _).drew, ?_⟩
    show boxI _ _ _ (.int .u32 ((leN ((pre ++ [(k, c)]).map (·.2)) : Nat) : Int)) _
    rw [List.map_append, List.map_cons, List.map_nil, hsn.out]
    exact boxI_drew (boxI_set hi (Nat.le_refl _) _)
  case hd =>
    rintro W hi hD
    have hc := hi.1.cell
    gi_wp2
    refine leave_one hD (results_tmp2 rfl _ _ _) ⟨?_, below_putObj hi.2 (Nat.le_refl _) hB1.size _⟩
    simp [frontL, List.map_map, Function.comp_def]

theorem text_any (s : ByteArray) (hs : s.size + 9 < 9223372036854775808) (w : World) : Gives Try.prog 143 #[.string s] w (.string (⟨(sevL s.size).toArray⟩ ++ s)) := by
  have hl := sevL_len s.size
  have hl2 : (⟨(sevL s.size).toArray⟩ : ByteArray).size = (sevL s.size).length := rfl
  unfold Gives
  go_enter Try.func143, Try.ntmps143
  go_wp2_with (go_at_call 92; refine (put_any _ (by omega) _).mono ?_; rintro e w' ⟨rfl, hB⟩)
  go_ret
  exact ⟨rfl, hB⟩

/-- The text at the beginning of bytes, how many bytes it takes with its number, what is wrong. -/
def textsB (s : ByteArray) (most : Int) : ByteArray × Nat × Nat :=
  if (getL s.data.toList).2.2 ≠ 0 then (⟨#[]⟩, 0, (getL s.data.toList).2.2)
  else if max most 0 < (getL s.data.toList).1 then (⟨#[]⟩, 0, 12)
  else if s.size < (getL s.data.toList).1 + (getL s.data.toList).2.1 then (⟨#[]⟩, 0, 10)
  else (s.extract (getL s.data.toList).2.1 ((getL s.data.toList).2.1 + (getL s.data.toList).1), (getL s.data.toList).2.1 + (getL s.data.toList).1, 0)

theorem texts_any (s : ByteArray) (hs : s.size < 9223372036854775808) (most : Int) (w : World) : Gives Try.prog 148 #[.string s, .int .i64 most] w (.tuple #[.string (textsB s most).1, .int .i64 (textsB s most).2.1, .int .i64 (textsB s most).2.2]) := by
  have hg := get_any s hs w
  obtain ⟨b1, b2, b3, b4⟩ := getL_bound s.data.toList
  have b3' : (getL s.data.toList).2.1 ≤ s.size := by simpa using b3
  clear b3
  obtain ⟨T, hT⟩ : ∃ T, T = textsB s most := ⟨_, rfl⟩
  rw [← hT]
  unfold textsB at hT
  generalize getL s.data.toList = G at *
  obtain ⟨n, k, e⟩ := G
  dsimp only at *
  by_cases he : e = 0
  · rw [if_neg (by simpa using he)] at hT
    subst he
    by_cases hm : max most 0 < (n : Int)
    · rw [if_pos hm] at hT
      subst hT
      by_cases h0 : most < 0
      all_goals
        have hm1 : max most 0 < n → most < n ∧ 0 < n := by omega
        obtain ⟨hm1, hm2⟩ := hm1 hm
        unfold Gives
        go_enter Try.func148, Try.ntmps148
        go_wp2_with (go_at_call 102; refine hg.mono ?_; rintro e w' ⟨rfl, hB⟩)
        go_ret3
        exact ⟨rfl, hB⟩
    · rw [if_neg hm] at hT
      by_cases hl : s.size < n + k
      · rw [if_pos hl] at hT
        subst hT
        by_cases h0 : most < 0
        · exfalso; omega
        · have hm1 : (n : Int) ≤ most := by omega
          clear hm
          unfold Gives
          go_enter Try.func148, Try.ntmps148
          go_wp2_with (go_at_call 102; refine hg.mono ?_; rintro e w' ⟨rfl, hB⟩)
          go_ret3
          exact ⟨rfl, hB⟩
      · rw [if_neg hl] at hT
        subst hT
        by_cases h0 : most < 0
        · have hm1 : n ≤ 0 := by omega
          clear hm
          unfold Gives
          go_enter Try.func148, Try.ntmps148
          go_wp2_with (go_at_call 102; refine hg.mono ?_; rintro e w' ⟨rfl, hB⟩)
          go_ret3
          exact ⟨by push_cast; rfl, hB⟩
        · have hm1 : (n : Int) ≤ most := by omega
          clear hm
          unfold Gives
          go_enter Try.func148, Try.ntmps148
          go_wp2_with (go_at_call 102; refine hg.mono ?_; rintro e w' ⟨rfl, hB⟩)
          go_ret3
          exact ⟨by push_cast; rfl, hB⟩
  · rw [if_pos (by simpa using he)] at hT
    subst hT
    have he1 : 0 < e := by omega
    unfold Gives
    go_enter Try.func148, Try.ntmps148
    go_wp2_with (go_at_call 102; refine hg.mono ?_; rintro e w' ⟨rfl, hB⟩)
    go_ret3
    exact ⟨rfl, hB⟩

end Go.Proofs.Ytflaanffjjidaaa
