/- The contracts of package code's functions: Put, Get, Text, Texts, Fixed, Fix and the iterators that they range over. -/
import Derived.Test.YtoieacmipejfeaaGreatDoorKit
import Derived.Test.YtoieacmipejfeaaGreatDoorProg
namespace Go.Proofs.YtoieacmipejfeaaGreatDoor
open Go.RowKit Go.Shelf
set_option linter.unusedVariables false
attribute [local go_sem] Oper.semAt_some wide_fn wide_round_fn

/-- The bytes of a number, seven bits a byte, the lowest first; at most f and one. -/
def sevF : Nat → Nat → List UInt8
  | 0, n => [UInt8.ofNat n]
  | f + 1, n => if n < 128 then [UInt8.ofNat n] else UInt8.ofNat (n % 128 + 128) :: sevF f (n / 128)
def sevL (n : Nat) : List UInt8 := sevF 8 n
theorem sevF_len (f n : Nat) : (sevF f n).length ≤ f + 1 := by
  induction f generalizing n with
  | zero => simp [sevF]
  | succ f ih => simp only [sevF]; split <;> simp [ih]
theorem sevL_len (n : Nat) : (sevL n).length ≤ 9 := sevF_len 8 n

set_option maxRecDepth 100000 in
set_option maxHeartbeats 1000000 in
theorem sevens_iter (Bn m : Nat) (hm : m < 9223372036854775808) (S : Nat → Prop) (hS : S Bn) (w0 : World) (hBn : w0.cell? ⟨Bn, 0, none⟩ = some (.int .i64 m)) :
    Iter Tryz.prog 93 #[.pointer (some ⟨Bn, 0, none⟩)] (fun x : UInt8 => #[.int .u8 x.toNat]) (sevL m) S (fun _ => False) w0 := by
  intro l J Jx W hW _ _ hY h0
  replace hBn := hW.cell hBn hS
  refine callsIn_of_wp Tryz.func93 rfl trivial ?_ rfl
  simp only [Tryz.ntmps93, List.size_toArray, List.length_cons, List.length_nil, Nat.reduceAdd, Nat.reduceSub, Array.replicate_succ, Array.replicate_zero, List.push_toArray, List.append_toArray, List.nil_append, List.cons_append]
  gi_wp2
  have hq0 : m < 128 ^ 9 := by omega
  gi_loopw [3] (fun p wr => ∃ (pre : List UInt8) (k q : Nat), p = .int .i64 q ∧ sevL m = pre ++ sevF k q ∧ q < 128 ^ (k + 1) ∧ q < 9223372036854775808 ∧ J pre wr)
    (fun p _ => (intOf p).toNat)
  case atStart =>
    exact ⟨[], 8, m, rfl, rfl, hq0, hm, h0⟩
  case round =>
    obtain ⟨pre, k, q, rfl, hx, hq, hq2, hJ⟩ := hrel
    have HX := Lib.hid hx
    clear hx hq0
    by_cases h128 : q < 128
    · have HX2 := Lib.hid (show sevL m = pre ++ (UInt8.ofNat q :: []) by rw [HX.out]; cases k <;> simp [sevF, h128])
      have hy0 := hY pre (UInt8.ofNat q) _ wr HX2.out hJ
      rw [show (((UInt8.ofNat q).toNat : Nat) : Int) = (q : Int) from by simp; omega] at hy0
      obtain ⟨fn, tmps, assign, body, hy, hR⟩ := hy0
      gi_wp2
      refine (roundIn_wide_n hR).mono ?_
      rintro e W3 (⟨rfl, hJ3, -⟩ | ⟨rfl, hJx3⟩)
      · gi_wp2
        refine bodyPost_end (results_none rfl _ _ _) rfl ?_
        exact ⟨⟨_, rfl⟩, .inl (by rw [HX2.out]; exact hJ3)⟩
      · gi_wp2
        refine bodyPost_end (results_none rfl _ _ _) rfl ?_
        exact ⟨⟨_, rfl⟩, .inr ⟨_, _, _, HX2.out, hJx3⟩⟩
    · obtain ⟨k, rfl⟩ : ∃ k', k = k' + 1 := by
        cases k with
        | zero => simp at hq; omega
        | succ k => exact ⟨k, rfl⟩
      have HX2 := Lib.hid (show sevL m = pre ++ (UInt8.ofNat (q % 128 + 128) :: sevF k (q / 128)) by rw [HX.out]; simp [sevF, h128])
      have hy0 := hY pre (UInt8.ofNat (q % 128 + 128)) _ wr HX2.out hJ
      rw [show (((UInt8.ofNat (q % 128 + 128)).toNat : Nat) : Int) = (q : Int) % 128 + 128 from by simp; omega] at hy0
      obtain ⟨fn, tmps, assign, body, hy, hR⟩ := hy0
      gi_wp2
      refine (roundIn_wide_n hR).mono ?_
      rintro e W3 (⟨rfl, hJ3, -⟩ | ⟨rfl, hJx3⟩)
      · gi_wp2
        go_roundw
        case rel =>
          refine ⟨_, k, q / 128, by go_num, by rw [HX2.out]; simp, ?_, by omega, hJ3⟩
          rw [Nat.pow_succ] at hq
          omega
        case measure => simp [intOf]; omega
      · gi_wp2
        refine bodyPost_ret (results_none rfl _ _ _) rfl ?_
        exact ⟨⟨_, rfl⟩, .inr ⟨_, _, _, HX2.out, hJx3⟩⟩

theorem sevens_makes (m : Nat) (hm : m < 9223372036854775808) (w : World) : Makes Tryz.prog 83 #[.int .i64 m] w 93 (fun x : UInt8 => #[.int .u8 x.toNat]) (sevL m) := by
  unfold Makes
  go_enter Tryz.func83, Tryz.ntmps83
  go_wp2
  go_ret
  exact ⟨_, rfl, (Below.refl _ _).alloc (Nat.le_refl _) _, sevens_iter _ m hm _ ⟨Nat.le_refl _, by simp⟩ _ (Boxed.new w _ _).cell⟩

theorem Tryz.infoU8 : (Tryz.prog.info? 5).map (fun i => (i.zero, i.size, i.bytes)) = some (some (.int .u8 0), 1, 1) := by kernel_rfl

set_option maxRecDepth 100000 in
set_option maxHeartbeats 1000000 in
theorem put_any (n : Int) (hn : n < 9223372036854775808) (w : World) : Gives Tryz.prog 71 #[.int .i64 n] w (.string ⟨(sevL n.toNat).toArray⟩) := by
  obtain ⟨i0, hi, hz0, hz1, hz2⟩ := info_parts Tryz.infoU8
  refine (callsIn_wide (n := 9)).1 ?_
  refine callsIn_of_wp_marks Tryz.func71 rfl trivial ?_ rfl
  simp only [Tryz.ntmps71, List.size_toArray, List.length_cons, List.length_nil, Nat.reduceAdd, Nat.reduceSub, Array.replicate_succ, Array.replicate_zero, List.push_toArray, List.append_toArray, List.nil_append, List.cons_append]
  obtain ⟨q, hq⟩ : ∃ q : Nat, q = n.toNat := ⟨_, rfl⟩
  have HQ := Lib.hid hq
  rw [← hq]
  clear hq
  have bO := Boxed.new w 55 (.slice none 0 0)
  have hB0 : Below w.heap.size w (w.alloc (.cells #[.slice none 0 0] 55)) := (Below.refl _ w).alloc (Nat.le_refl _) _
  gi_wp2_with (gi_at_call 83; first | (rw [show n = (q : Int) from by rw [HQ.out]; omega]; refine (callsIn_wide.2 (sevens_makes q (by have := HQ.out; omega) _)).mono ?_; rintro e w1 ⟨lb, rfl, hB1, hI1⟩) | (rw [show (0 : Int) = (q : Int) from by rw [HQ.out]; omega]; refine (callsIn_wide.2 (sevens_makes q (by have := HQ.out; omega) _)).mono ?_; rintro e w1 ⟨lb, rfl, hB1, hI1⟩))
  all_goals
    rw [World.size_alloc] at hB1 hI1
    have bO1 := boxed_below bO hB1 (by omega)
    replace hB1 := hB0.trans (hB1.mono (by omega))
    refine range_outer rfl (enters_of Tryz.func93 (by kernel_rfl) rfl) hI1 (fun _ => rfl) span_lt (fun _ h => h.elim)
      (fun pre W => collI w w1 w.heap.size 55 5 1 pre.length (pre.map vb) W) (fun _ _ _ => False) (fun _ => collI_stab hB1.size) (fun _ _ => Stab.pure _) ⟨_, bO1, World.ownsRow_nil _ _ _ _, hB1, Nat.le_refl _⟩ ?hr ?hd (fun _ _ _ _ _ _ h => h.elim)
    case hr =>
      rintro l pre x suf W hx hl hi1 hrec
      gi_wp2
      refine rdThen_mk _ (collI_stab hB1.size) hi1 (Rd.refl _ _ _) ?_
      clear hi1 hrec W
      rintro W ⟨v, hv, hrow, hB, hs⟩ hrec
      have hc := hv.cell
      have hpl : pre.length < 9 := by have := congrArg List.length hx; have := sevL_len q; simp at *; omega
      gi_wp2_with (gi_at_builtin; refine wpListIn_append_own _ rfl _ _ 55 rfl w1.heap.size 5 i0 (.int .u8 0) 1 1 Tryz.underlying55 hi hz0 hz1 hz2 rfl (by decide) _ _ _ rfl (hrow.alloc _) ⟨W.heap.size, 0, none⟩ 1 1 [vb x] rfl rfl (cell_one_new _ _ _) (by simp [Value.oneCell']) (by unfold maxLen; omega) (by omega) (by simp; omega) ?_; intro v' w2 hown' hgrow _; obtain ⟨g', cap', rfl⟩ := ownsRow_succ hown'; obtain ⟨hv1, hv2, hr2, hk2, hb2⟩ := boxed_appended (n₀ := w.heap.size) (B0 := w1.heap.size) (S := span (w.heap.size + 1) w1.heap.size) hv (by decide) hrow hB1.size hs (Nat.le_refl _) (not_span_lt (by omega)) not_span_ge hown' hgrow; have hc1 := hv1.cell; have hf1 := hv1.frozen)
      exact ⟨hk2, _, hv2, by simpa using hr2, hB.trans hb2, Nat.le_trans hs hk2.size⟩
    case hd =>
      rintro W ⟨v, hv, hrow, hB, hs⟩ hD
      have hc := hv.cell
      have hcv := run_string_owned (P := Tryz.prog) (src := 55) (dst := 9) Tryz.underlying55 Tryz.underlying5 Tryz.underlying9 hrow
      gi_wp2
      exact leave_one hD (results_tmp rfl _ _ _) ⟨rfl, below_putObj hB (Nat.le_refl _) hB1.size _⟩

/-! ### Four bytes, the lowest first -/
def eigL (n : Nat) : List UInt8 := [UInt8.ofNat n, UInt8.ofNat (n / 256), UInt8.ofNat (n / 65536), UInt8.ofNat (n / 16777216)]

set_option maxRecDepth 100000 in
set_option maxHeartbeats 1000000 in
theorem eights_iter (Bn m : Nat) (hm : m < 4294967296) (S : Nat → Prop) (hS : S Bn) (w0 : World) (hBn : w0.cell? ⟨Bn, 0, none⟩ = some (.int .u32 m)) :
    Iter Tryz.prog 94 #[.pointer (some ⟨Bn, 0, none⟩)] (fun x : UInt8 => #[.int .u8 x.toNat]) (eigL m) S (fun _ => False) w0 := by
  intro l J Jx W hW _ _ hY h0
  refine callsIn_of_wp Tryz.func94 rfl trivial ?_ rfl
  simp only [Tryz.ntmps94, List.size_toArray, List.length_cons, List.length_nil, Nat.reduceAdd, Nat.reduceSub, Array.replicate_succ, Array.replicate_zero, List.push_toArray, List.append_toArray, List.nil_append, List.cons_append]
  gi_wp2
  gi_loopw [4] (fun p wr => ∃ (k : Nat), p = .int .i64 k ∧ k ≤ 4 ∧ J ((eigL m).take k) wr ∧ Rd W.heap.size S W wr)
    (fun p _ => 4 - (intOf p).toNat)
  case atStart =>
    exact ⟨0, rfl, by omega, h0, Rd.refl _ _ _⟩
  case round =>
    obtain ⟨k, rfl, hk, hJ, hR⟩ := hrel
    have hc := hR.cell (hW.cell hBn hS) hS
    by_cases h4 : k < 4
    · have HX := Lib.hid (show eigL m = (eigL m).take k ++ (UInt8.ofNat (m / 2 ^ (8 * k)) :: (eigL m).drop (k + 1)) by
        match k, h4 with
        | 0, _ => simp [eigL]
        | 1, _ => simp [eigL]
        | 2, _ => simp [eigL]
        | 3, _ => simp [eigL])
      have hy0 := hY _ _ _ wr HX.out hJ
      rw [show (((UInt8.ofNat (m / 2 ^ (8 * k))).toNat : Nat) : Int) = (m : Int) / 2 ^ (8 * k) % 256 from by simp] at hy0
      obtain ⟨fn, tmps, assign, body, hy, hR1⟩ := hy0
      gi_wp2
      refine (roundIn_wide_n hR1).mono ?_
      rintro e W3 (⟨rfl, hJ3, hk3⟩ | ⟨rfl, hJx3⟩)
      · gi_wp2
        go_roundw
        case rel =>
          refine ⟨k + 1, by go_num, by omega, ?_, hR.trans hk3⟩
          have := HX.out
          match k, h4 with
          | 0, _ => simpa [eigL] using hJ3
          | 1, _ => simpa [eigL] using hJ3
          | 2, _ => simpa [eigL] using hJ3
          | 3, _ => simpa [eigL] using hJ3
        case measure => simp [intOf]; omega
      · gi_wp2
        refine bodyPost_ret (results_none rfl _ _ _) rfl ?_
        exact ⟨⟨_, rfl⟩, .inr ⟨_, _, _, HX.out, hJx3⟩⟩
    · obtain rfl : k = 4 := by omega
      gi_wp2
      refine bodyPost_end (results_none rfl _ _ _) rfl ?_
      exact ⟨⟨_, rfl⟩, .inl (by simpa [eigL] using hJ)⟩

theorem eights_makes (m : Nat) (hm : m < 4294967296) (w : World) : Makes Tryz.prog 84 #[.int .u32 m] w 94 (fun x : UInt8 => #[.int .u8 x.toNat]) (eigL m) := by
  unfold Makes
  go_enter Tryz.func84, Tryz.ntmps84
  go_wp2
  go_ret
  exact ⟨_, rfl, (Below.refl _ _).alloc (Nat.le_refl _) _, eights_iter _ m hm _ ⟨Nat.le_refl _, by simp⟩ _ (Boxed.new w _ _).cell⟩

set_option maxRecDepth 100000 in
set_option maxHeartbeats 1000000 in
theorem fixed_any (n : Nat) (hn : n < 4294967296) (w : World) : Gives Tryz.prog 72 #[.int .u32 n] w (.string ⟨(eigL n).toArray⟩) := by
  obtain ⟨i0, hi, hz0, hz1, hz2⟩ := info_parts Tryz.infoU8
  refine (callsIn_wide (n := 9)).1 ?_
  refine callsIn_of_wp_marks Tryz.func72 rfl trivial ?_ rfl
  simp only [Tryz.ntmps72, List.size_toArray, List.length_cons, List.length_nil, Nat.reduceAdd, Nat.reduceSub, Array.replicate_succ, Array.replicate_zero, List.push_toArray, List.append_toArray, List.nil_append, List.cons_append]
  have bO := Boxed.new w 55 (.slice none 0 0)
  have hB0 : Below w.heap.size w (w.alloc (.cells #[.slice none 0 0] 55)) := (Below.refl _ w).alloc (Nat.le_refl _) _
  gi_wp2_with (gi_at_call 84; refine (callsIn_wide.2 (eights_makes n hn _)).mono ?_; rintro e w1 ⟨lb, rfl, hB1, hI1⟩)
  rw [World.size_alloc] at hB1 hI1
  have bO1 := boxed_below bO hB1 (by omega)
  replace hB1 := hB0.trans (hB1.mono (by omega))
  refine range_outer rfl (enters_of Tryz.func94 (by kernel_rfl) rfl) hI1 (fun _ => rfl) span_lt (fun _ h => h.elim)
    (fun pre W => collI w w1 w.heap.size 55 5 1 pre.length (pre.map vb) W) (fun _ _ _ => False) (fun _ => collI_stab hB1.size) (fun _ _ => Stab.pure _) ⟨_, bO1, World.ownsRow_nil _ _ _ _, hB1, Nat.le_refl _⟩ ?hr ?hd (fun _ _ _ _ _ _ h => h.elim)
  case hr =>
    rintro l pre x suf W hx hl hi1 hrec
    gi_wp2
    refine rdThen_mk _ (collI_stab hB1.size) hi1 (Rd.refl _ _ _) ?_
    clear hi1 hrec W
    rintro W ⟨v, hv, hrow, hB, hs⟩ hrec
    have hc := hv.cell
    have hpl : pre.length < 4 := by have := congrArg List.length hx; simp [eigL] at this; omega
    gi_wp2_with (gi_at_builtin; refine wpListIn_append_own _ rfl _ _ 55 rfl w1.heap.size 5 i0 (.int .u8 0) 1 1 Tryz.underlying55 hi hz0 hz1 hz2 rfl (by decide) _ _ _ rfl (hrow.alloc _) ⟨W.heap.size, 0, none⟩ 1 1 [vb x] rfl rfl (cell_one_new _ _ _) (by simp [Value.oneCell']) (by unfold maxLen; omega) (by omega) (by simp; omega) ?_; intro v' w2 hown' hgrow _; obtain ⟨g', cap', rfl⟩ := ownsRow_succ hown'; obtain ⟨hv1, hv2, hr2, hk2, hb2⟩ := boxed_appended (n₀ := w.heap.size) (B0 := w1.heap.size) (S := span (w.heap.size + 1) w1.heap.size) hv (by decide) hrow hB1.size hs (Nat.le_refl _) (not_span_lt (by omega)) not_span_ge hown' hgrow; have hc1 := hv1.cell; have hf1 := hv1.frozen)
    exact ⟨hk2, _, hv2, by simpa using hr2, hB.trans hb2, Nat.le_trans hs hk2.size⟩
  case hd =>
    rintro W ⟨v, hv, hrow, hB, hs⟩ hD
    have hc := hv.cell
    have hcv := run_string_owned (P := Tryz.prog) (src := 55) (dst := 9) Tryz.underlying55 Tryz.underlying5 Tryz.underlying9 hrow
    gi_wp2
    exact leave_one hD (results_tmp rfl _ _ _) ⟨rfl, below_putObj hB (Nat.le_refl _) hB1.size _⟩

/-- The first bytes of s, at most most of them, each with where it stands. -/
def frontL (s : List UInt8) (most : Nat) : List (Nat × UInt8) := (s.take most).zipIdx.map fun x => (x.2, x.1)

theorem frontL_at {l : List UInt8} {m : Nat} {pre suf : List (Nat × UInt8)} {x : Nat × UInt8} (h : frontL l m = pre ++ x :: suf) : x.1 = pre.length ∧ pre.length < m ∧ l[pre.length]? = some x.2 ∧ pre.map (·.2) = l.take pre.length := by
  have h1 : (frontL l m)[pre.length]? = some x := by rw [h]; simp
  have h2 := List.getElem?_eq_some_iff.1 h1
  obtain ⟨h3, h4⟩ := h2
  have hlen : (frontL l m).length = min m l.length := by simp [frontL]
  rw [hlen] at h3
  have hx : x = (pre.length, l[pre.length]'(by omega)) := by rw [← h4]; simp [frontL]
  refine ⟨by rw [hx], by omega, by rw [hx]; simp, ?_⟩
  have h5 : (frontL l m).map (·.2) = l.take m := by simp [frontL, List.map_map, Function.comp_def]
  have h6 := congrArg (fun z => (z.map (·.2)).take pre.length) h
  simp only [h5, List.map_append, List.take_take] at h6
  rw [List.take_append_of_le_length (by simp), Nat.min_eq_left (by omega)] at h6
  rw [h6, List.take_of_length_le (by simp)]

end Go.Proofs.YtoieacmipejfeaaGreatDoor
