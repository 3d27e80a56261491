/- The contracts of package code's functions that read: Fix, Get, Texts; and Text. -/
import Derived.Test.YtbhhbjgdkcfagaaKit
import Derived.Test.YtbhhbjgdkcfagaaCode
import Derived.Test.YtbhhbjgdkcfagaaRegion
import Derived.Test.YtbhhbjgdkcfagaaGet
namespace Go.Proofs.Ytbhhbjgdkcfagaa
open Go.RowKit Go.Shelf
set_option linter.unusedVariables false
attribute [local go_sem] Oper.semAt_some wide_fn wide_round_fn

theorem fix_short (s : ByteArray) (hs : s.size < 4) (w : World) : Gives Try.prog 55 #[.string s] w (.tuple #[.int .u32 0, .int .i64 10]) := by
  refine (callsIn_wide (n := 9)).1 ?_
  refine callsIn_of_wp_marks Try.func55 rfl trivial ?_ rfl
  simp only [Try.ntmps55, List.size_toArray, List.length_cons, List.length_nil, Nat.reduceAdd, Nat.reduceSub, Array.replicate_succ, Array.replicate_zero, List.push_toArray, List.append_toArray, List.nil_append, List.cons_append]
  gi_wp2
  exact ⟨_, results_tmp2 rfl _ _ _, rfl, Below.refl _ _⟩

set_option maxRecDepth 100000 in
set_option maxHeartbeats 1000000 in
theorem fix_ok (s : ByteArray) (hs : 4 ≤ s.size) (hm : s.size < 9223372036854775808) (w : World) : Gives Try.prog 55 #[.string s] w (.tuple #[.int .u32 (leN (s.data.toList.take 4)), .int .i64 0]) := by
  have hmx : Try.prog.follows .mixedOrders = true := by kernel_rfl
  refine (callsIn_wide (n := 9)).1 ?_
  refine callsIn_of_wp_marks Try.func55 rfl trivial ?_ rfl
  simp only [Try.ntmps55, List.size_toArray, List.length_cons, List.length_nil, Nat.reduceAdd, Nat.reduceSub, Array.replicate_succ, Array.replicate_zero, List.push_toArray, List.append_toArray, List.nil_append, List.cons_append]
  have bO := Boxed.new w 61 (.int .u32 0)
  have hB0 : Below w.heap.size w (w.alloc (.cells #[.int .u32 0] 61)) := (Below.refl _ w).alloc (Nat.le_refl _) _
  gi_wp2_with (gi_at_call 56; refine (callsIn_wide.2 (front_makes s 4 hm (by omega) _)).mono ?_; rintro e w1 ⟨lb, rfl, hB1, hI1⟩)
  rw [World.size_alloc] at hB1 hI1
  have bO1 := boxed_below bO hB1 (by omega)
  replace hB1 := hB0.trans (hB1.mono (by omega))
  refine range_outer rfl (enters_of Try.func69 (by kernel_rfl) rfl) hI1 (fun _ => rfl) span_lt (fun _ h => h.elim)
    (fun pre W => boxI w w.heap.size 61 (.int .u32 (leN (pre.map (·.2)))) W) (fun _ _ _ => False) (fun _ => boxI_stab hB1.size) (fun _ _ => Stab.pure _) ⟨bO1, hB1⟩ ?hr ?hd (fun _ _ _ _ _ _ h => h.elim)
  case hr =>
    rintro l pre ⟨i, c⟩ suf W hx hl hi1 hrec
    gi_wp2
    refine rdThen_mk _ (boxI_stab hB1.size) hi1 (Rd.refl _ _ _) ?_
    clear hi1 hrec W
    rintro W hi hrec
    have hc := hi.1.cell
    have hf := hi.1.frozen
    obtain ⟨h1, h2, h3, h4⟩ := frontL_at hx
    dsimp only at h1
    subst h1
    have hlt := leN_lt (pre.map (·.2))
    have hsn := Lib.hid (leN_snoc (pre.map (·.2)) c)
    rw [List.length_map] at hlt hsn
    clear h3 h4 hx
    generalize hN : leN (pre.map (·.2)) = N at *
    generalize hk : pre.length = k at *
    have HN := Lib.hid hN
    clear hN hk
    have hw1 : IntKind.i64.wrap (8 * (k : Int)) = 8 * (k : Int) := IntWalk.i64_in _ (by omega)
    have hw0 : (0 : Int) ≤ 8 * (k : Int) := by omega
    have hw2 : IntKind.u32.wrap (c.toNat : Int) = (c.toNat : Int) := by have := c.toNat_lt; simp [IntKind.wrap, IntKind.bits, IntKind.signed]; omega
    have hw3 : min (8 * (k : Int)).toNat 32 = 8 * k := by omega
    gi_wp2
    refine wpIn_still_tail 7 hmx (by kernel_rfl) (by kernel_rfl) ⟨_, rfl⟩ ?_
    simp only [List.take_succ_cons, List.take_zero, List.drop_succ_cons, List.drop_zero]
    repeat still_step
    refine wpStill_nil ?_
    rw [or_byte' hlt c.toNat_lt h2]
    generalize hM : N + c.toNat * 256 ^ k = M at hsn
    clear hM
    go_wp2
    refine onlyNormal_mk ?_
    gi_wp2
    refine ⟨((Rd.refl _ _ _).setBox hi.1 (not_span_lt (by omega)) _).drew, ?_⟩
    show boxI _ _ _ (.int .u32 ((leN ((pre ++ [(k, c)]).map (·.2)) : Nat) : Int)) _
    rw [List.map_append, List.map_cons, List.map_nil, hsn.out]
    exact boxI_drew (boxI_set hi (Nat.le_refl _) _)
  case hd =>
    rintro W hi hD
    have hc := hi.1.cell
    gi_wp2
    refine leave_one hD (results_tmp2 rfl _ _ _) ⟨?_, below_putObj hi.2 (Nat.le_refl _) hB1.size _⟩
    simp [frontL, List.map_map, Function.comp_def]

theorem text_any (s : ByteArray) (hs : s.size + 9 < 9223372036854775808) (w : World) : Gives Try.prog 79 #[.string s] w (.string (⟨(sevL s.size).toArray⟩ ++ s)) := by
  have hl := sevL_len s.size
  have hl2 : (⟨(sevL s.size).toArray⟩ : ByteArray).size = (sevL s.size).length := rfl
  unfold Gives
  go_enter Try.func79, Try.ntmps79
  go_wp2_with (go_at_call 38; refine (put_any _ (by omega) _).mono ?_; rintro e w' ⟨rfl, hB⟩)
  go_ret
  exact ⟨rfl, hB⟩

/-- The text at the beginning of bytes, how many bytes it takes with its number, what is wrong. -/
def textsB (s : ByteArray) (most : Int) : ByteArray × Nat × Nat :=
  if (getL s.data.toList).2.2 ≠ 0 then (⟨#[]⟩, 0, (getL s.data.toList).2.2)
  else if max most 0 < (getL s.data.toList).1 then (⟨#[]⟩, 0, 12)
  else if s.size < (getL s.data.toList).1 + (getL s.data.toList).2.1 then (⟨#[]⟩, 0, 10)
  else (s.extract (getL s.data.toList).2.1 ((getL s.data.toList).2.1 + (getL s.data.toList).1), (getL s.data.toList).2.1 + (getL s.data.toList).1, 0)

theorem texts_any (s : ByteArray) (hs : s.size < 9223372036854775808) (most : Int) (w : World) : Gives Try.prog 84 #[.string s, .int .i64 most] w (.tuple #[.string (textsB s most).1, .int .i64 (textsB s most).2.1, .int .i64 (textsB s most).2.2]) := by
  have hg := get_any s hs w
  obtain ⟨b1, b2, b3, b4⟩ := getL_bound s.data.toList
  have b3' : (getL s.data.toList).2.1 ≤ s.size := by simpa using b3
  clear b3
  obtain ⟨T, hT⟩ : ∃ T, T = textsB s most := ⟨_, rfl⟩
  rw [← hT]
  unfold textsB at hT
  generalize getL s.data.toList = G at *
  obtain ⟨n, k, e⟩ := G
  dsimp only at *
  by_cases he : e = 0
  · rw [if_neg (by simpa using he)] at hT
    subst he
    by_cases hm : max most 0 < (n : Int)
    · rw [if_pos hm] at hT
      subst hT
      by_cases h0 : most < 0
      all_goals
        have hm1 : max most 0 < n → most < n ∧ 0 < n := by omega
        obtain ⟨hm1, hm2⟩ := hm1 hm
        unfold Gives
        go_enter Try.func84, Try.ntmps84
        go_wp2_with (go_at_call 43; refine hg.mono ?_; rintro e w' ⟨rfl, hB⟩)
        go_ret3
        exact ⟨rfl, hB⟩
    · rw [if_neg hm] at hT
      by_cases hl : s.size < n + k
      · rw [if_pos hl] at hT
        subst hT
        by_cases h0 : most < 0
        · exfalso; omega
        · have hm1 : (n : Int) ≤ most := by omega
          clear hm
          unfold Gives
          go_enter Try.func84, Try.ntmps84
          go_wp2_with (go_at_call 43; refine hg.mono ?_; rintro e w' ⟨rfl, hB⟩)
          go_ret3
          exact ⟨rfl, hB⟩
      · rw [if_neg hl] at hT
        subst hT
        by_cases h0 : most < 0
        · have hm1 : n ≤ 0 := by omega
          clear hm
          unfold Gives
          go_enter Try.func84, Try.ntmps84
          go_wp2_with (go_at_call 43; refine hg.mono ?_; rintro e w' ⟨rfl, hB⟩)
          go_ret3
          exact ⟨by push_cast; rfl, hB⟩
        · have hm1 : (n : Int) ≤ most := by omega
          clear hm
          unfold Gives
          go_enter Try.func84, Try.ntmps84
          go_wp2_with (go_at_call 43; refine hg.mono ?_; rintro e w' ⟨rfl, hB⟩)
          go_ret3
          exact ⟨by push_cast; rfl, hB⟩
  · rw [if_pos (by simpa using he)] at hT
    subst hT
    have he1 : 0 < e := by omega
    unfold Gives
    go_enter Try.func84, Try.ntmps84
    go_wp2_with (go_at_call 43; refine hg.mono ?_; rintro e w' ⟨rfl, hB⟩)
    go_ret3
    exact ⟨rfl, hB⟩

end Go.Proofs.Ytbhhbjgdkcfagaa
