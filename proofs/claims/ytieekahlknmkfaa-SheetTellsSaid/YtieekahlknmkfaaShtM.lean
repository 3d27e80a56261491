/- sheet.Read at whatever bytes. -/
import Derived.Test.YtieekahlknmkfaaShtR
namespace Go.Proofs.Ytieekahlknmkfaa
open Go.RowKit Go.Shelf
set_option linter.unusedVariables false
attribute [local go_sem] Oper.semAt_some wide_fn wide_round_fn

theorem own_baseS {W : World} {B B' : Nat} {e : TypeId} {sz n : Nat} {v : Value} {xs : List Value} (h : W.ownsRow B e sz v n xs) (hB : B' ≤ B) : W.ownsRow B' e sz v n xs := by
  refine ⟨h.1, ?_⟩
  rcases h.2 with h2 | ⟨g, cap, cur, hv, hb, r⟩
  · exact .inl h2
  · exact .inr ⟨g, cap, cur, hv, Nat.le_trans hB hb, r⟩
theorem own_shutS {W : World} {base : Nat} {e : TypeId} {size : Nat} {v : Value} {k : Nat} {xs : List Value} (h : W.ownsRow base e size v k xs) {D : Nat} {o : Obj} (hD : W.heap[D]? = some o) (hc : o.isCells = false) (o' : Obj) : (W.putObj D o').ownsRow base e size v k xs := by
  refine ⟨h.1, ?_⟩
  rcases h.2 with h2 | ⟨g, cap, cur, hv, hg, hh, r⟩
  · exact .inl h2
  · refine .inr ⟨g, cap, cur, hv, hg, (World.putObj_heap_other (fun e => ?_)).trans hh, r⟩
    rw [e, hD] at hh
    cases hh
    cases hc
theorem intsV_snoc (l : List Nat) (x : Nat) : intsV ((l ++ [x]).map Int.ofNat) = intsV (l.map Int.ofNat) ++ [.int .i64 x] := by simp [intsV]
set_option maxRecDepth 100000 in
set_option maxHeartbeats 2000000 in
theorem shRead_main (s : ByteArray) (hs : s.size < 9223372036854775000) (hh : rdHead s = true) (w : World) : Calls Try.prog 44 #[.string s] w (ReadPostS w s) := by
  obtain ⟨i0, hi, hz0, hz1, hz2⟩ := info_parts infoIntS
  unfold rdHead at hh
  simp only [Bool.and_eq_true, decide_eq_true_eq] at hh
  obtain ⟨⟨h4, he⟩, hn⟩ := hh
  have hOk : rdOk s = (shB (rdL s) && decide (shY (rdL s) = s)) := by unfold rdOk rdHead; rw [decide_eq_true h4, decide_eq_true he, decide_eq_true hn]; rfl
  have GG := Lib.hid (fun W => get_any (s.extract 4 s.size) (by rw [ByteArray.size_extract]; omega) W)
  have hd : (s.extract 4 s.size).data.toList = s.data.toList.drop 4 := drop_ba s 4
  rw [hd] at GG
  obtain ⟨b1, b2, b3, b4⟩ := getL_bound (s.data.toList.drop 4)
  rw [List.length_drop, Array.length_toList] at b3
  have hsz : s.data.size = s.size := rfl
  rw [hsz] at b3
  unfold rdG at he hn
  have hrl : rdL s = (nums (getL (s.data.toList.drop 4)).1 (s.data.toList.drop (4 + (getL (s.data.toList.drop 4)).2.1))).map Int.ofNat := rfl
  rw [he] at GG
  have HDD := Lib.hid (drop_ba s (4 + (getL (s.data.toList.drop 4)).2.1))
  generalize (getL (s.data.toList.drop 4)).1 = n at *
  generalize (getL (s.data.toList.drop 4)).2.1 = k at *
  have hki : (4 : Int) + (k : Int) ≤ (s.size : Int) := by omega
  have hni : (n : Int) ≤ 200 := by omega
  have hi4 : (4 : Int) ≤ (s.size : Int) := by omega
  obtain ⟨N, hN⟩ : ∃ N, N = nums n (s.data.toList.drop (4 + k)) := ⟨_, rfl⟩
  rw [← hN] at hrl
  have hNl := nums_len n (s.data.toList.drop (4 + k))
  have hNb := nums_bd n (s.data.toList.drop (4 + k))
  rw [← hN] at hNl hNb
  obtain ⟨S, hS⟩ : ∃ S, s.extract (4 + k) s.size = S := ⟨_, rfl⟩
  have HM := Lib.hid (fun W => (show Makes Try.prog 74 #[.string S, .int .i64 n] W 86 (fun x : Nat => #[.int .i64 x]) N from by
    have := numbers_makes S n (by rw [← hS, ByteArray.size_extract]; omega) (by omega) W
    rw [← hS, HDD.out, ← hN, hS] at this
    exact this))
  have HOk := Lib.hid hOk
  have HRl := Lib.hid hrl
  have HNb := Lib.hid hNb
  have hN200 : N.length ≤ 200 := by omega
  clear hd he h4 hOk hrl hN hNl hNb b1 b2 b3 b4 hn HDD hsz
  refine (callsIn_wide (n := 9)).1 ?_
  refine callsIn_of_wp_marks Try.func44 rfl trivial ?_ rfl
  simp only [Try.ntmps44, List.size_toArray, List.length_cons, List.length_nil, Nat.reduceAdd, Nat.reduceSub, Array.replicate_succ, Array.replicate_zero, List.push_toArray, List.append_toArray, List.nil_append, List.cons_append]
  gi_wp2_with (first
    | (gi_at_call 73; refine (callsIn_wide.2 (GG.out _)).mono ?_; rintro e wg ⟨rfl, hBg⟩; have bO := Boxed.new wg 61 (.slice none 0 0); have hB0 : Below wg.heap.size wg (wg.alloc (.cells #[.slice none 0 0] 61)) := (Below.refl _ wg).alloc (Nat.le_refl _) _)
    | (gi_at_call 74; refine (callsIn_wide.2 (HM.out _)).mono ?_; rintro e w1 ⟨lb, rfl, hB1, hI1⟩))
  rw [World.size_alloc] at hB1 hI1
  have bO1 := boxed_below bO hB1 (by omega)
  replace hB1 := hB0.trans (hB1.mono (by omega))
  refine range_outer rfl (enters_of Try.func86 (by kernel_rfl) rfl) hI1 (fun _ => rfl) span_lt (fun _ h => h.elim)
    (fun pre W => collI wg w1 wg.heap.size 61 3 1 pre.length (intsV (pre.map Int.ofNat)) W) (fun _ _ _ => False) (fun _ => collI_stab hB1.size) (fun _ _ => Stab.pure _) ⟨_, bO1, World.ownsRow_nil _ _ _ _, hB1, Nat.le_refl _⟩ ?hr ?hd (fun _ _ _ _ _ _ h => h.elim)
  case hr =>
    rintro l pre x suf W hx hl hi1 hrec
    gi_wp2
    refine rdThen_mk _ (collI_stab hB1.size) hi1 (Rd.refl _ _ _) ?_
    clear hi1 hrec W
    rintro W ⟨v, hv, hrow, hB, hs⟩ hrec
    have hc := hv.cell
    have hpl : pre.length < 200 := by have := congrArg List.length hx; simp at this; omega
    gi_wp2_with (gi_at_builtin; refine wpListIn_append_own _ rfl _ _ 61 rfl w1.heap.size 3 i0 (.int .i64 0) 1 8 Try.underlying61 hi hz0 hz1 hz2 rfl (by decide) _ _ _ rfl (hrow.alloc _) ⟨W.heap.size, 0, none⟩ 1 1 [.int .i64 x] rfl rfl (cell_one_new _ _ _) (by simp [Value.oneCell']) (by unfold maxLen; omega) (by omega) (by simp; omega) ?_; intro v' w2 hown' hgrow _; obtain ⟨g', cap', rfl⟩ := ownsRow_succ hown'; obtain ⟨hv1, hv2, hr2, hk2, hb2⟩ := boxed_appended (n₀ := wg.heap.size) (B0 := w1.heap.size) (S := span (wg.heap.size + 1) w1.heap.size) hv (by decide) hrow hB1.size hs (Nat.le_refl _) (not_span_lt (by omega)) not_span_ge hown' hgrow; have hc1 := hv1.cell; have hf1 := hv1.frozen)
    exact ⟨hk2, _, hv2, by rw [List.length_append, intsV_snoc]; exact hr2, hB.trans hb2, Nat.le_trans hs hk2.size⟩
  case hd =>
    rintro W ⟨v, hv, hrow, hB, hs⟩ hD
    have hc := hv.cell
    obtain ⟨va, vc, hve, -, hri⟩ := rowI_own (zs := N.map Int.ofNat) hrow (fun z hz => by
      obtain ⟨x, hx, rfl⟩ := List.mem_map.1 hz
      have := HNb.out x hx
      exact wf_i64 ⟨by show -9223372036854775808 ≤ ((x : Nat) : Int); omega, by show ((x : Nat) : Int) < _; omega⟩)
    have GB := Lib.hid (shBytes_any va N.length vc (N.map Int.ofNat) W hri)
    rw [← HRl.out] at GB
    have HC := Lib.hid (fun w5 (hB5 : Below W.heap.size W w5) => (boxed_below hv hB5 (Array.getElem?_eq_some_iff.1 hv).1).cell)
    have hDl : w1.heap.size < W.heap.size := (Array.getElem?_eq_some_iff.1 hD).1
    have HD5 := Lib.hid (fun w5 (hB5 : Below W.heap.size W w5) => (hB5.block w1.heap.size hDl).trans hD)
    have HB5 := Lib.hid (fun w5 (hB5 : Below W.heap.size W w5) => below_putObj (n := w.heap.size) (bel2 (bel2 hBg hB) hB5) (Nat.le_refl _) (D := w1.heap.size) (Nat.le_trans hBg.size hB1.size) (.deferred none))
    have HRow := Lib.hid (fun w5 (hB5 : Below W.heap.size W w5) => own_baseS (own_shutS (ownsRow_below (n := 0) hrow hB5) ((hB5.block w1.heap.size hDl).trans hD) rfl (.deferred none)) (show w.heap.size ≤ w1.heap.size from Nat.le_trans hBg.size hB1.size))
    rw [hve] at hc HC HRow
    have HW := Lib.hid hve
    clear hrow hri hv hB hs hve
    by_cases h1 : shB (rdL s) = true
    · by_cases h2 : shY (rdL s) = s
      · have hE : shE (rdL s) = 0 := by unfold shE; rw [if_pos h1]
        have HT := Lib.hid (show rdOk s = true by rw [HOk.out, h1, decide_eq_true h2]; rfl)
        rw [hE, h2] at GB
        gi_wp2_with (gi_at_call 36; refine (callsIn_wide.2 GB.out).mono ?_; rintro e w5 ⟨rfl, hB5⟩; have hc5 := HC.out w5 hB5)
        refine leave_one (v := .tuple #[.slice va N.length vc, .int .i64 0]) (HD5.out w5 hB5) (by simp [results, Try.results44, go_sem]) ?_
        unfold ReadPostS
        rw [HT.out]
        exact ⟨_, rfl, by simp only [if_true]; rw [HRl.out, List.length_map]; exact HRow.out w5 hB5, HB5.out w5 hB5⟩
      · have hE : shE (rdL s) = 0 := by unfold shE; rw [if_pos h1]
        have hne : ((shY (rdL s)).toList == s.toList) = false := by
          rw [beq_eq_false_iff_ne]
          intro e
          rw [ByteArray.toList_eq, ByteArray.toList_eq] at e
          exact h2 (ByteArray.ext (Array.toList_inj.1 e))
        have HT := Lib.hid (show rdOk s = false by rw [HOk.out, decide_eq_false h2, Bool.and_false])
        rw [hE] at GB
        generalize shY (rdL s) = Y at *
        clear h1 h2 hE
        gi_wp2_with (gi_at_call 36; refine (callsIn_wide.2 GB.out).mono ?_; rintro e w5 ⟨rfl, hB5⟩; have hc5 := HC.out w5 hB5)
        refine leave_one (v := .tuple #[.slice none 0 0, .int .i64 21]) (HD5.out w5 hB5) (by simp [results, Try.results44, go_sem]) ?_
        exact rd_no HT.out (HB5.out w5 hB5)
    · have hE : shE (rdL s) = 11 := by unfold shE; rw [if_neg h1]
      have HT := Lib.hid (show rdOk s = false by rw [HOk.out, Bool.eq_false_iff.2 h1]; rfl)
      rw [hE] at GB
      generalize shY (rdL s) = Y at *
      clear h1 hE
      gi_wp2_with (gi_at_call 36; refine (callsIn_wide.2 GB.out).mono ?_; rintro e w5 ⟨rfl, hB5⟩; have hc5 := HC.out w5 hB5)
      refine leave_one (v := .tuple #[.slice none 0 0, .int .i64 21]) (HD5.out w5 hB5) (by simp [results, Try.results44, go_sem]) ?_
      exact rd_no HT.out (HB5.out w5 hB5)
theorem shRead_any (s : ByteArray) (hs : s.size < 9223372036854775000) (w : World) : Calls Try.prog 44 #[.string s] w (ReadPostS w s) := by
  cases h : rdHead s
  · exact shRead_head s hs h w
  · exact shRead_main s hs h w

end Go.Proofs.Ytieekahlknmkfaa
