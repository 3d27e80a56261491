/- Law LiveMoves: for every input the call answers true; its arguments read as they did. No condition. -/
import Derived.Test.YtpdpdohkhiplpaaLaw
import Derived.Test.YtpdpdohkhiplpaaKnown15
namespace Go.Proofs.Ytpdpdohkhiplpaa.liveMoves
open Go.ChangeShapes Go.WideShapes Go.ChangeAt Go.RowKit Go.Shelf
open Go.ChangeMaps (open_string shut_string)
set_option linter.unusedVariables false
attribute [local go_sem] Oper.semAt_some wide_fn wide_round_fn


def spotM (a : Int) (i : Nat) : SpotC := ⟨1, i + 1, a, 16 * ((i : Int) / 3)⟩
def rowsM (a : Int) (k : Nat) : List SpotC := (List.range k).map (spotM a)
theorem rowsM_len (a : Int) (k : Nat) : (rowsM a k).length = k := by simp [rowsM]
theorem rowsM_snoc (a : Int) (k : Nat) : rowsM a (k + 1) = rowsM a k ++ [spotM a k] := by simp [rowsM, List.range_succ]
theorem rowsM_get (a : Int) (k j : Nat) (h : j < (rowsM a k).length) : (rowsM a k)[j] = spotM a j := by simp [rowsM]
theorem inL_all {l : List SpotC} {z : Int} (h : ∀ f ∈ l, f.s = z) : inL l z = l := by
  unfold inL; rw [List.filter_eq_self]; intro f hf; simp [h f hf]
theorem inL_none {l : List SpotC} {z : Int} (h : ∀ f ∈ l, f.s ≠ z) : inL l z = [] := by
  unfold inL; rw [List.filter_eq_nil_iff]; intro f hf; simp [h f hf]
theorem rowsM_s (a : Int) (k : Nat) : ∀ f ∈ rowsM a k, f.s = a := by
  intro f hf
  simp only [rowsM, List.mem_map] at hf
  obtain ⟨i, _, rfl⟩ := hf; rfl
theorem recs_rowsM (a : Int) (k : Nat) : recs (rowsM a k) = (k + 2) / 3 := by
  induction k with
  | zero => rfl
  | succ k ih =>
    rw [rowsM_snoc, recs_snoc, ih]
    by_cases h : k % 3 = 0
    · rw [if_neg]
      · omega
      · rw [Bool.not_eq_true, List.any_eq_false]
        intro f hf
        simp only [rowsM, List.mem_map, List.mem_range] at hf
        obtain ⟨i, hi, rfl⟩ := hf
        simp [atPlace, spotM]
        omega
    · rw [if_pos]
      · omega
      · rw [List.any_eq_true]
        refine ⟨spotM a (k - 1), ?_, ?_⟩
        · simp only [rowsM, List.mem_map, List.mem_range]; exact ⟨k - 1, by omega, rfl⟩
        · simp [atPlace, spotM]; omega
theorem set_split (l : List SpotC) (j : Nat) (h : j < l.length) (x : SpotC) : l.set j x = l.take j ++ x :: l.drop (j + 1) := by
  rw [List.set_eq_take_append_cons_drop, if_pos h]
theorem cnt_append (l m : List SpotC) (z : Int) : cnt (l ++ m) z = cnt l z + cnt m z := by simp [cnt, inL]
theorem cnt_cons (f : SpotC) (m : List SpotC) (z : Int) : cnt (f :: m) z = (if f.s = z then 1 else 0) + cnt m z := by
  by_cases h : f.s = z <;> simp [cnt, inL, h]; omega
theorem cnt_all {l : List SpotC} {z : Int} (h : ∀ f ∈ l, f.s = z) : cnt l z = l.length := by unfold cnt; rw [inL_all h]
theorem cnt_none {l : List SpotC} {z : Int} (h : ∀ f ∈ l, f.s ≠ z) : cnt l z = 0 := by unfold cnt; rw [inL_none h]; rfl
def moved (a b : Int) (k j : Nat) : List SpotC := (rowsM a k).set j { spotM a j with s := b }
theorem cnt_moved_from (a b : Int) (k j : Nat) (hj : j < k) (h : a ≠ b) : cnt (moved a b k j) a = k - 1 := by
  have hl := rowsM_len a k
  unfold moved
  rw [set_split _ _ (by omega), cnt_append, cnt_cons, if_neg (fun e => h e.symm), cnt_all (fun f hf => rowsM_s a k f (List.mem_of_mem_take hf)), cnt_all (fun f hf => rowsM_s a k f (List.mem_of_mem_drop hf)), List.length_take, List.length_drop]
  omega
theorem cnt_moved_to (a b : Int) (k j : Nat) (hj : j < k) (h : a ≠ b) : cnt (moved a b k j) b = 1 := by
  have hl := rowsM_len a k
  unfold moved
  rw [set_split _ _ (by omega), cnt_append, cnt_cons, if_pos rfl, cnt_none (fun f hf => by rw [rowsM_s a k f (List.mem_of_mem_take hf)]; exact h), cnt_none (fun f hf => by rw [rowsM_s a k f (List.mem_of_mem_drop hf)]; exact h)]
theorem moved_same (a : Int) (k j : Nat) (hj : j < k) : moved a a k j = rowsM a k := by
  have hl : j < (rowsM a k).length := by rw [rowsM_len]; exact hj
  unfold moved
  have e : ({ spotM a j with s := a } : SpotC) = (rowsM a k)[j] := by rw [rowsM_get]; rfl
  rw [e, List.set_getElem_self]
theorem set_cells (l : List SpotC) (j : Nat) (h : j < l.length) (q : Int) : (spotCells l).set (j * 4 + 2) (.int .i64 q) = spotCells (l.set j { l[j] with s := q }) := by
  induction l generalizing j with
  | nil => simp at h
  | cons f r ih =>
    cases j with
    | zero => rfl
    | succ j =>
      have := ih j (by simpa using h)
      simp only [spotCells, List.map_cons, List.flatten_cons, List.set_cons_succ, List.getElem_cons_succ] at this ⊢
      rw [List.set_append_right _ _ (by rw [SpotC.len]; omega), SpotC.len, show (j + 1) * 4 + 2 - 4 = j * 4 + 2 by omega, this]

set_option maxRecDepth 100000 in
set_option maxHeartbeats 2000000 in
theorem walk (n : Nat) (hn : n < 256) (t : Nat) (ht : t < 256) (fr : Nat) (hfr : fr < 256) (to_ : Nat) (hto : to_ < 256) (w : World) :
    Calls Try.prog 5 #[.int .u8 n, .int .u8 t, .int .u8 fr, .int .u8 to_] w fun e w' => e = .returned (.bool true) ∧ Below w.heap.size w w' := by
  obtain ⟨i0, hi, hz0, hz1, hz2⟩ := info_parts infoSpot
  obtain ⟨k, hk, hk1, hk2⟩ : ∃ k : Nat, (n : Int) % 20 + 1 = (k : Int) ∧ 1 ≤ k ∧ k ≤ 20 := ⟨n % 20 + 1, by omega, by omega, by omega⟩
  obtain ⟨a, ha, ha1⟩ : ∃ a : Nat, (fr : Int) % 5 = (a : Int) ∧ a < 5 := ⟨fr % 5, by omega, by omega⟩
  obtain ⟨b, hb, hb1⟩ : ∃ b : Nat, (to_ : Int) % 5 = (b : Int) ∧ b < 5 := ⟨to_ % 5, by omega, by omega⟩
  obtain ⟨j, hj, hj1⟩ : ∃ j : Nat, (t : Int) % (k : Int) = (j : Int) ∧ j < k := ⟨t % k, by simp, Nat.mod_lt _ (by omega)⟩
  go_enter Try.func5, Try.ntmps5
  go_wp2_with (go_at_call 11; refine (live_known _).mono ?_; rintro e w1 ⟨rfl, hB1⟩)
  clear ha hb hk
  have HJ := Lib.hid hj
  clear hj
  go_loopw [12, 13] (fun v i wr => ∃ q : Nat, q ≤ k ∧ i = .int .i64 q ∧ wr.ownsRow w.heap.size 33 4 v q (spotCells (rowsM a q)) ∧ Below w.heap.size w wr) (fun _ i _ => k - (intOf i).toNat)
  case atStart => exact ⟨0, by omega, rfl, World.ownsRow_nil _ _ _ _, hB1⟩
  case round =>
    obtain ⟨q, hq, rfl, hown, hB⟩ := hrel
    by_cases hlt : q < k
    · have hsn := Lib.hid (show spotCells (rowsM a (q + 1)) = spotCells (rowsM a q) ++ (spotM a q).cells by rw [rowsM_snoc, spotCells_snoc])
      go_wp2_with (at_builtin; refine wpList_append_own _ rfl _ _ 22 rfl w.heap.size 33 i0 (.agg #[.int .i64 0, .int .i64 0, .int .i64 0, .int .i64 0]) 4 32 Try.underlying22 hi hz0 hz1 hz2 rfl (by decide) _ _ _ rfl (hown.alloc _) ⟨wr.heap.size, 0, none⟩ 1 1 [.int .i64 1, .int .i64 ((q : Int) + 1), .int .i64 a, .int .i64 (16 * ((q : Int) / 3))] rfl rfl (news_new _ _ _) (by simp [Value.oneCell']) (by unfold maxLen; omega) (by omega) (by have := hB.size; simp; omega) ?_; intro v' w2 hown' hgrow _)
      have hB2 : Below w.heap.size w w2 := (bel_alloc hB _).grown hgrow (by have := hB.size; simp; omega) (fun g e => ownBlock_ge hown e)
      go_roundw
      case rel => exact ⟨q + 1, by omega, by go_num, by rw [hsn.out]; exact hown', hB2⟩
      case measure => simp [intOf]; omega
    · obtain rfl : q = k := by omega
      have hj := HJ.out
      have hL := rowsM_len a q
      obtain ⟨g, cap, rfl, hcap, hcells⟩ := own_cells hown (by omega)
      obtain ⟨a', c', hv, _, hrow⟩ := rowV_own hown
      cases hv
      have hnews : ∀ i u, (spotCells (rowsM a q))[i]? = some u → wr.cell? ((⟨g, 0, none⟩ : Addr).add i) = some u := fun i u hu => by
        rw [add_off, Nat.zero_add]; exact hcells wr (Below.refl _ _) i u hu
      have hone : ∀ u ∈ spotCells (rowsM a q), u.oneCell' = true := fun u hu => by
        simp only [spotCells, List.mem_flatten, List.mem_map] at hu
        obtain ⟨_, ⟨f, _, rfl⟩, hu⟩ := hu
        simp [SpotC.cells] at hu
        rcases hu with rfl | rfl | rfl | rfl <;> rfl
      have hlc : (spotCells (rowsM a q)).length = q * 4 := by rw [spotCells, flat_len SpotC.cells 4 SpotC.len, hL]
      clear hcells hlt
      go_wp2_with (at_builtin; refine wpList_append_own _ rfl _ _ 22 rfl wr.heap.size 33 i0 (.agg #[.int .i64 0, .int .i64 0, .int .i64 0, .int .i64 0]) 4 32 Try.underlying22 hi hz0 hz1 hz2 rfl (by decide) _ _ _ rfl (World.ownsRow_nil _ _ _ _) ⟨g, 0, none⟩ q cap (spotCells (rowsM a q)) rfl hlc hnews hone (by unfold maxLen; omega) (by omega) (Nat.le_refl _) ?_; intro v' w2 hown2 hgrow _)
      obtain ⟨g2, cap2, rfl, hg2, hg3⟩ := hown2.form (by omega)
      rw [Nat.zero_add, List.nil_append] at hown2
      have hBw : Below wr.heap.size wr w2 := (Below.refl _ _).grown hgrow (Nat.le_refl _) (fun k e => by cases e)
      have hjl : j < (rowsM a q).length := by rw [hL]; exact hj1
      have hcj : w2.cell? ⟨g2, j * 4 + 2, none⟩ = some (.int .i64 a) := by
        rw [hown2.cellAt (j * 4 + 2) (by omega)]
        have := flat_at SpotC.cells 4 SpotC.len (rowsM a q) j 2 hjl (by decide)
        rw [rowsM_get] at this
        exact this
      have hfj : w2.frozen? ⟨g2, j * 4 + 2, none⟩ = false := hown2.frozenAt _
      obtain ⟨hst, _⟩ := hown2.stored (j * 4 + 2) (.int .i64 b)
      rw [set_cells _ j hjl, rowsM_get] at hst
      have hst : (w2.setCell ⟨g2, j * 4 + 2, none⟩ (.int .i64 b)).ownsRow wr.heap.size 33 4 (.slice (some ⟨g2, 0, none⟩) q cap2) q (spotCells (moved a b q j)) := hst
      have hB3 : Below wr.heap.size wr (w2.setCell ⟨g2, j * 4 + 2, none⟩ (.int .i64 b)) := hBw.setCell (p := ⟨g2, j * 4 + 2, none⟩) hg2 _
      obtain ⟨a3, c3, hv3, _, hrow3⟩ := rowV_own hst
      cases hv3
      have HW := Lib.hid (show Below w.heap.size w (w2.setCell ⟨g2, j * 4 + 2, none⟩ (.int .i64 b)) from hB.trans (hB3.mono hB.size))
      have hw : ∀ f ∈ rowsM a q, wfP f := fun f hf => by
        simp only [rowsM, List.mem_map, List.mem_range] at hf
        obtain ⟨i, h1, rfl⟩ := hf
        exact ⟨wf_i64 (by simp only [spotM]; omega), wf_i64 (by simp only [spotM]; omega)⟩
      have hrow1 := hrow.below hB3
      have hml : (moved a b q j).length = q := by unfold moved; rw [List.length_set, hL]
      have N1 := Lib.hid (fun (W : World) (hW : Below (w2.setCell ⟨g2, j * 4 + 2, none⟩ (.int .i64 b)).heap.size (w2.setCell ⟨g2, j * 4 + 2, none⟩ (.int .i64 b)) W) => count_at (some ⟨g, 0, none⟩) q cap (rowsM a q) a q hL (by omega) (by rw [cnt_all (rowsM_s a q), hL]) W (hrow1.below hW))
      have N4 := Lib.hid (fun (W : World) (hW : Below (w2.setCell ⟨g2, j * 4 + 2, none⟩ (.int .i64 b)).heap.size (w2.setCell ⟨g2, j * 4 + 2, none⟩ (.int .i64 b)) W) => records_at (some ⟨g, 0, none⟩) q cap (rowsM a q) a ((q + 2) / 3) hL (by omega) hw (by rw [inL_all (rowsM_s a q), recs_rowsM]) W (hrow1.below hW))
      have NM := fun (z : Int) (m : Nat) (hz : cnt (moved a b q j) z = m) (W : World) (hW : Below (w2.setCell ⟨g2, j * 4 + 2, none⟩ (.int .i64 b)).heap.size (w2.setCell ⟨g2, j * 4 + 2, none⟩ (.int .i64 b)) W) => count_at (some ⟨g2, 0, none⟩) q cap2 (moved a b q j) z m hml (by omega) hz W (hrow3.below hW)
      have t4 : ((((q + 2) / 3 : Nat) : Int) == ((q : Int) + 2) / 3) = true := by rw [beq_iff_eq]; omega
      have hj2 : (j : Int) < (q : Int) := by omega
      by_cases hab : a = b
      · subst hab
        have N2 := Lib.hid (NM a q (by rw [moved_same _ _ _ hj1, cnt_all (rowsM_s a q), hL]))
        have N3 := Lib.hid (NM a q (by rw [moved_same _ _ _ hj1, cnt_all (rowsM_s a q), hL]))
        clear NM hst hown2 hown hnews hone hlc hL hjl hml hrow hrow1 hrow3 hw hBw hB3 hgrow
        go_wp2_with (first
          | (go_at_call 16; ((with_reducible refine (N1.out _ (Below.refl _ _)).mono ?_); rintro e w3 ⟨rfl, hB3⟩))
          | (go_at_call 16; ((with_reducible refine (N2.out _ hB3).mono ?_); rintro e w4 ⟨rfl, hB4⟩; have hB34 := bel2 hB3 hB4))
          | (go_at_call 16; ((with_reducible refine (N3.out _ hB34).mono ?_); rintro e w5 ⟨rfl, hB5⟩; have hB345 := bel2 hB34 hB5))
          | (go_at_call 17; ((with_reducible refine (N4.out _ hB345).mono ?_); rintro e w6 ⟨rfl, hB6⟩)))
        go_ret
        exact ⟨by simp, HW.out.trans ((bel2 hB345 hB6).mono HW.out.size)⟩
      · have hne : ((a : Int) == (b : Int)) = false := by rw [beq_eq_false_iff_ne]; omega
        have hab' : (a : Int) ≠ (b : Int) := by omega
        have N2 := Lib.hid (NM a (q - 1) (cnt_moved_from _ _ _ _ hj1 hab'))
        have N3 := Lib.hid (NM b 1 (cnt_moved_to _ _ _ _ hj1 hab'))
        have t2 : (((q - 1 : Nat) : Int) == (q : Int) - 1) = true := by rw [beq_iff_eq]; omega
        clear NM hst hown2 hown hnews hone hlc hL hjl hml hrow hrow1 hrow3 hw hBw hB3 hgrow hab hab'
        go_wp2_with (first
          | (go_at_call 16; ((with_reducible refine (N1.out _ (Below.refl _ _)).mono ?_); rintro e w3 ⟨rfl, hB3⟩))
          | (go_at_call 16; ((with_reducible refine (N2.out _ hB3).mono ?_); rintro e w4 ⟨rfl, hB4⟩; have hB34 := bel2 hB3 hB4))
          | (go_at_call 16; ((with_reducible refine (N3.out _ hB34).mono ?_); rintro e w5 ⟨rfl, hB5⟩; have hB345 := bel2 hB34 hB5))
          | (go_at_call 17; ((with_reducible refine (N4.out _ hB345).mono ?_); rintro e w6 ⟨rfl, hB6⟩)))
        go_ret
        exact ⟨by simp, HW.out.trans ((bel2 hB345 hB6).mono HW.out.size)⟩

set_option maxRecDepth 100000 in
theorem lifted (os : Os) (started : os.Started) (H : Type) (enc : TypeId × Value → H) :
    ReturnsInHanded {} Try.checked os 5 .any (Rows.liveMovesSpec.pre6 enc Try.prog Try.f5 Rows.liveMovesRow.domain false) (Rows.liveMovesSpec.post enc Try.prog Try.f5 false true false false) := by
  refine returnsInHanded_of_change (C := Try.checked) Try.own started (by kernel_rfl) Try.func5
    (ChangeSpec.witness6 (enc := enc) (C := Try.checked) false ⟨#[], #[.int .u8 0, .int .u8 0, .int .u8 0, .int .u8 0], []⟩ 8 (by kernel_rfl) (by kernel_rfl) (by kernel_rfl) (by kernel_rfl)) ?_
  intro W base args ds gs before hval hW _ _
  refine law_contract (T := 4) (n := 4) Try.laid Try.underlying4 rfl rfl ⟨rfl, fun H ds h => by match ds, h with | [_, _, _, _], _ => rfl⟩ (of_all (by kernel_rfl)) hW ?_
  intro ps hA
  rw [Try.params5] at hA hval
  obtain ⟨v0, vs0, d0, ds0, p0, q0, hargs, rfl, rfl, h0, r0⟩ := trodAll_cons hA
  obtain ⟨v1, vs1, d1, ds1, p1, q1, rfl, rfl, rfl, h1, r1⟩ := trodAll_cons r0
  obtain ⟨v2, vs2, d2, ds2, p2, q2, rfl, rfl, rfl, h2, r2⟩ := trodAll_cons r1
  obtain ⟨v3, vs3, d3, ds3, p3, q3, rfl, rfl, rfl, h3, r3⟩ := trodAll_cons r2
  obtain ⟨rfl, rfl, rfl⟩ := trodAll_nil r3
  obtain rfl : args = #[v0, v1, v2, v3] := by cases args; simp_all
  obtain ⟨a0, rfl, rfl, rfl, w0⟩ := open_int Try.underlying5 (hval 0 5 v0 rfl rfl) h0
  obtain ⟨a1, rfl, rfl, rfl, w1⟩ := open_int Try.underlying5 (hval 1 5 v1 rfl rfl) h1
  obtain ⟨a2, rfl, rfl, rfl, w2⟩ := open_int Try.underlying5 (hval 2 5 v2 rfl rfl) h2
  obtain ⟨a3, rfl, rfl, rfl, w3⟩ := open_int Try.underlying5 (hval 3 5 v3 rfl rfl) h3
  obtain ⟨n0, rfl, b0⟩ := nat_of_u8 w0
  obtain ⟨n1, rfl, b1⟩ := nat_of_u8 w1
  obtain ⟨n2, rfl, b2⟩ := nat_of_u8 w2
  obtain ⟨n3, rfl, b3⟩ := nat_of_u8 w3
  exact walk n0 b0 n1 b1 n2 b2 n3 b3 W

theorem holds : Rows.LiveMovesSaid :=
  OpenClaim.holds_of_wide 5 Try.f5 rfl rfl rfl rfl rfl rfl rfl ⟨rfl, rfl, rfl, rfl, rfl⟩ rfl rfl rfl rfl rfl (by kernel_rfl) Try.func5 (by kernel_rfl)
    (of_decide_eq_true (by kernel_rfl)) (by unfold Func.isWrapper; first | (rw [if_pos (by decide +kernel)]; kernel_rfl) | (rw [if_neg (by decide +kernel)]; exact ⟨rfl, rfl⟩))
    (fun os started H enc _ => lifted os started H enc)
end Go.Proofs.Ytpdpdohkhiplpaa.liveMoves
