/- Law TailRows: for every input the call answers true; its arguments read as they did. No condition. -/
import Derived.Test.YtpdpdohkhiplpaaLaw
import Derived.Test.YtpdpdohkhiplpaaKnown21
namespace Go.Proofs.Ytpdpdohkhiplpaa.tailRows
open Go.ChangeShapes Go.WideShapes Go.ChangeAt Go.RowKit Go.Shelf
open Go.ChangeMaps (open_string shut_string)
set_option linter.unusedVariables false
attribute [local go_sem] Oper.semAt_some wide_fn wide_round_fn


theorem infoFound : (Try.prog.info? 53).map (fun i => (i.zero, i.size, i.bytes)) = some (some (.agg #[.int .i64 0, .slice none 0 0, .int .i64 0, .int .i64 0]), 4, 48) := by kernel_rfl
def foundOf (n : Int) : FoundC := ⟨n, none, 0, 0, 0, 0⟩
def rowsF (f : Int) (k : Nat) : List FoundC := (List.range k).map fun i : Nat => foundOf (f + (i : Int))
theorem rowsF_len (f : Int) (k : Nat) : (rowsF f k).length = k := by simp [rowsF]
theorem rowsF_get (f : Int) (k j : Nat) (h : j < (rowsF f k).length) : (rowsF f k)[j] = foundOf (f + j) := by simp [rowsF]
theorem rowsF_cells (f : Int) (k : Nat) : foundCells (rowsF f (k + 1)) = foundCells (rowsF f k) ++ [.int .i64 (f + k), .slice none 0 0, .int .i64 0, .int .i64 0] := by
  unfold foundCells rowsF
  rw [List.range_succ, List.map_append, List.map_append, List.flatten_append]
  rfl
theorem seqsFrom_iff (l : List FoundC) (n : Int) : seqsFrom l n = true ↔ ∀ j (h : j < l.length), (l[j]).seq = n + j := by
  induction l generalizing n with
  | nil => simp [seqsFrom]
  | cons f r ih =>
    rw [seqsFrom, Bool.and_eq_true, beq_iff_eq, ih]
    constructor
    · rintro ⟨h1, h2⟩ j hj
      cases j with
      | zero => simpa using h1
      | succ j => have := h2 j (by simpa using hj); simp at this ⊢; omega
    · intro h
      refine ⟨(h 0 (by simp)).trans (by simp), fun j hj => ?_⟩
      have := h (j + 1) (by simpa using hj)
      simp at this ⊢; omega
theorem seqs_rows (f : Int) (k : Nat) : seqsFrom (rowsF f k) f = true := (seqsFrom_iff _ _).2 fun j hj => by rw [rowsF_get]; rfl
theorem seqs_rows_no (f g : Int) (k : Nat) (hk : 0 < k) (h : f ≠ g) : seqsFrom (rowsF f k) g = false := by
  rw [Bool.eq_false_iff]
  intro hs
  have := (seqsFrom_iff _ _).1 hs 0 (by rw [rowsF_len]; exact hk)
  rw [rowsF_get] at this
  simp [foundOf] at this
  omega
theorem set_cells (l : List FoundC) (j : Nat) (h : j < l.length) (q : Int) (hp : l[j] = foundOf l[j].seq) : (foundCells l).set (j * 4) (.int .i64 q) = foundCells (l.set j (foundOf q)) := by
  induction l generalizing j with
  | nil => simp at h
  | cons f r ih =>
    cases j with
    | zero =>
      simp only [List.getElem_cons_zero] at hp
      rw [hp]
      rfl
    | succ j =>
      have h' : j < r.length := by simpa using h
      have := ih j h' (by simpa using hp)
      simp only [foundCells, List.map_cons, List.flatten_cons, List.set_cons_succ] at this ⊢
      rw [List.set_append_right _ _ (by rw [FoundC.len]; omega), FoundC.len, show (j + 1) * 4 - 4 = j * 4 by omega, this]
theorem seqs_set (f : Int) (k j : Nat) (hj : j < k) (q : Int) : seqsFrom ((rowsF f k).set j (foundOf q)) f = decide (q = f + j) := by
  rw [Bool.eq_iff_iff, decide_eq_true_iff, seqsFrom_iff]
  constructor
  · intro h
    have := h j (by rw [List.length_set, rowsF_len]; exact hj)
    rw [List.getElem_set_self] at this
    exact this
  · intro h i hi
    by_cases e : i = j
    · subst e; rw [List.getElem_set_self]; exact h
    · rw [List.getElem_set_ne (Ne.symm e), rowsF_get]; rfl

set_option maxRecDepth 100000 in
set_option maxHeartbeats 2000000 in
theorem walk (from_ : Nat) (hfr : from_ < 65536) (n : Nat) (hn : n < 256) (a : Nat) (ha : a < 256) (by_ : Int) (hby : -128 ≤ by_ ∧ by_ < 128) (w : World) :
    Calls Try.prog 9 #[.int .u16 from_, .int .u8 n, .int .u8 a, .int .i8 by_] w fun e w' => e = .returned (.bool true) ∧ Below w.heap.size w w' := by
  obtain ⟨i0, hi, hz0, hz1, hz2⟩ := info_parts infoFound
  obtain ⟨k, hk, hk1, hk2⟩ : ∃ k : Nat, (n : Int) % 20 + 2 = (k : Int) ∧ 2 ≤ k ∧ k ≤ 21 := ⟨n % 20 + 2, by omega, by omega, by omega⟩
  go_enter Try.func9, Try.ntmps9
  go_wp2_with (go_at_call 24; refine (tail_known _).mono ?_; rintro e w1 ⟨rfl, hB1⟩)
  go_loopw [10, 11] (fun v i wr => ∃ q : Nat, q ≤ k ∧ i = .int .i64 q ∧ wr.ownsRow w.heap.size 53 4 v q (foundCells (rowsF (from_ + 1) q)) ∧ Below w.heap.size w wr) (fun _ i _ => k - (intOf i).toNat)
  case atStart => exact ⟨0, by omega, rfl, World.ownsRow_nil _ _ _ _, hB1⟩
  case round =>
    obtain ⟨q, hq, rfl, hown, hB⟩ := hrel
    by_cases hlt : q < k
    · have hcs := Lib.hid (rowsF_cells (from_ + 1) q)
      go_wp2_with (at_builtin; refine wpList_append_own _ rfl _ _ 48 rfl w.heap.size 53 i0 (.agg #[.int .i64 0, .slice none 0 0, .int .i64 0, .int .i64 0]) 4 48 Try.underlying48 hi hz0 hz1 hz2 rfl (by decide) _ _ _ rfl (hown.alloc _) ⟨wr.heap.size, 0, none⟩ 1 1 [.int .i64 (from_ + 1 + q), .slice none 0 0, .int .i64 0, .int .i64 0] rfl rfl (news_new _ _ _) (by simp [Value.oneCell']) (by unfold maxLen; omega) (by omega) (by have := hB.size; simp; omega) ?_; intro v' w2 hown' hgrow _)
      have hB2 : Below w.heap.size w w2 := (bel_alloc hB _).grown hgrow (by have := hB.size; simp; omega) (fun g e => ownBlock_ge hown e)
      exact ⟨⟨q + 1, by omega, by go_num, by rw [hcs.out]; exact hown', hB2⟩, by simp [intOf]; omega⟩
    · obtain rfl : q = k := by omega
      obtain ⟨g, cap, rfl, hg1, hg2⟩ := hown.form (by omega)
      have hL := rowsF_len (from_ + 1) q
      have hbd : ∀ f ∈ rowsF (from_ + 1) q, -1000000000000000000 < f.seq ∧ f.seq < 1000000000000000000 := fun f hf => by
        obtain ⟨i, hi, rfl⟩ := List.getElem_of_mem hf
        rw [rowsF_get]; rw [hL] at hi
        simp only [foundOf]; omega
      have base : ∀ (fr : Int) (r : Bool), -1000000000000000000 < fr → fr < 1000000000000000000 → seqsB (rowsF (from_ + 1) q) fr = r → ∀ W, Below wr.heap.size wr W → Gives Try.prog 25 #[.slice (some ⟨g, 0, none⟩) q cap, .int .i64 fr] W (.bool r) := fun fr r h1 h2 h3 W hW => by
        obtain ⟨a', c', hv, _, hrow⟩ := rowV_own hown
        cases hv
        have := seqs_any (rowsF (from_ + 1) q) fr h1 h2 hbd (some ⟨g, 0, none⟩) q cap hL (by omega) W (hrow.below hW)
        rwa [h3] at this
      have S1 := Lib.hid (base (from_ + 1) true (by omega) (by omega) (by unfold seqsB; rw [if_neg (by omega)]; exact seqs_rows _ _))
      have S2 := Lib.hid (base 0 true (by decide) (by decide) (by
        unfold seqsB; rw [if_pos rfl]
        obtain ⟨q', rfl⟩ : ∃ q', q = q' + 1 := ⟨q - 1, by omega⟩
        have : (((rowsF (from_ + 1) (q' + 1)).head?.map FoundC.seq).getD 0) = from_ + 1 := by simp [rowsF, List.range_succ_eq_map, foundOf]
        rw [this]
        exact seqs_rows _ _))
      have S3 := Lib.hid (base (from_ + 2) false (by omega) (by omega) (by unfold seqsB; rw [if_neg (by omega)]; exact seqs_rows_no _ _ _ (by omega) (by omega)))
      obtain ⟨j, hj, hj1, hj2⟩ : ∃ j : Nat, (a : Int) % ((q : Int) - 1) + 1 = (j : Int) ∧ 1 ≤ j ∧ j < q := ⟨a % (q - 1) + 1, by rw [show ((q : Int) - 1) = ((q - 1 : Nat) : Int) by omega]; simp, by omega, by have := Nat.mod_lt a (show 0 < q - 1 by omega); omega⟩
      have hcj : (foundCells (rowsF (from_ + 1) q))[j * 4]? = some (.int .i64 (from_ + 1 + j)) := by
        have := flat_at FoundC.cells 4 FoundC.len (rowsF (from_ + 1) q) j 0 (by omega) (by decide)
        rw [Nat.add_zero, rowsF_get] at this
        exact this
      have hjl : j < (rowsF (from_ + 1) q).length := by omega
      have H5 := Lib.hid (show ∀ W (u : Int), -1000000 < u → u < 1000000 → Below wr.heap.size wr W → W.cell? ⟨g, j * 4, none⟩ = some (.int .i64 (from_ + 1 + j)) ∧ W.frozen? ⟨g, j * 4, none⟩ = false ∧ (W.setCell ⟨g, j * 4, none⟩ (.int .i64 u)).cell? ⟨g, j * 4, none⟩ = some (.int .i64 u) ∧
          Below w.heap.size w (W.setCell ⟨g, j * 4, none⟩ (.int .i64 u)) ∧ Gives Try.prog 25 #[.slice (some ⟨g, 0, none⟩) q cap, .int .i64 (from_ + 1)] (W.setCell ⟨g, j * 4, none⟩ (.int .i64 u)) (.bool (decide (u = from_ + 1 + j))) from fun W u hu1 hu2 hW => by
        have hown5 := ownsRow_below (n := 0) hown hW
        obtain ⟨hst, _⟩ := hown5.stored (j * 4) (.int .i64 u)
        have hlen : (foundCells (rowsF (from_ + 1) q)).length = q * 4 := by rw [foundCells, flat_len FoundC.cells 4 FoundC.len, hL]
        refine ⟨(hown5.cellAt (j * 4) (by omega)).trans hcj, hown5.frozenAt _, ?_, ?_, ?_⟩
        · rw [hst.cellAt (j * 4) (by omega), List.getElem?_set_self (by rw [hlen]; omega)]
        · exact (hB.trans (hW.mono hB.size)).setCell (p := ⟨g, j * 4, none⟩) hg1 _
        · rw [set_cells _ j hjl u (by rw [rowsF_get]; rfl)] at hst
          obtain ⟨a', c', hv, _, hrow⟩ := rowV_own hst
          cases hv
          have := seqs_any ((rowsF (from_ + 1) q).set j (foundOf u)) (from_ + 1) (by omega) (by omega) (fun f hf => by
            rcases List.mem_or_eq_of_mem_set hf with h | rfl
            · exact hbd f h
            · simp only [foundOf]; omega) (some ⟨g, 0, none⟩) q cap (by rw [List.length_set, hL]) (by omega) _ hrow
          unfold seqsB at this
          rw [if_neg (by omega), seqs_set _ _ _ hj2] at this
          exact this)
      have hj3 : (j : Int) < (q : Int) := by omega
      have hj0 : (0 : Int) ≤ (j : Int) := by omega
      clear base hbd hL hcj hjl hown hg1 hg2
      by_cases hu : (from_ : Int) + 1 + j + by_ < 1
      · skip
        go_wp2_with (first
          | (go_at_call 25; ((with_reducible refine (S1.out _ (Below.refl _ _)).mono ?_); rintro e w3 ⟨rfl, hB3⟩))
          | (go_at_call 25; ((with_reducible refine (S2.out _ hB3).mono ?_); rintro e w4 ⟨rfl, hB4⟩))
          | (go_at_call 25; ((with_reducible refine (S3.out _ (bel2 hB3 hB4)).mono ?_); rintro e w5 ⟨rfl, hB5⟩; obtain ⟨hc5, hf5, hc6, hB6, G6⟩ := H5.out w5 (from_ + 1 + j + by_) (by omega) (by omega) (bel2 (bel2 hB3 hB4) hB5); have HG6 := Lib.hid G6; clear G6)))
        go_ret
        exact ⟨rfl, hB6⟩
      · by_cases hz : by_ = 0
        · have t0 : (by_ == 0) = true := by rw [beq_iff_eq]; exact hz
          have HZ := Lib.hid hz
          clear hz
          go_wp2_with (first
            | (go_at_call 25; ((with_reducible refine (S1.out _ (Below.refl _ _)).mono ?_); rintro e w3 ⟨rfl, hB3⟩))
            | (go_at_call 25; ((with_reducible refine (S2.out _ hB3).mono ?_); rintro e w4 ⟨rfl, hB4⟩))
            | (go_at_call 25; ((with_reducible refine (S3.out _ (bel2 hB3 hB4)).mono ?_); rintro e w5 ⟨rfl, hB5⟩; obtain ⟨hc5, hf5, hc6, hB6, G6⟩ := H5.out w5 (from_ + 1 + j + by_) (by omega) (by omega) (bel2 (bel2 hB3 hB4) hB5); rw [decide_eq_true (by have := HZ.out; omega)] at G6; have HG6 := Lib.hid G6; clear G6))
            | (go_at_call 25; ((with_reducible refine (HG6.out).mono ?_); rintro e w6 ⟨rfl, hB7⟩)))
          go_ret
          exact ⟨rfl, bel2 hB6 hB7⟩
        · have t0 : (by_ == 0) = false := by rw [beq_eq_false_iff_ne]; exact hz
          have HZ := Lib.hid hz
          clear hz
          go_wp2_with (first
            | (go_at_call 25; ((with_reducible refine (S1.out _ (Below.refl _ _)).mono ?_); rintro e w3 ⟨rfl, hB3⟩))
            | (go_at_call 25; ((with_reducible refine (S2.out _ hB3).mono ?_); rintro e w4 ⟨rfl, hB4⟩))
            | (go_at_call 25; ((with_reducible refine (S3.out _ (bel2 hB3 hB4)).mono ?_); rintro e w5 ⟨rfl, hB5⟩; obtain ⟨hc5, hf5, hc6, hB6, G6⟩ := H5.out w5 (from_ + 1 + j + by_) (by omega) (by omega) (bel2 (bel2 hB3 hB4) hB5); rw [decide_eq_false (by have := HZ.out; omega)] at G6; have HG6 := Lib.hid G6; clear G6))
            | (go_at_call 25; ((with_reducible refine (HG6.out).mono ?_); rintro e w6 ⟨rfl, hB7⟩)))
          go_ret
          exact ⟨rfl, bel2 hB6 hB7⟩

set_option maxRecDepth 100000 in
theorem lifted (os : Os) (started : os.Started) (H : Type) (enc : TypeId × Value → H) :
    ReturnsInHanded {} Try.checked os 9 .any (Rows.tailRowsSpec.pre6 enc Try.prog Try.f9 Rows.tailRowsRow.domain false) (Rows.tailRowsSpec.post enc Try.prog Try.f9 false true false false) := by
  refine returnsInHanded_of_change (C := Try.checked) Try.own started (by kernel_rfl) Try.func9
    (ChangeSpec.witness6 (enc := enc) (C := Try.checked) false ⟨#[], #[.int .u16 0, .int .u8 0, .int .u8 0, .int .i8 0], []⟩ 8 (by kernel_rfl) (by kernel_rfl) (by kernel_rfl) (by kernel_rfl)) ?_
  intro W base args ds gs before hval hW _ _
  refine law_contract (T := 4) (n := 4) Try.laid Try.underlying4 rfl rfl ⟨rfl, fun H ds h => by match ds, h with | [_, _, _, _], _ => rfl⟩ (of_all (by kernel_rfl)) hW ?_
  intro ps hA
  rw [Try.params9] at hA hval
  obtain ⟨v0, vs0, d0, ds0, p0, q0, hargs, rfl, rfl, h0, r0⟩ := trodAll_cons hA
  obtain ⟨v1, vs1, d1, ds1, p1, q1, rfl, rfl, rfl, h1, r1⟩ := trodAll_cons r0
  obtain ⟨v2, vs2, d2, ds2, p2, q2, rfl, rfl, rfl, h2, r2⟩ := trodAll_cons r1
  obtain ⟨v3, vs3, d3, ds3, p3, q3, rfl, rfl, rfl, h3, r3⟩ := trodAll_cons r2
  obtain ⟨rfl, rfl, rfl⟩ := trodAll_nil r3
  obtain rfl : args = #[v0, v1, v2, v3] := by cases args; simp_all
  obtain ⟨a0, rfl, rfl, rfl, w0⟩ := open_int Try.underlying44 (hval 0 44 v0 rfl rfl) h0
  obtain ⟨a1, rfl, rfl, rfl, w1⟩ := open_int Try.underlying5 (hval 1 5 v1 rfl rfl) h1
  obtain ⟨a2, rfl, rfl, rfl, w2⟩ := open_int Try.underlying5 (hval 2 5 v2 rfl rfl) h2
  obtain ⟨a3, rfl, rfl, rfl, w3⟩ := open_int Try.underlying47 (hval 3 47 v3 rfl rfl) h3
  obtain ⟨n0, rfl, b0⟩ := nat_of_u16 w0
  obtain ⟨n1, rfl, b1⟩ := nat_of_u8 w1
  obtain ⟨n2, rfl, b2⟩ := nat_of_u8 w2
  exact walk n0 b0 n1 b1 n2 b2 a3 (bounds_i8 w3) W

theorem holds : Rows.TailRowsSaid :=
  OpenClaim.holds_of_wide 9 Try.f9 rfl rfl rfl rfl rfl rfl rfl ⟨rfl, rfl, rfl, rfl, rfl⟩ rfl rfl rfl rfl rfl (by kernel_rfl) Try.func9 (by kernel_rfl)
    (of_decide_eq_true (by kernel_rfl)) (by unfold Func.isWrapper; first | (rw [if_pos (by decide +kernel)]; kernel_rfl) | (rw [if_neg (by decide +kernel)]; exact ⟨rfl, rfl⟩))
    (fun os started H enc _ => lifted os started H enc)
end Go.Proofs.Ytpdpdohkhiplpaa.tailRows
