/- The document's disk: add. -/
import Derived.Test.YtieekahlknmkfaaRfB
namespace Go.Proofs.Ytieekahlknmkfaa
open Go.RowKit Go.Shelf
set_option linter.unusedVariables false
attribute [local go_sem] Oper.semAt_some wide_fn wide_round_fn

theorem less_bef : ∀ x y : List UInt8, Op.bytesLess x y = bytesBefore x y
  | [], [] => rfl
  | [], _ :: _ => rfl
  | _ :: _, [] => rfl
  | a :: x, b :: y => by
    show (decide (a < b) || (a == b && Op.bytesLess x y)) = _
    rw [less_bef x y]; rfl
theorem below_drewN8 {n : Nat} {w W : World} (h : Below n w W) (k : Nat) : Below n w (W.drewN k) := ⟨h.os, h.tape, h.output, h.size, h.block⟩
def bfN (f y : PF) : Bool := bytesBefore f.n.data.toList y.n.data.toList
theorem insK_cons (f y : PF) (r : List PF) : insK PF.n f (y :: r) = if bfN f y then f :: y :: r else y :: insK PF.n f r := rfl
def anyB (f : PF) (A : List PF) : Bool := A.any (bfN f)
def outL (f : PF) (A : List PF) : List PF := if anyB f A then insK PF.n f A else A
theorem ins_none {f : PF} : ∀ {A : List PF}, anyB f A = false → insK PF.n f A = A ++ [f]
  | [], _ => rfl
  | y :: r, h => by
    unfold anyB at h
    rw [List.any_cons, Bool.or_eq_false_iff] at h
    rw [insK_cons, if_neg (by rw [h.1]; decide), ins_none (A := r) h.2]; rfl
theorem ins_app {f : PF} : ∀ {A : List PF} (x : PF), anyB f A = true → insK PF.n f (A ++ [x]) = insK PF.n f A ++ [x]
  | [], x, h => by cases h
  | y :: r, x, h => by
    rw [List.cons_append, insK_cons, insK_cons]
    by_cases e : bfN f y = true
    · rw [if_pos e, if_pos e]; rfl
    · rw [if_neg e, if_neg e]
      unfold anyB at h
      rw [List.any_cons, Bool.or_eq_true] at h
      rw [ins_app (A := r) x (h.resolve_left e)]; rfl
theorem ins_new {f : PF} : ∀ {A : List PF} (x : PF), anyB f A = false → bfN f x = true → insK PF.n f (A ++ [x]) = A ++ [f] ++ [x]
  | [], x, _, hx => by rw [List.nil_append, insK_cons, if_pos hx]; rfl
  | y :: r, x, h, hx => by
    unfold anyB at h
    rw [List.any_cons, Bool.or_eq_false_iff] at h
    rw [List.cons_append, insK_cons, if_neg (by rw [h.1]; decide), ins_new (A := r) x h.2 hx]; rfl
theorem anyB_snoc (f : PF) (A : List PF) (x : PF) : anyB f (A ++ [x]) = (anyB f A || bfN f x) := by unfold anyB; rw [List.any_append]; simp
theorem outL_snoc (f : PF) (A : List PF) (x : PF) : outL f (A ++ [x]) = outL f A ++ (if anyB f A then [] else if bfN f x then [f] else []) ++ [x] := by
  unfold outL
  rw [anyB_snoc]
  cases ha : anyB f A
  · cases hx : bfN f x
    · simp
    · simp [ins_new x ha hx]
  · simp [ins_app x ha]
theorem outL_end (f : PF) (L : List PF) : insK PF.n f L = outL f L ++ if anyB f L then [] else [f] := by
  unfold outL
  cases ha : anyB f L
  · simp [ins_none ha]
  · simp
theorem outL_len (f : PF) (A : List PF) : (outL f A).length ≤ A.length + 1 := by
  unfold outL
  split
  · rw [insK_len]; omega
  · omega
set_option maxRecDepth 100000 in
set_option maxHeartbeats 2000000 in
theorem rfAdd_any {W : World} {B r : Nat} {D : PD} {v : Value} (h : HasRef W B r D v) (hL : D.L.length ≤ 1000) (f : PF) :
    Calls Try.prog 48 #[.pointer (some ⟨r, 0, none⟩), .agg #[.string f.n, .string ⟨f.b.toArray⟩, .int .i64 f.k]] W fun e w' => (∃ x, e = .returned x) ∧ OpR W B r v { D with L := insK PF.n f D.L } w' := by
  obtain ⟨i0, hi, hz0, hz1, hz2⟩ := info_parts infoFile
  obtain ⟨c0, c1, c2, c3⟩ := cells4 h.cell
  have HD := Lib.hid h
  obtain ⟨a, cap, hv, hcap, hml, hat⟩ := h.open
  rw [hv] at c1
  have hr := h.lt (k := r) (.inl rfl)
  have HE := Lib.hid (fun W1 v' (hB : Below W.heap.size W W1) (hrow : W1.ownsRow (W.heap.size + 1) 26 3 v' (insK PF.n f D.L).length (pfCells (insK PF.n f D.L))) => ref_list HD.out hB (own_base8 hrow (Nat.le_succ _)))
  have f1 := (frozen4 h.cell).1
  obtain ⟨S, hS⟩ : ∃ S : ByteArray, S = ⟨f.b.toArray⟩ := ⟨_, rfl⟩
  have HFC := Lib.hid (show f.cells = [.string f.n, .string S, .int .i64 f.k] by rw [hS]; rfl)
  rw [← hS]
  generalize hDL : D.L = L at *
  obtain ⟨W1, hW1⟩ : ∃ W1, W1 = W.alloc (.cells #[.string f.n, .string S, .int .i64 f.k] 26) := ⟨_, rfl⟩
  have hbx := World.alloc_heap_new W (.cells #[.string f.n, .string S, .int .i64 f.k] 26)
  rw [← hW1] at hbx
  have hsz1 : W1.heap.size = W.heap.size + 1 := by rw [hW1]; simp
  have hB1 : Below W.heap.size W W1 := by rw [hW1]; exact bel_alloc (Below.refl _ _) _
  have b0 := cell_of_row _ _ 0 _ _ _ hbx
  have b1 := cell_of_row _ _ 1 _ _ _ hbx
  have b2 := cell_of_row _ _ 2 _ _ _ hbx
  simp only [List.getElem?_toArray, List.getElem?_cons_zero, List.getElem?_cons_succ] at b0 b1 b2
  have hW : W.heap.size < W1.heap.size := by omega
  have HBX := Lib.hid (fun wr (hB : Below W1.heap.size W1 wr) => And.intro ((hB.cell (p := ⟨W.heap.size, 0, none⟩) hW).trans b0) (And.intro ((hB.cell (p := ⟨W.heap.size, 1, none⟩) hW).trans b1) ((hB.cell (p := ⟨W.heap.size, 2, none⟩) hW).trans b2)))
  have HW1 := Lib.hid hW1
  have HSZ := Lib.hid hsz1
  clear c0 c2 c3 h hv hbx hS b0 b1 b2 hW1 hsz1
  go_enter Try.func48, Try.ntmps48
  go_wp2
  rw [← HW1.out]
  go_loopw [4, 5, 6] (fun vo vd si wr => ∃ (k : Nat) (o : Value) (d : Bool), k ≤ L.length ∧ si = .int .i64 k ∧ o = vo ∧ vd = .bool d ∧ d = anyB f (L.take k) ∧ wr.ownsRow W1.heap.size 26 3 o (outL f (L.take k)).length (pfCells (outL f (L.take k))) ∧ Below W1.heap.size W1 wr) (fun _ _ si _ => L.length - (intOf si).toNat)
  case atStart => exact ⟨0, _, false, by omega, rfl, rfl, rfl, rfl, World.ownsRow_nil _ _ _ _, Below.refl _ _⟩
  case round =>
    obtain ⟨k, o, d, hk, rfl, rfl, rfl, hd, hown, hB⟩ := hrel
    have hszW := (bel2 hB1 hB).size
    by_cases hlt : k < L.length
    · obtain ⟨b, off, rfl, hb, e0, e1, e2⟩ := hat k hlt
      have hki : (k : Int) < (L.length : Int) := by omega
      have HA := Lib.hid (show anyB f (L.take (k + 1)) = (d || bfN f L[k]) by rw [List.take_succ_eq_append_getElem hlt, anyB_snoc, hd])
      have HO := Lib.hid (show outL f (L.take (k + 1)) = outL f (L.take k) ++ (if d then [] else if bfN f L[k] then [f] else []) ++ [L[k]] by rw [List.take_succ_eq_append_getElem hlt, outL_snoc, hd])
      have hol : (outL f (L.take k)).length ≤ 1001 := by have := outL_len f (L.take k); have := List.length_take_le k L; omega
      have HF := Lib.hid (fun wn (hB : Below W1.heap.size W1 wn) => (show wn.cell? ⟨r, 1, none⟩ = some (.slice (some ⟨b, off, none⟩) L.length cap) ∧ wn.cell? ⟨b, off + k * 3, none⟩ = some (.string L[k].n) ∧ wn.cell? ⟨b, off + k * 3 + 1, none⟩ = some (.string ⟨L[k].b.toArray⟩) ∧ wn.cell? ⟨b, off + k * 3 + 2, none⟩ = some (.int .i64 L[k].k) ∧ wn.cell? ⟨W.heap.size, 0, none⟩ = some (.string f.n) ∧ wn.cell? ⟨W.heap.size, 1, none⟩ = some (.string S) ∧ wn.cell? ⟨W.heap.size, 2, none⟩ = some (.int .i64 f.k) from
        have hBW := bel2 hB1 hB
        have hx := HBX.out wn hB
        ⟨(hBW.cell (p := ⟨r, 1, none⟩) hr).trans c1, (hBW.cell (p := ⟨b, off + k * 3, none⟩) hb).trans e0, (hBW.cell (p := ⟨b, off + k * 3 + 1, none⟩) hb).trans e1, (hBW.cell (p := ⟨b, off + k * 3 + 2, none⟩) hb).trans e2, hx.1, hx.2.1, hx.2.2⟩))
      have hcmp : Op.bytesLess f.n.toList L[k].n.toList = bfN f L[k] := by rw [less_bef, str_data, str_data]; rfl
      have HXC := Lib.hid (fun A : List PF => pfCells_snoc A L[k])
      have HXF := Lib.hid (fun A : List PF => (pfCells_snoc A f).trans (by rw [HFC.out]))
      generalize L[k] = x at *
      generalize bfN f x = q at *
      obtain ⟨xn, xb, xk⟩ := x
      dsimp only [PF.cells] at *
      generalize (⟨xb.toArray⟩ : ByteArray) = xs at *
      generalize f.n = fn at *
      generalize f.k = fk at *
      obtain ⟨hc1, d0, d1, d2, x0, x1, x2⟩ := HF.out wr hB
      have hsz := hB.size
      clear hat e0 e1 e2 c1 f1 hd
      cases d
      · cases q
        · simp only [Bool.false_or, Bool.false_eq_true, if_false, List.append_nil] at HA HO
          go_wp2
          go_quiet (fail)
          have hB' := below_drewN8 hB nq
          have hown' : (wr.drewN nq).ownsRow W1.heap.size 26 3 o (outL f (L.take k)).length (pfCells (outL f (L.take k))) := hown
          clear hown hB x0 x1 x2 d0 d1 d2 hc1 hsz
          generalize wr.drewN nq = wn at *
          obtain ⟨hc1, d0, d1, d2, x0, x1, x2⟩ := HF.out wn hB'
          have hsz := hB'.size
          go_wp2_with (at_builtin; refine wpList_append_own _ rfl _ _ 22 rfl W1.heap.size 26 i0 (.agg #[.string ⟨#[]⟩, .string ⟨#[]⟩, .int .i64 0]) 3 40 Try.underlying22 hi hz0 hz1 hz2 rfl (by decide) _ _ _ rfl (hown'.alloc _) ⟨wn.heap.size, 0, none⟩ 1 1 [.string xn, .string xs, .int .i64 xk] rfl rfl (news_new _ _ _) (by simp [Value.oneCell']) (by unfold maxLen; omega) (by omega) (by simp; omega) ?_; intro v' w3 hown3 hgrow _; have hB3 := (hB'.trans ((bel_alloc (Below.refl wn.heap.size wn) (.cells #[.string xn, .string xs, .int .i64 xk] 26)).mono hB'.size)).grown hgrow (by simp; omega) (fun k hk => (own_ge8 hown' hk).1); clear hown' hgrow)
          go_roundw
          case rel => exact ⟨k + 1, v', false, by omega, by go_num, rfl, rfl, HA.out.symm, by rw [HO.out, HXC.out, List.length_append]; exact hown3, hB3⟩
          case measure => simp [intOf]; omega
        · simp only [Bool.false_or, Bool.false_eq_true, if_false, if_true] at HA HO
          go_wp2
          go_quiet (fail)
          have hB' := below_drewN8 hB nq
          have hown' : (wr.drewN nq).ownsRow W1.heap.size 26 3 o (outL f (L.take k)).length (pfCells (outL f (L.take k))) := hown
          clear hown hB x0 x1 x2 d0 d1 d2 hc1 hsz
          generalize wr.drewN nq = wn at *
          obtain ⟨hc1, d0, d1, d2, x0, x1, x2⟩ := HF.out wn hB'
          have hsz := hB'.size
          go_wp2_with (first
            | (at_builtin; refine wpList_append_own _ rfl _ _ 22 rfl W1.heap.size 26 i0 (.agg #[.string ⟨#[]⟩, .string ⟨#[]⟩, .int .i64 0]) 3 40 Try.underlying22 hi hz0 hz1 hz2 rfl (by decide) _ _ _ rfl (hown'.alloc _) ⟨wn.heap.size, 0, none⟩ 1 1 [.string fn, .string S, .int .i64 fk] rfl rfl (news_new _ _ _) (by simp [Value.oneCell']) (by unfold maxLen; omega) (by omega) (by simp; omega) ?_; intro v2 w2 hown2 hgrow _; have hB3 := (hB'.trans ((bel_alloc (Below.refl wn.heap.size wn) (.cells #[.string fn, .string S, .int .i64 fk] 26)).mono hB'.size)).grown hgrow (by simp; omega) (fun k hk => (own_ge8 hown' hk).1); clear hown' hgrow; have hsz2 := hB3.size; have hszW2 := (bel2 hB1 hB3).size; clear x0 x1 x2 d0 d1 d2 hc1; obtain ⟨hc1, d0, d1, d2, x0, x1, x2⟩ := HF.out w2 hB3; have hB2 := hB3; clear hB3)
            | (at_builtin; refine wpList_append_own _ rfl _ _ 22 rfl W1.heap.size 26 i0 (.agg #[.string ⟨#[]⟩, .string ⟨#[]⟩, .int .i64 0]) 3 40 Try.underlying22 hi hz0 hz1 hz2 rfl (by decide) _ _ _ rfl (hown2.alloc _) ⟨w2.heap.size, 0, none⟩ 1 1 [.string xn, .string xs, .int .i64 xk] rfl rfl (news_new _ _ _) (by simp [Value.oneCell']) (by unfold maxLen; omega) (by omega) (by simp; omega) ?_; intro v' w3 hown3 hgrow _; have hB3 := (hB2.trans ((bel_alloc (Below.refl w2.heap.size w2) (.cells #[.string xn, .string xs, .int .i64 xk] 26)).mono hB2.size)).grown hgrow (by simp; omega) (fun k hk => (own_ge8 hown2 hk).1); clear hown2 hgrow))
          go_roundw
          case rel => exact ⟨k + 1, v', true, by omega, by go_num, rfl, rfl, HA.out.symm, by rw [HO.out, HXC.out, HXF.out, List.length_append, List.length_append]; exact hown3, hB3⟩
          case measure => simp [intOf]; omega
      · simp only [Bool.true_or, if_true, List.append_nil] at HA HO
        go_wp2
        go_quiet (fail)
        have hB' := below_drewN8 hB nq
        have hown' : (wr.drewN nq).ownsRow W1.heap.size 26 3 o (outL f (L.take k)).length (pfCells (outL f (L.take k))) := hown
        clear hown hB x0 x1 x2 d0 d1 d2 hc1 hsz
        generalize wr.drewN nq = wn at *
        obtain ⟨hc1, d0, d1, d2, x0, x1, x2⟩ := HF.out wn hB'
        have hsz := hB'.size
        go_wp2_with (at_builtin; refine wpList_append_own _ rfl _ _ 22 rfl W1.heap.size 26 i0 (.agg #[.string ⟨#[]⟩, .string ⟨#[]⟩, .int .i64 0]) 3 40 Try.underlying22 hi hz0 hz1 hz2 rfl (by decide) _ _ _ rfl (hown'.alloc _) ⟨wn.heap.size, 0, none⟩ 1 1 [.string xn, .string xs, .int .i64 xk] rfl rfl (news_new _ _ _) (by simp [Value.oneCell']) (by unfold maxLen; omega) (by omega) (by simp; omega) ?_; intro v' w3 hown3 hgrow _; have hB3 := (hB'.trans ((bel_alloc (Below.refl wn.heap.size wn) (.cells #[.string xn, .string xs, .int .i64 xk] 26)).mono hB'.size)).grown hgrow (by simp; omega) (fun k hk => (own_ge8 hown' hk).1); clear hown' hgrow)
        go_roundw
        case rel => exact ⟨k + 1, v', true, by omega, by go_num, rfl, rfl, HA.out.symm, by rw [HO.out, HXC.out, List.length_append]; exact hown3, hB3⟩
        case measure => simp [intOf]; omega
    · obtain rfl : k = L.length := by omega
      rw [List.take_length] at hd hown
      have hol : (outL f L).length ≤ 1001 := by have := outL_len f L; omega
      have HEnd := Lib.hid (outL_end f L)
      have hBW := bel2 hB1 hB
      have hc1 := (hBW.cell (p := ⟨r, 1, none⟩) hr).trans c1
      have hf1 := (hBW.frozen (p := ⟨r, 1, none⟩) hr).trans f1
      have HXF := Lib.hid (fun A : List PF => (pfCells_snoc A f).trans (by rw [HFC.out]))
      obtain ⟨x0, x1, x2⟩ := HBX.out wr hB
      have HC1 := Lib.hid (fun wn (hB : Below W1.heap.size W1 wn) => And.intro (((bel2 hB1 hB).cell (p := ⟨r, 1, none⟩) hr).trans c1) (((bel2 hB1 hB).frozen (p := ⟨r, 1, none⟩) hr).trans f1))
      have hsz := hB.size
      rw [← hd] at HEnd
      generalize f.n = fn at *
      generalize f.k = fk at *
      clear hat hlt hk c1 f1 hd
      cases d
      · simp only [Bool.false_eq_true, if_false] at HEnd
        go_wp2_with (at_builtin; refine wpList_append_own _ rfl _ _ 22 rfl W1.heap.size 26 i0 (.agg #[.string ⟨#[]⟩, .string ⟨#[]⟩, .int .i64 0]) 3 40 Try.underlying22 hi hz0 hz1 hz2 rfl (by decide) _ _ _ rfl (hown.alloc _) ⟨wr.heap.size, 0, none⟩ 1 1 [.string fn, .string S, .int .i64 fk] rfl rfl (news_new _ _ _) (by simp [Value.oneCell']) (by unfold maxLen; omega) (by omega) (by simp; omega) ?_; intro v' w3 hown3 hgrow _; have hB3 := (hB.trans ((bel_alloc (Below.refl wr.heap.size wr) (.cells #[.string fn, .string S, .int .i64 fk] 26)).mono hB.size)).grown hgrow (by simp; omega) (fun k hk => (own_ge8 hown hk).1); clear hown hgrow; obtain ⟨oa, oc, hv'⟩ := own_slice hown3; rw [hv'] at hown3; rw [hv']; clear hc1 hf1; obtain ⟨hc1, hf1⟩ := HC1.out w3 hB3)
        refine bodyPost_end (results_none rfl _ _ _) rfl ?_
        refine ⟨⟨_, rfl⟩, HE.out w3 _ (bel2 hB1 hB3) ?_⟩
        rw [← HSZ.out, HEnd.out, HXF.out, List.length_append]; exact hown3
      · simp only [if_true, List.append_nil] at HEnd
        obtain ⟨oa, oc, rfl⟩ := own_slice hown
        have HF := Lib.hid (HE.out wr _ hBW (by rw [← HSZ.out, HEnd.out]; exact hown))
        go_wp2
        refine bodyPost_end (results_none rfl _ _ _) rfl ?_
        exact ⟨⟨_, rfl⟩, HF.out⟩

end Go.Proofs.Ytieekahlknmkfaa
