/- The document's disk: Append, Sync, Cut (stores into the row of files). -/
import Derived.Test.YtieekahlknmkfaaRfD
import Derived.StillTailTactics
namespace Go.Proofs.Ytieekahlknmkfaa
open Go.RowKit Go.Shelf
set_option linter.unusedVariables false
attribute [local go_sem] Oper.semAt_some wide_fn wide_round_fn

theorem HasRef.slice {W : World} {B r : Nat} {D : PD} {v : Value} (h : HasRef W B r D v) (hp : 0 < D.L.length) : ∃ g cap cur, v = .slice (some ⟨g, 0, none⟩) D.L.length cap ∧ W.heap[g]? = some (.cells cur 26 (0, 0)) ∧ D.L.length ≤ maxLen ∧ cur.toList.take (D.L.length * 3) = pfCells D.L := by
  rcases h.row.2 with ⟨_, h0⟩ | ⟨g, cap, cur, hv, _, hg, h1, h3, _, h5⟩
  · omega
  · exact ⟨g, cap, cur, hv, hg, Nat.le_trans h1 h3, h5⟩
theorem ref_cells {W : World} {g : Nat} {cur : Array Value} {L : List PF} (hg : W.heap[g]? = some (.cells cur 26 (0, 0))) (ht : cur.toList.take (L.length * 3) = pfCells L) {i : Nat} (hi : i < L.length) :
    W.cell? ⟨g, i * 3, none⟩ = some (.string L[i].n) ∧ W.cell? ⟨g, i * 3 + 1, none⟩ = some (.string ⟨L[i].b.toArray⟩) ∧ W.cell? ⟨g, i * 3 + 2, none⟩ = some (.int .i64 L[i].k) ∧ W.frozen? ⟨g, i * 3, none⟩ = false ∧ W.frozen? ⟨g, i * 3 + 1, none⟩ = false ∧ W.frozen? ⟨g, i * 3 + 2, none⟩ = false := by
  obtain ⟨h0, h1, h2⟩ := pfCells_at L i hi
  have hc : ∀ p x, p < L.length * 3 → (pfCells L)[p]? = some x → W.cell? ⟨g, p, none⟩ = some x := fun p x hp hx => by
    refine (cell_of_row _ _ p _ _ _ hg).trans ?_
    rw [← ht, List.getElem?_take_of_lt hp] at hx
    simpa using hx
  exact ⟨hc _ _ (by omega) h0, hc _ _ (by omega) h1, hc _ _ (by omega) h2, frozen_of_row _ _ _ _ _ hg, frozen_of_row _ _ _ _ _ hg, frozen_of_row _ _ _ _ _ hg⟩
theorem pfCells_set : ∀ (L : List PF) (i : Nat) (h : i < L.length) (f' : PF) (j : Nat) (u : Value), j < 3 → f'.cells = L[i].cells.set j u → pfCells (L.set i f') = (pfCells L).set (i * 3 + j) u
  | f :: r, 0, h, f', j, u, hj, hc => by
    show f'.cells ++ pfCells r = (f.cells ++ pfCells r).set (0 * 3 + j) u
    rw [Nat.zero_mul, Nat.zero_add, List.set_append_left _ _ (by exact hj), hc]; rfl
  | f :: r, i + 1, h, f', j, u, hj, hc => by
    have ih := pfCells_set r i (Nat.lt_of_succ_lt_succ h) f' j u hj hc
    show f.cells ++ pfCells (r.set i f') = (f.cells ++ pfCells r).set ((i + 1) * 3 + j) u
    rw [ih, List.set_append_right _ _ (by show 3 ≤ _; omega)]
    congr 2
    show i * 3 + j = (i + 1) * 3 + j - 3
    omega
/-- One cell of one file is turned. -/
theorem ref_set {W : World} {B r : Nat} {D : PD} {v : Value} (h : HasRef W B r D v) {g cap : Nat} (hv : v = .slice (some ⟨g, 0, none⟩) D.L.length cap) {i : Nat} (hi : i < D.L.length) (j : Nat) (u : Value) (f' : PF) (hj : j < 3) (hc : f'.cells = D.L[i].cells.set j u) :
    HasRef (W.setCell ⟨g, i * 3 + j, none⟩ u) B r { D with L := D.L.set i f' } v ∧ FrameT (ownR r v) W (W.setCell ⟨g, i * 3 + j, none⟩ u) := by
  have hob : v.ownBlock = some g := by rw [hv]; rfl
  have hgr : r ≠ g := fun e => h.ne (by rw [hob, e])
  have hF := FrameT.setCell W g (i * 3 + j) u
  refine ⟨{ cell := hF.get h.cell hgr, row := ?_, low := h.low }, hF.mono fun k hk => .inr (by rw [hob, hk])⟩
  have hl : (D.L.set i f').length = D.L.length := List.length_set ..
  show (W.setCell ⟨g, i * 3 + j, none⟩ u).ownsRow B 26 3 v (D.L.set i f').length (pfCells (D.L.set i f'))
  rw [hl]
  refine ⟨by rw [pfCells_len, hl], ?_⟩
  rcases h.row.2 with ⟨hv0, _⟩ | ⟨g', cap', cur, hv', hb, hg, h1, h3, h4, h5⟩
  · rw [hv0] at hv; cases hv
  · have hgg : g' = g := by
      have : v.ownBlock = some g' := by rw [hv']; rfl
      rw [hob] at this; exact (Option.some.inj this).symm
    subst hgg
    refine .inr ⟨g', cap', _, hv', hb, heap_setCell_same W g' (i * 3 + j) _ _ u hg, h1, h3, by simpa using h4, ?_⟩
    rw [pfCells_set D.L i hi f' j u hj hc, ← h5, Array.toList_setIfInBounds, List.take_set]
theorem HasRef.drew {W : World} {B r : Nat} {D : PD} {v : Value} (h : HasRef W B r D v) : HasRef W.drew B r D v := h.frame (T := fun _ => False) (FrameT.refl _ _).drew (fun _ _ => id)
/-- As ref_set, behind a draw. -/
theorem ref_setd {W : World} {B r : Nat} {D : PD} {v : Value} (h : HasRef W B r D v) {g cap : Nat} (hv : v = .slice (some ⟨g, 0, none⟩) D.L.length cap) {i : Nat} (hi : i < D.L.length) (j : Nat) (u : Value) (f' : PF) (hj : j < 3) (hc : f'.cells = D.L[i].cells.set j u) :
    HasRef (W.setCell ⟨g, i * 3 + j, none⟩ u).drew B r { D with L := D.L.set i f' } v ∧ FrameT (ownR r v) W (W.setCell ⟨g, i * 3 + j, none⟩ u).drew := by
  have h1 := ref_set h hv hi j u f' hj hc
  exact ⟨h1.1.drew, h1.2.drew⟩
theorem str_app (l : List UInt8) (b : ByteArray) : (⟨(l ++ b.data.toList).toArray⟩ : ByteArray) = ⟨l.toArray⟩ ++ b := by
  apply ByteArray.ext
  rw [ByteArray.data_append]
  simp
theorem turn_set {L : List PF} (hp : L.Pairwise fun f g => f.n ≠ g.n) (g : PF → PF) {s : ByteArray} {i : Nat} (hi : i < L.length) (hn : L[i].n = s) : L.set i (g L[i]) = turnL g L s := by
  show L.set i (g L[i]) = L.map fun x => if x.n = s then g x else x
  apply List.ext_getElem
  · rw [List.length_set, List.length_map]
  · intro j h1 h2
    rw [List.getElem_set, List.getElem_map]
    have hj : j < L.length := by rw [List.length_set] at h1; exact h1
    by_cases e : i = j
    · subst e; rw [if_pos rfl, if_pos hn]
    · rw [if_neg e, if_neg]
      intro hjn
      rcases (by omega : i < j ∨ j < i) with h | h
      · exact (List.pairwise_iff_getElem.1 hp) i j hi hj h (hn.trans hjn.symm)
      · exact (List.pairwise_iff_getElem.1 hp) j i hj hi h (hjn.trans hn.symm)
set_option maxRecDepth 100000 in
set_option maxHeartbeats 4000000 in
theorem rfSync_any {W : World} {B r : Nat} {D : PD} {v : Value} (h : HasRef W B r D v) (hp : D.L.Pairwise fun f g => f.n ≠ g.n) (hL : D.L.length ≤ 1000) (hst : D.steps < 4611686018427387904) (hle : D.left < 9223372036854775808) (s : ByteArray) :
    Calls Try.prog 52 #[.pointer (some ⟨r, 0, none⟩), .string s] W fun e w' => e = .returned (.int .i64 (askE D s)) ∧ OpR W B r v (syncD D s) w' := by
  have HD := Lib.hid h
  have GAt := Lib.hid (rfAt_any h s)
  obtain ⟨c0, c1, c2, c3⟩ := cells4 h.cell
  rcases ask_at D s with ⟨h18, hz⟩ | ⟨h19, hz, ha⟩ | ⟨h0, hz, ho, i, hi, ha, hn, hg⟩
  · have HE := Lib.hid (show askE D s = 18 ∧ syncD D s = D from ⟨h18, by unfold syncD; rw [h18]; rfl⟩)
    rw [hz] at c3
    generalize atZ D.L s = q at *
    clear h h18 hz
    go_enter Try.func52, Try.ntmps52
    go_wp2_with (go_at_call 47; ((with_reducible refine GAt.out.mono ?_); rintro e w1 ⟨rfl, hw1⟩; (have hw2 := hw1.symm); clear hw1; subst hw2))
    go_ret
    exact ⟨by rw [HE.out.1]; rfl, by rw [HE.out.2]; exact OpR.same HD.out⟩
  · have HE := Lib.hid (show askE D s = 19 ∧ syncD D s = D from ⟨h19, by unfold syncD; rw [h19]; rfl⟩)
    rw [ha] at GAt
    generalize leftZ D = z at *
    clear h h19 ha
    go_enter Try.func52, Try.ntmps52
    go_wp2_with (go_at_call 47; ((with_reducible refine GAt.out.mono ?_); rintro e w1 ⟨rfl, hw1⟩; (have hw2 := hw1.symm); clear hw1; subst hw2))
    go_ret
    exact ⟨by rw [HE.out.1]; rfl, by rw [HE.out.2]; exact OpR.same HD.out⟩
  · have HE := Lib.hid (show askE D s = 0 ∧ syncD D s = doneD { D with L := turnL keepP D.L s } from ⟨h0, by unfold syncD; rw [if_pos h0]⟩)
    obtain ⟨g, cap, cur, hv, hgc, hml, ht⟩ := h.slice (by omega)
    subst hv
    unfold maxLen at hml
    obtain ⟨e0, e1, e2, f0, f1, f2⟩ := ref_cells hgc ht hi
    rw [ha] at GAt
    have hi0 : (0 : Int) ≤ (i : Int) := by omega
    have hil : (i : Int) < (D.L.length : Int) := by omega
    have hrg : r ≠ g := fun e => h.ne (by rw [e]; rfl)
    obtain ⟨S, hS⟩ : ∃ S : ByteArray, S = ⟨D.L[i].b.toArray⟩ := ⟨_, rfl⟩
    have hSz : (S.size : Nat) = D.L[i].b.length := by rw [hS]; show D.L[i].b.toArray.size = _; simp
    have HS1 := Lib.hid (show HasRef (W.setCell ⟨g, i * 3 + 2, none⟩ (.int .i64 (S.size : Nat))).drew B r { D with L := turnL keepP D.L s } (.slice (some ⟨g, 0, none⟩) D.L.length cap) ∧ FrameT (ownR r (.slice (some ⟨g, 0, none⟩) D.L.length cap)) W (W.setCell ⟨g, i * 3 + 2, none⟩ (.int .i64 (S.size : Nat))).drew from by
      have := ref_setd h rfl hi 2 (.int .i64 (S.size : Nat)) (keepP D.L[i]) (by decide) (by rw [hSz]; rfl)
      rwa [turn_set hp keepP hi hn] at this)
    have HO1 := Lib.hid (OpR.own HS1.out.1 HS1.out.2)
    have e2d : W.drew.cell? ⟨g, i * 3 + 2, none⟩ = _ := e2
    have f2d : W.drew.frozen? ⟨g, i * 3 + 2, none⟩ = false := f2
    have GS := Lib.hid (fun w1 (h1 : OpR W B r (.slice (some ⟨g, 0, none⟩) D.L.length cap) { D with L := turnL keepP D.L s } w1) => stepR h1 ho hst hle)
    rw [← hS] at e1
    generalize hzz : leftZ D = z at *
    generalize D.L[i].n = xn at *
    generalize D.L[i].k = xk at *
    clear ha hn ho hzz h0 hS hSz h ht hgc hg hp hi
    go_enter Try.func52, Try.ntmps52
    go_wp2_with (go_at_call 47; ((with_reducible refine GAt.out.mono ?_); rintro e w1 ⟨rfl, hw1⟩; (have hw2 := hw1.symm); clear hw1; subst hw2))
    go_still_tail 16, (by kernel_rfl)
    change wpList _ _ _ _ _ W.drew
    go_wp2_with (go_at_call 75; ((with_reducible refine (GS.out _ HO1.out).mono ?_); rintro e w3 ⟨⟨x3, rfl⟩, hO3⟩))
    go_ret
    exact ⟨by rw [HE.out.1]; rfl, by rw [HE.out.2]; exact hO3⟩

set_option maxRecDepth 100000 in
set_option maxHeartbeats 4000000 in
theorem rfAppend_any {W : World} {B r : Nat} {D : PD} {v : Value} (h : HasRef W B r D v) (hp : D.L.Pairwise fun f g => f.n ≠ g.n) (hL : D.L.length ≤ 1000) (hst : D.steps < 4611686018427387904) (hle : D.left < 9223372036854775808) (hu : usedL D.L ≤ 2000000) (hro : D.room ≤ 1000000) (s b : ByteArray) (hb : b.size ≤ 1000000) :
    Calls Try.prog 51 #[.pointer (some ⟨r, 0, none⟩), .string s, .string b] W fun e w' => e = .returned (.int .i64 (appendE D s b)) ∧ OpR W B r v (appendD D s b) w' := by
  have HD := Lib.hid h
  have GAt := Lib.hid (rfAt_any h s)
  obtain ⟨c0, c1, c2, c3⟩ := cells4 h.cell
  rcases ask_at D s with ⟨h18, hz⟩ | ⟨h19, hz, ha⟩ | ⟨h0, hz, ho, i, hi, ha, hn, hg⟩
  · have HE := Lib.hid (show appendE D s b = 18 ∧ appendD D s b = D from by have e : appendE D s b = 18 := by { unfold appendE; rw [if_pos (by rw [h18]; decide), h18] }; exact ⟨e, by unfold appendD; rw [e]; rfl⟩)
    rw [hz] at c3
    generalize atZ D.L s = q at *
    clear h h18 hz
    go_enter Try.func51, Try.ntmps51
    go_wp2_with (go_at_call 47; ((with_reducible refine GAt.out.mono ?_); rintro e w1 ⟨rfl, hw1⟩; (have hw2 := hw1.symm); clear hw1; subst hw2))
    go_ret
    exact ⟨by rw [HE.out.1]; rfl, by rw [HE.out.2]; exact OpR.same HD.out⟩
  · have HE := Lib.hid (show appendE D s b = 19 ∧ appendD D s b = D from by have e : appendE D s b = 19 := by { unfold appendE; rw [if_pos (by rw [h19]; decide), h19] }; exact ⟨e, by unfold appendD; rw [e]; rfl⟩)
    rw [ha] at GAt
    generalize leftZ D = z at *
    clear h h19 ha
    go_enter Try.func51, Try.ntmps51
    go_wp2_with (go_at_call 47; ((with_reducible refine GAt.out.mono ?_); rintro e w1 ⟨rfl, hw1⟩; (have hw2 := hw1.symm); clear hw1; subst hw2))
    go_ret
    exact ⟨by rw [HE.out.1]; rfl, by rw [HE.out.2]; exact OpR.same HD.out⟩
  · have GU := Lib.hid (fun n => rfUsed_any (h.below (below_drewN8 (Below.refl _ W) n)) (by omega))
    have hui : (usedL D.L : Int) ≤ 2000000 := by omega
    have hbi : (b.size : Int) ≤ 1000000 := by omega
    obtain ⟨g, cap, cur, hv, hgc, hml, ht⟩ := h.slice (by omega)
    subst hv
    unfold maxLen at hml
    obtain ⟨e0, e1, e2, f0, f1, f2⟩ := ref_cells hgc ht hi
    rw [ha] at GAt
    have hi0 : (0 : Int) ≤ (i : Int) := by omega
    have hil : (i : Int) < (D.L.length : Int) := by omega
    have hrg : r ≠ g := fun e => h.ne (by rw [e]; rfl)
    by_cases hr : D.room < usedL D.L + b.size
    · have HE := Lib.hid (show appendE D s b = 17 ∧ appendD D s b = D from by have e : appendE D s b = 17 := by { unfold appendE; rw [if_neg (by rw [h0]; decide), if_pos hr] }; exact ⟨e, by unfold appendD; rw [e]; rfl⟩)
      have hri : (D.room : Int) < (usedL D.L : Int) + (b.size : Int) := by omega
      generalize hzz : leftZ D = z at *
      generalize hqq : usedL D.L = q at *
      generalize hrr : D.room = rm at *
      clear e0 e1 e2 f0 f1 f2
      clear ha hn ho hzz h0 h ht hgc hg hp hi hqq hrr hr hu
      go_enter Try.func51, Try.ntmps51
      go_wp2_with (go_at_call 47; ((with_reducible refine GAt.out.mono ?_); rintro e w1 ⟨rfl, hw1⟩; (have hw2 := hw1.symm); clear hw1; subst hw2))
      go_quiet ((go_at_call 63; exact Calls.quiet_of_same (GU.out _)))
      go_wp2
      go_ret
      exact ⟨by rw [HE.out.1]; rfl, by rw [HE.out.2]; exact OpR.below (below_drewN8 (Below.refl _ _) _) (OpR.same (HD.out.below (below_drewN8 (Below.refl _ _) _)))⟩
    · have hE0 : appendE D s b = 0 := by unfold appendE; rw [if_neg (by rw [h0]; decide), if_neg hr]
      have HE := Lib.hid (show appendE D s b = 0 ∧ appendD D s b = doneD { D with L := turnL (appP b) D.L s } from ⟨hE0, by unfold appendD; rw [if_pos hE0]⟩)
      have hri : (usedL D.L : Int) + (b.size : Int) ≤ (D.room : Int) := by omega
      obtain ⟨S, hS⟩ : ∃ S : ByteArray, S = ⟨D.L[i].b.toArray⟩ := ⟨_, rfl⟩
      have hSz : (S.size : Nat) = D.L[i].b.length := by rw [hS]; show D.L[i].b.toArray.size = _; simp
      have hSu := used_mem (List.getElem_mem hi)
      have hcat : S.size + b.size ≤ 3000000 := by omega
      have hcatn : ¬ 9223372036854775807 < S.size + b.size := by omega
      have HS1 := Lib.hid (fun W1 (h1 : HasRef W1 B r D (.slice (some ⟨g, 0, none⟩) D.L.length cap)) => (show HasRef (W1.setCell ⟨g, i * 3 + 1, none⟩ (.string (S ++ b))).drew B r { D with L := turnL (appP b) D.L s } (.slice (some ⟨g, 0, none⟩) D.L.length cap) ∧ FrameT (ownR r (.slice (some ⟨g, 0, none⟩) D.L.length cap)) W1 (W1.setCell ⟨g, i * 3 + 1, none⟩ (.string (S ++ b))).drew from by
        have := ref_setd h1 rfl hi 1 (.string (S ++ b)) (appP b D.L[i]) (by decide) (by rw [hS]; show [_, Value.string ⟨(D.L[i].b ++ b.data.toList).toArray⟩, _] = [_, _, _]; rw [str_app]; rfl)
        rwa [turn_set hp (appP b) hi hn] at this))
      have GS := Lib.hid (fun w1 (h1 : OpR W B r (.slice (some ⟨g, 0, none⟩) D.L.length cap) { D with L := turnL (appP b) D.L s } w1) => stepR h1 ho hst hle)
      rw [← hS] at e1
      generalize hzz : leftZ D = z at *
      generalize D.L[i].n = xn at *
      generalize D.L[i].k = xk at *
      generalize hqq : usedL D.L = q at *
      generalize hrr : D.room = rm at *
      have HF := Lib.hid (fun nq => (show (W.drewN nq).cell? ⟨r, 1, none⟩ = some (.slice (some ⟨g, 0, none⟩) D.L.length cap) ∧ (W.drewN nq).cell? ⟨g, i * 3 + 1, none⟩ = some (.string S) ∧ (W.drewN nq).frozen? ⟨g, i * 3 + 1, none⟩ = false ∧ HasRef (W.drewN nq) B r D (.slice (some ⟨g, 0, none⟩) D.L.length cap) ∧ Below W.heap.size W (W.drewN nq) from ⟨c1, e1, f1, h.below (below_drewN8 (Below.refl _ _) _), below_drewN8 (Below.refl _ _) _⟩))
      clear ha hn ho hzz h0 h ht hgc hg hp hi hqq hrr hr hu hS hSz hSu hE0
      go_enter Try.func51, Try.ntmps51
      go_wp2_with (go_at_call 47; ((with_reducible refine GAt.out.mono ?_); rintro e w1 ⟨rfl, hw1⟩; (have hw2 := hw1.symm); clear hw1; subst hw2))
      go_quiet ((go_at_call 63; exact Calls.quiet_of_same (GU.out _)))
      obtain ⟨k1, k2, k3, hh, hBd⟩ := HF.out nq
      generalize W.drewN nq = W1 at *
      clear c0 c1 c2 c3 e0 e1 e2 f0 f1 f2
      go_wp2
      go_still_tail 17, (by kernel_rfl)
      change wpList _ _ _ _ _ W1.drew
      have k2d : W1.drew.cell? ⟨g, i * 3 + 1, none⟩ = _ := k2
      have k3d : W1.drew.frozen? ⟨g, i * 3 + 1, none⟩ = false := k3
      have HO1 := Lib.hid (OpR.below hBd (OpR.own (HS1.out W1 hh).1 (HS1.out W1 hh).2))
      go_wp2_with (go_at_call 75; ((with_reducible refine (GS.out _ HO1.out).mono ?_); rintro e w3 ⟨⟨x3, rfl⟩, hO3⟩))
      go_ret
      exact ⟨by rw [HE.out.1]; rfl, by rw [HE.out.2]; exact hO3⟩

set_option maxRecDepth 100000 in
set_option maxHeartbeats 4000000 in
theorem rfCut_any {W : World} {B r : Nat} {D : PD} {v : Value} (h : HasRef W B r D v) (hp : D.L.Pairwise fun f g => f.n ≠ g.n) (hL : D.L.length ≤ 1000) (hst : D.steps < 4611686018427387904) (hle : D.left < 9223372036854775808) (s : ByteArray) (n : Int) :
    Calls Try.prog 55 #[.pointer (some ⟨r, 0, none⟩), .string s, .int .i64 n] W fun e w' => e = .returned (.int .i64 (askE D s)) ∧ OpR W B r v (cutD D s n) w' := by
  have HD := Lib.hid h
  have GAt := Lib.hid (rfAt_any h s)
  obtain ⟨c0, c1, c2, c3⟩ := cells4 h.cell
  rcases ask_at D s with ⟨h18, hz⟩ | ⟨h19, hz, ha⟩ | ⟨h0, hz, ho, i, hi, ha, hn, hg⟩
  · have HE := Lib.hid (show askE D s = 18 ∧ cutD D s n = D from ⟨h18, by unfold cutD; rw [h18]; rfl⟩)
    rw [hz] at c3
    generalize atZ D.L s = q at *
    clear h h18 hz
    go_enter Try.func55, Try.ntmps55
    go_wp2_with (go_at_call 47; ((with_reducible refine GAt.out.mono ?_); rintro e w1 ⟨rfl, hw1⟩; (have hw2 := hw1.symm); clear hw1; subst hw2))
    go_ret
    exact ⟨by rw [HE.out.1]; rfl, by rw [HE.out.2]; exact OpR.same HD.out⟩
  · have HE := Lib.hid (show askE D s = 19 ∧ cutD D s n = D from ⟨h19, by unfold cutD; rw [h19]; rfl⟩)
    rw [ha] at GAt
    generalize leftZ D = z at *
    clear h h19 ha
    go_enter Try.func55, Try.ntmps55
    go_wp2_with (go_at_call 47; ((with_reducible refine GAt.out.mono ?_); rintro e w1 ⟨rfl, hw1⟩; (have hw2 := hw1.symm); clear hw1; subst hw2))
    go_ret
    exact ⟨by rw [HE.out.1]; rfl, by rw [HE.out.2]; exact OpR.same HD.out⟩
  · have HE := Lib.hid (show askE D s = 0 ∧ cutD D s n = doneD { D with L := turnL (cutP n) D.L s } from ⟨h0, by unfold cutD; rw [if_pos h0]⟩)
    obtain ⟨g, cap, cur, hv, hgc, hml, ht⟩ := h.slice (by omega)
    subst hv
    unfold maxLen at hml
    obtain ⟨e0, e1, e2, f0, f1, f2⟩ := ref_cells hgc ht hi
    rw [ha] at GAt
    have hi0 : (0 : Int) ≤ (i : Int) := by omega
    have hil : (i : Int) < (D.L.length : Int) := by omega
    have hrg : r ≠ g := fun e => h.ne (by rw [e]; rfl)
    obtain ⟨S, hS⟩ : ∃ S : ByteArray, S = ⟨D.L[i].b.toArray⟩ := ⟨_, rfl⟩
    have hSz : (S.size : Nat) = D.L[i].b.length := by rw [hS]; show D.L[i].b.toArray.size = _; simp
    obtain ⟨m, hm⟩ : ∃ m, m = cutK n D.L[i].b.length := ⟨_, rfl⟩
    have hmS : m ≤ S.size := by rw [hm, hSz]; exact cutK_le _ _
    obtain ⟨x, hx⟩ : ∃ x, min n (S.size : Int) = x := ⟨_, rfl⟩
    have hxm : max 0 x = (m : Int) := by rw [← hx, hm, hSz]; unfold cutK; omega
    have hT : S.extract 0 m = ⟨(D.L[i].b.take m).toArray⟩ := by
      rw [hS]
      apply ByteArray.ext
      apply Array.toList_inj.mp
      simp [ByteArray.data_extract, List.extract_eq_take_drop]
    have hTs : (S.extract 0 m).size = m := by rw [ByteArray.size_extract]; omega
    have HS1 := Lib.hid (show HasRef (W.setCell ⟨g, i * 3 + 1, none⟩ (.string (S.extract 0 m))).drew B r { D with L := D.L.set i ⟨D.L[i].n, D.L[i].b.take m, D.L[i].k⟩ } (Value.slice (some ⟨g, 0, none⟩) D.L.length cap) ∧ FrameT (ownR r (Value.slice (some ⟨g, 0, none⟩) D.L.length cap)) W (W.setCell ⟨g, i * 3 + 1, none⟩ (.string (S.extract 0 m))).drew from
      ref_setd h rfl hi 1 (.string (S.extract 0 m)) ⟨D.L[i].n, D.L[i].b.take m, D.L[i].k⟩ (by decide) (by rw [hT]; rfl))
    have hgc1 := heap_setCell_same W g (i * 3 + 1) _ _ (.string (S.extract 0 m)) hgc
    have HW1 := Lib.hid (show ((W.setCell ⟨g, i * 3 + 1, none⟩ (.string (S.extract 0 m))).drew).cell? ⟨r, 1, none⟩ = some (Value.slice (some ⟨g, 0, none⟩) D.L.length cap) ∧ ((W.setCell ⟨g, i * 3 + 1, none⟩ (.string (S.extract 0 m))).drew).cell? ⟨g, i * 3 + 1, none⟩ = some (.string (S.extract 0 m)) ∧ ((W.setCell ⟨g, i * 3 + 1, none⟩ (.string (S.extract 0 m))).drew).cell? ⟨g, i * 3 + 2, none⟩ = some (.int .i64 D.L[i].k) ∧ ((W.setCell ⟨g, i * 3 + 1, none⟩ (.string (S.extract 0 m))).drew).frozen? ⟨g, i * 3 + 2, none⟩ = false from by
      have hF := (FrameT.setCell W g (i * 3 + 1) (.string (S.extract 0 m))).drew
      refine ⟨hF.cell c1 hrg, ?_, ?_, ?_⟩
      · have hc := (cell_of_row _ _ (i * 3 + 1) _ _ _ hgc).symm.trans e1
        show (W.setCell ⟨g, i * 3 + 1, none⟩ (.string (S.extract 0 m))).cell? _ = _
        refine (cell_of_row _ _ (i * 3 + 1) _ _ _ hgc1).trans ?_
        have hlt : i * 3 + 1 < cur.size := by
          rcases Nat.lt_or_ge (i * 3 + 1) cur.size with h | h
          · exact h
          · rw [Array.getElem?_eq_none h] at hc; cases hc
        simp [hlt]
      · show (W.setCell ⟨g, i * 3 + 1, none⟩ (.string (S.extract 0 m))).cell? _ = _
        refine (cell_of_row _ _ (i * 3 + 2) _ _ _ hgc1).trans ?_
        rw [Array.getElem?_setIfInBounds_ne (by omega)]
        exact (cell_of_row _ _ (i * 3 + 2) _ _ _ hgc).symm.trans e2
      · exact frozen_of_row _ _ _ _ _ hgc1)
    have HS2 := Lib.hid (fun W1 (h1 : HasRef W1 B r { D with L := D.L.set i ⟨D.L[i].n, D.L[i].b.take m, D.L[i].k⟩ } (Value.slice (some ⟨g, 0, none⟩) D.L.length cap)) => (show HasRef (W1.setCell ⟨g, i * 3 + 2, none⟩ (.int .i64 m)).drew B r { D with L := turnL (cutP n) D.L s } (Value.slice (some ⟨g, 0, none⟩) D.L.length cap) ∧ FrameT (ownR r (Value.slice (some ⟨g, 0, none⟩) D.L.length cap)) W1 (W1.setCell ⟨g, i * 3 + 2, none⟩ (.int .i64 m)).drew from by
      have := ref_setd h1 (i := i) (show (Value.slice (some ⟨g, 0, none⟩) D.L.length cap) = Value.slice (some ⟨g, 0, none⟩) (D.L.set i ⟨D.L[i].n, D.L[i].b.take m, D.L[i].k⟩).length cap by rw [List.length_set]) (by show i < (D.L.set i _).length; rw [List.length_set]; exact hi) 2 (.int .i64 m) (cutP n D.L[i]) (by decide) (by dsimp only; rw [List.getElem_set_self]; unfold cutP; rw [← hm]; rfl)
      dsimp only at this
      rw [List.set_set, turn_set hp (cutP n) hi hn] at this
      exact this))
    have GS := Lib.hid (fun w1 (h1 : OpR W B r (Value.slice (some ⟨g, 0, none⟩) D.L.length cap) { D with L := turnL (cutP n) D.L s } w1) => stepR h1 ho hst hle)
    have HT := Lib.hid (fun W1 W2 (h1 : HasRef W1 B r { D with L := D.L.set i ⟨D.L[i].n, D.L[i].b.take m, D.L[i].k⟩ } (Value.slice (some ⟨g, 0, none⟩) D.L.length cap)) (hF : FrameT (ownR r (Value.slice (some ⟨g, 0, none⟩) D.L.length cap)) W W1) (h2 : HasRef W2 B r { D with L := turnL (cutP n) D.L s } (Value.slice (some ⟨g, 0, none⟩) D.L.length cap)) (hG : FrameT (ownR r (Value.slice (some ⟨g, 0, none⟩) D.L.length cap)) W1 W2) => OpR.own h2 (hF.trans hG))
    rw [← hS] at e1
    generalize hzz : leftZ D = z at *
    have hmi : (m : Int) ≤ (S.size : Int) := by omega
    have e1d : W.drew.cell? ⟨g, i * 3 + 1, none⟩ = _ := e1
    have f1d : W.drew.frozen? ⟨g, i * 3 + 1, none⟩ = false := f1
    generalize D.L[i].n = xn at *
    generalize D.L[i].k = xk at *
    generalize D.L[i].b = xb at *
    have hT0 : 0 + m = m := Nat.zero_add m
    clear ha hn ho hzz h0 hS hSz h ht hgc hgc1 hg hp hi hm hT hmS
    go_enter Try.func55, Try.ntmps55
    go_wp2_with (go_at_call 47; ((with_reducible refine GAt.out.mono ?_); rintro e w1 ⟨rfl, hw1⟩; (have hw2 := hw1.symm); clear hw1; subst hw2))
    go_still_tail 28, (by kernel_rfl)
    change wpList _ _ _ _ _ W.drew
    go_wp2
    obtain ⟨k1, k2, k3, k4⟩ := HW1.out
    have hh := HS1.out.1
    have hF := HS1.out.2
    generalize (W.setCell ⟨g, i * 3 + 1, none⟩ (.string (S.extract 0 m))).drew = W1 at *
    clear c0 c1 c2 c3 e0 e1 e2 f0 f1 f2 e1d f1d HW1 HS1
    go_still_tail 16, (by kernel_rfl)
    change wpList _ _ _ _ _ W1.drew
    have k3d : W1.drew.cell? ⟨g, i * 3 + 2, none⟩ = _ := k3
    have k4d : W1.drew.frozen? ⟨g, i * 3 + 2, none⟩ = false := k4
    have HO1 := Lib.hid (HT.out W1 _ hh hF (HS2.out W1 hh).1 (HS2.out W1 hh).2)
    go_wp2_with (go_at_call 75; ((with_reducible refine (GS.out _ HO1.out).mono ?_); rintro e w3 ⟨⟨x3, rfl⟩, hO3⟩))
    go_ret
    exact ⟨by rw [HE.out.1]; rfl, by rw [HE.out.2]; exact hO3⟩


end Go.Proofs.Ytieekahlknmkfaa
