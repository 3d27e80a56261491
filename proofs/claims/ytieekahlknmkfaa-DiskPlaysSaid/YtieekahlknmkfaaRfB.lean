/- The document's disk: step, gone, add. -/
import Derived.Test.YtieekahlknmkfaaRfA
import Derived.BigQuiet
namespace Go.Proofs.Ytieekahlknmkfaa
open Go.RowKit Go.Shelf
set_option linter.unusedVariables false
attribute [local go_sem] Oper.semAt_some wide_fn wide_round_fn

/-- The blocks that are the document's disk's. -/
def ownR (r : Nat) (v : Value) (k : Nat) : Prop := k = r ∨ v.ownBlock = some k
def OpR (W : World) (B r : Nat) (v : Value) (D' : PD) (W' : World) : Prop := ∃ v', HasRef W' B r D' v' ∧ FrameT (ownR r v) W W' ∧ ∀ k, v'.ownBlock = some k → ownR r v k ∨ W.heap.size ≤ k
theorem own_base8 {W : World} {B B' : Nat} {e : TypeId} {sz n : Nat} {v : Value} {xs : List Value} (h : W.ownsRow B e sz v n xs) (hB : B' ≤ B) : W.ownsRow B' e sz v n xs := by
  refine ⟨h.1, ?_⟩
  rcases h.2 with h2 | ⟨g, cap, cur, hv, hb, r⟩
  · exact .inl h2
  · exact .inr ⟨g, cap, cur, hv, Nat.le_trans hB hb, r⟩
theorem own_ge8 {W : World} {B : Nat} {e : TypeId} {sz n : Nat} {v : Value} {xs : List Value} (h : W.ownsRow B e sz v n xs) {k : Nat} (hk : v.ownBlock = some k) : B ≤ k ∧ k < W.heap.size := by
  rcases h.2 with ⟨hv, _⟩ | ⟨g, cap, cur, hv, hb, hg, _⟩
  · rw [hv] at hk; cases hk
  · rw [hv] at hk
    obtain rfl : g = k := by simpa [Value.ownBlock] using hk
    exact ⟨hb, (Array.getElem?_eq_some_iff.1 hg).1⟩
theorem HasRef.lt {W : World} {B r : Nat} {D : PD} {v : Value} (h : HasRef W B r D v) {k : Nat} (hk : ownR r v k) : k < W.heap.size := by
  rcases hk with rfl | hk
  · exact (Array.getElem?_eq_some_iff.1 h.cell).1
  · exact (own_ge8 h.row hk).2
theorem HasRef.ge {W : World} {B r : Nat} {D : PD} {v : Value} (h : HasRef W B r D v) {k : Nat} (hk : ownR r v k) : B ≤ k := by
  rcases hk with rfl | hk
  · exact h.low
  · exact (own_ge8 h.row hk).1
theorem HasRef.base {W : World} {B r : Nat} {D : PD} {v : Value} (h : HasRef W B r D v) : B ≤ W.heap.size := Nat.le_of_lt (Nat.lt_of_le_of_lt h.low (h.lt (.inl rfl)))
/-- A new list of files is laid in the disk's own cells. -/
theorem ref_list {W W1 : World} {B r : Nat} {D : PD} {v v' : Value} (h : HasRef W B r D v) (hB : Below W.heap.size W W1) {L' : List PF} (hrow : W1.ownsRow W.heap.size 26 3 v' L'.length (pfCells L')) : OpR W B r v { D with L := L' } (W1.setCell ⟨r, 1, none⟩ v') := by
  have hr := h.lt (k := r) (.inl rfl)
  have hc1 := (hB.block r hr).trans h.cell
  refine ⟨v', { cell := ?_, row := ?_, low := h.low }, ?_, fun k hk => .inr (own_ge8 hrow hk).1⟩
  · rw [heap_setCell_same _ r 1 _ _ v' hc1]; rfl
  · refine own_base8 (own_frame8 hrow (FrameT.setCell W1 r 1 v') (fun j hj e => ?_)) h.base
    have := (own_ge8 hrow hj).1
    omega
  · exact (FrameT.below hB).trans ((FrameT.setCell W1 r 1 v').mono fun k hk => .inl hk)
/-! ### step -/
theorem step_cells {W : World} {B r : Nat} {D : PD} {v : Value} (h : HasRef W B r D v) (z : Int) (hz : z = leftZ (doneD D)) : HasRef ((W.setCell ⟨r, 2, none⟩ (.int .i64 ((D.steps : Int) + 1))).setCell ⟨r, 3, none⟩ (.int .i64 z)) B r (doneD D) v ∧ FrameT (ownR r v) W ((W.setCell ⟨r, 2, none⟩ (.int .i64 ((D.steps : Int) + 1))).setCell ⟨r, 3, none⟩ (.int .i64 z)) := by
  have hF : FrameT (fun k => k = r) W ((W.setCell ⟨r, 2, none⟩ (.int .i64 ((D.steps : Int) + 1))).setCell ⟨r, 3, none⟩ (.int .i64 z)) := (FrameT.setCell W r 2 _).trans (FrameT.setCell _ r 3 _)
  refine ⟨{ cell := ?_, row := own_frame8 h.row hF (fun j hj e => h.ne (by rw [← e]; exact hj)), low := h.low }, hF.mono fun k hk => .inl hk⟩
  rw [heap_setCell_same _ r 3 _ _ _ (heap_setCell_same W r 2 _ _ _ h.cell), hz]; rfl
theorem step_cells1 {W : World} {B r : Nat} {D : PD} {v : Value} (h : HasRef W B r D v) (hz : leftZ D = leftZ (doneD D)) : HasRef (W.setCell ⟨r, 2, none⟩ (.int .i64 ((D.steps : Int) + 1))) B r (doneD D) v ∧ FrameT (ownR r v) W (W.setCell ⟨r, 2, none⟩ (.int .i64 ((D.steps : Int) + 1))) := by
  have hF : FrameT (fun k => k = r) W (W.setCell ⟨r, 2, none⟩ (.int .i64 ((D.steps : Int) + 1))) := FrameT.setCell W r 2 _
  refine ⟨{ cell := ?_, row := own_frame8 h.row hF (fun j hj e => h.ne (by rw [← e]; exact hj)), low := h.low }, hF.mono fun k hk => .inl hk⟩
  rw [heap_setCell_same W r 2 _ _ _ h.cell, ← hz]; rfl
set_option maxRecDepth 100000 in
theorem rfStep_any {W : World} {B r : Nat} {D : PD} {v : Value} (h : HasRef W B r D v) (ho : offB D = false) (hst : D.steps < 4611686018427387904) (hle : D.left < 9223372036854775808) :
    Calls Try.prog 75 #[.pointer (some ⟨r, 0, none⟩)] W fun e w' => (∃ x, e = .returned x) ∧ HasRef w' B r (doneD D) v ∧ FrameT (ownR r v) W w' := by
  obtain ⟨c0, c1, c2, c3⟩ := cells4 h.cell
  obtain ⟨f1, f2, f3⟩ := frozen4 h.cell
  have HD := Lib.hid h
  cases hl : D.lim
  · have hz : leftZ D = -1 := by unfold leftZ; rw [hl]; rfl
    have HZ := Lib.hid (show leftZ D = leftZ (doneD D) by unfold leftZ doneD; dsimp only; rw [hl]; rfl)
    rw [hz] at c3
    clear h ho hl hz
    go_enter Try.func75, Try.ntmps75
    go_wp2
    refine bodyPost_end (results_none rfl _ _ _) rfl ?_
    exact ⟨⟨_, rfl⟩, step_cells1 HD.out HZ.out⟩
  · have hz : leftZ D = (D.left : Int) := by unfold leftZ; rw [hl]; rfl
    have hp : (0 : Int) < (D.left : Int) := by
      have : D.left ≠ 0 := by intro e; unfold offB at ho; rw [hl, e] at ho; simp at ho
      omega
    have HZ := Lib.hid (show (D.left : Int) - 1 = leftZ (doneD D) by unfold leftZ doneD; dsimp only; rw [hl]; simp only [if_true]; omega)
    rw [hz] at c3
    clear h ho hl hz
    go_enter Try.func75, Try.ntmps75
    go_wp2
    refine bodyPost_end (results_none rfl _ _ _) rfl ?_
    exact ⟨⟨_, rfl⟩, step_cells HD.out _ HZ.out⟩
/-! ### gone -/
theorem delK_take {L : List PF} {k : Nat} (h : k < L.length) (s : ByteArray) : delK PF.n (L.take (k + 1)) s = delK PF.n (L.take k) s ++ if L[k].n = s then [] else [L[k]] := by
  unfold delK
  rw [List.take_succ_eq_append_getElem h, List.filter_append]
  congr 1
  by_cases e : L[k].n = s <;> simp [e]
theorem delK_take_len (L : List PF) (k : Nat) (s : ByteArray) : (delK PF.n (L.take k) s).length ≤ k := Nat.le_trans (del_len _ _ _) (List.length_take_le _ _)
set_option maxRecDepth 100000 in
set_option maxHeartbeats 1000000 in
theorem rfGone_any {W : World} {B r : Nat} {D : PD} {v : Value} (h : HasRef W B r D v) (hL : D.L.length ≤ 1000) (s : ByteArray) :
    Calls Try.prog 76 #[.pointer (some ⟨r, 0, none⟩), .string s] W fun e w' => (∃ x, e = .returned x) ∧ OpR W B r v { D with L := delK PF.n D.L s } w' := by
  obtain ⟨i0, hi, hz0, hz1, hz2⟩ := info_parts infoFile
  obtain ⟨c0, c1, c2, c3⟩ := cells4 h.cell
  have HD := Lib.hid h
  obtain ⟨a, cap, hv, hcap, hml, hat⟩ := h.open
  rw [hv] at c1
  have hr := h.lt (k := r) (.inl rfl)
  have HE := Lib.hid (fun W1 v' (hB : Below W.heap.size W W1) (hrow : W1.ownsRow W.heap.size 26 3 v' (delK PF.n D.L s).length (pfCells (delK PF.n D.L s))) => ref_list HD.out hB hrow)
  have f1 := (frozen4 h.cell).1
  generalize hDL : D.L = L at *
  clear c0 c2 c3 h hv
  go_enter Try.func76, Try.ntmps76
  go_wp2
  go_loopw [4, 5] (fun vo si wr => ∃ (k : Nat) (o : Value), k ≤ L.length ∧ si = .int .i64 k ∧ o = vo ∧ wr.ownsRow W.heap.size 26 3 o (delK PF.n (L.take k) s).length (pfCells (delK PF.n (L.take k) s)) ∧ Below W.heap.size W wr) (fun _ si _ => L.length - (intOf si).toNat)
  case atStart => exact ⟨0, _, by omega, rfl, rfl, World.ownsRow_nil _ _ _ _, Below.refl _ _⟩
  case round =>
    obtain ⟨k, o, hk, rfl, rfl, hown, hB⟩ := hrel
    have hc1 := (hB.cell (p := ⟨r, 1, none⟩) hr).trans c1
    have hsz := hB.size
    by_cases hlt : k < L.length
    · obtain ⟨b, off, rfl, hb, e0, e1, e2⟩ := hat k hlt
      have hki : (k : Int) < (L.length : Int) := by omega
      have d0 := (hB.cell (p := ⟨b, off + k * 3, none⟩) hb).trans e0
      have d1 := (hB.cell (p := ⟨b, off + k * 3 + 1, none⟩) hb).trans e1
      have d2 := (hB.cell (p := ⟨b, off + k * 3 + 2, none⟩) hb).trans e2
      have HT := Lib.hid (delK_take hlt s)
      have hdl := delK_take_len L k s
      by_cases hn : L[k].n = s
      · rw [hn] at d0
        rw [if_pos hn, List.append_nil] at HT
        clear hat e0 e1 e2 hn c1 f1
        go_wp2
        exact ⟨⟨k + 1, o, by omega, by go_num, rfl, by rw [HT.out]; exact hown, hB⟩, by simp [intOf]; omega⟩
      · have hne : (L[k].n.toList == s.toList) = false := by rw [beq_eq_false_iff_ne]; exact fun e => hn (str_eq.1 e)
        have HC := Lib.hid (show pfCells (delK PF.n (L.take (k + 1)) s) = pfCells (delK PF.n (L.take k) s) ++ L[k].cells ∧ (delK PF.n (L.take (k + 1)) s).length = (delK PF.n (L.take k) s).length + 1 by rw [HT.out, if_neg hn, pfCells_snoc, List.length_append]; exact ⟨rfl, rfl⟩)
        obtain ⟨xn, xb, xk⟩ : ∃ x, x = L[k] := ⟨_, rfl⟩
        generalize L[k] = x at *
        obtain ⟨xn, xb, xk⟩ := x
        dsimp only [PF.cells] at *
        generalize (⟨xb.toArray⟩ : ByteArray) = xs at *
        clear hat e0 e1 e2 hn c1 f1
        go_wp2_with (at_builtin; refine wpList_append_own _ rfl _ _ 22 rfl W.heap.size 26 i0 (.agg #[.string ⟨#[]⟩, .string ⟨#[]⟩, .int .i64 0]) 3 40 Try.underlying22 hi hz0 hz1 hz2 rfl (by decide) _ _ _ rfl (hown.alloc _) ⟨wr.heap.size, 0, none⟩ 1 1 [.string xn, .string xs, .int .i64 xk] rfl rfl (news_new _ _ _) (by simp [Value.oneCell']) (by unfold maxLen; omega) (by omega) (by simp; omega) ?_; intro v' w3 hown3 hgrow _; have hB3 := (hB.trans ((bel_alloc (Below.refl wr.heap.size wr) (.cells #[.string xn, .string xs, .int .i64 xk] 26)).mono hB.size)).grown hgrow (by simp; omega) (fun k hk => (own_ge8 hown hk).1))
        go_roundw
        case rel => exact ⟨k + 1, v', by omega, by go_num, rfl, by rw [HC.out.1, HC.out.2]; exact hown3, hB3⟩
        case measure => simp [intOf]; omega
    · obtain rfl : k = L.length := by omega
      rw [List.take_length] at hown
      have hf1 := (hB.frozen (p := ⟨r, 1, none⟩) hr).trans f1
      obtain ⟨oa, oc, rfl⟩ := own_slice hown
      have HEn := Lib.hid (HE.out wr _ hB hown)
      clear hat hlt hk
      go_wp2
      refine bodyPost_end (results_none rfl _ _ _) rfl ?_
      exact ⟨⟨_, rfl⟩, HEn.out⟩

end Go.Proofs.Ytieekahlknmkfaa
