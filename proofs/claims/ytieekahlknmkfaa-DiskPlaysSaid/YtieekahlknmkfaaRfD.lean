/- The document's disk: Create, Remove, Rename, Read, Limit. -/
import Derived.Test.YtieekahlknmkfaaRfC
namespace Go.Proofs.Ytieekahlknmkfaa
open Go.RowKit Go.Shelf
set_option linter.unusedVariables false
attribute [local go_sem] Oper.semAt_some wide_fn wide_round_fn

theorem OpR.trans {W W1 W2 : World} {B r : Nat} {v v1 : Value} {D1 D2 : PD} (h1 : HasRef W1 B r D1 v1) (hF : FrameT (ownR r v) W W1) (ho : ∀ k, v1.ownBlock = some k → ownR r v k ∨ W.heap.size ≤ k) (h2 : OpR W1 B r v1 D2 W2) : OpR W B r v D2 W2 := by
  obtain ⟨v2, g1, g2, g3⟩ := h2
  have ho' : ∀ k, ownR r v1 k → ownR r v k ∨ W.heap.size ≤ k := fun k hk => hk.elim (fun e => .inl (.inl e)) (ho k)
  refine ⟨v2, g1, ⟨g2.os.trans hF.os, g2.tape.trans hF.tape, g2.output.trans hF.output, Nat.le_trans hF.size g2.size, fun k hk hT => ?_⟩, fun k hk => ?_⟩
  · exact (g2.block k (Nat.lt_of_lt_of_le hk hF.size) (fun h => (ho' k h).elim hT (fun h => by omega))).trans (hF.block k hk hT)
  · rcases g3 k hk with h | h
    · exact ho' k h
    · exact .inr (Nat.le_trans hF.size h)
theorem OpR.next {W W1 W2 : World} {B r : Nat} {v : Value} {D1 D2 : PD} (h1 : OpR W B r v D1 W1) (h2 : ∀ v1, HasRef W1 B r D1 v1 → OpR W1 B r v1 D2 W2) : OpR W B r v D2 W2 := by
  obtain ⟨v1, g1, g2, g3⟩ := h1
  exact OpR.trans g1 g2 g3 (h2 v1 g1)
theorem OpR.own {W W' : World} {B r : Nat} {v : Value} {D' : PD} (h : HasRef W' B r D' v) (hF : FrameT (ownR r v) W W') : OpR W B r v D' W' := ⟨v, h, hF, fun k hk => .inl (.inr hk)⟩
theorem OpR.same {W : World} {B r : Nat} {v : Value} {D : PD} (h : HasRef W B r D v) : OpR W B r v D W := OpR.own h (FrameT.refl _ _)
theorem OpR.below {W W1 W' : World} {B r : Nat} {v : Value} {D' : PD} (hB : Below W.heap.size W W1) (h : OpR W1 B r v D' W') : OpR W B r v D' W' := by
  obtain ⟨v', g1, g2, g3⟩ := h
  refine ⟨v', g1, (FrameT.below hB).trans g2, fun k hk => (g3 k hk).imp id (fun h => Nat.le_trans hB.size h)⟩
/-- One call that turns the disk, and a step behind it. -/
theorem stepR {W W1 : World} {B r : Nat} {v : Value} {D1 : PD} (h : OpR W B r v D1 W1) (ho : offB D1 = false) (hst : D1.steps < 4611686018427387904) (hle : D1.left < 9223372036854775808) :
    Calls Try.prog 75 #[.pointer (some ⟨r, 0, none⟩)] W1 fun e w' => (∃ x, e = .returned x) ∧ OpR W B r v (doneD D1) w' := by
  obtain ⟨v1, g1, g2, g3⟩ := h
  refine (rfStep_any g1 ho hst hle).mono ?_
  rintro e w' ⟨he, h1, h2⟩
  exact ⟨he, OpR.trans g1 g2 g3 (OpR.own h1 h2)⟩
theorem OpR.keeps {W W' : World} {B r : Nat} {v : Value} {D' : PD} (h : OpR W B r v D' W') {X : Nat} {o : Obj} (hx : W.heap[X]? = some o) (hn : ¬ ownR r v X) : W'.heap[X]? = some o := by
  obtain ⟨v', g1, g2, g3⟩ := h
  exact g2.get hx hn
theorem cells3r {W : World} {X : Nat} {T : TypeId} {v0 v1 v2 : Value} (h : W.heap[X]? = some (.cells #[v0, v1, v2] T (0, 0))) : W.cell? ⟨X, 0, none⟩ = some v0 ∧ W.cell? ⟨X, 1, none⟩ = some v1 ∧ W.cell? ⟨X, 2, none⟩ = some v2 :=
  ⟨cell_of_row _ _ 0 _ _ _ h, cell_of_row _ _ 1 _ _ _ h, cell_of_row _ _ 2 _ _ _ h⟩
theorem at_get (L : List PF) (s : ByteArray) : (∃ (i : Nat) (h : i < L.length), atZ L s = i ∧ L[i].n = s ∧ getK PF.n L s = some L[i]) ∨ (atZ L s = -1 ∧ getK PF.n L s = none) := by
  by_cases h : L.findIdx (fun f => decide (f.n = s)) < L.length
  · left
    refine ⟨_, h, by unfold atZ; rw [if_pos h], by simpa using List.findIdx_getElem (w := h), ?_⟩
    unfold getK
    exact List.find?_eq_some_iff_getElem.2 ⟨by simpa using List.findIdx_getElem (w := h), _, h, rfl, fun j hj => by simpa using List.not_of_lt_findIdx hj⟩
  · right
    refine ⟨by unfold atZ; rw [if_neg h], ?_⟩
    unfold getK
    rw [List.find?_eq_none]
    have e : L.findIdx (fun f => decide (f.n = s)) = L.length := by have := List.findIdx_le_length (xs := L) (p := fun f => decide (f.n = s)); omega
    intro f hf
    exact List.findIdx_eq_length.1 e f hf ▸ (by simp)
theorem left_off {D : PD} (h : offB D = true) : leftZ D = 0 := by
  unfold offB at h
  unfold leftZ
  rw [Bool.and_eq_true, decide_eq_true_eq] at h
  rw [h.1, h.2]; rfl
theorem left_on {D : PD} (h : offB D = false) : leftZ D ≠ 0 := by
  unfold offB at h
  unfold leftZ
  cases hl : D.lim
  · simp
  · rw [hl] at h
    simp at h
    simp only [if_true]; omega
/-- Why nothing can be done, or where the file is. -/
theorem ask_at (D : PD) (s : ByteArray) : (askE D s = 18 ∧ leftZ D = 0) ∨ (askE D s = 19 ∧ leftZ D ≠ 0 ∧ atZ D.L s = -1) ∨ (askE D s = 0 ∧ leftZ D ≠ 0 ∧ offB D = false ∧ ∃ (i : Nat) (h : i < D.L.length), atZ D.L s = i ∧ D.L[i].n = s ∧ getK PF.n D.L s = some D.L[i]) := by
  unfold askE
  cases ho : offB D
  · rcases at_get D.L s with ⟨i, h, h1, h2, h3⟩ | ⟨h1, h2⟩
    · exact .inr (.inr ⟨by rw [h3]; rfl, left_on ho, rfl, i, h, h1, h2, h3⟩)
    · exact .inr (.inl ⟨by rw [h2]; rfl, left_on ho, h1⟩)
  · exact .inl ⟨rfl, left_off ho⟩
set_option maxRecDepth 100000 in
set_option maxHeartbeats 4000000 in
theorem rfCreate_any {W : World} {B r : Nat} {D : PD} {v : Value} (h : HasRef W B r D v) (hL : D.L.length ≤ 1000) (hst : D.steps < 4611686018427387904) (hle : D.left < 9223372036854775808) (s : ByteArray) :
    Calls Try.prog 50 #[.pointer (some ⟨r, 0, none⟩), .string s] W fun e w' => e = .returned (.int .i64 (createE D s)) ∧ OpR W B r v (createD D s) w' := by
  have HD := Lib.hid h
  have GAt := Lib.hid (rfAt_any h s)
  obtain ⟨c0, c1, c2, c3⟩ := cells4 h.cell
  obtain ⟨a, cap, hv, hcap, hml, -⟩ := h.open
  rw [hv] at c1
  unfold maxLen at hml
  cases ho : offB D
  · have hz := left_on ho
    rcases at_get D.L s with ⟨i, hi, ha, hn, hg⟩ | ⟨ha, hg⟩
    · have HE := Lib.hid (show createE D s = 20 ∧ createD D s = D by have : createE D s = 20 := by { unfold createE; rw [ho, hg]; rfl }; exact ⟨this, by unfold createD; rw [this]; rfl⟩)
      rw [ha] at GAt
      generalize leftZ D = z at *
      generalize D.L = L at *
      clear ho ha hn hg h hv
      go_enter Try.func50, Try.ntmps50
      go_wp2_with (go_at_call 47; ((with_reducible refine GAt.out.mono ?_); rintro e w1 ⟨rfl, rfl⟩))
      go_ret
      exact ⟨by rw [HE.out.1]; rfl, by rw [HE.out.2]; exact OpR.same HD.out⟩
    · by_cases hc : 1000 ≤ D.L.length
      · have HE := Lib.hid (show createE D s = 17 ∧ createD D s = D by have : createE D s = 17 := by { unfold createE; rw [ho, hg, if_pos hc]; rfl }; exact ⟨this, by unfold createD; rw [this]; rfl⟩)
        have hci : (1000 : Int) ≤ (D.L.length : Int) := by omega
        rw [ha] at GAt
        generalize leftZ D = z at *
        generalize D.L = L at *
        clear ho ha hg hc h hv
        go_enter Try.func50, Try.ntmps50
        go_wp2_with (go_at_call 47; ((with_reducible refine GAt.out.mono ?_); rintro e w1 ⟨rfl, rfl⟩))
        go_ret
        exact ⟨by rw [HE.out.1]; rfl, by rw [HE.out.2]; exact OpR.same HD.out⟩
      · have h0 : createE D s = 0 := by unfold createE; rw [ho, hg, if_neg hc]; rfl
        have HE := Lib.hid (show createE D s = 0 ∧ createD D s = doneD { D with L := insK PF.n ⟨s, [], 0⟩ D.L } by refine ⟨h0, ?_⟩; unfold createD; rw [if_pos h0]; unfold putK; rw [delK_none hg])
        have hci : (D.L.length : Int) < 1000 := by omega
        have GA := Lib.hid (show Calls Try.prog 48 #[.pointer (some ⟨r, 0, none⟩), .agg #[.string s, .string ⟨#[]⟩, .int .i64 0]] W fun e w' => (∃ x, e = .returned x) ∧ OpR W B r v { D with L := insK PF.n ⟨s, [], 0⟩ D.L } w' from rfAdd_any h hL ⟨s, [], 0⟩)
        have GS := Lib.hid (fun w1 (h1 : OpR W B r v { D with L := insK PF.n ⟨s, [], 0⟩ D.L } w1) => stepR h1 ho hst hle)
        rw [ha] at GAt
        generalize hzz : leftZ D = z at *
        generalize hLL : D.L = L at *
        clear ho ha hg hc h hv h0 hzz hLL
        go_enter Try.func50, Try.ntmps50
        go_wp2_with (first
          | (go_at_call 47; ((with_reducible refine GAt.out.mono ?_); rintro e w1 ⟨rfl, rfl⟩))
          | (go_at_call 48; ((with_reducible refine GA.out.mono ?_); rintro e w2 ⟨⟨x2, rfl⟩, hO2⟩))
          | (go_at_call 75; ((with_reducible refine (GS.out _ hO2).mono ?_); rintro e w3 ⟨⟨x3, rfl⟩, hO3⟩)))
        go_ret
        exact ⟨by rw [HE.out.1]; rfl, by rw [HE.out.2]; exact hO3⟩
  · have hz := left_off ho
    have HE := Lib.hid (show createE D s = 18 ∧ createD D s = D by have : createE D s = 18 := by { unfold createE; rw [ho]; rfl }; exact ⟨this, by unfold createD; rw [this]; rfl⟩)
    rw [hz] at c3
    clear ho h hv hz
    go_enter Try.func50, Try.ntmps50
    go_wp2
    go_ret
    exact ⟨by rw [HE.out.1]; rfl, by rw [HE.out.2]; exact OpR.same HD.out⟩

set_option maxRecDepth 100000 in
set_option maxHeartbeats 4000000 in
theorem rfRemove_any {W : World} {B r : Nat} {D : PD} {v : Value} (h : HasRef W B r D v) (hL : D.L.length ≤ 1000) (hst : D.steps < 4611686018427387904) (hle : D.left < 9223372036854775808) (s : ByteArray) :
    Calls Try.prog 54 #[.pointer (some ⟨r, 0, none⟩), .string s] W fun e w' => e = .returned (.int .i64 (askE D s)) ∧ OpR W B r v (removeD D s) w' := by
  have HD := Lib.hid h
  have GAt := Lib.hid (rfAt_any h s)
  obtain ⟨c0, c1, c2, c3⟩ := cells4 h.cell
  rcases ask_at D s with ⟨h18, hz⟩ | ⟨h19, hz, ha⟩ | ⟨h0, hz, ho, i, hi, ha, hn, hg⟩
  · have HE := Lib.hid (show askE D s = 18 ∧ removeD D s = D from ⟨h18, by unfold removeD; rw [h18]; rfl⟩)
    rw [hz] at c3
    generalize atZ D.L s = q at *
    clear h h18 hz
    go_enter Try.func54, Try.ntmps54
    go_wp2
    go_ret
    exact ⟨by rw [HE.out.1]; rfl, by rw [HE.out.2]; exact OpR.same HD.out⟩
  · have HE := Lib.hid (show askE D s = 19 ∧ removeD D s = D from ⟨h19, by unfold removeD; rw [h19]; rfl⟩)
    rw [ha] at GAt
    generalize leftZ D = z at *
    clear h h19 ha
    go_enter Try.func54, Try.ntmps54
    go_wp2_with (go_at_call 47; ((with_reducible refine GAt.out.mono ?_); rintro e w1 ⟨rfl, rfl⟩))
    go_ret
    exact ⟨by rw [HE.out.1]; rfl, by rw [HE.out.2]; exact OpR.same HD.out⟩
  · have HE := Lib.hid (show askE D s = 0 ∧ removeD D s = doneD { D with L := delK PF.n D.L s } from ⟨h0, by unfold removeD; rw [if_pos h0]⟩)
    have GG := Lib.hid (rfGone_any h hL s)
    have GS := Lib.hid (fun w1 (h1 : OpR W B r v { D with L := delK PF.n D.L s } w1) => stepR h1 ho hst hle)
    rw [ha] at GAt
    have hi0 : (0 : Int) ≤ (i : Int) := by omega
    generalize hzz : leftZ D = z at *
    clear h h0 ha hn hg ho hi hzz
    go_enter Try.func54, Try.ntmps54
    go_wp2_with (first
      | (go_at_call 47; ((with_reducible refine GAt.out.mono ?_); rintro e w1 ⟨rfl, rfl⟩))
      | (go_at_call 76; ((with_reducible refine GG.out.mono ?_); rintro e w2 ⟨⟨x2, rfl⟩, hO2⟩))
      | (go_at_call 75; ((with_reducible refine (GS.out _ hO2).mono ?_); rintro e w3 ⟨⟨x3, rfl⟩, hO3⟩)))
    go_ret
    exact ⟨by rw [HE.out.1]; rfl, by rw [HE.out.2]; exact hO3⟩

set_option maxRecDepth 100000 in
set_option maxHeartbeats 4000000 in
theorem rfRename_any {W : World} {B r : Nat} {D : PD} {v : Value} (h : HasRef W B r D v) (hL : D.L.length ≤ 1000) (hst : D.steps < 4611686018427387904) (hle : D.left < 9223372036854775808) (s t : ByteArray) :
    Calls Try.prog 53 #[.pointer (some ⟨r, 0, none⟩), .string s, .string t] W fun e w' => e = .returned (.int .i64 (askE D s)) ∧ OpR W B r v (renameD D s t) w' := by
  have HD := Lib.hid h
  have GAt := Lib.hid (rfAt_any h s)
  obtain ⟨c0, c1, c2, c3⟩ := cells4 h.cell
  rcases ask_at D s with ⟨h18, hz⟩ | ⟨h19, hz, ha⟩ | ⟨h0, hz, ho, i, hi, ha, hn, hg⟩
  · have HE := Lib.hid (show askE D s = 18 ∧ renameD D s t = D from ⟨h18, by unfold renameD; rw [h18]; rfl⟩)
    rw [hz] at c3
    generalize atZ D.L s = q at *
    clear h h18 hz
    go_enter Try.func53, Try.ntmps53
    go_wp2_with (go_at_call 47; ((with_reducible refine GAt.out.mono ?_); rintro e w1 ⟨rfl, rfl⟩))
    go_ret
    exact ⟨by rw [HE.out.1]; rfl, by rw [HE.out.2]; exact OpR.same HD.out⟩
  · have HE := Lib.hid (show askE D s = 19 ∧ renameD D s t = D from ⟨h19, by unfold renameD; rw [h19]; rfl⟩)
    rw [ha] at GAt
    generalize leftZ D = z at *
    clear h h19 ha
    go_enter Try.func53, Try.ntmps53
    go_wp2_with (go_at_call 47; ((with_reducible refine GAt.out.mono ?_); rintro e w1 ⟨rfl, rfl⟩))
    go_ret
    exact ⟨by rw [HE.out.1]; rfl, by rw [HE.out.2]; exact OpR.same HD.out⟩
  · have HE := Lib.hid (show askE D s = 0 ∧ renameD D s t = doneD { D with L := insK PF.n (namedP D.L[i] t D.L[i].b.length) (delK PF.n (delK PF.n D.L s) t) } from ⟨h0, by unfold renameD; rw [if_pos h0]; unfold renF; rw [hg]; rfl⟩)
    have GG := Lib.hid (fun w1 (hB : Below W.heap.size W w1) => (show Calls Try.prog 76 #[.pointer (some ⟨r, 0, none⟩), .string s] w1 fun e w' => (∃ x, e = .returned x) ∧ OpR w1 B r v { D with L := delK PF.n D.L s } w' from rfGone_any (h.below hB) hL s))
    have hl1 : (delK PF.n D.L s).length ≤ 1000 := Nat.le_trans (del_len _ _ _) hL
    have hl2 : (delK PF.n (delK PF.n D.L s) t).length ≤ 1000 := Nat.le_trans (del_len _ _ _) hl1
    have GG2 := Lib.hid (fun w1 w2 (h1 : OpR w1 B r v { D with L := delK PF.n D.L s } w2) => (show Calls Try.prog 76 #[.pointer (some ⟨r, 0, none⟩), .string t] w2 fun e w' => (∃ x, e = .returned x) ∧ OpR w1 B r v { D with L := delK PF.n (delK PF.n D.L s) t } w' from by
      obtain ⟨v1, g1, g2, g3⟩ := h1
      refine (rfGone_any g1 hl1 t).mono ?_
      rintro e w' ⟨he, ho⟩
      exact ⟨he, OpR.trans g1 g2 g3 ho⟩))
    obtain ⟨S, hS⟩ : ∃ S : ByteArray, S = ⟨D.L[i].b.toArray⟩ := ⟨_, rfl⟩
    have hSz : (S.size : Nat) = D.L[i].b.length := by rw [hS]; show D.L[i].b.toArray.size = _; simp
    have GA := Lib.hid (fun w1 w2 (h1 : OpR w1 B r v { D with L := delK PF.n (delK PF.n D.L s) t } w2) => (show Calls Try.prog 48 #[.pointer (some ⟨r, 0, none⟩), .agg #[.string t, .string S, .int .i64 (S.size : Nat)]] w2 fun e w' => (∃ x, e = .returned x) ∧ OpR w1 B r v { D with L := insK PF.n (namedP D.L[i] t D.L[i].b.length) (delK PF.n (delK PF.n D.L s) t) } w' from by
      obtain ⟨v1, g1, g2, g3⟩ := h1
      rw [hSz, hS]
      refine (rfAdd_any g1 hl2 (namedP D.L[i] t D.L[i].b.length)).mono ?_
      rintro e w' ⟨he, ho⟩
      exact ⟨he, OpR.trans g1 g2 g3 ho⟩))
    have GS := Lib.hid (fun w1 w2 (h1 : OpR w1 B r v { D with L := insK PF.n (namedP D.L[i] t D.L[i].b.length) (delK PF.n (delK PF.n D.L s) t) } w2) => stepR h1 ho hst hle)
    obtain ⟨a, cap, hv, hcap, hml, hat⟩ := h.open
    rw [hv] at c1
    unfold maxLen at hml
    obtain ⟨b, off, hab, hb, e0, e1, e2⟩ := hat i hi
    subst hab
    rw [ha] at GAt
    rw [← hS] at e1
    have hXn : ¬ ownR r v W.heap.size := fun e => absurd (h.lt e) (by omega)
    have HX := Lib.hid (fun w2 (D' : PD) (ho : OpR (W.alloc (.cells #[.string t, .string S, .int .i64 (S.size : Nat)] 26)) B r v D' w2) => cells3r (ho.keeps (World.alloc_heap_new W _) hXn))
    have HP := Lib.hid (fun D' w2 (ho : OpR (W.alloc (.cells #[.string t, .string S, .int .i64 (S.size : Nat)] 26)) B r v D' w2) => OpR.below (bel_alloc (Below.refl W.heap.size W) _) ho)
    have hi0 : (0 : Int) ≤ (i : Int) := by omega
    have hil : (i : Int) < (D.L.length : Int) := by omega
    have hrl := h.lt (k := r) (.inl rfl)
    generalize hzz : leftZ D = z at *
    generalize D.L[i].n = xn at *
    generalize D.L[i].k = xk at *
    clear ha hn ho hzz hv h0 hS hSz hXn
    go_enter Try.func53, Try.ntmps53
    go_wp2_with (first
      | (go_at_call 47; ((with_reducible refine GAt.out.mono ?_); rintro e w1 ⟨rfl, rfl⟩))
      | (go_at_call 76; ((with_reducible refine (GG.out _ (bel_alloc (Below.refl _ _) _)).mono ?_); rintro e w2 ⟨⟨x2, rfl⟩, hO2⟩; obtain ⟨y0, y1, y2⟩ := HX.out _ _ hO2))
      | (go_at_call 76; ((with_reducible refine (GG2.out _ _ hO2).mono ?_); rintro e w3 ⟨⟨x3, rfl⟩, hO3⟩; clear hO2 y0 y1 y2; obtain ⟨y0, y1, y2⟩ := HX.out _ _ hO3))
      | (go_at_call 48; ((with_reducible refine (GA.out _ _ hO3).mono ?_); rintro e w4 ⟨⟨x4, rfl⟩, hO4⟩; clear hO3 y0 y1 y2))
      | (go_at_call 75; ((with_reducible refine (GS.out _ _ hO4).mono ?_); rintro e w5 ⟨⟨x5, rfl⟩, hO5⟩)))
    go_ret
    exact ⟨by rw [HE.out.1]; rfl, by rw [HE.out.2]; exact HP.out _ _ hO5⟩

set_option maxRecDepth 100000 in
set_option maxHeartbeats 4000000 in
theorem rfRead_any {W : World} {B r : Nat} {D : PD} {v : Value} (h : HasRef W B r D v) (s : ByteArray) : Calls Try.prog 22 #[.pointer (some ⟨r, 0, none⟩), .string s] W fun e w' => e = .returned (.tuple #[.string (readB D s), .int .i64 (askE D s)]) ∧ w' = W := by
  have HD := Lib.hid h
  have GAt := Lib.hid (rfAt_any h s)
  obtain ⟨c0, c1, c2, c3⟩ := cells4 h.cell
  rcases ask_at D s with ⟨h18, hz⟩ | ⟨h19, hz, ha⟩ | ⟨h0, hz, ho, i, hi, ha, hn, hg⟩
  · have HE := Lib.hid (show askE D s = 18 ∧ readB D s = ⟨#[]⟩ from ⟨h18, by unfold readB; rw [h18]; rfl⟩)
    rw [hz] at c3
    generalize atZ D.L s = q at *
    clear h h18 hz
    go_enter Try.func22, Try.ntmps22
    go_wp2_with (go_at_call 47; ((with_reducible refine GAt.out.mono ?_); rintro e w1 ⟨rfl, rfl⟩))
    go_ret2
    rw [HE.out.1, HE.out.2]; exact ⟨rfl, rfl⟩
  · have HE := Lib.hid (show askE D s = 19 ∧ readB D s = ⟨#[]⟩ from ⟨h19, by unfold readB; rw [h19]; rfl⟩)
    rw [ha] at GAt
    generalize leftZ D = z at *
    clear h h19 ha
    go_enter Try.func22, Try.ntmps22
    go_wp2_with (go_at_call 47; ((with_reducible refine GAt.out.mono ?_); rintro e w1 ⟨rfl, rfl⟩))
    go_ret2
    rw [HE.out.1, HE.out.2]; exact ⟨rfl, rfl⟩
  · have HE := Lib.hid (show askE D s = 0 ∧ readB D s = ⟨D.L[i].b.toArray⟩ from ⟨h0, by unfold readB; rw [if_pos h0, hg]⟩)
    obtain ⟨a, cap, hv, hcap, hml, hat⟩ := h.open
    rw [hv] at c1
    unfold maxLen at hml
    obtain ⟨b, off, hab, hb, e0, e1, e2⟩ := hat i hi
    subst hab
    rw [ha] at GAt
    generalize (⟨D.L[i].b.toArray⟩ : ByteArray) = S at *
    have hi0 : (0 : Int) ≤ (i : Int) := by omega
    have hil : (i : Int) < (D.L.length : Int) := by omega
    generalize hzz : leftZ D = z at *
    clear ha hn ho hzz hv h0 hg hat e0 e2 h
    go_enter Try.func22, Try.ntmps22
    go_wp2_with (go_at_call 47; ((with_reducible refine GAt.out.mono ?_); rintro e w1 ⟨rfl, rfl⟩))
    go_ret2
    rw [HE.out.1, HE.out.2]; exact ⟨rfl, rfl⟩

theorem lim_end {W : World} {B r : Nat} {D : PD} {v : Value} (h : HasRef W B r D v) (k : Int) (z : Int) (hz : z = max k 0) : HasRef (W.setCell ⟨r, 3, none⟩ (.int .i64 z)) B r (limitD D k) v ∧ FrameT (ownR r v) W (W.setCell ⟨r, 3, none⟩ (.int .i64 z)) := by
  have hF : FrameT (fun k => k = r) W (W.setCell ⟨r, 3, none⟩ (.int .i64 z)) := FrameT.setCell W r 3 _
  refine ⟨{ cell := ?_, row := own_frame8 h.row hF (fun j hj e => h.ne (by rw [← e]; exact hj)), low := h.low }, hF.mono fun k hk => .inl hk⟩
  rw [heap_setCell_same W r 3 _ _ _ h.cell, hz]
  have : leftZ (limitD D k) = max k 0 := by show (((max k 0).toNat : Nat) : Int) = _; omega
  rw [this]; rfl
set_option maxRecDepth 100000 in
set_option maxHeartbeats 4000000 in
theorem rfLimit_any {W : World} {B r : Nat} {D : PD} {v : Value} (h : HasRef W B r D v) (k : Int) : Calls Try.prog 56 #[.pointer (some ⟨r, 0, none⟩), .int .i64 k] W fun e w' => (∃ x, e = .returned x) ∧ OpR W B r v (limitD D k) w' := by
  have HD := Lib.hid h
  obtain ⟨c0, c1, c2, c3⟩ := cells4 h.cell
  have hf := (frozen4 h.cell).2.2
  rcases (by omega : k < 0 ∨ k = 0 ∨ 0 < k) with hk | hk | hk
  · have HL := Lib.hid (lim_end h k 0 (by omega))
    have hm : max k 0 = 0 := by omega
    clear h
    go_enter Try.func56, Try.ntmps56
    go_wp2
    refine bodyPost_end (results_none rfl _ _ _) rfl ?_
    exact ⟨⟨_, rfl⟩, OpR.own HL.out.1 HL.out.2⟩
  · subst hk
    have HL := Lib.hid (lim_end h 0 0 (by omega))
    have hm : max (0 : Int) 0 = 0 := by omega
    clear h
    go_enter Try.func56, Try.ntmps56
    go_wp2
    refine bodyPost_end (results_none rfl _ _ _) rfl ?_
    exact ⟨⟨_, rfl⟩, OpR.own HL.out.1 HL.out.2⟩
  · have HL := Lib.hid (lim_end h k k (by omega))
    have hm : max k 0 = k := by omega
    clear h
    go_enter Try.func56, Try.ntmps56
    go_wp2
    refine bodyPost_end (results_none rfl _ _ _) rfl ?_
    exact ⟨⟨_, rfl⟩, OpR.own HL.out.1 HL.out.2⟩

end Go.Proofs.Ytieekahlknmkfaa
