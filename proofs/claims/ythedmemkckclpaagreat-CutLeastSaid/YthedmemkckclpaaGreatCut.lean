/- Package cut: what begun groups are behind each number of lists: the iterator. -/
import Derived.Test.YthedmemkckclpaaGreatManU
import Derived.Test.YthedmemkckclpaaGreatManN
import Derived.Test.YthedmemkckclpaaGreatIterW
namespace Go.Proofs.YthedmemkckclpaaGreat
open Go.RowKit Go.Shelf
set_option linter.unusedVariables false
attribute [local go_sem] Oper.semAt_some wide_fn wide_round_fn

/-- A list of parts that lies somewhere. -/
structure LC where
  a : Option Addr
  len : Nat
  cap : Nat
  L : List PL
def LC.arr (x : LC) : List Value := [.slice x.a x.len x.cap]
def lcCells (M : List LC) : List Value := (M.map LC.arr).flatten
def ListsAt (W : World) (a : Option Addr) (len : Nat) (M : List LC) : Prop := M.length = len ∧ len < 1000 ∧ RowV W a len 1 (lcCells M) ∧ ∀ x ∈ M, HasP W x.a x.len x.L ∧ x.len ≤ 6 ∧ ∀ y ∈ x.L, -9223372036854775808 ≤ y.1.g ∧ y.1.g < 9223372036854775808
theorem ListsAt.below {W W' : World} {a : Option Addr} {len : Nat} {M : List LC} (h : ListsAt W a len M) (hB : Below W.heap.size W W') : ListsAt W' a len M :=
  ⟨h.1, h.2.1, h.2.2.1.below hB, fun x hx => ⟨(h.2.2.2 x hx).1.below hB, (h.2.2.2 x hx).2⟩⟩
theorem lc_at {w W : World} {b off : Nat} {M : List LC} (hb : b < w.heap.size) (hB : Below w.heap.size w W) (hc : ∀ j (h : j < (lcCells M).length), w.cell? ⟨b, off + j, none⟩ = some (lcCells M)[j]) {k : Nat} (hk : k < M.length) :
    W.cell? ⟨b, off + k, none⟩ = some (.slice M[k].a M[k].len M[k].cap) := by
  have := (hB.cell (p := ⟨b, off + (k * 1 + 0), none⟩) hb).trans (RowV.at_ (len := M.length) (sz := 1) hc (v := .slice M[k].a M[k].len M[k].cap) (by rw [lcCells, flat_at LC.arr 1 (fun _ => rfl) M k 0 hk (by decide)]; rfl))
  simpa using this
/-- Groups behind the first lists. -/
def cutL (L : List GM) (M : List (List PL)) (k : Nat) : List GM := (M.take k).foldl manDo L
theorem cutL_zero (L : List GM) (M : List (List PL)) : cutL L M 0 = L := rfl
theorem cutL_succ (L : List GM) {M : List (List PL)} {k : Nat} (hk : k < M.length) : cutL L M (k + 1) = manDo (cutL L M k) M[k] := by
  unfold cutL
  rw [List.take_succ_eq_append_getElem hk, List.foldl_append]
  rfl
theorem cutL_ok {N : Nat} {L : List GM} {M : List LC} {a : Option Addr} {len : Nat} {W : World} (h : manOK N L) (hM : ListsAt W a len M) (hN : N + 36 * len ≤ 100000) : ∀ k, k ≤ len → manOK (N + 36 * k) (cutL L (M.map LC.L) k)
  | 0, _ => h
  | k + 1, hk => by
    have ih := cutL_ok h hM hN k (by omega)
    have hk1 : k < (M.map LC.L).length := by rw [List.length_map, hM.1]; exact hk
    rw [cutL_succ L hk1]
    have hkM : k < M.length := by rw [hM.1]; exact hk
    have hx := hM.2.2.2 M[k] (List.getElem_mem hkM)
    have hl : ((M.map LC.L)[k]).length ≤ 6 := by rw [List.getElem_map, hx.1.1]; exact hx.2.1
    refine manOK_mono (manDo_ok ih (by omega) (fun y hy => ?_)) (by omega)
    rw [List.getElem_map] at hy
    exact (hx.1.2.2.2 y hy).1
theorem lc_other {w W W' : World} {c : Nat} {L : List GM} {a : Option Addr} {len sz : Nat} {X : List Value} (h : RowV W a len sz X) (hc : MS w c L W) (hF : FrameT (fun k => k = c) W W') (ha : ∀ k, inBlkE a len k → k < w.heap.size) : RowV W' a len sz X :=
  rowV_frame h hF (fun k hk e => by have := ha k hk; have := hc.ge; omega)
theorem listsAt_rd {wE w0 W : World} {B0 : Nat} {S : Nat → Prop} {a : Option Addr} {len : Nat} {M : List LC} (h : ListsAt wE a len M) (h0 : Below wE.heap.size wE w0) (hR : Rd B0 S w0 W) (hS : ∀ k, k < wE.heap.size → S k) : Below wE.heap.size wE W :=
  ⟨hR.os.trans h0.os, hR.tape.trans h0.tape, hR.output.trans h0.output, Nat.le_trans h0.size hR.size, fun k hk => by
    have h1 := h0.block k hk
    obtain ⟨o, ho⟩ : ∃ o, wE.heap[k]? = some o := ⟨_, Array.getElem?_eq_some_iff.2 ⟨hk, rfl⟩⟩
    rw [ho] at h1 ⊢
    exact hR.block k o h1 (.inl (hS k hk))⟩
/-- What comes next: the number of the lists done, the pointer to the groups, which are just so. -/
def cutN (wE : World) (C : Nat) (L : List GM) (M : List LC) (pre : List (Nat × Nat)) (x : Nat × Nat) (W : World) : Prop := x.1 = pre.length ∧ x.1 ≤ M.length ∧ C ≤ x.2 ∧ MS wE x.2 (cutL L (M.map LC.L) x.1) W
def cutF (wE : World) (C : Nat) (L : List GM) (M : List LC) (xs : List (Nat × Nat)) (W : World) : Prop := ∃ c, xs = (List.range (M.length + 1)).map (fun k => (k, c)) ∧ C ≤ c ∧ MS wE c (cutL L (M.map LC.L) M.length) W
/-- All but the loop's own boxes is as it was: the groups behind a pointer stay. -/
theorem MS.kept {w W W' : World} {c B : Nat} {L : List GM} {V : Nat → Prop} {l : Nat} (h : MS w c L W) (hR : Rd B (fun k => ¬ V k ∧ k ≠ l) W W') (hl : ∃ r, W.heap[l]? = some (.loop r)) (hV : oneBox V W) (hb : ∀ k, V k → w.heap.size ≤ k) (hlw : w.heap.size ≤ l) : MS w c L W' := by
  obtain ⟨m, F, ⟨h1, h2⟩, e, hd, h0⟩ := h
  obtain ⟨r, hl⟩ := hl
  obtain ⟨es, clock, hm⟩ := h2.block
  have hF : FrameT (fun k => V k ∨ k = l) W W' := ⟨hR.os, hR.tape, hR.output, hR.size, fun k hk hT => by
    obtain ⟨o, ho⟩ : ∃ o, W.heap[k]? = some o := ⟨_, Array.getElem?_eq_some_iff.2 ⟨hk, rfl⟩⟩
    rw [ho]
    exact hR.block k o ho (.inl ⟨fun hv => hT (.inl hv), fun he => hT (.inr he)⟩)⟩
  refine ⟨m, F, ManAt.frame ⟨h1, h2⟩ hF ?_ ?_ ?_, e, hd, h0.trans (hF.toBelow h0.size fun k hk => by rcases hk with hk | hk; exact hb k hk; omega)⟩
  · rintro (hv | he)
    · obtain ⟨v, T, hv, hn⟩ := hV _ hv
      rw [h1] at hv
      simp only [Option.some.injEq, Obj.cells.injEq, Array.mk.injEq, List.cons.injEq, and_true] at hv
      exact hn _ hv.1.symm
    · rw [he, hl] at h1; cases h1
  · rintro (hv | he)
    · obtain ⟨v, T, hv, hn⟩ := hV _ hv
      rw [hm] at hv; cases hv
    · rw [he, hl] at hm; cases hm
  · intro y hy k hk
    rintro (hv | he)
    · obtain ⟨v, T, hv, hn⟩ := hV _ hv
      exact (h2.has y hy).not_cell hv k hk rfl
    · obtain ⟨b, off, e2, h3, rfl⟩ := hk
      obtain ⟨b', off', e', hb', hc⟩ := (h2.has y hy).2.2.2 h3
      rw [e2] at e'
      cases e'
      have hlen : (entryCells y.g.l).length = y.g.l.length * 3 := (h2.has y hy).2.1
      have := hc 0 (by omega)
      rw [he] at this
      simp [World.cell?, hl] at this
theorem MS.rebase {w v W : World} {c : Nat} {L : List GM} (h : MS w c L W) (hc : v.heap.size ≤ c) (hB : Below v.heap.size v W) : MS v c L W := by
  obtain ⟨m, F, h, e, _, _⟩ := h
  exact ⟨m, F, h, e, hc, hB⟩
/-- The groups behind a pointer lie in cells and a map. -/
theorem MS.putObj {w W : World} {c l : Nat} {L : List GM} (h : MS w c L W) {o : Obj} (hr : W.heap[l]? = some o) (hc : o.isCells = false) (hm : ∀ es k, o ≠ .map es k) (hl : w.heap.size ≤ l) (o' : Obj) : MS w c L (W.putObj l o') := by
  obtain ⟨m, F, ⟨h1, h2⟩, e, hd, h0⟩ := h
  obtain ⟨es, clock, hmb⟩ := h2.block
  have hF := frame_putObj W l o'
  refine ⟨m, F, ManAt.frame ⟨h1, h2⟩ hF ?_ ?_ ?_, e, hd, h0.trans (hF.toBelow h0.size fun k hk => by omega)⟩
  · intro he; rw [he, hr] at h1; cases h1; cases hc
  · intro he; rw [he, hr] at hmb; cases hmb; exact hm _ _ rfl
  · intro y hy k hk he
    obtain ⟨b, off, e2, h3, rfl⟩ := hk
    obtain ⟨b', off', e', hb', hcc⟩ := (h2.has y hy).2.2.2 h3
    rw [e2] at e'
    cases e'
    have hlen : (entryCells y.g.l).length = y.g.l.length * 3 := (h2.has y hy).2.1
    have hc0 := hcc 0 (by omega)
    obtain ⟨o2, ho2, hi2⟩ := isCells_of_cell hc0
    dsimp only at ho2
    rw [he, hr] at ho2
    cases ho2
    rw [hc] at hi2; cases hi2
theorem MS.abides {w : World} {c B : Nat} {L : List GM} (hB : w.heap.size ≤ B) : Abides B (MS w c L) := fun W l r o' hl h hr =>
  h.putObj hr rfl (fun _ _ h => by cases h) (by omega) o'
theorem moves_old {B : Nat} {W W' : World} (h : Below B W W') : Moves B (fun k => B ≤ k) W W' := ⟨h.os, h.tape, h.output, h.size, fun k o ho hT hc => (h.block k (by omega)).trans ho⟩
theorem range_next (c k : Nat) : (List.range (k + 1)).map (fun j => (j, c)) ++ [(k + 1, c)] = (List.range (k + 1 + 1)).map (fun j => (j, c)) := by
  rw [List.range_succ (n := k + 1), List.map_append]; rfl
set_option maxRecDepth 100000 in
set_option maxHeartbeats 4000000 in
theorem beg_iter (Bd Bl : Nat) {wB wE w0 : World} {d N : Nat} {L : List GM} {M : List LC} {la : Option Addr} {llen lcap : Nat} (V : Nat → Prop) (hM : ListsAt wE la llen M) (h : MS wB d L w0) (hEW : Below wE.heap.size wE w0) (hN : manOK N L) (hN5 : N + 36 * llen ≤ 100000)
    (h1 : w0.heap[Bd]? = some (.cells #[.pointer (some ⟨d, 0, none⟩)] 23 (0, 0))) (h2 : w0.heap[Bl]? = some (.cells #[.slice la llen lcap] 25 (0, 0))) (hV : ¬ V Bl) (hVE : ∀ k, V k → wE.heap.size ≤ k) :
    IterW Tryz.prog 16 #[.pointer (some ⟨Bd, 0, none⟩), .pointer (some ⟨Bl, 0, none⟩)] (fun x : Nat × Nat => #[.int .i64 (x.1 : Int), .pointer (some ⟨x.2, 0, none⟩)]) (cutN wE w0.heap.size L M) (cutF wE w0.heap.size L M) (fun _ => True) V w0 := by
  intro l J Jx W hW hlw hlW hJs hJV hY h0
  have hBW : Below w0.heap.size w0 W := ⟨hW.os, hW.tape, hW.output, hW.size, fun k hk => by
    obtain ⟨o, ho⟩ : ∃ o, w0.heap[k]? = some o := ⟨_, Array.getElem?_eq_some_iff.2 ⟨hk, rfl⟩⟩
    rw [ho]; exact hW.block k o ho (.inl trivial)⟩
  have hMW := h.below hBW
  have cd : W.cell? ⟨Bd, 0, none⟩ = some (.pointer (some ⟨d, 0, none⟩)) := cell_of_row _ _ 0 _ _ _ ((hBW.block _ (heap_lt h1)).trans h1)
  have hbl := (hBW.block _ (heap_lt h2)).trans h2
  have hBl := heap_lt h2
  have hsz := hBW.size
  have GC := Lib.hid (show Calls Tryz.prog 17 #[.pointer (some ⟨d, 0, none⟩)] W fun e w' => ∃ c, e = .returned (.pointer (some ⟨c, 0, none⟩)) ∧ W.heap.size ≤ c ∧ MS wE c L w' ∧ Below W.heap.size W w' from (ms_copy hMW).mono fun e w' ⟨c, a1, a2, a3, a4⟩ => ⟨c, a1, a2, a3.rebase (Nat.le_trans (Nat.le_trans hEW.size hsz) a2) ((hEW.trans (hBW.mono hEW.size)).trans (a4.mono (Nat.le_trans hEW.size hsz))), a4⟩)
  have hwE := hEW.size
  have HML := hM.1
  have HM := Lib.hid hM
  have HOK := Lib.hid (fun k hk => cutL_ok hN hM hN5 k hk)
  have HVE := Lib.hid hVE
  clear h h1 h2 hMW hM hN
  refine callsIn_of_wp Tryz.func16 rfl trivial ?_ rfl
  simp only [Tryz.ntmps16, List.size_toArray, List.length_cons, List.length_nil, Nat.reduceAdd, Nat.reduceSub, Array.replicate_succ, Array.replicate_zero, List.push_toArray, List.append_toArray, List.nil_append, List.cons_append]
  gi_wp2_with (gi_at_call 17; refine (callsIn_wide.2 GC.out).mono ?_; rintro e w1 ⟨c, rfl, hcW, hMc, hB1⟩; have hJ1 := hJs _ _ _ h0 (moves_old hB1); have hN1 : cutN wE w0.heap.size L M [] (0, c) w1 := ⟨rfl, Nat.zero_le _, by show w0.heap.size ≤ c; omega, hMc⟩; have hbl1 := (hB1.block _ (by omega)).trans hbl; obtain ⟨fn, tmps, assign, body, hy, hR1⟩ := hY [] (0, c) w1 hJ1 hN1; dsimp only at hy; rw [show ((0 : Nat) : Int) = 0 from rfl] at hy; have HV1 := hJV _ _ hJ1; clear h0 hbl cd)
  refine (roundIn_wide_n hR1).mono ?_
  rintro e W3 (⟨rfl, hJ3, hk3⟩ | ⟨rfl, hJx3⟩)
  · have hM3 := hMc.kept hk3 HV1.2 HV1.1 HVE.out (by omega)
    have hbl3 := hk3.block _ _ hbl1 (.inl ⟨hV, by omega⟩)
    have cl3 : W3.cell? ⟨Bl, 0, none⟩ = some (.slice la llen lcap) := cell_of_row _ _ 0 _ _ _ hbl3
    clear hMc hbl1 hJ1 hN1 hy hR1 HV1 hk3 hB1 hbl3
    gi_wp2
    gi_loopw [5, 6, 15] (fun _ _ q wr => ∃ k : Nat, k ≤ llen ∧ q = .int .i64 (k : Int) ∧ J ((List.range (k + 1)).map (fun j => (j, c))) wr ∧ MS wE c (cutL L (M.map LC.L) k) wr) (fun _ _ q _ => llen - (intOf q).toNat)
    case atStart => exact ⟨0, by omega, rfl, hJ3, hM3⟩
    case round =>
    obtain ⟨k, hk, rfl, hJ, hMr⟩ := hrel
    clear hJ3 hM3 cl3
    by_cases hlt : k < llen
    · have hlt' : (k : Int) < (llen : Int) := by omega
      have hw9 : IntKind.i64.wrap ((k : Int) + 1) = ((k + 1 : Nat) : Int) := (IntWalk.i64_in _ (by have := HM.out.2.1; omega)).trans (by push_cast; rfl)
      have hLr := HM.out.below hMr.bel
      obtain ⟨b, off, rfl, hb, hx⟩ := hLr.2.2.1.2.2 (by omega)
      have hkl : k < M.length := by omega
      have ck := lc_at hb (Below.refl _ _) hx hkl
      have hxk := hLr.2.2.2 M[k] (List.getElem_mem hkl)
      have HS := Lib.hid (show cutL L (M.map LC.L) (k + 1) = manDo (cutL L (M.map LC.L) k) M[k].L by rw [cutL_succ L (by rw [List.length_map]; exact hkl), List.getElem_map])
      clear hx hLr
      generalize M[k] = x at *
      obtain ⟨xa, xlen, xcap, xL⟩ := x
      dsimp only at *
      have GD := Lib.hid (show Calls Tryz.prog 18 #[.pointer (some ⟨c, 0, none⟩), .slice xa xlen xcap] wr fun e w' => ∃ t, e = .returned t ∧ MS wE c (cutL L (M.map LC.L) (k + 1)) w' ∧ FrameT (fun k => k = c) wr w' from
        (ms_do hMr (HOK.out k (by omega)) xa xlen xcap xL hxk.1 (by have := hxk.2.1; omega) hxk.2.2).mono fun e w' ⟨h1, h2, h3⟩ => ⟨_, h1, by rw [HS.out]; exact h2, h3⟩)
      clear hxk HS
      gi_wp2_with (gi_at_call 18; refine (callsIn_wide.2 GD.out).mono ?_; rintro e w5 ⟨t5, rfl, hM5, hF5⟩; have hJ5 := hJs _ _ _ hJ ⟨hF5.os, hF5.tape, hF5.output, hF5.size, (fun q o ho hT hc => hF5.get ho (by show ¬ q = c; omega))⟩; have hN5' : cutN wE w0.heap.size L M ((List.range (k + 1)).map (fun j => (j, c))) (k + 1, c) w5 := ⟨by simp, by show k + 1 ≤ M.length; omega, by show w0.heap.size ≤ c; omega, hM5⟩; obtain ⟨fn, tmps, assign, body, hy, hR1⟩ := hY _ (k + 1, c) w5 hJ5 hN5'; dsimp only at hy; rw [show ((k + 1 : Nat) : Int) = (k : Int) + 1 from (by push_cast; rfl)] at hy; have HV5 := hJV _ _ hJ5; clear hJ hMr)
      refine (roundIn_wide_n hR1).mono ?_
      rintro e W6 (⟨rfl, hJ6, hk6⟩ | ⟨rfl, hJx6⟩)
      · have hM6 := hM5.kept hk6 HV5.2 HV5.1 HVE.out (by omega)
        rw [range_next] at hJ6
        clear hJ5 hM5 hF5 hN5' hy hR1 HV5 hk6
        gi_wp2
        go_roundw
        case rel => exact ⟨k + 1, by omega, by go_num, hJ6, hM6⟩
        case measure => simp [intOf]; omega
      · gi_wp2
        refine bodyPost_ret (results_none rfl _ _ _) rfl ?_
        exact ⟨⟨_, rfl⟩, .inr ⟨_, _, hJx6⟩⟩
    · have hOk : k = llen := by omega
      subst k
      have hge : ¬ (llen : Int) < (llen : Int) := by omega
      gi_wp2
      refine bodyPost_end (results_none rfl _ _ _) rfl ?_
      exact ⟨⟨_, rfl⟩, .inl ⟨_, ⟨c, by rw [HML], by omega, by rw [HML]; exact hMr⟩, hJ⟩⟩
  · gi_wp2
    refine bodyPost_ret (results_none rfl _ _ _) rfl ?_
    exact ⟨⟨_, rfl⟩, .inr ⟨[], _, hJx3⟩⟩

theorem beg_makes {wB W : World} {d N : Nat} {L : List GM} {M : List LC} {la : Option Addr} {llen lcap : Nat} (wE : World) (V : Nat → Prop) (hM : ListsAt wE la llen M) (h : MS wB d L W) (hEW : Below wE.heap.size wE W) (hN : manOK N L) (hN5 : N + 36 * llen ≤ 100000) (hV : ∀ k, V k → wE.heap.size ≤ k ∧ k < W.heap.size) :
    Calls Tryz.prog 9 #[.pointer (some ⟨d, 0, none⟩), .slice la llen lcap] W fun e w' => ∃ lb, e = .returned (.func (.func 16) #[] lb) ∧ w' = (W.alloc (.cells #[.pointer (some ⟨d, 0, none⟩)] 23)).alloc (.cells #[.slice la llen lcap] 25) ∧
      IterW Tryz.prog 16 lb (fun x : Nat × Nat => #[.int .i64 (x.1 : Int), .pointer (some ⟨x.2, 0, none⟩)]) (cutN wE w'.heap.size L M) (cutF wE w'.heap.size L M) (fun _ => True) V w' := by
  have hB := bel_alloc (bel_alloc (Below.refl W.heap.size W) (.cells #[.pointer (some ⟨d, 0, none⟩)] 23)) (.cells #[.slice la llen lcap] 25)
  have HI := Lib.hid (beg_iter W.heap.size (W.heap.size + 1) (lcap := lcap) V hM (h.below hB) (hEW.trans (hB.mono hEW.size)) hN hN5 (two_a _ _ _ _ _) (two_b _ _ _ _ _) (fun hv => by have := (hV _ hv).2; omega) (fun k hk => (hV k hk).1))
  clear hB hN hN5 hV h hM hEW
  go_enter Tryz.func9, Tryz.ntmps9
  go_wp2
  go_ret
  exact ⟨_, rfl, rfl, HI.out⟩

end Go.Proofs.YthedmemkckclpaaGreat
