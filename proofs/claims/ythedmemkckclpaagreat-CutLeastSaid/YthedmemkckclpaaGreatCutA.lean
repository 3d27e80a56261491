/- cut.After: what begun groups are behind so many lists. -/
import Derived.Test.YthedmemkckclpaaGreatCut
namespace Go.Proofs.YthedmemkckclpaaGreat
open Go.RowKit Go.Shelf
set_option linter.unusedVariables false
attribute [local go_sem] Oper.semAt_some wide_fn wide_round_fn

theorem boxes4 (w : World) (A B C D : Array Value) (S T U X : TypeId) : ((((w.alloc (.cells A S)).alloc (.cells B T)).alloc (.cells C U)).alloc (.cells D X)).heap[w.heap.size]? = some (.cells A S (0, 0)) ∧ ((((w.alloc (.cells A S)).alloc (.cells B T)).alloc (.cells C U)).alloc (.cells D X)).heap[w.heap.size + 1]? = some (.cells B T (0, 0)) := by
  have h1 := two_a w A B S T
  have h2 := two_b w A B S T
  have hB := bel_alloc (bel_alloc (Below.refl _ ((w.alloc (.cells A S)).alloc (.cells B T))) (.cells C U)) (.cells D X)
  exact ⟨(hB.block _ (heap_lt h1)).trans h1, (hB.block _ (heap_lt h2)).trans h2⟩
/-- Between two rounds: the wanted number's box, the box of what is so far. -/
def aftI (w : World) (K : Int) (n : Nat) (pre : List (Nat × Nat)) (W : World) : Prop :=
  W.heap[w.heap.size]? = some (.cells #[.int .i64 K] 3 (0, 0)) ∧ (∃ p, W.heap[w.heap.size + 1]? = some (.cells #[.pointer p] 23 (0, 0))) ∧ pre.length ≤ n ∧ Below w.heap.size w W
theorem aftI_stab {w : World} {K : Int} {n B : Nat} {pre : List (Nat × Nat)} (h : w.heap.size + 1 < B) : Stab B (fun k => B ≤ k) (aftI w K n pre) :=
  (Stab.block (by omega) (.inl (by omega))).and ((Stab.ex fun p => Stab.block (by omega) (.inl (by omega))).and ((Stab.pure _).and (fun W W' hp hm => ⟨hm.os.trans hp.os, hm.tape.trans hp.tape, hm.output.trans hp.output, Nat.le_trans hp.size hm.size, fun k hk => by
    have h1 := hp.block k hk
    obtain ⟨o, ho⟩ : ∃ o, w.heap[k]? = some o := ⟨_, Array.getElem?_eq_some_iff.2 ⟨hk, rfl⟩⟩
    rw [ho] at h1 ⊢
    exact hm.block k o h1 (by omega) (.inl (by omega))⟩)))
set_option maxRecDepth 100000 in
set_option maxHeartbeats 4000000 in
theorem after_any {wB W : World} {d N : Nat} {L : List GM} {M : List LC} {la : Option Addr} {llen lcap : Nat} (hM : ListsAt W la llen M) (h : MS wB d L W) (hN : manOK N L) (hN5 : N + 36 * llen ≤ 100000) (K : Int) (j : Nat) (hj : (j : Int) = K) (hjl : j ≤ llen) :
    Calls Tryz.prog 6 #[.pointer (some ⟨d, 0, none⟩), .slice la llen lcap, .int .i64 K] W fun e w' => ∃ c, e = .returned (.pointer (some ⟨c, 0, none⟩)) ∧ W.heap.size ≤ c ∧ MS wB c (cutL L (M.map LC.L) j) w' ∧ Below W.heap.size W w' := by
  have HML := Lib.hid hM.1
  have hwB := h.bel
  have GP := Lib.hid (fun W' (hB : Below W.heap.size W W') (hlt : W.heap.size + 2 ≤ W'.heap.size) => beg_makes (lcap := lcap) W (fun k => k = W.heap.size + 1) hM (h.below hB) hB hN hN5 (fun k hk => by omega))
  have HBB := Lib.hid (bel_alloc (bel_alloc (Below.refl W.heap.size W) (.cells #[.int .i64 K] 3)) (.cells #[.pointer none] 23))
  clear hM h hN hN5
  refine (callsIn_wide (n := 9)).1 ?_
  refine callsIn_of_wp_marks Tryz.func6 rfl trivial ?_ rfl
  simp only [Tryz.ntmps6, List.size_toArray, List.length_cons, List.length_nil, Nat.reduceAdd, Nat.reduceSub, Array.replicate_succ, Array.replicate_zero, List.push_toArray, List.append_toArray, List.nil_append, List.cons_append]
  gi_wp2_with (gi_at_call 9; refine (callsIn_wide.2 (GP.out _ HBB.out (by simp))).mono ?_; rintro e w5 ⟨lb, rfl, hw5, hI5⟩; have HW5 := Lib.hid hw5; clear hw5; have HI5 := Lib.hid hI5; clear hI5)
  obtain ⟨q0, q1⟩ := boxes4 W #[.int .i64 K] #[.pointer none] #[.pointer (some ⟨d, 0, none⟩)] #[.slice la llen lcap] 3 23 23 25
  have hw5 := HW5.out
  clear HW5
  rw [← hw5] at q0 q1
  have hB5 : Below W.heap.size W w5 := by rw [hw5]; exact bel_alloc (bel_alloc HBB.out _) _
  have hsz5 : w5.heap.size = W.heap.size + 4 := by rw [hw5]; simp
  clear hw5
  have HSZ5 := Lib.hid hsz5
  refine range_outerW rfl (enters_of Tryz.func16 (by kernel_rfl) rfl) HI5.out (fun _ => rfl) ?hf
    (fun pre W' => aftI W K j pre W') (fun c pre W' => c = .exit 0 ∧ ∃ p, W'.heap[W.heap.size + 1]? = some (.cells #[.pointer (some ⟨p, 0, none⟩)] 23 (0, 0)) ∧ W.heap.size ≤ p ∧ MS W p (cutL L (M.map LC.L) j) W') (fun _ => aftI_stab (by omega)) (fun _ _ => ?hix)
    ?hv ⟨q0, ⟨none, q1⟩, Nat.zero_le _, hB5⟩ ?hr ?hd ?hs
  case hf => exact fun xs => Abides.ex fun c => (Abides.pure _).and ((Abides.pure _).and (MS.abides hB5.size))
  case hix => exact (Abides.pure _).and (Abides.ex fun p => Abides.cells.and ((Abides.pure _).and (MS.abides hB5.size)))
  case hv =>
    rintro s W1 hi k rfl
    obtain ⟨p, hp⟩ := hi.2.1
    exact ⟨_, _, hp, fun m h => by cases h⟩
  case hr =>
    rintro l0 pre x W1 hnx hl0 hi1 hrec
    have hB5s := hB5.size
    clear hsz5
    obtain ⟨xk, xc⟩ := x
    obtain ⟨hx1, hx2, hx3, hxM⟩ := hnx
    dsimp only at hx1 hx2 hx3 hxM
    subst hx1
    gi_wp2
    refine rdThenW_mk (fun W' => aftI W K j pre W' ∧ MS W xc (cutL L (M.map LC.L) pre.length) W') ((Abides.of_stab (aftI_stab (by have := HSZ5.out; omega)).old).and (MS.abides hB5.size)) ⟨hi1, hxM⟩ (Rd.refl _ _ _) ?_
    clear hi1 hxM hrec W1
    rintro W1 ⟨⟨hk, ⟨p, hb⟩, hlt, hB⟩, hMx⟩ hrec
    have ck : W1.cell? ⟨W.heap.size, 0, none⟩ = some (.int .i64 K) := cell_of_row _ _ 0 _ _ _ hk
    have cb : W1.cell? ⟨W.heap.size + 1, 0, none⟩ = some (.pointer p) := cell_of_row _ _ 0 _ _ _ hb
    have fb : W1.frozen? ⟨W.heap.size + 1, 0, none⟩ = false := frozen_of_row _ _ 0 _ _ hb
    have hb2 := heap_setCell_same W1 (W.heap.size + 1) 0 _ _ (.pointer (some ⟨xc, 0, none⟩)) hb
    have hF2 := FrameT.setCell W1 (W.heap.size + 1) 0 (.pointer (some ⟨xc, 0, none⟩))
    have hk2 := hF2.get hk (by omega)
    have ck2 : (W1.setCell ⟨W.heap.size + 1, 0, none⟩ (.pointer (some ⟨xc, 0, none⟩))).cell? ⟨W.heap.size, 0, none⟩ = some (.int .i64 K) := cell_of_row _ _ 0 _ _ _ hk2
    have hB2 := hB.setCell (p := ⟨W.heap.size + 1, 0, none⟩) (by simp) (.pointer (some ⟨xc, 0, none⟩))
    have hM2 : MS W xc (cutL L (M.map LC.L) pre.length) (W1.setCell ⟨W.heap.size + 1, 0, none⟩ (.pointer (some ⟨xc, 0, none⟩))) := by
      refine hMx.kept (V := fun k => k = W.heap.size + 1) (l := l0) (B := w5.heap.size) ⟨hF2.os, hF2.tape, hF2.output, hF2.size, fun k o ho hc => hF2.get ho (by have := HSZ5.out; rcases hc with hc | hc; exact hc.1; omega)⟩ hrec (fun k hk => by subst hk; exact ⟨_, _, hb, fun m h => by cases h⟩) (fun k hk => by omega) (by have := HSZ5.out; omega)
    have HLT := Lib.hid hlt
    have HRd := Lib.hid (show Rd w5.heap.size (fun k => ¬ k = W.heap.size + 1 ∧ k ≠ l0) W1 (W1.setCell ⟨W.heap.size + 1, 0, none⟩ (.pointer (some ⟨xc, 0, none⟩))) from ⟨hF2.os, hF2.tape, hF2.output, hF2.size, fun k o ho hc => hF2.get ho (by have := HSZ5.out; rcases hc with hc | hc; exact hc.1; omega)⟩)
    have HB2 := Lib.hid hb2
    have HK2 := Lib.hid hk2
    have HM2 := Lib.hid hM2
    have HBB2 := Lib.hid hB2
    clear hlt hb2 hk2 hM2 hB2 hMx hB hF2 hk hb
    by_cases hge : (j : Int) ≤ (pre.length : Int)
    · have hge' : K ≤ (pre.length : Int) := by omega
      have HJX := Lib.hid (show pre.length = j by have h2 := HLT.out; omega)
      clear hge
      gi_wp2
      refine ⟨⟨HRd.out.os, HRd.out.tape, HRd.out.output, HRd.out.size, fun k o ho hc => HRd.out.block k o ho (.inr (hc.resolve_left id))⟩, rfl, xc, HB2.out, by omega, ?_⟩
      rw [← HJX.out]; exact HM2.out
    · have hge' : (pre.length : Int) < K := by omega
      have hge2 : ¬ K ≤ (pre.length : Int) := by omega
      have HGE := Lib.hid hge
      clear hge
      gi_wp2
      refine ⟨HRd.out, HK2.out, ⟨_, HB2.out⟩, ?_, HBB2.out⟩
      have h2 := HGE.out
      rw [List.length_append, List.length_singleton]
      omega
  case hd =>
    rintro xs W1 ⟨c, rfl, hcC, hMc⟩ ⟨hk, ⟨p, hb⟩, hlt, hB⟩ hD
    exfalso
    have h2 := HML.out
    rw [List.length_map, List.length_range] at hlt
    omega
  case hs =>
    rintro c pre x W1 ⟨rfl, p, hp, hpW, hMp⟩ hD
    have cp : W1.cell? ⟨W.heap.size + 1, 0, none⟩ = some (.pointer (some ⟨p, 0, none⟩)) := cell_of_row _ _ 0 _ _ _ hp
    gi_wp2
    refine leave_one hD (results_tmp rfl _ _ _) ⟨p, rfl, hpW, ?_, ?_⟩
    · exact (hMp.putObj hD rfl (fun _ _ h => by cases h) hB5.size _).rebase (Nat.le_trans hwB.size hpW) (hwB.trans ((hMp.putObj hD rfl (fun _ _ h => by cases h) hB5.size _).bel.mono hwB.size))
    · exact (hMp.putObj hD rfl (fun _ _ h => by cases h) hB5.size _).bel

end Go.Proofs.YthedmemkckclpaaGreat
