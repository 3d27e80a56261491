/- The contracts of package group's between and of its iterator, of entryTerm. -/
import Derived.Test.YtfmcebmkclaafaaGrp
import Derived.Test.YtfmcebmkclaafaaCollect
namespace Go.Proofs.Ytfmcebmkclaafaa
open Go.RowKit Go.Shelf
set_option linter.unusedVariables false
attribute [local go_sem] Oper.semAt_some wide_fn wide_round_fn

set_option maxRecDepth 100000 in
set_option maxHeartbeats 1000000 in
theorem btw_iter (Bl B1 B2 : Nat) (a : Option Addr) (len cap : Nat) (l : List EntryC) (lo hi : Int) (hl : l.length = len) (hm : len < 1000000) (S : Nat → Prop) (hS : S Bl) (hS1 : S B1) (hS2 : S B2) (hSb : ∀ k, inBlkE a len k → S k) (w0 : World)
    (hBl : w0.cell? ⟨Bl, 0, none⟩ = some (.slice a len cap)) (h1 : w0.cell? ⟨B1, 0, none⟩ = some (.int .i64 lo)) (h2 : w0.cell? ⟨B2, 0, none⟩ = some (.int .i64 hi)) (hrow : RowV w0 a len 3 (entryCells l)) :
    Iter Try.prog 63 #[.pointer (some ⟨Bl, 0, none⟩), .pointer (some ⟨B1, 0, none⟩), .pointer (some ⟨B2, 0, none⟩)] EntryC.enc (btw l lo hi) S (fun _ => False) w0 := by
  intro L J Jx W hW hJs _ hY h0
  have hcl0 := hW.cell hBl hS
  have hca0 := hW.cell h1 hS1
  have hcb0 := hW.cell h2 hS2
  obtain ⟨hlen, hml, hcs⟩ := hrow
  clear hBl h1 h2
  refine callsIn_of_wp Try.func63 rfl trivial ?_ rfl
  simp only [Try.ntmps63, List.size_toArray, List.length_cons, List.length_nil, Nat.reduceAdd, Nat.reduceSub, Array.replicate_succ, Array.replicate_zero, List.push_toArray, List.append_toArray, List.nil_append, List.cons_append]
  gi_wp2
  gi_loopw [9] (fun q wr => ∃ k : Nat, k ≤ len ∧ q = .int .i64 k ∧ J (btw (l.take k) lo hi) wr ∧ Rd W.heap.size S W wr) (fun q _ => len - (intOf q).toNat)
  case atStart => exact ⟨0, by omega, rfl, h0, Rd.refl _ _ _⟩
  case round =>
    obtain ⟨k, hk, rfl, hJ, hR⟩ := hrel
    by_cases hlt : k < len
    · obtain ⟨b, off, rfl, hb, hc⟩ := hcs (by omega)
      have hSbb := hSb b ⟨b, off, rfl, by omega, rfl⟩
      have hkl : k < l.length := by omega
      have cell : ∀ i v, i < 3 → (l[k].cells)[i]? = some v → wr.cell? ⟨b, off + (k * 3 + i), none⟩ = some v := fun i v hi hv =>
        hR.cell (hW.cell (RowV.at_ (len := len) (sz := 3) hc (by rw [entryCells, flat_at EntryC.cells 3 EntryC.len l k i hkl hi]; exact hv)) hSbb) hSbb
      have c0 : wr.cell? ⟨b, off + k * 3, none⟩ = some (.int .i64 l[k].i) := cell 0 _ (by decide) rfl
      have c1 : wr.cell? ⟨b, off + k * 3 + 1, none⟩ = some (.int .i64 l[k].t) := cell 1 _ (by decide) rfl
      have c2 : wr.cell? ⟨b, off + k * 3 + 2, none⟩ = some (.string l[k].d) := cell 2 _ (by decide) rfl
      have HI := Lib.hid (btw_take l lo hi k hkl)
      have HX := Lib.hid (btw_split l lo hi k hkl)
      clear cell hc hcs
      generalize l[k] = f at *
      have hcs2 := (hR.alloc (.cells #[.int .i64 f.i, .int .i64 f.t, .string f.d] 55)).cell hca0 hS1
      have hcs3 := (hR.alloc (.cells #[.int .i64 f.i, .int .i64 f.t, .string f.d] 55)).cell hcb0 hS2
      by_cases hz : lo ≤ f.i
      · by_cases hz2 : f.i ≤ hi
        · have HX2 := Lib.hid (HX.out hz hz2)
          have HI2 := Lib.hid (HI.out.trans (by rw [if_pos ⟨hz, hz2⟩]))
          clear HX HI
          have hy0 := hY _ _ _ (wr.alloc (.cells #[.int .i64 f.i, .int .i64 f.t, .string f.d] 55)) HX2.out (hJs _ _ _ hJ (Moves.alloc _ _))
          obtain ⟨fn, tmps, assign, body, hy, hR1⟩ := hy0
          dsimp only [EntryC.enc, EntryC.val] at hy
          gi_wp2
          refine (roundIn_wide_n hR1).mono ?_
          rintro e W3 (⟨rfl, hJ3, hk3⟩ | ⟨rfl, hJx3⟩)
          · gi_wp2
            go_roundw
            case rel => exact ⟨k + 1, by omega, by go_num, by rw [HI2.out]; exact hJ3, (hR.alloc _).trans hk3⟩
            case measure => simp [intOf]; omega
          · gi_wp2
            refine bodyPost_ret (results_none rfl _ _ _) rfl ?_
            exact ⟨⟨_, rfl⟩, .inr ⟨_, _, _, HX2.out, hJx3⟩⟩
        · have HI2 := Lib.hid (HI.out.trans (by rw [if_neg (fun h => hz2 h.2), List.append_nil]))
          have hz3 : hi < f.i := by omega
          clear HX HI hz2
          gi_wp2
          exact ⟨⟨k + 1, by omega, by go_num, by rw [HI2.out]; exact hJs _ _ _ hJ (Moves.alloc _ _), hR.alloc _⟩, by simp [intOf]; omega⟩
      · have HI2 := Lib.hid (HI.out.trans (by rw [if_neg (fun h => hz h.1), List.append_nil]))
        have hz3 : f.i < lo := by omega
        clear HX HI hz
        gi_wp2
        exact ⟨⟨k + 1, by omega, by go_num, by rw [HI2.out]; exact hJs _ _ _ hJ (Moves.alloc _ _), hR.alloc _⟩, by simp [intOf]; omega⟩
    · obtain rfl : k = len := by omega
      rw [List.take_of_length_le (by omega)] at hJ
      gi_wp2
      refine bodyPost_end (results_none rfl _ _ _) rfl ?_
      exact ⟨⟨_, rfl⟩, .inl hJ⟩

theorem boxes3 (w : World) (v1 v2 v3 : Value) (T1 T2 T3 : TypeId) :
    (((w.alloc (.cells #[v1] T1)).alloc (.cells #[v2] T2)).alloc (.cells #[v3] T3)).cell? ⟨w.heap.size, 0, none⟩ = some v1 ∧ (((w.alloc (.cells #[v1] T1)).alloc (.cells #[v2] T2)).alloc (.cells #[v3] T3)).cell? ⟨w.heap.size + 1, 0, none⟩ = some v2 ∧
    (((w.alloc (.cells #[v1] T1)).alloc (.cells #[v2] T2)).alloc (.cells #[v3] T3)).cell? ⟨w.heap.size + 1 + 1, 0, none⟩ = some v3 ∧ Below w.heap.size w (((w.alloc (.cells #[v1] T1)).alloc (.cells #[v2] T2)).alloc (.cells #[v3] T3)) ∧
    (((w.alloc (.cells #[v1] T1)).alloc (.cells #[v2] T2)).alloc (.cells #[v3] T3)).heap.size = w.heap.size + 3 := by
  refine ⟨(((Boxed.new w T1 v1).alloc _).alloc _).cell, ?_, ?_, bel_alloc (bel_alloc (bel_alloc (Below.refl _ _) _) _) _, by simp⟩
  · have := ((Boxed.new (w.alloc (.cells #[v1] T1)) T2 v2).alloc (.cells #[v3] T3)).cell
    rwa [World.size_alloc] at this
  · have := (Boxed.new ((w.alloc (.cells #[v1] T1)).alloc (.cells #[v2] T2)) T3 v3).cell
    rwa [World.size_alloc, World.size_alloc] at this

set_option maxRecDepth 100000 in
theorem btw_makes (a : Option Addr) (len cap : Nat) (l : List EntryC) (lo hi : Int) (hl : l.length = len) (hm : len < 1000000) (w : World) (hrow : RowV w a len 3 (entryCells l)) :
    MakesOver Try.prog 42 #[.slice a len cap, .int .i64 lo, .int .i64 hi] w 63 EntryC.enc (btw l lo hi) (inBlkE a len) := by
  unfold MakesOver
  go_enter Try.func42, Try.ntmps42
  go_wp2
  go_ret
  have h3 := boxes3 w (.slice a len cap) (.int .i64 lo) (.int .i64 hi) 24 3 3
  refine ⟨_, rfl, h3.2.2.2.1, ?_⟩
  exact btw_iter w.heap.size (w.heap.size + 1) (w.heap.size + 1 + 1) a len cap l lo hi hl hm _ (.inr ⟨by omega, by simp; omega⟩) (.inr ⟨by omega, by simp⟩) (.inr ⟨by omega, by simp⟩) (fun k h => .inl h) _ h3.1 h3.2.1 h3.2.2.1 (hrow.below h3.2.2.2.1)

theorem btw_lt {a : Option Addr} {len : Nat} {w : World} {sz : Nat} {xs : List Value} (h : RowV w a len sz xs) {k : Nat} (hk : inBlkE a len k) : k < w.heap.size := by
  obtain ⟨b, off, rfl, h0, rfl⟩ := hk
  obtain ⟨b', off', e, hb, _⟩ := h.2.2 h0
  cases e; exact hb

set_option maxRecDepth 100000 in
set_option maxHeartbeats 1000000 in
theorem entT_any (g : GM) (a : Option Addr) (cap : Nat) (i : Int) (w : World) (hg : HasG w a g) : Gives Try.prog 41 #[g.val a cap, .int .i64 i] w (.int .i64 (entT g.l i)) := by
  refine (callsIn_wide (n := 9)).1 ?_
  refine callsIn_of_wp_marks Try.func41 rfl trivial ?_ rfl
  simp only [Try.ntmps41, List.size_toArray, List.length_cons, List.length_nil, Nat.reduceAdd, Nat.reduceSub, Array.replicate_succ, Array.replicate_zero, List.push_toArray, List.append_toArray, List.nil_append, List.cons_append]
  have bO := Boxed.new (w.alloc (.cells (g.arr a cap) 26)) 3 (.int .i64 0)
  rw [World.size_alloc] at bO
  have hB0 : Below w.heap.size w ((w.alloc (.cells (g.arr a cap) 26)).alloc (.cells #[.int .i64 0] 3)) := bel_alloc (bel_alloc (Below.refl _ _) _) _
  have M := Lib.hid (btw_makes a g.l.length cap g.l i i rfl hg.1 _ (hg.2.below hB0))
  have hlt : ∀ k, inBlkE a g.l.length k → k < w.heap.size := fun k hk => btw_lt hg.2 hk
  have HS := Lib.hid (show entT g.l i = ((btw g.l i i).head?.map EntryC.t).getD 0 from rfl)
  have g6 : ((w.alloc (.cells (g.arr a cap) 26)).alloc (.cells #[.int .i64 0] 3)).cell? ⟨w.heap.size, 6, none⟩ = some (.slice a g.l.length cap) := cell_of_row _ _ 6 _ _ _ (two_a w _ _ _ _)
  clear hg
  obtain ⟨id, fi, te, ht, hv, hc, l⟩ := g
  dsimp only [GM.val, GM.arr] at *
  gi_wp2_with (gi_at_call 42; refine (callsIn_wide.2 M.out).mono ?_; rintro e w1 ⟨lb, rfl, hB1, hI1⟩)
  simp only [World.size_alloc] at hB1 hI1
  have bO1 := boxed_below bO hB1 (by omega)
  have hsz : w.heap.size + 1 + 1 ≤ w1.heap.size := by have := hB1.size; simp only [World.size_alloc] at this; exact this
  replace hB1 := hB0.trans (hB1.mono (by omega))
  refine range_outer rfl (enters_of Try.func63 (by kernel_rfl) rfl) hI1 (fun _ => rfl) (fun k hk => hk.elim (fun h => Nat.lt_of_lt_of_le (hlt k h) hB1.size) (fun h => h.2)) (fun _ h => h.elim)
    (fun pre W => pre = [] ∧ boxI w (w.heap.size + 1) 3 (.int .i64 0) W) (fun c xs W => c = .ret ∧ ∃ x, xs = [x] ∧ boxI w (w.heap.size + 1) 3 (.int .i64 x.t) W) (fun _ => (Stab.pure _).and (boxI_stab hB1.size)) (fun _ _ => (Stab.pure _).and (Stab.ex fun _ => (Stab.pure _).and (boxI_stab hB1.size))) ⟨rfl, bO1, hB1⟩ ?hr ?hd ?hs
  case hr =>
    rintro L pre x suf W hx hl' ⟨rfl, hi1⟩ hrec
    dsimp only [EntryC.enc, EntryC.val]
    gi_wp2
    refine rdThen_mk (fun W' => boxI w (w.heap.size + 1) 3 (.int .i64 0) W' ∧ W'.heap[W.heap.size]? = some (.cells #[.int .i64 x.i, .int .i64 x.t, .string x.d] 55 (0, 0)))
      ((boxI_stab hB1.size).and (Stab.block (fun h => h) (.inr rfl))) ⟨boxI_stab hB1.size _ _ hi1 (Moves.alloc _ _), World.alloc_heap_new W _⟩ ((Rd.refl _ _ _).alloc _) ?_
    clear hi1 hrec
    obtain ⟨X, hX⟩ : ∃ X, X = W.heap.size := ⟨_, rfl⟩
    rw [← hX]
    clear hX W
    rintro W ⟨hi, hblk⟩ hrec
    have hcI := hi.1.cell
    have hfI := hi.1.frozen
    have d0 : W.cell? ⟨X, 0, none⟩ = some (.int .i64 x.i) := cell_of_row W X 0 _ _ _ hblk
    have d1 : W.cell? ⟨X, 1, none⟩ = some (.int .i64 x.t) := cell_of_row W X 1 _ _ _ hblk
    have d2 : W.cell? ⟨X, 2, none⟩ = some (.string x.d) := cell_of_row W X 2 _ _ _ hblk
    gi_wp2
    exact ⟨(Rd.refl _ _ _).setBox hi.1 (fun h => h.elim) _, rfl, x, rfl, boxI_set hi (by omega) _⟩
  case hd =>
    rintro W ⟨he, hi⟩ hD
    have hcI := hi.1.cell
    have hfI := hi.1.frozen
    have HV := Lib.hid (show entT l i = 0 by rw [HS.out, he]; rfl)
    clear he
    gi_wp2
    rw [HV.out]
    have hi2 := boxI_set hi (show w.heap.size ≤ w.heap.size + 1 by omega) (.int .i64 0)
    have hD2 : (W.setCell ⟨w.heap.size + 1, 0, none⟩ (.int .i64 0)).heap[w1.heap.size]? = some (.deferred (some [])) := (heap_setCell_other _ _ _ _ (by show _ ≠ w.heap.size + 1; omega)).trans hD
    have c0 := cell_putObj (o' := .deferred none) hi2.1.cell hD2 rfl
    exact leave_one hD2 (by simp [results, Try.results41, go_sem, c0]) ⟨rfl, below_putObj hi2.2 (Nat.le_refl _) hB1.size _⟩
  case hs =>
    rintro c pre x suf W hx ⟨rfl, y, hy, hi⟩ hD
    obtain ⟨rfl, rfl⟩ : pre = [] ∧ x = y := by
      cases pre with
      | nil => simp at hy; exact ⟨rfl, hy⟩
      | cons p q => simp at hy
    have HV := Lib.hid (show entT l i = x.t by rw [HS.out, hx]; rfl)
    clear hy hx
    gi_wp2
    rw [HV.out]
    have c0 := cell_putObj (o' := .deferred none) hi.1.cell hD rfl
    exact leave_one hD (by simp [results, Try.results41, go_sem, c0]) ⟨rfl, below_putObj hi.2 (Nat.le_refl _) hB1.size _⟩

end Go.Proofs.Ytfmcebmkclaafaa
