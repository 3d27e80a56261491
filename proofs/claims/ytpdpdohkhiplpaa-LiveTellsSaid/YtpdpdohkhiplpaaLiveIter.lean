/- The contracts of package live's functions that range over an iterator: In, Count. -/
import Derived.Test.YtpdpdohkhiplpaaLiveRef
namespace Go.Proofs.Ytpdpdohkhiplpaa
open Go.RowKit Go.Shelf
set_option linter.unusedVariables false
attribute [local go_sem] Oper.semAt_some wide_fn wide_round_fn

def SpotC.val (f : SpotC) : Array Value := #[.agg #[.int .i64 f.g, .int .i64 f.i, .int .i64 f.s, .int .i64 f.p]]
theorem inL_split (l : List SpotC) (z : Int) (k : Nat) (h : k < l.length) (hz : l[k].s = z) : inL l z = inL (l.take k) z ++ l[k] :: inL (l.drop (k + 1)) z := by
  have e : l = l.take k ++ (l[k] :: l.drop (k + 1)) := by rw [List.getElem_cons_drop h, List.take_append_drop]
  have e2 := congrArg (fun x => inL x z) e
  simp only [inL, List.filter_append, List.filter_cons] at e2 ⊢
  rw [e2]
  simp [hz]
/-- The blocks that a slice lies in. -/
def inBlk (a : Option Addr) (len : Nat) (k : Nat) : Prop := ∃ b off, a = some ⟨b, off, none⟩ ∧ 0 < len ∧ k = b

set_option maxRecDepth 100000 in
set_option maxHeartbeats 1000000 in
theorem in_iter (Bl Bs : Nat) (a : Option Addr) (len cap : Nat) (l : List SpotC) (z : Int) (hl : l.length = len) (hm : len < 1000000) (S : Nat → Prop) (hS : S Bl) (hSs : S Bs) (hSb : ∀ k, inBlk a len k → S k) (w0 : World)
    (hBl : w0.cell? ⟨Bl, 0, none⟩ = some (.slice a len cap)) (hBs : w0.cell? ⟨Bs, 0, none⟩ = some (.int .i64 z)) (hrow : RowV w0 a len 4 (spotCells l)) :
    Iter Try.prog 29 #[.pointer (some ⟨Bl, 0, none⟩), .pointer (some ⟨Bs, 0, none⟩)] SpotC.val (inL l z) S (fun _ => False) w0 := by
  intro L J Jx W hW hJs _ hY h0
  have hcl0 := hW.cell hBl hS
  have hcs0 := hW.cell hBs hSs
  obtain ⟨hlen, hml, hcs⟩ := hrow
  refine callsIn_of_wp Try.func29 rfl trivial ?_ rfl
  simp only [Try.ntmps29, List.size_toArray, List.length_cons, List.length_nil, Nat.reduceAdd, Nat.reduceSub, Array.replicate_succ, Array.replicate_zero, List.push_toArray, List.append_toArray, List.nil_append, List.cons_append]
  gi_wp2
  gi_loopw [8] (fun q wr => ∃ k : Nat, k ≤ len ∧ q = .int .i64 k ∧ J (inL (l.take k) z) wr ∧ Rd W.heap.size S W wr) (fun q _ => len - (intOf q).toNat)
  case atStart => exact ⟨0, by omega, rfl, h0, Rd.refl _ _ _⟩
  case round =>
    obtain ⟨k, hk, rfl, hJ, hR⟩ := hrel
    have hcs1 := hR.cell hcs0 hSs
    by_cases hlt : k < len
    · obtain ⟨b, off, rfl, hb, hc⟩ := hcs (by omega)
      have hSbb := hSb b ⟨b, off, rfl, by omega, rfl⟩
      have hkl : k < l.length := by omega
      have cell : ∀ i v, i < 4 → (l[k].cells)[i]? = some v → wr.cell? ⟨b, off + (k * 4 + i), none⟩ = some v := fun i v hi hv =>
        hR.cell (hW.cell (RowV.at_ (len := len) (sz := 4) hc (by rw [spotCells, flat_at SpotC.cells 4 SpotC.len l k i hkl hi]; exact hv)) hSbb) hSbb
      have c0 : wr.cell? ⟨b, off + k * 4, none⟩ = some (.int .i64 l[k].g) := cell 0 _ (by decide) rfl
      have c1 : wr.cell? ⟨b, off + k * 4 + 1, none⟩ = some (.int .i64 l[k].i) := cell 1 _ (by decide) rfl
      have c2 : wr.cell? ⟨b, off + k * 4 + 2, none⟩ = some (.int .i64 l[k].s) := cell 2 _ (by decide) rfl
      have c3 : wr.cell? ⟨b, off + k * 4 + 3, none⟩ = some (.int .i64 l[k].p) := cell 3 _ (by decide) rfl
      have HI := Lib.hid (inL_take l z k hkl)
      clear cell hc
      by_cases hz : l[k].s = z
      · have HX := Lib.hid (inL_split l z k hkl hz)
        rw [if_pos hz] at HI
        have t0 : (l[k].s == z) = true := by rw [beq_iff_eq]; exact hz
        have HZ := Lib.hid hz
        clear hz
        generalize l[k] = f at *
        have hcs2 := (hR.alloc (.cells #[.int .i64 f.g, .int .i64 f.i, .int .i64 f.s, .int .i64 f.p] 33)).cell hcs0 hSs
        have hy0 := hY _ _ _ (wr.alloc (.cells #[.int .i64 f.g, .int .i64 f.i, .int .i64 f.s, .int .i64 f.p] 33)) HX.out (hJs _ _ _ hJ (Moves.alloc _ _))
        obtain ⟨fn, tmps, assign, body, hy, hR1⟩ := hy0
        dsimp only [SpotC.val] at hy
        gi_wp2
        refine (roundIn_wide_n hR1).mono ?_
        rintro e W3 (⟨rfl, hJ3, hk3⟩ | ⟨rfl, hJx3⟩)
        · gi_wp2
          go_roundw
          case rel => exact ⟨k + 1, by omega, by go_num, by rw [HI.out]; exact hJ3, (hR.alloc _).trans hk3⟩
          case measure => simp [intOf]; omega
        · gi_wp2
          refine bodyPost_ret (results_none rfl _ _ _) rfl ?_
          exact ⟨⟨_, rfl⟩, .inr ⟨_, _, _, HX.out, hJx3⟩⟩
      · rw [if_neg hz, List.append_nil] at HI
        have t0 : (l[k].s == z) = false := by rw [beq_eq_false_iff_ne]; exact hz
        have HZ := Lib.hid hz
        clear hz
        generalize l[k] = f at *
        have hcs2 := (hR.alloc (.cells #[.int .i64 f.g, .int .i64 f.i, .int .i64 f.s, .int .i64 f.p] 33)).cell hcs0 hSs
        gi_wp2
        exact ⟨⟨k + 1, by omega, by go_num, by rw [HI.out]; exact hJs _ _ _ hJ (Moves.alloc _ _), hR.alloc _⟩, by simp [intOf]; omega⟩
    · obtain rfl : k = len := by omega
      rw [List.take_of_length_le (by omega)] at hJ
      gi_wp2
      refine bodyPost_end (results_none rfl _ _ _) rfl ?_
      exact ⟨⟨_, rfl⟩, .inl hJ⟩

set_option maxRecDepth 100000 in
theorem in_makes (a : Option Addr) (len cap : Nat) (l : List SpotC) (z : Int) (hl : l.length = len) (hm : len < 1000000) (w : World) (hrow : RowV w a len 4 (spotCells l)) :
    MakesOver Try.prog 27 #[.slice a len cap, .int .i64 z] w 29 SpotC.val (inL l z) (inBlk a len) := by
  unfold MakesOver
  go_enter Try.func27, Try.ntmps27
  go_wp2
  go_ret
  have hB : Below w.heap.size w ((w.alloc (.cells #[.slice a len cap] 22)).alloc (.cells #[.int .i64 z] 3)) := bel_alloc (bel_alloc (Below.refl _ _) _) _
  refine ⟨_, rfl, hB, ?_⟩
  exact in_iter w.heap.size (w.heap.size + 1) a len cap l z hl hm _ (.inr ⟨Nat.le_refl _, by simp; omega⟩) (.inr ⟨by omega, by simp⟩) (fun k h => .inl h) _ (((Boxed.new w _ _).alloc _).cell) (by have := (Boxed.new (w.alloc (.cells #[.slice a len cap] 22)) 3 (.int .i64 z)).cell; rwa [World.size_alloc] at this) (hrow.below hB)

theorem ownsRow_putObj {W : World} {base : Nat} {e : TypeId} {size : Nat} {v : Value} {k : Nat} {xs : List Value} (h : W.ownsRow base e size v k xs) {D : Nat} {o : Obj} (hD : W.heap[D]? = some o) (hc : o.isCells = false) (o' : Obj) : (W.putObj D o').ownsRow base e size v k xs := by
  refine ⟨h.1, ?_⟩
  rcases h.2 with h2 | ⟨g, cap, cur, hv, hg, hh, r⟩
  · exact .inl h2
  · refine .inr ⟨g, cap, cur, hv, hg, (World.putObj_heap_other (fun e => ?_)).trans hh, r⟩
    rw [e, hD] at hh
    cases hh
    cases hc
theorem inBlk_lt {a : Option Addr} {len : Nat} {w : World} {sz : Nat} {xs : List Value} (h : RowV w a len sz xs) {k : Nat} (hk : inBlk a len k) : k < w.heap.size := by
  obtain ⟨b, off, rfl, h0, rfl⟩ := hk
  obtain ⟨b', off', e, hb, _⟩ := h.2.2 h0
  cases e; exact hb

set_option maxRecDepth 100000 in
set_option maxHeartbeats 1000000 in
theorem count_any (a : Option Addr) (len cap : Nat) (l : List SpotC) (z : Int) (hl : l.length = len) (hm : len < 1000000) (w : World) (hrow : RowV w a len 4 (spotCells l)) :
    Gives Try.prog 16 #[.slice a len cap, .int .i64 z] w (.int .i64 (cnt l z)) := by
  refine (callsIn_wide (n := 9)).1 ?_
  refine callsIn_of_wp_marks Try.func16 rfl trivial ?_ rfl
  simp only [Try.ntmps16, List.size_toArray, List.length_cons, List.length_nil, Nat.reduceAdd, Nat.reduceSub, Array.replicate_succ, Array.replicate_zero, List.push_toArray, List.append_toArray, List.nil_append, List.cons_append]
  have bO := Boxed.new w 3 (.int .i64 0)
  have hB0 : Below w.heap.size w (w.alloc (.cells #[.int .i64 0] 3)) := (Below.refl _ w).alloc (Nat.le_refl _) _
  have M := Lib.hid (in_makes a len cap l z hl hm _ (hrow.below hB0))
  have hlt : ∀ k, inBlk a len k → k < w.heap.size := fun k hk => inBlk_lt hrow hk
  clear hrow
  gi_wp2_with (gi_at_call 27; refine (callsIn_wide.2 M.out).mono ?_; rintro e w1 ⟨lb, rfl, hB1, hI1⟩)
  rw [World.size_alloc] at hB1 hI1
  have bO1 := boxed_below bO hB1 (by omega)
  have hsz := hB1.size
  replace hB1 := hB0.trans (hB1.mono (by omega))
  refine range_outer rfl (enters_of Try.func29 (by kernel_rfl) rfl) hI1 (fun _ => rfl) (fun k hk => hk.elim (fun h => Nat.lt_of_lt_of_le (hlt k h) hB1.size) (fun h => h.2)) (fun _ h => h.elim)
    (fun pre W => boxI w w.heap.size 3 (.int .i64 pre.length) W) (fun _ _ _ => False) (fun _ => boxI_stab hB1.size) (fun _ _ => Stab.pure _) ⟨bO1, hB1⟩ ?hr ?hd (fun _ _ _ _ _ _ h => h.elim)
  case hr =>
    rintro L pre x suf W hx hl' hi1 hrec
    dsimp only [SpotC.val]
    gi_wp2
    refine rdThen_mk _ (boxI_stab hB1.size) hi1 (Rd.refl _ _ _) ?_
    clear hi1 hrec W
    rintro W hi hrec
    have hc := hi.1.cell
    have hf := hi.1.frozen
    have hpl : pre.length < 1000000 := by have h1 := congrArg List.length hx; have h2 := cnt_le l z; unfold cnt at h2; simp at h1; omega
    gi_wp2
    refine ⟨(Rd.refl _ _ _).setBox hi.1 (fun h => h.elim (fun h => by have := hlt _ h; omega) (fun h => by have := h.1; omega)) _, ?_⟩
    show boxI _ _ _ (.int .i64 ((pre ++ [x]).length : Nat)) _
    rw [List.length_append]
    exact boxI_set hi (Nat.le_refl _) _
  case hd =>
    rintro W hi hD
    have hc := hi.1.cell
    gi_wp2
    exact leave_one hD (results_tmp rfl _ _ _) ⟨rfl, below_putObj hi.2 (Nat.le_refl _) hB1.size _⟩

set_option maxRecDepth 100000 in
set_option maxHeartbeats 1000000 in
theorem in_any (a : Option Addr) (len cap : Nat) (l : List SpotC) (z : Int) (hl : l.length = len) (hm : len < 1000000) (w : World) (hrow : RowV w a len 4 (spotCells l)) :
    GivesRow Try.prog 15 #[.slice a len cap, .int .i64 z] w 33 4 (cnt l z) (spotCells (inL l z)) := by
  obtain ⟨i0, hi, hz0, hz1, hz2⟩ := info_parts infoSpot
  refine (callsIn_wide (n := 9)).1 ?_
  refine callsIn_of_wp_marks Try.func15 rfl trivial ?_ rfl
  simp only [Try.ntmps15, List.size_toArray, List.length_cons, List.length_nil, Nat.reduceAdd, Nat.reduceSub, Array.replicate_succ, Array.replicate_zero, List.push_toArray, List.append_toArray, List.nil_append, List.cons_append]
  have bO := Boxed.new w 22 (.slice none 0 0)
  have hB0 : Below w.heap.size w (w.alloc (.cells #[.slice none 0 0] 22)) := (Below.refl _ w).alloc (Nat.le_refl _) _
  have M := Lib.hid (in_makes a len cap l z hl hm _ (hrow.below hB0))
  have hlt : ∀ k, inBlk a len k → k < w.heap.size := fun k hk => inBlk_lt hrow hk
  clear hrow
  gi_wp2_with (gi_at_call 27; refine (callsIn_wide.2 M.out).mono ?_; rintro e w1 ⟨lb, rfl, hB1, hI1⟩)
  rw [World.size_alloc] at hB1 hI1
  have bO1 := boxed_below bO hB1 (by omega)
  have hsz := hB1.size
  replace hB1 := hB0.trans (hB1.mono (by omega))
  refine range_outer rfl (enters_of Try.func29 (by kernel_rfl) rfl) hI1 (fun _ => rfl) (fun k hk => hk.elim (fun h => Nat.lt_of_lt_of_le (hlt k h) hB1.size) (fun h => h.2)) (fun _ h => h.elim)
    (fun pre W => collI w w1 w.heap.size 22 33 4 pre.length (spotCells pre) W) (fun _ _ _ => False) (fun _ => collI_stab hB1.size) (fun _ _ => Stab.pure _) ⟨_, bO1, World.ownsRow_nil _ _ _ _, hB1, Nat.le_refl _⟩ ?hr ?hd (fun _ _ _ _ _ _ h => h.elim)
  case hr =>
    rintro L pre x suf W hx hl' hi1 hrec
    dsimp only [SpotC.val]
    have hpl : pre.length < 1000000 := by have h1 := congrArg List.length hx; have h2 := cnt_le l z; unfold cnt at h2; simp at h1; omega
    gi_wp2
    refine rdThen_mk (fun W' => collI w w1 w.heap.size 22 33 4 pre.length (spotCells pre) W' ∧ W'.heap[W.heap.size]? = some (.cells #[.int .i64 x.g, .int .i64 x.i, .int .i64 x.s, .int .i64 x.p] 33 (0, 0)))
      ((collI_stab hB1.size).and (Stab.block id (.inr rfl))) ⟨collI_stab hB1.size _ _ hi1 (Moves.alloc _ _), World.alloc_heap_new W _⟩ ((Rd.refl _ _ _).alloc _) ?_
    clear hi1 hrec
    obtain ⟨X, hX⟩ : ∃ X, X = W.heap.size := ⟨_, rfl⟩
    rw [← hX]
    clear hX W
    rintro W ⟨⟨v, hv, hrow, hB, hs⟩, hblk⟩ hrec
    have hc := hv.cell
    have d0 : W.cell? ⟨X, 0, none⟩ = some (.int .i64 x.g) := cell_of_row W X 0 _ _ _ hblk
    have d1 : W.cell? ⟨X, 1, none⟩ = some (.int .i64 x.i) := cell_of_row W X 1 _ _ _ hblk
    have d2 : W.cell? ⟨X, 2, none⟩ = some (.int .i64 x.s) := cell_of_row W X 2 _ _ _ hblk
    have d3 : W.cell? ⟨X, 3, none⟩ = some (.int .i64 x.p) := cell_of_row W X 3 _ _ _ hblk
    gi_wp2_with (gi_at_builtin; refine wpListIn_append_own _ rfl _ _ 22 rfl w1.heap.size 33 i0 (.agg #[.int .i64 0, .int .i64 0, .int .i64 0, .int .i64 0]) 4 32 Try.underlying22 hi hz0 hz1 hz2 rfl (by decide) _ _ _ rfl (hrow.alloc _) ⟨W.heap.size, 0, none⟩ 1 1 x.cells rfl rfl (news_new _ _ _) (by simp [Value.oneCell', SpotC.cells]) (by unfold maxLen; omega) (by omega) (by simp; omega) ?_; intro v' w2 hown' hgrow _; obtain ⟨g', cap', rfl⟩ := ownsRow_succ hown'; obtain ⟨hv1, hv2, hr2, hk2, hb2⟩ := boxed_appended (n₀ := w.heap.size) (B0 := w1.heap.size) (S := fun k => inBlk a len k ∨ span (w.heap.size + 1) w1.heap.size k) hv (by decide) hrow hB1.size hs (Nat.le_refl _) (fun h => h.elim (fun h => by have := hlt _ h; omega) (fun h => by have := h.1; omega)) (fun j hj h => h.elim (fun h => by have := hlt _ h; have := hB1.size; omega) (fun h => by have := h.2; omega)) hown' hgrow; have hc1 := hv1.cell; have hf1 := hv1.frozen)
    refine ⟨hk2, _, hv2, ?_, hB.trans hb2, Nat.le_trans hs hk2.size⟩
    rw [List.length_append, spotCells_snoc]
    exact hr2
  case hd =>
    rintro W ⟨v, hv, hrow, hB, hs⟩ hD
    have hc := hv.cell
    gi_wp2
    exact leave_one hD (results_tmp rfl _ _ _) ⟨_, rfl, ownsRow_base (ownsRow_putObj hrow hD rfl _) hB1.size, below_putObj hB (Nat.le_refl _) hB1.size _⟩

end Go.Proofs.Ytpdpdohkhiplpaa
