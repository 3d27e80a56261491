/- The contract of slices.Collect at entries, over an iterator that turns a block of its own. -/
import Derived.Test.YtflaanffjjidaaaIterK
import Derived.Test.YtflaanffjjidaaaPart
import Derived.Maps.AppendAt
namespace Go.Proofs.Ytflaanffjjidaaa
open Go.RowKit Go.Shelf
set_option linter.unusedVariables false
attribute [local go_sem] Oper.semAt_some wide_fn wide_round_fn

theorem infoEntry : (Try.prog.info? 67).map (fun i => (i.zero, i.size, i.bytes)) = some (some (.agg #[.int .i64 0, .int .i64 0, .string ⟨#[]⟩]), 3, 32) := by kernel_rfl
theorem entryCells_snoc (l : List EntryC) (e : EntryC) : entryCells (l ++ [e]) = entryCells l ++ e.cells := by simp [entryCells]
def EntryC.enc (e : EntryC) : Array Value := #[e.val]
def collK (b : Nat) (w w1 : World) (q n : Nat) (ys : List Value) (W : World) : Prop :=
  ∃ v, Boxed W q 56 v ∧ W.ownsRow w1.heap.size 67 3 v n ys ∧ FrameT (fun k => k = b) w W ∧ w1.heap.size ≤ W.heap.size
theorem collK_stab {b : Nat} {w w1 : World} {q n : Nat} {ys : List Value} (hq : q ≠ b) (h : w.heap.size ≤ w1.heap.size) (hb : b < w.heap.size) : Stab w1.heap.size (fun k => k = b) (collK b w w1 q n ys) :=
  Stab.ex fun v => (Stab.boxed (T := fun k => k = b) hq).and ((Stab.ownsRow (T := fun k => k = b) (fun j h' => by have h' : j = b := h'; omega)).and ((FrameT.stab h).and Stab.size))
theorem ownsRow_shut {W : World} {base : Nat} {e : TypeId} {size : Nat} {v : Value} {k : Nat} {xs : List Value} (h : W.ownsRow base e size v k xs) {D : Nat} {o : Obj} (hD : W.heap[D]? = some o) (hc : o.isCells = false) (o' : Obj) : (W.putObj D o').ownsRow base e size v k xs := by
  refine ⟨h.1, ?_⟩
  rcases h.2 with h2 | ⟨g, cap, cur, hv, hg, hh, r⟩
  · exact .inl h2
  · refine .inr ⟨g, cap, cur, hv, hg, (World.putObj_heap_other (fun e => ?_)).trans hh, r⟩
    rw [e, hD] at hh
    cases hh
    cases hc

set_option maxRecDepth 100000 in
set_option maxHeartbeats 1000000 in
theorem appendSeq_any (b g : Nat) (lb : Array Value) (xs : List EntryC) (S : Nat → Prop) (K : World → Prop) (w : World) (h : IterK Try.prog g lb EntryC.enc xs S (fun k => k = b) K w) (eg : Enters Try.prog g)
    (hS : ∀ k, S k → k < w.heap.size) (hb : b < w.heap.size) (hK : Stab w.heap.size (fun _ => False) K) (hx : xs.length ≤ 1000) :
    Calls Try.prog 144 #[.slice none 0 0, .func (.func g) #[] lb] w fun e w' => ∃ v, e = .returned v ∧ w'.ownsRow w.heap.size 67 3 v xs.length (entryCells xs) ∧ K w' ∧ FrameT (fun k => k = b) w w' := by
  obtain ⟨i0, hi, hz0, hz1, hz2⟩ := info_parts infoEntry
  refine (callsIn_wide (n := 9)).1 ?_
  refine callsIn_of_wp_marks Try.func144 rfl trivial ?_ rfl
  simp only [Try.ntmps144, List.size_toArray, List.length_cons, List.length_nil, Nat.reduceAdd, Nat.reduceSub, Array.replicate_succ, Array.replicate_zero, List.push_toArray, List.append_toArray, List.nil_append, List.cons_append]
  have bO := Boxed.new w 56 (.slice none 0 0)
  have hB0 : Below w.heap.size w (w.alloc (.cells #[.slice none 0 0] 56)) := (Below.refl _ w).alloc (Nat.le_refl _) _
  have hI1 := h.after hB0
  have hsz : w.heap.size + 1 = (w.alloc (.cells #[.slice none 0 0] 56)).heap.size := by simp
  have HSz := Lib.hid hsz
  have HI := Lib.hid hI1
  clear hI1 h hsz
  gi_wp2
  obtain ⟨w1, hw1⟩ : ∃ w1, w1 = w.alloc (.cells #[.slice none 0 0] 56) := ⟨_, rfl⟩
  rw [← hw1] at HSz HI bO hB0 ⊢
  have hsz := HSz.out
  clear hw1
  have hne : w.heap.size ≠ b := by omega
  have hle : w.heap.size ≤ w1.heap.size := by omega
  refine range_outerK rfl eg HI.out (fun _ => rfl) (fun k hk => by have := hS k hk; omega) (fun k hk => by omega) (hK.up hle)
    (fun pre W => collK b w w1 w.heap.size pre.length (entryCells pre) W) (fun _ _ _ => False) (fun _ => collK_stab hne hle hb) (fun _ _ => Stab.pure _) ⟨_, bO, World.ownsRow_nil _ _ _ _, FrameT.below hB0, Nat.le_refl _⟩ ?hr ?hd (fun _ _ _ _ _ _ h => h.elim)
  case hr =>
    rintro L pre x suf W hx' hl' hi1 hrec
    have hpl : pre.length < 1000 := by have h1 := congrArg List.length hx'; simp at h1; omega
    dsimp only [EntryC.enc, EntryC.val]
    gi_wp2
    refine rdThen_mk (fun W' => collK b w w1 w.heap.size pre.length (entryCells pre) W' ∧ W'.heap[W.heap.size]? = some (.cells #[.int .i64 x.i, .int .i64 x.t, .string x.d] 67 (0, 0)))
      (((collK_stab hne hle hb).noT).and (Stab.block id (.inr rfl))) ⟨collK_stab hne hle hb _ _ hi1 (Moves.alloc _ _), World.alloc_heap_new W _⟩ ((Rd.refl _ _ _).alloc _) ?_
    clear hi1 hrec
    obtain ⟨X, hX⟩ : ∃ X, X = W.heap.size := ⟨_, rfl⟩
    rw [← hX]
    clear hX W
    rintro W ⟨⟨v, hv, hrow, hB, hs⟩, hblk⟩ hrec
    have hc := hv.cell
    have d0 : W.cell? ⟨X, 0, none⟩ = some (.int .i64 x.i) := cell_of_row W X 0 _ _ _ hblk
    have d1 : W.cell? ⟨X, 1, none⟩ = some (.int .i64 x.t) := cell_of_row W X 1 _ _ _ hblk
    have d2 : W.cell? ⟨X, 2, none⟩ = some (.string x.d) := cell_of_row W X 2 _ _ _ hblk
    have HSz2 := Lib.hid hsz
    clear hsz
    gi_wp2_with (gi_at_builtin; refine wpListIn_append_own _ rfl _ _ 56 rfl w1.heap.size 67 i0 (.agg #[.int .i64 0, .int .i64 0, .string ⟨#[]⟩]) 3 32 Try.underlying56 hi hz0 hz1 hz2 rfl (by decide) _ _ _ rfl (hrow.alloc _) ⟨W.heap.size, 0, none⟩ 1 1 x.cells rfl rfl (news_new _ _ _) (by simp [Value.oneCell', EntryC.cells]) (by unfold maxLen; omega) (by omega) (by simp; omega) ?_; intro v' w2 hown' hgrow _; obtain ⟨g', cap', rfl⟩ := ownsRow_succ hown'; obtain ⟨hv1, hv2, hr2, hk2, hb2⟩ := boxed_appended (n₀ := w.heap.size) (B0 := w1.heap.size) (S := S) hv (by decide) hrow hle hs (Nat.le_refl _) (fun h => by have := hS _ h; omega) (fun j hj h => by have := hS _ h; omega) hown' hgrow; have hc1 := hv1.cell; have hf1 := hv1.frozen)
    refine ⟨hk2, _, hv2, ?_, hB.belowN hb2, Nat.le_trans hs hk2.size⟩
    rw [List.length_append, entryCells_snoc]
    exact hr2
  case hd =>
    rintro W ⟨v, hv, hrow, hB, hs⟩ hKW hD
    have hc := hv.cell
    gi_wp2
    have hB2 : Below w.heap.size W (W.putObj w1.heap.size (.deferred none)) := below_putObj (Below.refl _ _) (Nat.le_trans hle hs) hle _
    exact leave_one hD (results_tmp rfl _ _ _) ⟨_, rfl, ownsRow_base (ownsRow_shut hrow hD rfl _) hle, hK _ _ hKW (Moves.putObj _ _ hle hD rfl), hB.belowN hB2⟩

set_option maxRecDepth 100000 in
theorem collect_any (b g : Nat) (lb : Array Value) (xs : List EntryC) (S : Nat → Prop) (K : World → Prop) (w : World) (h : IterK Try.prog g lb EntryC.enc xs S (fun k => k = b) K w) (eg : Enters Try.prog g)
    (hS : ∀ k, S k → k < w.heap.size) (hb : b < w.heap.size) (hK : Stab w.heap.size (fun _ => False) K) (hx : xs.length ≤ 1000) :
    Calls Try.prog 136 #[.func (.func g) #[] lb] w fun e w' => ∃ v, e = .returned v ∧ w'.ownsRow w.heap.size 67 3 v xs.length (entryCells xs) ∧ K w' ∧ FrameT (fun k => k = b) w w' := by
  have G := Lib.hid (appendSeq_any b g lb xs S K w h eg hS hb hK hx)
  clear h hK hS
  go_enter Try.func136, Try.ntmps136
  go_wp2_with (go_at_call 144; ((with_reducible refine (G.out).mono ?_); rintro e w1 ⟨v, rfl, h1, h2, h3⟩))
  go_ret
  exact ⟨v, rfl, h1, h2, h3⟩

end Go.Proofs.Ytflaanffjjidaaa
