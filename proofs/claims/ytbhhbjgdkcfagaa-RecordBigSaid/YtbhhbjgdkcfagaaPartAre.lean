/- The contract of package part's areEntries. -/
import Derived.Test.YtbhhbjgdkcfagaaPart
import Derived.Test.YtbhhbjgdkcfagaaPartSteps
namespace Go.Proofs.Ytbhhbjgdkcfagaa
open Go.RowKit Go.Shelf
set_option linter.unusedVariables false
attribute [local go_sem] Oper.semAt_some wide_fn wide_round_fn

theorem inBlkE_lt {a : Option Addr} {len : Nat} {w : World} {sz : Nat} {xs : List Value} (h : RowV w a len sz xs) {k : Nat} (hk : inBlkE a len k) : k < w.heap.size := by
  obtain ⟨b, off, rfl, h0, rfl⟩ := hk
  obtain ⟨b', off', e, hb, _⟩ := h.2.2 h0
  cases e; exact hb

theorem steps_makes (a : Option Addr) (len cap : Nat) (l : List EntryC) (hl : l.length = len) (hm : len < 1000000) (w : World) (hrow : RowV w a len 3 (entryCells l)) :
    MakesOver Try.prog 47 #[.slice a len cap] w 60 stepEnc (stepsOf none l) (inBlkE a len) := by
  unfold MakesOver
  go_enter Try.func47, Try.ntmps47
  go_wp2
  go_ret
  have hB : Below w.heap.size w (w.alloc (.cells #[.slice a len cap] 26)) := bel_alloc (Below.refl _ _) _
  refine ⟨_, rfl, hB, ?_⟩
  exact steps_iter w.heap.size a len cap l hl hm _ (.inr ⟨Nat.le_refl _, by simp⟩) (fun k h => .inl h) _ ((Boxed.new w _ _).cell) (hrow.below hB)

def stepB (most : Int) (p : EntryC × Int) : Bool := entryB p.1 && wB p.2 1 most
def areB (most : Int) (l : List EntryC) : Bool := decide (l.length ≤ 6) && (stepsOf none l).all (stepB most)
abbrev areL (w : World) (most : Int) : List (Nat × TypeId × Value) := [(w.heap.size, 3, .int .i64 most), (w.heap.size + 1, 4, .bool false)]
theorem cnt_steps (l : List EntryC) : ∀ p, (stepsOf p l).length = l.length := by
  induction l with
  | nil => intro p; cases p <;> rfl
  | cons x r ih => intro p; cases p <;> simp [stepsOf, ih]

set_option maxRecDepth 100000 in
set_option maxHeartbeats 1000000 in
theorem areEntries_any (a : Option Addr) (len cap : Nat) (l : List EntryC) (hl : l.length = len) (hm : len < 1000000) (most : Int) (w : World) (hrow : RowV w a len 3 (entryCells l)) :
    Gives Try.prog 28 #[.slice a len cap, .int .i64 most] w (.bool (areB most l)) := by
  refine (callsIn_wide (n := 9)).1 ?_
  refine callsIn_of_wp_marks Try.func28 rfl trivial ?_ rfl
  simp only [Try.ntmps28, List.size_toArray, List.length_cons, List.length_nil, Nat.reduceAdd, Nat.reduceSub, Array.replicate_succ, Array.replicate_zero, List.push_toArray, List.append_toArray, List.nil_append, List.cons_append]
  have b0 := boxesI_alloc (boxesI_alloc (boxesI_nil w) 3 (.int .i64 most)) 4 (.bool false)
  simp only [World.size_alloc, List.nil_append, List.cons_append] at b0
  by_cases h6 : 6 < len
  · have hv := Lib.hid (show areB most l = false by simp [areB]; omega)
    have c0 := boxesI_cell b0 1 rfl
    have f0 := boxesI_frozen b0 1 rfl
    dsimp only at c0 f0
    gi_wp2
    exact ⟨.bool false, by simp [results, Try.results28, go_sem, c0], by rw [hv.out], b0.2⟩
  · have hlt : ∀ k, inBlkE a len k → k < w.heap.size := fun k hk => inBlkE_lt hrow hk
    have M := Lib.hid (steps_makes a len cap l hl hm _ (hrow.below b0.2))
    clear hrow
    gi_wp2_with (gi_at_call 47; refine (callsIn_wide.2 M.out).mono ?_; rintro e w1 ⟨lb, rfl, hB1, hI1⟩)
    have b1 := boxesI_below b0 hB1
    clear b0 hB1
    simp only [World.size_alloc] at hI1
    refine range_outer rfl (enters_of Try.func60 (by kernel_rfl) rfl) hI1 (fun _ => rfl) (fun k hk => hk.elim (fun h => Nat.lt_of_lt_of_le (hlt k h) b1.2.size) (fun h => h.2)) (fun _ h => h.elim)
      (fun pre W => pre.all (stepB most) = true ∧ boxesI w (areL w most) W) (fun c _ W => c = .ret ∧ areB most l = false ∧ boxesI w (areL w most) W) (fun _ => (Stab.pure _).and (boxesI_stab b1.2.size)) (fun _ _ => (Stab.pure _).and ((Stab.pure _).and (boxesI_stab b1.2.size))) ⟨by simp, b1⟩ ?hr ?hd ?hs
    case hr =>
      rintro L pre ⟨x, st⟩ suf W hx hl' hi1 hrec
      dsimp only [stepEnc]
      have HA := Lib.hid (show areB most l = (pre.all (stepB most) && (stepB most (x, st) && suf.all (stepB most))) by simp [areB, hx]; omega)
      have HN := Lib.hid (show (pre ++ [(x, st)]).all (stepB most) = (pre.all (stepB most) && stepB most (x, st)) by simp)
      have G1 := Lib.hid (isEntry_any x)
      have G2 := Lib.hid (within_any st 1 most)
      clear hx
      gi_wp2
      refine rdThen_mk (fun W' => (pre.all (stepB most) = true ∧ boxesI w (areL w most) W') ∧ W'.heap[W.heap.size]? = some (.cells #[.int .i64 x.i, .int .i64 x.t, .string x.d] 37 (0, 0)))
        (((Stab.pure _).and (boxesI_stab b1.2.size)).and (Stab.block id (.inr rfl))) ⟨⟨hi1.1, boxesI_stab b1.2.size _ _ hi1.2 (Moves.alloc _ _)⟩, World.alloc_heap_new W _⟩ ((Rd.refl _ _ _).alloc _) ?_
      obtain ⟨X, hX⟩ : ∃ X, X = W.heap.size := ⟨_, rfl⟩
      rw [← hX]
      clear hi1 hrec hX W
      rintro W ⟨⟨hp, hi⟩, hblk⟩ hrec
      have d0 : W.cell? ⟨X, 0, none⟩ = some (.int .i64 x.i) := cell_of_row W X 0 _ _ _ hblk
      have d1 : W.cell? ⟨X, 1, none⟩ = some (.int .i64 x.t) := cell_of_row W X 1 _ _ _ hblk
      have d2 : W.cell? ⟨X, 2, none⟩ = some (.string x.d) := cell_of_row W X 2 _ _ _ hblk
      have HP := Lib.hid hp
      clear hp hblk
      cases he : entryB x with
      | false =>
        have hv := Lib.hid (show areB most l = false by rw [HA.out]; simp [stepB, he])
        rw [he] at G1
        clear HA HN he
        gi_wp2_with (gi_at_call 48; refine (callsIn_wide.2 (G1.out _)).mono ?_; rintro e w2 ⟨rfl, hB2⟩; have hi2 := boxesI_below hi hB2; have f1 := boxesI_frozen hi2 1 rfl; have c1 := boxesI_cell hi2 1 rfl; dsimp only at f1 c1)
        exact ⟨((Rd.refl _ _ _).trans (.below hB2)).setBox (boxesI_at hi2 1 rfl) id _, rfl, hv.out, boxesI_put hi2 (by simp) 1 rfl (by simp) (.bool false)⟩
      | true =>
        rw [he] at G1
        cases hs : wB st 1 most with
        | false =>
          have hv := Lib.hid (show areB most l = false by rw [HA.out]; simp [stepB, hs])
          rw [hs] at G2
          clear HA HN he hs
          gi_wp2_with (first
            | (gi_at_call 48; refine (callsIn_wide.2 (G1.out _)).mono ?_; rintro e w2 ⟨rfl, hB2⟩; have hi2 := boxesI_below hi hB2; have c0 := boxesI_cell hi2 0 rfl; dsimp only at c0)
            | (gi_at_call 34; refine (callsIn_wide.2 (G2.out _)).mono ?_; rintro e w3 ⟨rfl, hB3⟩; have hi3 := boxesI_below hi2 hB3; have f1 := boxesI_frozen hi3 1 rfl; have c1 := boxesI_cell hi3 1 rfl; dsimp only at f1 c1))
          exact ⟨(((Rd.refl _ _ _).trans (.below hB2)).trans (.below hB3)).setBox (boxesI_at hi3 1 rfl) id _, rfl, hv.out, boxesI_put hi3 (by simp) 1 rfl (by simp) (.bool false)⟩
        | true =>
          have hv := Lib.hid (show (pre ++ [(x, st)]).all (stepB most) = true by rw [HN.out, HP.out]; simp [stepB, hs, he])
          rw [hs] at G2
          clear HA HN he hs
          gi_wp2_with (first
            | (gi_at_call 48; refine (callsIn_wide.2 (G1.out _)).mono ?_; rintro e w2 ⟨rfl, hB2⟩; have hi2 := boxesI_below hi hB2; have c0 := boxesI_cell hi2 0 rfl; dsimp only at c0)
            | (gi_at_call 34; refine (callsIn_wide.2 (G2.out _)).mono ?_; rintro e w3 ⟨rfl, hB3⟩; have hi3 := boxesI_below hi2 hB3; have f1 := boxesI_frozen hi3 1 rfl; have c1 := boxesI_cell hi3 1 rfl; dsimp only at f1 c1))
          exact ⟨((Rd.refl _ _ _).trans (.below hB2)).trans (.below hB3), hv.out, hi3⟩
    case hd =>
      rintro W ⟨hp, hi⟩ hD
      have hv := Lib.hid (show areB most l = true by simp [areB, hp]; omega)
      clear hp
      have c0 := boxesI_cell hi 1 rfl
      have f0 := boxesI_frozen hi 1 rfl
      dsimp only at c0 f0
      gi_wp2
      have r2 := boxesI_put hi (by simp) 1 rfl (by simp) (.bool true)
      have r1 : Rd w1.heap.size (fun _ => False) W _ := boxesI_rd hi (Rd.refl _ _ _) 1 rfl id (.bool true)
      have hD2 := r1.block _ _ hD (.inr ⟨Nat.le_refl _, rfl⟩)
      have c0 := cell_putObj (o' := .deferred none) (boxesI_cell r2 1 rfl) hD2 rfl
      dsimp only at c0
      exact leave_one hD2 (by simp [results, Try.results28, go_sem, c0, hv.out]) ⟨rfl, below_putObj r2.2 (Nat.le_refl _) b1.2.size _⟩
    case hs =>
      rintro c pre x suf W hx ⟨rfl, hv, hi⟩ hD
      gi_wp2
      have c0 := cell_putObj (o' := .deferred none) (boxesI_cell hi 1 rfl) hD rfl
      dsimp only at c0
      exact leave_one hD (by simp [results, Try.results28, go_sem, c0, hv]) ⟨rfl, below_putObj hi.2 (Nat.le_refl _) b1.2.size _⟩

end Go.Proofs.Ytbhhbjgdkcfagaa
