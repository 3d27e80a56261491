/- An iterator that reads blocks of its own, made before its first round: the rounds keep all that lay then but the blocks of V, and may grow what they have made since; the protocol, and the law of a loop over it; no program is named here. -/
import Derived.Test.YtieekahlknmkfaaIterU
namespace Go.Proofs.Ytieekahlknmkfaa
set_option linter.unusedVariables false
open Go.RowKit Go.Shelf

/-- As IterU; the blocks from B1 on are the rounds' own. -/
def IterV (P : Program) (g : Nat) (lb : Array Value) {α : Type} (encs : α → Array Value) (xs : List α) (S V : Nat → Prop) (w0 : World) : Prop :=
  ∀ (l : Nat) (J : Nat → List α → World → Prop) (Jx : List α → World → Prop) (W : World), Rd w0.heap.size S w0 W → w0.heap.size ≤ l → l < W.heap.size → (∀ B1 s, Stab W.heap.size (fun _ => False) (J B1 s)) → (∀ s, Stab W.heap.size (fun _ => False) (Jx s)) →
    (∀ B1 pre x suf W1, W.heap.size ≤ B1 → xs = pre ++ x :: suf → J B1 pre W1 → YieldAt Fence.wide 9 P l (encs x) W1 fun e W' =>
      (e = .returned (.bool true) ∧ J B1 (pre ++ [x]) W' ∧ Rd W.heap.size (fun k => (k < B1 ∧ ¬ V k) ∧ k ≠ l) W1 W') ∨ (e = .returned (.bool false) ∧ Jx (pre ++ [x]) W')) →
    (∀ W1, Below W.heap.size W W1 → J W1.heap.size [] W1) →
    CallsIn Fence.wide 9 P g (#[.func (.yield l) #[] #[]] ++ lb) W fun e W' => (∃ v, e = .returned v) ∧ ((∃ B1, W.heap.size ≤ B1 ∧ J B1 xs W') ∨ (∃ pre x suf, xs = pre ++ x :: suf ∧ Jx (pre ++ [x]) W'))

/-- A LOOP OVER AN ITERATOR, outside every other one. -/
theorem range_outerV {α : Type} {P : Program} {g : Operand} {ps : Array Tmp} {assign body : Code} {Q : Exit → Act → World → Prop} {a : Act} {w : World}
    {gf : Nat} {lb : Array Value} (hg : a.eval g = .func (.func gf) #[] lb) (eg : Enters P gf)
    {encs : α → Array Value} {xs : List α} {S V : Nat → Prop} (hseq : IterV P gf lb encs xs S V w) (hps : ∀ x, (encs x).size = ps.size) 
    (I : Nat → List α → World → Prop) (Ix : Code → List α → World → Prop) (hI : ∀ B1 s, Stab w.heap.size (fun _ => False) (I B1 s)) (hIx : ∀ c s, Stab w.heap.size (fun _ => False) (Ix c s)) (h0 : ∀ W1, Below w.heap.size w W1 → I W1.heap.size [] W1)
    (hround : ∀ B1 l pre x suf W, w.heap.size < B1 → xs = pre ++ x :: suf → w.heap.size < l → I B1 pre W → (∃ r, W.heap[l]? = some (.loop r)) →
      assign.wpIn (Fence.wide.inRound l) 9 P (Exit.then (rdThen l P w.heap.size (fun k => (k < B1 ∧ ¬ V k) ∧ k ≠ l) (I B1) Ix (pre ++ [x]) body W) (fun _ _ _ => False))
      { tmps := (ps.zip (encs x)).foldl (fun t (p, v) => t.setIfInBounds p v) a.tmps, defers := [] } W)
    (hdone : ∀ B1 W, w.heap.size < B1 → I B1 xs W → W.heap[w.heap.size]? = some (.deferred (some [])) → Q .normal { a with defers := { target := .collected w.heap.size, args := #[] } :: a.defers } W)
    (hstop : ∀ c pre x suf W, xs = pre ++ x :: suf → Ix c (pre ++ [x]) W → W.heap[w.heap.size]? = some (.deferred (some [])) → c.wpIn Fence.wide 9 P Q { a with defers := { target := .collected w.heap.size, args := #[] } :: a.defers } W) :
    (Code.rangeFunc g ps assign body).wpIn Fence.wide 9 P Q a w := by
  refine wpIn_rangeFunc ?_
  intro fn hfn
  obtain ⟨rec, hrec⟩ : ∃ rec : LoopState → Option Code → Loop, rec = fun st pe => { state := st, pending := pe, fn, tmps := a.tmps, params := ps, assign, body, defers := w.heap.size } := ⟨_, rfl⟩
  obtain ⟨W1, hW1⟩ : ∃ W1, (w.alloc (.deferred (some []))).alloc (.loop (rec .ready none)) = W1 := ⟨_, rfl⟩
  have hL1 : W1.heap[w.heap.size + 1]? = some (.loop (rec .ready none)) := by
    rw [← hW1]; have := World.alloc_heap_new (w.alloc (.deferred (some []))) (.loop (rec .ready none)); rwa [World.size_alloc] at this
  have hK1 : W1.heap[w.heap.size]? = some (.deferred (some [])) := by
    rw [← hW1]; exact (Below.heap_alloc _ _ _ (by simp)).trans (World.alloc_heap_new w _)
  have hsz : W1.heap.size = w.heap.size + 2 := by rw [← hW1]; simp
  have hb1 : Below w.heap.size w W1 := by
    rw [← hW1]; exact ((Below.refl _ w).alloc (Nat.le_refl _) _).alloc (by simp) _
  refine ⟨w.heap.size + 1, [{ target := .collected w.heap.size, args := #[] }], W1, { target := .fn (.func gf) lb, args := #[.func (.yield (w.heap.size + 1)) #[] #[]] }, W1, gf,
    #[.func (.yield (w.heap.size + 1)) #[] #[]] ++ lb, W1, ?_, ?_, ?_, ?_, fun _ => by omega, ?_⟩
  · rw [← hW1, hrec]; exact run_enterLoop_outer _ _ _ _ _
  · simp only [resolve, hg]
    simp [go_sem]
  · intro f' hf'; exact trivial
  · simp [invoke, go_sem, eg _ _]
  · have hJS : ∀ {r : Loop} {p : World → Prop}, Stab w.heap.size (fun _ => False) p → Stab W1.heap.size (fun _ => False) (fun W => p W ∧ W.heap[w.heap.size + 1]? = some (.loop r) ∧ heldD (some w.heap.size) W) := fun {r p} hp W W' h hm =>
      ⟨hp W W' h.1 (hm.up (by omega)), hm.block _ _ h.2.1 (fun ht => ht) (.inl (by omega)),
        fun d hd => by cases hd; exact hm.block _ _ (h.2.2 _ rfl) (fun ht => ht) (.inl (by omega))⟩
    refine callsIn_wide_n ((hseq (w.heap.size + 1)
      (fun B1 pre W => I B1 pre W ∧ W.heap[w.heap.size + 1]? = some (.loop (rec .ready none)) ∧ heldD (some w.heap.size) W)
      (fun pre W => ∃ c, Ix c pre W ∧ W.heap[w.heap.size + 1]? = some (.loop (rec .done (some c))) ∧ heldD (some w.heap.size) W)
      W1 (.below hb1) (by omega) (by omega) (fun B1 s => hJS (hI B1 s)) (fun s => Stab.ex fun c => hJS (hIx c s)) ?_ (fun W5 hb5 => ⟨h0 W5 (hb1.trans (hb5.mono (by omega))), (hb5.block _ (by omega)).trans hL1, fun d hd => by cases hd; exact (hb5.block _ (by omega)).trans hK1⟩)).mono ?_)
    · rintro B1 pre x suf W hB1 hx ⟨hi, hl, hk⟩
      exact range_roundU rec hrec hps (by omega) (by omega) (fun k hk => hk.2) (fun d hd => by cases hd; omega) (I B1) Ix (hI B1) hIx pre x W (fun hi' hl' => hround B1 _ pre x suf W (by omega) hx (by omega) hi' hl') hi hl hk
    · rintro e W2 ⟨⟨v, rfl⟩, (⟨B1, hB1, hi, hl, hk⟩ | ⟨pre, x, suf, hx, c, hi, hl, hk⟩)⟩
      · exact ⟨none, _, by have := run_endLoop (P := P) hl (by rw [hrec]; simp); rw [hrec] at this; exact this,
          hdone B1 _ (by omega) (hI _ _ _ _ hi (Moves.putObj _ _ (by omega) hl rfl)) ((World.putObj_heap_other (by omega)).trans (hk _ rfl))⟩
      · exact ⟨some c, _, by have := run_endLoop (P := P) hl (by rw [hrec]; simp); rw [hrec] at this; exact this,
          hstop c pre x suf _ hx (hIx c _ _ _ hi (Moves.putObj _ _ (by omega) hl rfl)) ((World.putObj_heap_other (by omega)).trans (hk _ rfl))⟩


end Go.Proofs.Ytieekahlknmkfaa
