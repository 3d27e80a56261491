/- An iterator whose elements are known only as it goes (they lie in memory that it makes): the protocol, and the law of a loop over it; no program is named here. -/
import Derived.Test.YtdncdlbhgaehmaaKit
namespace Go.Proofs.Ytdncdlbhgaehmaa
set_option linter.unusedVariables false
open Go.RowKit Go.Shelf

/-- As Iter; what it hands out next is one of those that Nx tells, and when it ends what it has handed out is one of those that Fin tells. -/
def IterD (P : Program) (g : Nat) (lb : Array Value) {α : Type} (encs : α → Array Value) (Nx : List α → α → World → World → Prop) (Fin : List α → Prop) (S T : Nat → Prop) (w0 : World) : Prop :=
  ∀ (l : Nat) (J Jx : List α → World → Prop) (W : World), Rd w0.heap.size S w0 W → (∀ s, Stab W.heap.size T (J s)) → (∀ s, Stab W.heap.size T (Jx s)) →
    (∀ pre x W2 W1, J pre W2 → Nx pre x W2 W1 → J pre W1 → YieldAt Fence.wide 9 P l (encs x) W1 fun e W' =>
      (e = .returned (.bool true) ∧ J (pre ++ [x]) W' ∧ Rd W.heap.size S W1 W') ∨ (e = .returned (.bool false) ∧ Jx (pre ++ [x]) W')) →
    J [] W →
    CallsIn Fence.wide 9 P g (#[.func (.yield l) #[] #[]] ++ lb) W fun e W' => (∃ v, e = .returned v) ∧ ((∃ xs, Fin xs ∧ J xs W') ∨ (∃ pre x, Jx (pre ++ [x]) W'))

/-- A LOOP OVER SUCH AN ITERATOR, outside every other one. -/
theorem range_outerD {α : Type} {P : Program} {g : Operand} {ps : Array Tmp} {assign body : Code} {Q : Exit → Act → World → Prop} {a : Act} {w : World}
    {gf : Nat} {lb : Array Value} (hg : a.eval g = .func (.func gf) #[] lb) (eg : Enters P gf)
    {encs : α → Array Value} {Nx : List α → α → World → World → Prop} {Fin : List α → Prop} {S T : Nat → Prop} (hseq : IterD P gf lb encs Nx Fin S T w) (hps : ∀ x, (encs x).size = ps.size) (hS : ∀ k, S k → k < w.heap.size) (hT : ∀ k, T k → k < w.heap.size)
    (I : List α → World → Prop) (Ix : Code → List α → World → Prop) (hI : ∀ s, Stab w.heap.size T (I s)) (hIx : ∀ c s, Stab w.heap.size T (Ix c s)) (h0 : I [] w)
    (hround : ∀ l pre x W2 W, I pre W2 → Nx pre x W2 W → w.heap.size < l → I pre W → (∃ r, W.heap[l]? = some (.loop r)) →
      assign.wpIn (Fence.wide.inRound l) 9 P (Exit.then (rdThen l P w.heap.size S I Ix (pre ++ [x]) body W) (fun _ _ _ => False))
      { tmps := (ps.zip (encs x)).foldl (fun t (p, v) => t.setIfInBounds p v) a.tmps, defers := [] } W)
    (hdone : ∀ xs W, Fin xs → I xs W → W.heap[w.heap.size]? = some (.deferred (some [])) → Q .normal { a with defers := { target := .collected w.heap.size, args := #[] } :: a.defers } W)
    (hstop : ∀ c pre x W, Ix c (pre ++ [x]) W → W.heap[w.heap.size]? = some (.deferred (some [])) → c.wpIn Fence.wide 9 P Q { a with defers := { target := .collected w.heap.size, args := #[] } :: a.defers } W) :
    (Code.rangeFunc g ps assign body).wpIn Fence.wide 9 P Q a w := by
  refine wpIn_rangeFunc ?_
  intro fn hfn
  obtain ⟨rec, hrec⟩ : ∃ rec : LoopState → Option Code → Loop, rec = fun st pe => { state := st, pending := pe, fn, tmps := a.tmps, params := ps, assign, body, defers := w.heap.size } := ⟨_, rfl⟩
  obtain ⟨W1, hW1⟩ : ∃ W1, (w.alloc (.deferred (some []))).alloc (.loop (rec .ready none)) = W1 := ⟨_, rfl⟩
  have hL1 : W1.heap[w.heap.size + 1]? = some (.loop (rec .ready none)) := by
    rw [← hW1]; have := World.alloc_heap_new (w.alloc (.deferred (some []))) (.loop (rec .ready none)); rwa [World.size_alloc] at this
  have hK1 : W1.heap[w.heap.size]? = some (.deferred (some [])) := by
    rw [← hW1]; exact (Below.heap_alloc _ _ _ (by simp)).trans (World.alloc_heap_new w _)
  have hsz : W1.heap.size = w.heap.size + 2 := by rw [← hW1]; simp
  have hb1 : Below w.heap.size w W1 := by
    rw [← hW1]; exact ((Below.refl _ w).alloc (Nat.le_refl _) _).alloc (by simp) _
  refine ⟨w.heap.size + 1, [{ target := .collected w.heap.size, args := #[] }], W1, { target := .fn (.func gf) lb, args := #[.func (.yield (w.heap.size + 1)) #[] #[]] }, W1, gf,
    #[.func (.yield (w.heap.size + 1)) #[] #[]] ++ lb, W1, ?_, ?_, ?_, ?_, fun _ => by omega, ?_⟩
  · rw [← hW1, hrec]; exact run_enterLoop_outer _ _ _ _ _
  · simp only [resolve, hg]
    simp [go_sem]
  · intro f' hf'; exact trivial
  · simp [invoke, go_sem, eg _ _]
  · have hJS : ∀ {r : Loop} {p : World → Prop}, Stab w.heap.size T p → Stab W1.heap.size T (fun W => p W ∧ W.heap[w.heap.size + 1]? = some (.loop r) ∧ heldD (some w.heap.size) W) := fun {r p} hp W W' h hm =>
      ⟨hp W W' h.1 (hm.up (by omega)), hm.block _ _ h.2.1 (fun ht => by have := hT _ ht; omega) (.inl (by omega)),
        fun d hd => by cases hd; exact hm.block _ _ (h.2.2 _ rfl) (fun ht => by have := hT _ ht; omega) (.inl (by omega))⟩
    refine callsIn_wide_n ((hseq (w.heap.size + 1)
      (fun pre W => I pre W ∧ W.heap[w.heap.size + 1]? = some (.loop (rec .ready none)) ∧ heldD (some w.heap.size) W)
      (fun pre W => ∃ c, Ix c pre W ∧ W.heap[w.heap.size + 1]? = some (.loop (rec .done (some c))) ∧ heldD (some w.heap.size) W)
      W1 (.below hb1) (fun s => hJS (hI s)) (fun s => Stab.ex fun c => hJS (hIx c s)) ?_ ⟨hI _ _ _ h0 (.below hb1), hL1, fun d hd => by cases hd; exact hK1⟩).mono ?_)
    · rintro pre x W2 W h2 hx ⟨hi, hl, hk⟩
      exact range_round rec hrec hps (by omega) (by omega) hS (fun d hd => by cases hd; omega) I Ix hI hIx pre x W (fun hi' hl' => hround _ pre x W2 W h2.1 hx (by omega) hi' hl') hi hl hk
    · rintro e W2 ⟨⟨v, rfl⟩, (⟨xs, hx, hi, hl, hk⟩ | ⟨pre, x, c, hi, hl, hk⟩)⟩
      · exact ⟨none, _, by have := run_endLoop (P := P) hl (by rw [hrec]; simp); rw [hrec] at this; exact this,
          hdone xs _ hx (hI _ _ _ hi (Moves.putObj _ _ (by omega) hl rfl)) ((World.putObj_heap_other (by omega)).trans (hk _ rfl))⟩
      · exact ⟨some c, _, by have := run_endLoop (P := P) hl (by rw [hrec]; simp); rw [hrec] at this; exact this,
          hstop c pre x _ (hIx c _ _ _ hi (Moves.putObj _ _ (by omega) hl rfl)) ((World.putObj_heap_other (by omega)).trans (hk _ rfl))⟩


end Go.Proofs.Ytdncdlbhgaehmaa
