/- An iterator that turns blocks of its own, and what it leaves behind: the protocol, and the law of a loop over it; no program is named here. -/
import Derived.Test.YtflaanffjjidaaaKit
namespace Go.Proofs.Ytflaanffjjidaaa
set_option linter.unusedVariables false
open Go.RowKit Go.Shelf

/-- As Iter; K holds behind all that it hands out. -/
def IterK (P : Program) (g : Nat) (lb : Array Value) {α : Type} (encs : α → Array Value) (xs : List α) (S T : Nat → Prop) (K : World → Prop) (w0 : World) : Prop :=
  ∀ (l : Nat) (J Jx : List α → World → Prop) (W : World), Rd w0.heap.size S w0 W → (∀ s, Stab W.heap.size T (J s)) → (∀ s, Stab W.heap.size T (Jx s)) →
    (∀ pre x suf W1, xs = pre ++ x :: suf → J pre W1 → YieldAt Fence.wide 9 P l (encs x) W1 fun e W' =>
      (e = .returned (.bool true) ∧ J (pre ++ [x]) W' ∧ Rd W.heap.size S W1 W') ∨ (e = .returned (.bool false) ∧ Jx (pre ++ [x]) W')) →
    J [] W →
    CallsIn Fence.wide 9 P g (#[.func (.yield l) #[] #[]] ++ lb) W fun e W' => (∃ v, e = .returned v) ∧ ((J xs W' ∧ K W') ∨ (∃ pre x suf, xs = pre ++ x :: suf ∧ Jx (pre ++ [x]) W'))

/-- A LOOP OVER SUCH AN ITERATOR, outside every other one. -/
theorem range_outerK {α : Type} {P : Program} {g : Operand} {ps : Array Tmp} {assign body : Code} {Q : Exit → Act → World → Prop} {a : Act} {w : World}
    {gf : Nat} {lb : Array Value} (hg : a.eval g = .func (.func gf) #[] lb) (eg : Enters P gf)
    {encs : α → Array Value} {xs : List α} {S T : Nat → Prop} {K : World → Prop} (hseq : IterK P gf lb encs xs S T K w) (hps : ∀ x, (encs x).size = ps.size) (hS : ∀ k, S k → k < w.heap.size) (hT : ∀ k, T k → k < w.heap.size)
    (hK : Stab w.heap.size (fun _ => False) K)
    (I : List α → World → Prop) (Ix : Code → List α → World → Prop) (hI : ∀ s, Stab w.heap.size T (I s)) (hIx : ∀ c s, Stab w.heap.size T (Ix c s)) (h0 : I [] w)
    (hround : ∀ l pre x suf W, xs = pre ++ x :: suf → w.heap.size < l → I pre W → (∃ r, W.heap[l]? = some (.loop r)) →
      assign.wpIn (Fence.wide.inRound l) 9 P (Exit.then (rdThen l P w.heap.size S I Ix (pre ++ [x]) body W) (fun _ _ _ => False))
      { tmps := (ps.zip (encs x)).foldl (fun t (p, v) => t.setIfInBounds p v) a.tmps, defers := [] } W)
    (hdone : ∀ W, I xs W → K W → W.heap[w.heap.size]? = some (.deferred (some [])) → Q .normal { a with defers := { target := .collected w.heap.size, args := #[] } :: a.defers } W)
    (hstop : ∀ c pre x suf W, xs = pre ++ x :: suf → Ix c (pre ++ [x]) W → W.heap[w.heap.size]? = some (.deferred (some [])) → c.wpIn Fence.wide 9 P Q { a with defers := { target := .collected w.heap.size, args := #[] } :: a.defers } W) :
    (Code.rangeFunc g ps assign body).wpIn Fence.wide 9 P Q a w := by
  refine wpIn_rangeFunc ?_
  intro fn hfn
  obtain ⟨rec, hrec⟩ : ∃ rec : LoopState → Option Code → Loop, rec = fun st pe => { state := st, pending := pe, fn, tmps := a.tmps, params := ps, assign, body, defers := w.heap.size } := ⟨_, rfl⟩
  obtain ⟨W1, hW1⟩ : ∃ W1, (w.alloc (.deferred (some []))).alloc (.loop (rec .ready none)) = W1 := ⟨_, rfl⟩
  have hL1 : W1.heap[w.heap.size + 1]? = some (.loop (rec .ready none)) := by
    rw [← hW1]; have := World.alloc_heap_new (w.alloc (.deferred (some []))) (.loop (rec .ready none)); rwa [World.size_alloc] at this
  have hK1 : W1.heap[w.heap.size]? = some (.deferred (some [])) := by
    rw [← hW1]; exact (Below.heap_alloc _ _ _ (by simp)).trans (World.alloc_heap_new w _)
  have hsz : W1.heap.size = w.heap.size + 2 := by rw [← hW1]; simp
  have hb1 : Below w.heap.size w W1 := by
    rw [← hW1]; exact ((Below.refl _ w).alloc (Nat.le_refl _) _).alloc (by simp) _
  refine ⟨w.heap.size + 1, [{ target := .collected w.heap.size, args := #[] }], W1, { target := .fn (.func gf) lb, args := #[.func (.yield (w.heap.size + 1)) #[] #[]] }, W1, gf,
    #[.func (.yield (w.heap.size + 1)) #[] #[]] ++ lb, W1, ?_, ?_, ?_, ?_, fun _ => by omega, ?_⟩
  · rw [← hW1, hrec]; exact run_enterLoop_outer _ _ _ _ _
  · simp only [resolve, hg]
    simp [go_sem]
  · intro f' hf'; exact trivial
  · simp [invoke, go_sem, eg _ _]
  · have hJS : ∀ {r : Loop} {p : World → Prop}, Stab w.heap.size T p → Stab W1.heap.size T (fun W => p W ∧ W.heap[w.heap.size + 1]? = some (.loop r) ∧ heldD (some w.heap.size) W) := fun {r p} hp W W' h hm =>
      ⟨hp W W' h.1 (hm.up (by omega)), hm.block _ _ h.2.1 (fun ht => by have := hT _ ht; omega) (.inl (by omega)),
        fun d hd => by cases hd; exact hm.block _ _ (h.2.2 _ rfl) (fun ht => by have := hT _ ht; omega) (.inl (by omega))⟩
    refine callsIn_wide_n ((hseq (w.heap.size + 1)
      (fun pre W => I pre W ∧ W.heap[w.heap.size + 1]? = some (.loop (rec .ready none)) ∧ heldD (some w.heap.size) W)
      (fun pre W => ∃ c, Ix c pre W ∧ W.heap[w.heap.size + 1]? = some (.loop (rec .done (some c))) ∧ heldD (some w.heap.size) W)
      W1 (.below hb1) (fun s => hJS (hI s)) (fun s => Stab.ex fun c => hJS (hIx c s)) ?_ ⟨hI _ _ _ h0 (.below hb1), hL1, fun d hd => by cases hd; exact hK1⟩).mono ?_)
    · rintro pre x suf W hx ⟨hi, hl, hk⟩
      exact range_round rec hrec hps (by omega) (by omega) hS (fun d hd => by cases hd; omega) I Ix hI hIx pre x W (fun hi' hl' => hround _ pre x suf W hx (by omega) hi' hl') hi hl hk
    · rintro e W2 ⟨⟨v, rfl⟩, (⟨⟨hi, hl, hk⟩, hKK⟩ | ⟨pre, x, suf, hx, c, hi, hl, hk⟩)⟩
      · exact ⟨none, _, by have := run_endLoop (P := P) hl (by rw [hrec]; simp); rw [hrec] at this; exact this,
          hdone _ (hI _ _ _ hi (Moves.putObj _ _ (by omega) hl rfl)) (hK _ _ hKK (Moves.putObj _ _ (by omega) hl rfl)) ((World.putObj_heap_other (by omega)).trans (hk _ rfl))⟩
      · exact ⟨some c, _, by have := run_endLoop (P := P) hl (by rw [hrec]; simp); rw [hrec] at this; exact this,
          hstop c pre x suf _ hx (hIx c _ _ _ hi (Moves.putObj _ _ (by omega) hl rfl)) ((World.putObj_heap_other (by omega)).trans (hk _ rfl))⟩

/-- All blocks that lay but those of T are as they were. -/
structure FrameT (T : Nat → Prop) (w w' : World) : Prop where
  os : w'.os = w.os
  tape : w'.tape = w.tape
  output : w'.output = w.output
  size : w.heap.size ≤ w'.heap.size
  block : ∀ k, k < w.heap.size → ¬ T k → w'.heap[k]? = w.heap[k]?
theorem FrameT.refl (T : Nat → Prop) (w : World) : FrameT T w w := ⟨rfl, rfl, rfl, Nat.le_refl _, fun _ _ _ => rfl⟩
theorem FrameT.trans {T : Nat → Prop} {a b c : World} (h : FrameT T a b) (k : FrameT T b c) : FrameT T a c :=
  ⟨k.os.trans h.os, k.tape.trans h.tape, k.output.trans h.output, Nat.le_trans h.size k.size, fun i hi hT => (k.block i (Nat.lt_of_lt_of_le hi h.size) hT).trans (h.block i hi hT)⟩
theorem FrameT.below {T : Nat → Prop} {w w' : World} (h : Below w.heap.size w w') : FrameT T w w' := ⟨h.os, h.tape, h.output, h.size, fun k hk _ => h.block k hk⟩
theorem FrameT.drew {T : Nat → Prop} {w w' : World} (h : FrameT T w w') : FrameT T w w'.drew := ⟨h.os, h.tape, h.output, h.size, h.block⟩
theorem FrameT.toBelow {T : Nat → Prop} {n : Nat} {w w' : World} (h : FrameT T w w') (hn : n ≤ w.heap.size) (hT : ∀ k, T k → n ≤ k) : Below n w w' :=
  ⟨h.os, h.tape, h.output, h.size, fun k hk => h.block k (Nat.lt_of_lt_of_le hk hn) (fun ht => by have := hT k ht; omega)⟩
theorem FrameT.get {T : Nat → Prop} {w w' : World} (h : FrameT T w w') {k : Nat} {o : Obj} (hk : w.heap[k]? = some o) (hT : ¬ T k) : w'.heap[k]? = some o :=
  (h.block k (Array.getElem?_eq_some_iff.1 hk).1 hT).trans hk
theorem FrameT.cell {T : Nat → Prop} {w w' : World} (h : FrameT T w w') {a : Addr} {v : Value} (hc : w.cell? a = some v) (hT : ¬ T a.block) : w'.cell? a = some v := by
  obtain ⟨o, ho, _⟩ := isCells_of_cell hc
  exact (World.cell?_of_block (w := w) ((h.get ho hT).trans ho.symm)).trans hc
theorem FrameT.moves {B : Nat} {T : Nat → Prop} {w w' : World} (h : FrameT T w w') : Moves B T w w' :=
  ⟨h.os, h.tape, h.output, h.size, fun k o ho hT _ => h.get ho hT⟩
theorem FrameT.mono {T U : Nat → Prop} {w w' : World} (h : FrameT T w w') (hTU : ∀ k, T k → U k) : FrameT U w w' := ⟨h.os, h.tape, h.output, h.size, fun k hk hU => h.block k hk (fun ht => hU (hTU k ht))⟩
theorem FrameT.setCell (w : World) (b i : Nat) (v : Value) : FrameT (fun k => k = b) w (w.setCell ⟨b, i, none⟩ v) :=
  ⟨rfl, rfl, rfl, by simp, fun k _ h1 => heap_setCell_other _ _ _ _ h1⟩
theorem FrameT.after {B : Nat} {T : Nat → Prop} {a W W' : World} (h : FrameT T a W) (hm : Moves B T W W') (ha : a.heap.size ≤ B) : FrameT T a W' :=
  ⟨hm.os.trans h.os, hm.tape.trans h.tape, hm.output.trans h.output, Nat.le_trans h.size hm.size, fun k hk hT => by
    have h1 := h.block k hk hT
    obtain ⟨o, ho⟩ : ∃ o, a.heap[k]? = some o := ⟨_, Array.getElem?_eq_some_iff.2 ⟨hk, rfl⟩⟩
    rw [ho] at h1 ⊢
    exact hm.block k o h1 hT (.inl (by omega))⟩
theorem FrameT.stab {B : Nat} {T : Nat → Prop} {a : World} (ha : a.heap.size ≤ B) : Stab B T (FrameT T a) := fun W W' h hm => h.after hm ha

theorem FrameT.belowN {T : Nat → Prop} {w W W' : World} (h : FrameT T w W) (hb : Below w.heap.size W W') : FrameT T w W' :=
  ⟨hb.os.trans h.os, hb.tape.trans h.tape, hb.output.trans h.output, Nat.le_trans h.size hb.size, fun k hk hT => (hb.block k hk).trans (h.block k hk hT)⟩
theorem Stab.up {B B1 : Nat} {T : Nat → Prop} {p : World → Prop} (h : Stab B T p) (hB : B ≤ B1) : Stab B1 T p := fun W W' hp hm => h W W' hp (hm.up hB)
theorem IterK.after {P : Program} {g : Nat} {lb : Array Value} {α : Type} {encs : α → Array Value} {xs : List α} {S T : Nat → Prop} {K : World → Prop} {w w1 : World} (h : IterK P g lb encs xs S T K w) (hB : Below w.heap.size w w1) : IterK P g lb encs xs S T K w1 := by
  intro l J Jx W hW
  refine h l J Jx W ⟨hW.os.trans hB.os, hW.tape.trans hB.tape, hW.output.trans hB.output, Nat.le_trans hB.size hW.size, fun k o ho hc => ?_⟩
  have hk : k < w.heap.size := (Array.getElem?_eq_some_iff.1 ho).1
  rcases hc with hc | ⟨hc, _⟩
  · exact hW.block k o ((hB.block k hk).trans ho) (.inl hc)
  · omega
theorem Rd.mono {B : Nat} {S S' : Nat → Prop} {w w' : World} (h : Rd B S w w') (hS : ∀ k, S' k → S k) : Rd B S' w w' :=
  ⟨h.os, h.tape, h.output, h.size, fun k o ho hc => h.block k o ho (hc.imp (hS k) id)⟩

end Go.Proofs.Ytflaanffjjidaaa
