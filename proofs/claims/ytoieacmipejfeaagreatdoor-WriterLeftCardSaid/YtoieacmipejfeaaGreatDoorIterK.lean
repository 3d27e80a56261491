/- IterK, IterU, IterV: in one text. -/
import Derived.Test.YtoieacmipejfeaaGreatDoorKit
/- An iterator that turns blocks of its own, and what it leaves behind: the protocol, and the law of a loop over it; no program is named here. -/
namespace Go.Proofs.YtoieacmipejfeaaGreatDoor
set_option linter.unusedVariables false
open Go.RowKit Go.Shelf

/-- As Iter; K holds behind all that it hands out. -/
def IterK (P : Program) (g : Nat) (lb : Array Value) {α : Type} (encs : α → Array Value) (xs : List α) (S T : Nat → Prop) (K : World → Prop) (w0 : World) : Prop :=
  ∀ (l : Nat) (J Jx : List α → World → Prop) (W : World), Rd w0.heap.size S w0 W → (∀ s, Stab W.heap.size T (J s)) → (∀ s, Stab W.heap.size T (Jx s)) →
    (∀ pre x suf W1, xs = pre ++ x :: suf → J pre W1 → YieldAt Fence.wide 9 P l (encs x) W1 fun e W' =>
      (e = .returned (.bool true) ∧ J (pre ++ [x]) W' ∧ Rd W.heap.size S W1 W') ∨ (e = .returned (.bool false) ∧ Jx (pre ++ [x]) W')) →
    J [] W →
    CallsIn Fence.wide 9 P g (#[.func (.yield l) #[] #[]] ++ lb) W fun e W' => (∃ v, e = .returned v) ∧ ((J xs W' ∧ K W') ∨ (∃ pre x suf, xs = pre ++ x :: suf ∧ Jx (pre ++ [x]) W'))

/-- A LOOP OVER SUCH AN ITERATOR, outside every other one. -/
theorem range_outerK {α : Type} {P : Program} {g : Operand} {ps : Array Tmp} {assign body : Code} {Q : Exit → Act → World → Prop} {a : Act} {w : World}
    {gf : Nat} {lb : Array Value} (hg : a.eval g = .func (.func gf) #[] lb) (eg : Enters P gf)
    {encs : α → Array Value} {xs : List α} {S T : Nat → Prop} {K : World → Prop} (hseq : IterK P gf lb encs xs S T K w) (hps : ∀ x, (encs x).size = ps.size) (hS : ∀ k, S k → k < w.heap.size) (hT : ∀ k, T k → k < w.heap.size)
    (hK : Stab w.heap.size (fun _ => False) K)
    (I : List α → World → Prop) (Ix : Code → List α → World → Prop) (hI : ∀ s, Stab w.heap.size T (I s)) (hIx : ∀ c s, Stab w.heap.size T (Ix c s)) (h0 : I [] w)
    (hround : ∀ l pre x suf W, xs = pre ++ x :: suf → w.heap.size < l → I pre W → (∃ r, W.heap[l]? = some (.loop r)) →
      assign.wpIn (Fence.wide.inRound l) 9 P (Exit.then (rdThen l P w.heap.size S I Ix (pre ++ [x]) body W) (fun _ _ _ => False))
      { tmps := (ps.zip (encs x)).foldl (fun t (p, v) => t.setIfInBounds p v) a.tmps, defers := [] } W)
    (hdone : ∀ W, I xs W → K W → W.heap[w.heap.size]? = some (.deferred (some [])) → Q .normal { a with defers := { target := .collected w.heap.size, args := #[] } :: a.defers } W)
    (hstop : ∀ c pre x suf W, xs = pre ++ x :: suf → Ix c (pre ++ [x]) W → W.heap[w.heap.size]? = some (.deferred (some [])) → c.wpIn Fence.wide 9 P Q { a with defers := { target := .collected w.heap.size, args := #[] } :: a.defers } W) :
    (Code.rangeFunc g ps assign body).wpIn Fence.wide 9 P Q a w := by
  refine wpIn_rangeFunc ?_
  intro fn hfn
  obtain ⟨rec, hrec⟩ : ∃ rec : LoopState → Option Code → Loop, rec = fun st pe => { state := st, pending := pe, fn, tmps := a.tmps, params := ps, assign, body, defers := w.heap.size } := ⟨_, rfl⟩
  obtain ⟨W1, hW1⟩ : ∃ W1, (w.alloc (.deferred (some []))).alloc (.loop (rec .ready none)) = W1 := ⟨_, rfl⟩
  have hL1 : W1.heap[w.heap.size + 1]? = some (.loop (rec .ready none)) := by
    rw [← hW1]; have := World.alloc_heap_new (w.alloc (.deferred (some []))) (.loop (rec .ready none)); rwa [World.size_alloc] at this
  have hK1 : W1.heap[w.heap.size]? = some (.deferred (some [])) := by
    rw [← hW1]; exact (Below.heap_alloc _ _ _ (by simp)).trans (World.alloc_heap_new w _)
  have hsz : W1.heap.size = w.heap.size + 2 := by rw [← hW1]; simp
  have hb1 : Below w.heap.size w W1 := by
    rw [← hW1]; exact ((Below.refl _ w).alloc (Nat.le_refl _) _).alloc (by simp) _
  refine ⟨w.heap.size + 1, [{ target := .collected w.heap.size, args := #[] }], W1, { target := .fn (.func gf) lb, args := #[.func (.yield (w.heap.size + 1)) #[] #[]] }, W1, gf,
    #[.func (.yield (w.heap.size + 1)) #[] #[]] ++ lb, W1, ?_, ?_, ?_, ?_, fun _ => by omega, ?_⟩
  · rw [← hW1, hrec]; exact run_enterLoop_outer _ _ _ _ _
  · simp only [resolve, hg]
    simp [go_sem]
  · intro f' hf'; exact trivial
  · simp [invoke, go_sem, eg _ _]
  · have hJS : ∀ {r : Loop} {p : World → Prop}, Stab w.heap.size T p → Stab W1.heap.size T (fun W => p W ∧ W.heap[w.heap.size + 1]? = some (.loop r) ∧ heldD (some w.heap.size) W) := fun {r p} hp W W' h hm =>
      ⟨hp W W' h.1 (hm.up (by omega)), hm.block _ _ h.2.1 (fun ht => by have := hT _ ht; omega) (.inl (by omega)),
        fun d hd => by cases hd; exact hm.block _ _ (h.2.2 _ rfl) (fun ht => by have := hT _ ht; omega) (.inl (by omega))⟩
    refine callsIn_wide_n ((hseq (w.heap.size + 1)
      (fun pre W => I pre W ∧ W.heap[w.heap.size + 1]? = some (.loop (rec .ready none)) ∧ heldD (some w.heap.size) W)
      (fun pre W => ∃ c, Ix c pre W ∧ W.heap[w.heap.size + 1]? = some (.loop (rec .done (some c))) ∧ heldD (some w.heap.size) W)
      W1 (.below hb1) (fun s => hJS (hI s)) (fun s => Stab.ex fun c => hJS (hIx c s)) ?_ ⟨hI _ _ _ h0 (.below hb1), hL1, fun d hd => by cases hd; exact hK1⟩).mono ?_)
    · rintro pre x suf W hx ⟨hi, hl, hk⟩
      exact range_round rec hrec hps (by omega) (by omega) hS (fun d hd => by cases hd; omega) I Ix hI hIx pre x W (fun hi' hl' => hround _ pre x suf W hx (by omega) hi' hl') hi hl hk
    · rintro e W2 ⟨⟨v, rfl⟩, (⟨⟨hi, hl, hk⟩, hKK⟩ | ⟨pre, x, suf, hx, c, hi, hl, hk⟩)⟩
      · exact ⟨none, _, by have := run_endLoop (P := P) hl (by rw [hrec]; simp); rw [hrec] at this; exact this,
          hdone _ (hI _ _ _ hi (Moves.putObj _ _ (by omega) hl rfl)) (hK _ _ hKK (Moves.putObj _ _ (by omega) hl rfl)) ((World.putObj_heap_other (by omega)).trans (hk _ rfl))⟩
      · exact ⟨some c, _, by have := run_endLoop (P := P) hl (by rw [hrec]; simp); rw [hrec] at this; exact this,
          hstop c pre x suf _ hx (hIx c _ _ _ hi (Moves.putObj _ _ (by omega) hl rfl)) ((World.putObj_heap_other (by omega)).trans (hk _ rfl))⟩

/-- All blocks that lay but those of T are as they were. -/
structure FrameT (T : Nat → Prop) (w w' : World) : Prop where
  os : w'.os = w.os
  tape : w'.tape = w.tape
  output : w'.output = w.output
  size : w.heap.size ≤ w'.heap.size
  block : ∀ k, k < w.heap.size → ¬ T k → w'.heap[k]? = w.heap[k]?
theorem FrameT.refl (T : Nat → Prop) (w : World) : FrameT T w w := ⟨rfl, rfl, rfl, Nat.le_refl _, fun _ _ _ => rfl⟩
theorem FrameT.trans {T : Nat → Prop} {a b c : World} (h : FrameT T a b) (k : FrameT T b c) : FrameT T a c :=
  ⟨k.os.trans h.os, k.tape.trans h.tape, k.output.trans h.output, Nat.le_trans h.size k.size, fun i hi hT => (k.block i (Nat.lt_of_lt_of_le hi h.size) hT).trans (h.block i hi hT)⟩
theorem FrameT.below {T : Nat → Prop} {w w' : World} (h : Below w.heap.size w w') : FrameT T w w' := ⟨h.os, h.tape, h.output, h.size, fun k hk _ => h.block k hk⟩
theorem FrameT.drew {T : Nat → Prop} {w w' : World} (h : FrameT T w w') : FrameT T w w'.drew := ⟨h.os, h.tape, h.output, h.size, h.block⟩
theorem FrameT.toBelow {T : Nat → Prop} {n : Nat} {w w' : World} (h : FrameT T w w') (hn : n ≤ w.heap.size) (hT : ∀ k, T k → n ≤ k) : Below n w w' :=
  ⟨h.os, h.tape, h.output, h.size, fun k hk => h.block k (Nat.lt_of_lt_of_le hk hn) (fun ht => by have := hT k ht; omega)⟩
theorem FrameT.get {T : Nat → Prop} {w w' : World} (h : FrameT T w w') {k : Nat} {o : Obj} (hk : w.heap[k]? = some o) (hT : ¬ T k) : w'.heap[k]? = some o :=
  (h.block k (Array.getElem?_eq_some_iff.1 hk).1 hT).trans hk
theorem FrameT.cell {T : Nat → Prop} {w w' : World} (h : FrameT T w w') {a : Addr} {v : Value} (hc : w.cell? a = some v) (hT : ¬ T a.block) : w'.cell? a = some v := by
  obtain ⟨o, ho, _⟩ := isCells_of_cell hc
  exact (World.cell?_of_block (w := w) ((h.get ho hT).trans ho.symm)).trans hc
theorem FrameT.moves {B : Nat} {T : Nat → Prop} {w w' : World} (h : FrameT T w w') : Moves B T w w' :=
  ⟨h.os, h.tape, h.output, h.size, fun k o ho hT _ => h.get ho hT⟩
theorem FrameT.mono {T U : Nat → Prop} {w w' : World} (h : FrameT T w w') (hTU : ∀ k, T k → U k) : FrameT U w w' := ⟨h.os, h.tape, h.output, h.size, fun k hk hU => h.block k hk (fun ht => hU (hTU k ht))⟩
theorem FrameT.setCell (w : World) (b i : Nat) (v : Value) : FrameT (fun k => k = b) w (w.setCell ⟨b, i, none⟩ v) :=
  ⟨rfl, rfl, rfl, by simp, fun k _ h1 => heap_setCell_other _ _ _ _ h1⟩
theorem FrameT.after {B : Nat} {T : Nat → Prop} {a W W' : World} (h : FrameT T a W) (hm : Moves B T W W') (ha : a.heap.size ≤ B) : FrameT T a W' :=
  ⟨hm.os.trans h.os, hm.tape.trans h.tape, hm.output.trans h.output, Nat.le_trans h.size hm.size, fun k hk hT => by
    have h1 := h.block k hk hT
    obtain ⟨o, ho⟩ : ∃ o, a.heap[k]? = some o := ⟨_, Array.getElem?_eq_some_iff.2 ⟨hk, rfl⟩⟩
    rw [ho] at h1 ⊢
    exact hm.block k o h1 hT (.inl (by omega))⟩
theorem FrameT.stab {B : Nat} {T : Nat → Prop} {a : World} (ha : a.heap.size ≤ B) : Stab B T (FrameT T a) := fun W W' h hm => h.after hm ha

theorem FrameT.belowN {T : Nat → Prop} {w W W' : World} (h : FrameT T w W) (hb : Below w.heap.size W W') : FrameT T w W' :=
  ⟨hb.os.trans h.os, hb.tape.trans h.tape, hb.output.trans h.output, Nat.le_trans h.size hb.size, fun k hk hT => (hb.block k hk).trans (h.block k hk hT)⟩
theorem Stab.up {B B1 : Nat} {T : Nat → Prop} {p : World → Prop} (h : Stab B T p) (hB : B ≤ B1) : Stab B1 T p := fun W W' hp hm => h W W' hp (hm.up hB)
theorem IterK.after {P : Program} {g : Nat} {lb : Array Value} {α : Type} {encs : α → Array Value} {xs : List α} {S T : Nat → Prop} {K : World → Prop} {w w1 : World} (h : IterK P g lb encs xs S T K w) (hB : Below w.heap.size w w1) : IterK P g lb encs xs S T K w1 := by
  intro l J Jx W hW
  refine h l J Jx W ⟨hW.os.trans hB.os, hW.tape.trans hB.tape, hW.output.trans hB.output, Nat.le_trans hB.size hW.size, fun k o ho hc => ?_⟩
  have hk : k < w.heap.size := (Array.getElem?_eq_some_iff.1 ho).1
  rcases hc with hc | ⟨hc, _⟩
  · exact hW.block k o ((hB.block k hk).trans ho) (.inl hc)
  · omega
theorem Rd.mono {B : Nat} {S S' : Nat → Prop} {w w' : World} (h : Rd B S w w') (hS : ∀ k, S' k → S k) : Rd B S' w w' :=
  ⟨h.os, h.tape, h.output, h.size, fun k o ho hc => h.block k o ho (hc.imp (hS k) id)⟩

end Go.Proofs.YtoieacmipejfeaaGreatDoor

/- An iterator that reads blocks of its own which it makes as it goes: the rounds keep all blocks but those of V; the protocol, and the law of a loop over it; no program is named here. -/
namespace Go.Proofs.YtoieacmipejfeaaGreatDoor
set_option linter.unusedVariables false
open Go.RowKit Go.Shelf

/-- As Iter; each round that goes on keeps all blocks but those of V (and the loop's record). -/
def IterU (P : Program) (g : Nat) (lb : Array Value) {α : Type} (encs : α → Array Value) (xs : List α) (S V : Nat → Prop) (w0 : World) : Prop :=
  ∀ (l : Nat) (J Jx : List α → World → Prop) (W : World), Rd w0.heap.size S w0 W → w0.heap.size ≤ l → l < W.heap.size → (∀ s, Stab W.heap.size (fun _ => False) (J s)) → (∀ s, Stab W.heap.size (fun _ => False) (Jx s)) →
    (∀ pre x suf W1, xs = pre ++ x :: suf → J pre W1 → YieldAt Fence.wide 9 P l (encs x) W1 fun e W' =>
      (e = .returned (.bool true) ∧ J (pre ++ [x]) W' ∧ Rd W.heap.size (fun k => ¬ V k ∧ k ≠ l) W1 W') ∨ (e = .returned (.bool false) ∧ Jx (pre ++ [x]) W')) →
    J [] W →
    CallsIn Fence.wide 9 P g (#[.func (.yield l) #[] #[]] ++ lb) W fun e W' => (∃ v, e = .returned v) ∧ (J xs W' ∨ (∃ pre x suf, xs = pre ++ x :: suf ∧ Jx (pre ++ [x]) W'))

/-- ONE ROUND of a loop whose record lies at l, out of the walks of its assignment and its body. -/
theorem range_roundU {α : Type} {P : Program} {ps : Array Tmp} {assign body : Code} {tmps : Array Value} {fn : FuncId} {l dd B B1 : Nat} {D : Option Nat} (rec : LoopState → Option Code → Loop)
    (hrec : rec = fun st pe => { state := st, pending := pe, fn, tmps, params := ps, assign, body, defers := dd })
    {encs : α → Array Value} {S T : Nat → Prop} (hps : ∀ x, (encs x).size = ps.size) (hBl : B ≤ l) (hlB : l < B1) (hSl : ∀ k, S k → k ≠ l) (hD : ∀ d, D = some d → B ≤ d ∧ d ≠ l)
    (I : List α → World → Prop) (Ix : Code → List α → World → Prop) (hI : ∀ s, Stab B T (I s)) (hIx : ∀ c s, Stab B T (Ix c s))
    (pre : List α) (x : α) (W : World)
    (hround : I pre W → (∃ r, W.heap[l]? = some (.loop r)) → assign.wpIn (Fence.wide.inRound l) 9 P (Exit.then (rdThen l P B S I Ix (pre ++ [x]) body W) (fun _ _ _ => False))
      { tmps := (ps.zip (encs x)).foldl (fun t (p, v) => t.setIfInBounds p v) tmps, defers := [] } W)
    (hi : I pre W) (hl : W.heap[l]? = some (.loop (rec .ready none))) (hXW : heldD D W) :
    YieldAt Fence.wide 9 P l (encs x) W fun e W' =>
      (e = .returned (.bool true) ∧ (I (pre ++ [x]) W' ∧ W'.heap[l]? = some (.loop (rec .ready none)) ∧ heldD D W') ∧ Rd B1 S W W') ∨
      (e = .returned (.bool false) ∧ ∃ c, Ix c (pre ++ [x]) W' ∧ W'.heap[l]? = some (.loop (rec .done (some c))) ∧ heldD D W') := by
  have hy := run_yield (P := P) (args := encs x) hl (by rw [hrec]; exact hps x)
  rw [hrec] at hy
  refine ⟨fn, _, assign, body, hy, roundIn_of_wpIn trivial (wpIn_mono (hround hi ⟨_, hl⟩) ?_)⟩
  clear hy
  rintro e a1 W1 hp
  cases e <;> try exact hp.elim
  obtain ⟨hk1, p, hpS, hp1, hb⟩ := hp
  have hl1 : W1.heap[l]? = some (.loop (rec .ready none)) := hk1.block _ _ hl (.inr ⟨hBl, rfl⟩)
  have hX1 : heldD D W1 := fun d hd => hk1.block _ _ (hXW d hd) (.inr ⟨(hD d hd).1, rfl⟩)
  have hlt1 : l < W1.heap.size := (Array.getElem?_eq_some_iff.1 hl1).1
  refine ⟨_, run_beginRound hl1 (by rw [hrec]), ?_⟩
  obtain ⟨W2, hW2⟩ : ∃ W2, W1.putObj l (.loop { rec .ready none with state := .busy }) = W2 := ⟨_, rfl⟩
  have hl2 : W2.heap[l]? = some (.loop { rec .ready none with state := .busy }) := by rw [← hW2]; exact World.putObj_heap_same hlt1
  have hX2 : heldD D W2 := fun d hd => by rw [← hW2]; exact (World.putObj_heap_other (hD d hd).2).trans (hX1 d hd)
  have hp2 : p W2 := by rw [← hW2]; exact hpS _ _ hp1 (Moves.putObj _ _ hBl hl1 rfl)
  have ho2 : ∀ k, k ≠ l → W2.heap[k]? = W1.heap[k]? := fun k hk => by rw [← hW2]; exact World.putObj_heap_other hk
  rw [hW2]
  have hg2 := hW2 ▸ grownBy_putObj' W1 l (.loop { rec .ready none with state := .busy })
  refine wpIn_mono (hb W2 hp2 ⟨_, hl2⟩) ?_
  clear hW2 hb
  have fin : ∀ (jump : Option Code) (W3 : World), Rd B (fun _ => False) W2 W3 →
      (Instr.endRound l jump).run P W3 = .ok (.bool jump.isNone) (W3.putObj l (.loop (rec (if jump.isNone then .ready else .done) jump))) ∧
      W3.heap[l]? = some (.loop { rec .ready none with state := .busy }) ∧
      (W3.putObj l (.loop (rec (if jump.isNone then .ready else .done) jump))).heap[l]? = some (.loop (rec (if jump.isNone then .ready else .done) jump)) ∧
      heldD D (W3.putObj l (.loop (rec (if jump.isNone then .ready else .done) jump))) := fun jump W3 hk3 => by
    have hl3 := hk3.block _ _ hl2 (.inr ⟨hBl, rfl⟩)
    have := run_endRound (P := P) jump hl3
    rw [hrec] at this ⊢
    exact ⟨this, by rw [hrec] at hl3; exact hl3, World.putObj_heap_same (Array.getElem?_eq_some_iff.1 hl3).1,
      fun d hd => (World.putObj_heap_other (hD d hd).2).trans (hk3.block _ _ (hX2 d hd) (.inr ⟨(hD d hd).1, rfl⟩))⟩
  have noS : ∀ {A C : World}, Rd B S A C → Rd B (fun _ => False) A C := fun h => ⟨h.os, h.tape, h.output, h.size, fun k o ho hc => h.block k o ho (hc.imp False.elim id)⟩
  rintro e a3 W3 hp
  cases e with
  | normal =>
    obtain ⟨hk3, hi3⟩ := hp
    obtain ⟨hr, hl3, hl4, hk4⟩ := fin none W3 (noS hk3)
    refine ⟨_, _, hr, .inl ⟨rfl, ⟨hI _ _ _ hi3 (Moves.putObj _ _ hBl hl3 rfl), hl4, hk4⟩, ?_⟩⟩
    have g := grownBy_putObj' W3 l (.loop (rec (if (Option.none : Option Code).isNone then .ready else .done) Option.none))
    refine ⟨g.os.trans (hk3.os.trans (hg2.os.trans hk1.os)), g.tape.trans (hk3.tape.trans (hg2.tape.trans hk1.tape)), g.output.trans (hk3.output.trans (hg2.output.trans hk1.output)),
      Nat.le_trans (Nat.le_trans (Nat.le_trans hk1.size hg2.size) hk3.size) g.size, fun k o ho hc => ?_⟩
    have hkl : k ≠ l := by
      rcases hc with hc | hc
      · exact hSl k hc
      · omega
    have hc' : S k ∨ (B ≤ k ∧ o.isCells = false) := hc.imp id (fun c => ⟨by omega, c.2⟩)
    exact (World.putObj_heap_other hkl).trans (hk3.block k o ((ho2 k hkl).trans (hk1.block k o ho hc')) hc')
  | ret =>
    obtain ⟨hk3, hi3⟩ := hp
    obtain ⟨hr, hl3, hl4, hk4⟩ := fin (some .ret) W3 hk3
    exact ⟨_, _, hr, .inr ⟨rfl, .ret, hIx _ _ _ _ hi3 (Moves.putObj _ _ hBl hl3 rfl), hl4, hk4⟩⟩
  | exit id =>
    obtain ⟨hk3, hi3⟩ := hp
    obtain ⟨hr, hl3, hl4, hk4⟩ := fin (some (.exit id)) W3 hk3
    exact ⟨_, _, hr, .inr ⟨rfl, .exit id, hIx _ _ _ _ hi3 (Moves.putObj _ _ hBl hl3 rfl), hl4, hk4⟩⟩
  | goto t =>
    obtain ⟨hk3, hi3⟩ := hp
    obtain ⟨hr, hl3, hl4, hk4⟩ := fin (some (.goto t)) W3 hk3
    exact ⟨_, _, hr, .inr ⟨rfl, .goto t, hIx _ _ _ _ hi3 (Moves.putObj _ _ hBl hl3 rfl), hl4, hk4⟩⟩
  | panic ch => exact hp.elim
  | outgrown => exact hp.elim

/-- A LOOP OVER AN ITERATOR, outside every other one. -/
theorem range_outerU {α : Type} {P : Program} {g : Operand} {ps : Array Tmp} {assign body : Code} {Q : Exit → Act → World → Prop} {a : Act} {w : World}
    {gf : Nat} {lb : Array Value} (hg : a.eval g = .func (.func gf) #[] lb) (eg : Enters P gf)
    {encs : α → Array Value} {xs : List α} {S V : Nat → Prop} (hseq : IterU P gf lb encs xs S V w) (hps : ∀ x, (encs x).size = ps.size) 
    (I : List α → World → Prop) (Ix : Code → List α → World → Prop) (hI : ∀ s, Stab w.heap.size (fun _ => False) (I s)) (hIx : ∀ c s, Stab w.heap.size (fun _ => False) (Ix c s)) (h0 : I [] w)
    (hround : ∀ l pre x suf W, xs = pre ++ x :: suf → w.heap.size < l → I pre W → (∃ r, W.heap[l]? = some (.loop r)) →
      assign.wpIn (Fence.wide.inRound l) 9 P (Exit.then (rdThen l P w.heap.size (fun k => ¬ V k ∧ k ≠ l) I Ix (pre ++ [x]) body W) (fun _ _ _ => False))
      { tmps := (ps.zip (encs x)).foldl (fun t (p, v) => t.setIfInBounds p v) a.tmps, defers := [] } W)
    (hdone : ∀ W, I xs W → W.heap[w.heap.size]? = some (.deferred (some [])) → Q .normal { a with defers := { target := .collected w.heap.size, args := #[] } :: a.defers } W)
    (hstop : ∀ c pre x suf W, xs = pre ++ x :: suf → Ix c (pre ++ [x]) W → W.heap[w.heap.size]? = some (.deferred (some [])) → c.wpIn Fence.wide 9 P Q { a with defers := { target := .collected w.heap.size, args := #[] } :: a.defers } W) :
    (Code.rangeFunc g ps assign body).wpIn Fence.wide 9 P Q a w := by
  refine wpIn_rangeFunc ?_
  intro fn hfn
  obtain ⟨rec, hrec⟩ : ∃ rec : LoopState → Option Code → Loop, rec = fun st pe => { state := st, pending := pe, fn, tmps := a.tmps, params := ps, assign, body, defers := w.heap.size } := ⟨_, rfl⟩
  obtain ⟨W1, hW1⟩ : ∃ W1, (w.alloc (.deferred (some []))).alloc (.loop (rec .ready none)) = W1 := ⟨_, rfl⟩
  have hL1 : W1.heap[w.heap.size + 1]? = some (.loop (rec .ready none)) := by
    rw [← hW1]; have := World.alloc_heap_new (w.alloc (.deferred (some []))) (.loop (rec .ready none)); rwa [World.size_alloc] at this
  have hK1 : W1.heap[w.heap.size]? = some (.deferred (some [])) := by
    rw [← hW1]; exact (Below.heap_alloc _ _ _ (by simp)).trans (World.alloc_heap_new w _)
  have hsz : W1.heap.size = w.heap.size + 2 := by rw [← hW1]; simp
  have hb1 : Below w.heap.size w W1 := by
    rw [← hW1]; exact ((Below.refl _ w).alloc (Nat.le_refl _) _).alloc (by simp) _
  refine ⟨w.heap.size + 1, [{ target := .collected w.heap.size, args := #[] }], W1, { target := .fn (.func gf) lb, args := #[.func (.yield (w.heap.size + 1)) #[] #[]] }, W1, gf,
    #[.func (.yield (w.heap.size + 1)) #[] #[]] ++ lb, W1, ?_, ?_, ?_, ?_, fun _ => by omega, ?_⟩
  · rw [← hW1, hrec]; exact run_enterLoop_outer _ _ _ _ _
  · simp only [resolve, hg]
    simp [go_sem]
  · intro f' hf'; exact trivial
  · simp [invoke, go_sem, eg _ _]
  · have hJS : ∀ {r : Loop} {p : World → Prop}, Stab w.heap.size (fun _ => False) p → Stab W1.heap.size (fun _ => False) (fun W => p W ∧ W.heap[w.heap.size + 1]? = some (.loop r) ∧ heldD (some w.heap.size) W) := fun {r p} hp W W' h hm =>
      ⟨hp W W' h.1 (hm.up (by omega)), hm.block _ _ h.2.1 (fun ht => ht) (.inl (by omega)),
        fun d hd => by cases hd; exact hm.block _ _ (h.2.2 _ rfl) (fun ht => ht) (.inl (by omega))⟩
    refine callsIn_wide_n ((hseq (w.heap.size + 1)
      (fun pre W => I pre W ∧ W.heap[w.heap.size + 1]? = some (.loop (rec .ready none)) ∧ heldD (some w.heap.size) W)
      (fun pre W => ∃ c, Ix c pre W ∧ W.heap[w.heap.size + 1]? = some (.loop (rec .done (some c))) ∧ heldD (some w.heap.size) W)
      W1 (.below hb1) (by omega) (by omega) (fun s => hJS (hI s)) (fun s => Stab.ex fun c => hJS (hIx c s)) ?_ ⟨hI _ _ _ h0 (.below hb1), hL1, fun d hd => by cases hd; exact hK1⟩).mono ?_)
    · rintro pre x suf W hx ⟨hi, hl, hk⟩
      exact range_roundU rec hrec hps (by omega) (by omega) (fun k hk => hk.2) (fun d hd => by cases hd; omega) I Ix hI hIx pre x W (fun hi' hl' => hround _ pre x suf W hx (by omega) hi' hl') hi hl hk
    · rintro e W2 ⟨⟨v, rfl⟩, (⟨hi, hl, hk⟩ | ⟨pre, x, suf, hx, c, hi, hl, hk⟩)⟩
      · exact ⟨none, _, by have := run_endLoop (P := P) hl (by rw [hrec]; simp); rw [hrec] at this; exact this,
          hdone _ (hI _ _ _ hi (Moves.putObj _ _ (by omega) hl rfl)) ((World.putObj_heap_other (by omega)).trans (hk _ rfl))⟩
      · exact ⟨some c, _, by have := run_endLoop (P := P) hl (by rw [hrec]; simp); rw [hrec] at this; exact this,
          hstop c pre x suf _ hx (hIx c _ _ _ hi (Moves.putObj _ _ (by omega) hl rfl)) ((World.putObj_heap_other (by omega)).trans (hk _ rfl))⟩


end Go.Proofs.YtoieacmipejfeaaGreatDoor

/- An iterator that reads blocks of its own, made before its first round: the rounds keep all that lay then but the blocks of V, and may grow what they have made since; the protocol, and the law of a loop over it; no program is named here. -/
namespace Go.Proofs.YtoieacmipejfeaaGreatDoor
set_option linter.unusedVariables false
open Go.RowKit Go.Shelf

/-- As IterU; the blocks from B1 on are the rounds' own. -/
def IterV (P : Program) (g : Nat) (lb : Array Value) {α : Type} (encs : α → Array Value) (xs : List α) (S V : Nat → Prop) (w0 : World) : Prop :=
  ∀ (l : Nat) (J : Nat → List α → World → Prop) (Jx : List α → World → Prop) (W : World), Rd w0.heap.size S w0 W → w0.heap.size ≤ l → l < W.heap.size → (∀ B1 s, Stab W.heap.size (fun _ => False) (J B1 s)) → (∀ s, Stab W.heap.size (fun _ => False) (Jx s)) →
    (∀ B1 pre x suf W1, W.heap.size ≤ B1 → xs = pre ++ x :: suf → J B1 pre W1 → YieldAt Fence.wide 9 P l (encs x) W1 fun e W' =>
      (e = .returned (.bool true) ∧ J B1 (pre ++ [x]) W' ∧ Rd W.heap.size (fun k => (k < B1 ∧ ¬ V k) ∧ k ≠ l) W1 W') ∨ (e = .returned (.bool false) ∧ Jx (pre ++ [x]) W')) →
    (∀ W1, Below W.heap.size W W1 → J W1.heap.size [] W1) →
    CallsIn Fence.wide 9 P g (#[.func (.yield l) #[] #[]] ++ lb) W fun e W' => (∃ v, e = .returned v) ∧ ((∃ B1, W.heap.size ≤ B1 ∧ J B1 xs W') ∨ (∃ pre x suf, xs = pre ++ x :: suf ∧ Jx (pre ++ [x]) W'))

/-- A LOOP OVER AN ITERATOR, outside every other one. -/
theorem range_outerV {α : Type} {P : Program} {g : Operand} {ps : Array Tmp} {assign body : Code} {Q : Exit → Act → World → Prop} {a : Act} {w : World}
    {gf : Nat} {lb : Array Value} (hg : a.eval g = .func (.func gf) #[] lb) (eg : Enters P gf)
    {encs : α → Array Value} {xs : List α} {S V : Nat → Prop} (hseq : IterV P gf lb encs xs S V w) (hps : ∀ x, (encs x).size = ps.size) 
    (I : Nat → List α → World → Prop) (Ix : Code → List α → World → Prop) (hI : ∀ B1 s, Stab w.heap.size (fun _ => False) (I B1 s)) (hIx : ∀ c s, Stab w.heap.size (fun _ => False) (Ix c s)) (h0 : ∀ W1, Below w.heap.size w W1 → I W1.heap.size [] W1)
    (hround : ∀ B1 l pre x suf W, w.heap.size < B1 → xs = pre ++ x :: suf → w.heap.size < l → I B1 pre W → (∃ r, W.heap[l]? = some (.loop r)) →
      assign.wpIn (Fence.wide.inRound l) 9 P (Exit.then (rdThen l P w.heap.size (fun k => (k < B1 ∧ ¬ V k) ∧ k ≠ l) (I B1) Ix (pre ++ [x]) body W) (fun _ _ _ => False))
      { tmps := (ps.zip (encs x)).foldl (fun t (p, v) => t.setIfInBounds p v) a.tmps, defers := [] } W)
    (hdone : ∀ B1 W, w.heap.size < B1 → I B1 xs W → W.heap[w.heap.size]? = some (.deferred (some [])) → Q .normal { a with defers := { target := .collected w.heap.size, args := #[] } :: a.defers } W)
    (hstop : ∀ c pre x suf W, xs = pre ++ x :: suf → Ix c (pre ++ [x]) W → W.heap[w.heap.size]? = some (.deferred (some [])) → c.wpIn Fence.wide 9 P Q { a with defers := { target := .collected w.heap.size, args := #[] } :: a.defers } W) :
    (Code.rangeFunc g ps assign body).wpIn Fence.wide 9 P Q a w := by
  refine wpIn_rangeFunc ?_
  intro fn hfn
  obtain ⟨rec, hrec⟩ : ∃ rec : LoopState → Option Code → Loop, rec = fun st pe => { state := st, pending := pe, fn, tmps := a.tmps, params := ps, assign, body, defers := w.heap.size } := ⟨_, rfl⟩
  obtain ⟨W1, hW1⟩ : ∃ W1, (w.alloc (.deferred (some []))).alloc (.loop (rec .ready none)) = W1 := ⟨_, rfl⟩
  have hL1 : W1.heap[w.heap.size + 1]? = some (.loop (rec .ready none)) := by
    rw [← hW1]; have := World.alloc_heap_new (w.alloc (.deferred (some []))) (.loop (rec .ready none)); rwa [World.size_alloc] at this
  have hK1 : W1.heap[w.heap.size]? = some (.deferred (some [])) := by
    rw [← hW1]; exact (Below.heap_alloc _ _ _ (by simp)).trans (World.alloc_heap_new w _)
  have hsz : W1.heap.size = w.heap.size + 2 := by rw [← hW1]; simp
  have hb1 : Below w.heap.size w W1 := by
    rw [← hW1]; exact ((Below.refl _ w).alloc (Nat.le_refl _) _).alloc (by simp) _
  refine ⟨w.heap.size + 1, [{ target := .collected w.heap.size, args := #[] }], W1, { target := .fn (.func gf) lb, args := #[.func (.yield (w.heap.size + 1)) #[] #[]] }, W1, gf,
    #[.func (.yield (w.heap.size + 1)) #[] #[]] ++ lb, W1, ?_, ?_, ?_, ?_, fun _ => by omega, ?_⟩
  · rw [← hW1, hrec]; exact run_enterLoop_outer _ _ _ _ _
  · simp only [resolve, hg]
    simp [go_sem]
  · intro f' hf'; exact trivial
  · simp [invoke, go_sem, eg _ _]
  · have hJS : ∀ {r : Loop} {p : World → Prop}, Stab w.heap.size (fun _ => False) p → Stab W1.heap.size (fun _ => False) (fun W => p W ∧ W.heap[w.heap.size + 1]? = some (.loop r) ∧ heldD (some w.heap.size) W) := fun {r p} hp W W' h hm =>
      ⟨hp W W' h.1 (hm.up (by omega)), hm.block _ _ h.2.1 (fun ht => ht) (.inl (by omega)),
        fun d hd => by cases hd; exact hm.block _ _ (h.2.2 _ rfl) (fun ht => ht) (.inl (by omega))⟩
    refine callsIn_wide_n ((hseq (w.heap.size + 1)
      (fun B1 pre W => I B1 pre W ∧ W.heap[w.heap.size + 1]? = some (.loop (rec .ready none)) ∧ heldD (some w.heap.size) W)
      (fun pre W => ∃ c, Ix c pre W ∧ W.heap[w.heap.size + 1]? = some (.loop (rec .done (some c))) ∧ heldD (some w.heap.size) W)
      W1 (.below hb1) (by omega) (by omega) (fun B1 s => hJS (hI B1 s)) (fun s => Stab.ex fun c => hJS (hIx c s)) ?_ (fun W5 hb5 => ⟨h0 W5 (hb1.trans (hb5.mono (by omega))), (hb5.block _ (by omega)).trans hL1, fun d hd => by cases hd; exact (hb5.block _ (by omega)).trans hK1⟩)).mono ?_)
    · rintro B1 pre x suf W hB1 hx ⟨hi, hl, hk⟩
      exact range_roundU rec hrec hps (by omega) (by omega) (fun k hk => hk.2) (fun d hd => by cases hd; omega) (I B1) Ix (hI B1) hIx pre x W (fun hi' hl' => hround B1 _ pre x suf W (by omega) hx (by omega) hi' hl') hi hl hk
    · rintro e W2 ⟨⟨v, rfl⟩, (⟨B1, hB1, hi, hl, hk⟩ | ⟨pre, x, suf, hx, c, hi, hl, hk⟩)⟩
      · exact ⟨none, _, by have := run_endLoop (P := P) hl (by rw [hrec]; simp); rw [hrec] at this; exact this,
          hdone B1 _ (by omega) (hI _ _ _ _ hi (Moves.putObj _ _ (by omega) hl rfl)) ((World.putObj_heap_other (by omega)).trans (hk _ rfl))⟩
      · exact ⟨some c, _, by have := run_endLoop (P := P) hl (by rw [hrec]; simp); rw [hrec] at this; exact this,
          hstop c pre x suf _ hx (hIx c _ _ _ hi (Moves.putObj _ _ (by omega) hl rfl)) ((World.putObj_heap_other (by omega)).trans (hk _ rfl))⟩


end Go.Proofs.YtoieacmipejfeaaGreatDoor
