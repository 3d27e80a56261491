/- An iterator that makes blocks of its own and turns them as it goes: what the loop holds may not speak of any block from its beginning on; each element comes with what holds of it then, and what holds at the end is told; the protocol, and the law of a loop over it; no program is named here. -/
import Derived.Test.YthedmemkckclpaaGreatIterK
namespace Go.Proofs.YthedmemkckclpaaGreat
set_option linter.unusedVariables false
open Go.RowKit Go.Shelf

/-- The loop's own boxes: one cell each, no map. -/
def oneBox (V : Nat → Prop) (W : World) : Prop := ∀ k, V k → ∃ v T, W.heap[k]? = some (.cells #[v] T (0, 0)) ∧ ∀ m, v ≠ .map m
/-- As IterU; the elements are known as it goes (Nx), what it ends with is told (Fin); what the loop holds abides whatever happens to blocks from its beginning on. -/
def IterW (P : Program) (g : Nat) (lb : Array Value) {α : Type} (encs : α → Array Value) (Nx : List α → α → World → Prop) (Fin : List α → World → Prop) (S V : Nat → Prop) (w0 : World) : Prop :=
  ∀ (l : Nat) (J Jx : List α → World → Prop) (W : World), Rd w0.heap.size S w0 W → w0.heap.size ≤ l → l < W.heap.size → (∀ s, Stab W.heap.size (fun k => W.heap.size ≤ k) (J s)) → (∀ s W1, J s W1 → oneBox V W1 ∧ ∃ r, W1.heap[l]? = some (.loop r)) →
    (∀ pre x W1, J pre W1 → Nx pre x W1 → YieldAt Fence.wide 9 P l (encs x) W1 fun e W' =>
      (e = .returned (.bool true) ∧ J (pre ++ [x]) W' ∧ Rd W.heap.size (fun k => ¬ V k ∧ k ≠ l) W1 W') ∨ (e = .returned (.bool false) ∧ Jx (pre ++ [x]) W')) →
    J [] W →
    CallsIn Fence.wide 9 P g (#[.func (.yield l) #[] #[]] ++ lb) W fun e W' => (∃ v, e = .returned v) ∧ ((∃ xs, Fin xs W' ∧ J xs W') ∨ (∃ pre x, Jx (pre ++ [x]) W'))
theorem Moves.old {B : Nat} {W W' : World} (h : Moves B (fun _ => False) W W') : Moves B (fun k => B ≤ k) W W' := ⟨h.os, h.tape, h.output, h.size, fun k o ho _ hc => h.block k o ho id hc⟩
theorem Stab.old {B : Nat} {p : World → Prop} (h : Stab B (fun k => B ≤ k) p) : Stab B (fun _ => False) p := fun W W' hp hm => h W W' hp hm.old
/-- What abides the turn of a loop's record that lies at B or beyond. -/
def Abides (B : Nat) (p : World → Prop) : Prop := ∀ W l r o', B ≤ l → p W → W.heap[l]? = some (.loop r) → p (W.putObj l o')
theorem Abides.and {B : Nat} {p q : World → Prop} (h : Abides B p) (k : Abides B q) : Abides B (fun W => p W ∧ q W) := fun W l r o' hl hp hr => ⟨h W l r o' hl hp.1 hr, k W l r o' hl hp.2 hr⟩
theorem Abides.pure {B : Nat} (p : Prop) : Abides B (fun _ => p) := fun _ _ _ _ _ hp _ => hp
theorem Abides.ex {B : Nat} {β : Sort _} {p : β → World → Prop} (h : ∀ b, Abides B (p b)) : Abides B (fun W => ∃ b, p b W) := fun W l r o' hl ⟨b, hb⟩ hr => ⟨b, h b W l r o' hl hb hr⟩
theorem Abides.cells {B k : Nat} {c : Array Value} {T : TypeId} {f : Nat × Nat} : Abides B (fun W => W.heap[k]? = some (.cells c T f)) := fun W l r o' hl hp hr =>
  (World.putObj_heap_other (fun e => by rw [e, hr] at hp; cases hp)).trans hp
theorem Abides.of_stab {B : Nat} {p : World → Prop} (h : Stab B (fun _ => False) p) : Abides B p := fun W l r o' hl hp hr => h _ _ hp (Moves.putObj _ _ hl hr rfl)
theorem frame_putObj (W : World) (l : Nat) (o' : Obj) : FrameT (fun k => k = l) W (W.putObj l o') := by
  have g := grownBy_putObj' W l o'
  exact ⟨g.os, g.tape, g.output, g.size, fun k hk hT => World.putObj_heap_other hT⟩
/-- As rdThen. -/
def rdThenW {α : Type} (l : Nat) (P : Program) (B : Nat) (S : Nat → Prop) (I : List α → World → Prop) (Ix : Code → List α → World → Prop) (xs : List α) (body : Code) (W : World) (a : Act) (W1 : World) : Prop :=
  Rd B S W W1 ∧ ∃ p : World → Prop, Abides B p ∧ p W1 ∧ ∀ W2, p W2 → (∃ r, W2.heap[l]? = some (.loop r)) → body.wpIn (Fence.wide.inRound l) 9 P (rdEnd B S I Ix xs W2) a W2
theorem rdThenW_mk {α : Type} {l : Nat} {P : Program} {B : Nat} {S : Nat → Prop} {I : List α → World → Prop} {Ix : Code → List α → World → Prop} {xs : List α} {body : Code} {W : World} {a : Act} {W1 : World}
    (p : World → Prop) (hp : Abides B p) (h1 : p W1) (h : Rd B S W W1) (hb : ∀ W2, p W2 → (∃ r, W2.heap[l]? = some (.loop r)) → body.wpIn (Fence.wide.inRound l) 9 P (rdEnd B S I Ix xs W2) a W2) :
    rdThenW l P B S I Ix xs body W a W1 := ⟨h, p, hp, h1, hb⟩
/-- As range_roundU, where what is left behind need but abide the turn of a loop's record. ONE ROUND of a loop whose record lies at l, out of the walks of its assignment and its body. -/
theorem range_roundW {α : Type} {P : Program} {ps : Array Tmp} {assign body : Code} {tmps : Array Value} {fn : FuncId} {l dd B B1 : Nat} {D : Option Nat} (rec : LoopState → Option Code → Loop)
    (hrec : rec = fun st pe => { state := st, pending := pe, fn, tmps, params := ps, assign, body, defers := dd })
    {encs : α → Array Value} {S T : Nat → Prop} (hps : ∀ x, (encs x).size = ps.size) (hBl : B ≤ l) (hlB : l < B1) (hSl : ∀ k, S k → k ≠ l) (hD : ∀ d, D = some d → B ≤ d ∧ d ≠ l)
    (I : List α → World → Prop) (Ix : Code → List α → World → Prop) (hI : ∀ s, Stab B T (I s)) (hIx : ∀ c s, Abides B (Ix c s))
    (pre : List α) (x : α) (W : World)
    (hround : I pre W → (∃ r, W.heap[l]? = some (.loop r)) → assign.wpIn (Fence.wide.inRound l) 9 P (Exit.then (rdThenW l P B S I Ix (pre ++ [x]) body W) (fun _ _ _ => False))
      { tmps := (ps.zip (encs x)).foldl (fun t (p, v) => t.setIfInBounds p v) tmps, defers := [] } W)
    (hi : I pre W) (hl : W.heap[l]? = some (.loop (rec .ready none))) (hXW : heldD D W) :
    YieldAt Fence.wide 9 P l (encs x) W fun e W' =>
      (e = .returned (.bool true) ∧ (I (pre ++ [x]) W' ∧ W'.heap[l]? = some (.loop (rec .ready none)) ∧ heldD D W') ∧ Rd B1 S W W') ∨
      (e = .returned (.bool false) ∧ ∃ c, Ix c (pre ++ [x]) W' ∧ W'.heap[l]? = some (.loop (rec .done (some c))) ∧ heldD D W') := by
  have hy := run_yield (P := P) (args := encs x) hl (by rw [hrec]; exact hps x)
  rw [hrec] at hy
  refine ⟨fn, _, assign, body, hy, roundIn_of_wpIn trivial (wpIn_mono (hround hi ⟨_, hl⟩) ?_)⟩
  clear hy
  rintro e a1 W1 hp
  cases e <;> try exact hp.elim
  obtain ⟨hk1, p, hpS, hp1, hb⟩ := hp
  have hl1 : W1.heap[l]? = some (.loop (rec .ready none)) := hk1.block _ _ hl (.inr ⟨hBl, rfl⟩)
  have hX1 : heldD D W1 := fun d hd => hk1.block _ _ (hXW d hd) (.inr ⟨(hD d hd).1, rfl⟩)
  have hlt1 : l < W1.heap.size := (Array.getElem?_eq_some_iff.1 hl1).1
  refine ⟨_, run_beginRound hl1 (by rw [hrec]), ?_⟩
  obtain ⟨W2, hW2⟩ : ∃ W2, W1.putObj l (.loop { rec .ready none with state := .busy }) = W2 := ⟨_, rfl⟩
  have hl2 : W2.heap[l]? = some (.loop { rec .ready none with state := .busy }) := by rw [← hW2]; exact World.putObj_heap_same hlt1
  have hX2 : heldD D W2 := fun d hd => by rw [← hW2]; exact (World.putObj_heap_other (hD d hd).2).trans (hX1 d hd)
  have hp2 : p W2 := by rw [← hW2]; exact hpS _ _ _ _ hBl hp1 hl1
  have ho2 : ∀ k, k ≠ l → W2.heap[k]? = W1.heap[k]? := fun k hk => by rw [← hW2]; exact World.putObj_heap_other hk
  rw [hW2]
  have hg2 := hW2 ▸ grownBy_putObj' W1 l (.loop { rec .ready none with state := .busy })
  refine wpIn_mono (hb W2 hp2 ⟨_, hl2⟩) ?_
  clear hW2 hb
  have fin : ∀ (jump : Option Code) (W3 : World), Rd B (fun _ => False) W2 W3 →
      (Instr.endRound l jump).run P W3 = .ok (.bool jump.isNone) (W3.putObj l (.loop (rec (if jump.isNone then .ready else .done) jump))) ∧
      W3.heap[l]? = some (.loop { rec .ready none with state := .busy }) ∧
      (W3.putObj l (.loop (rec (if jump.isNone then .ready else .done) jump))).heap[l]? = some (.loop (rec (if jump.isNone then .ready else .done) jump)) ∧
      heldD D (W3.putObj l (.loop (rec (if jump.isNone then .ready else .done) jump))) := fun jump W3 hk3 => by
    have hl3 := hk3.block _ _ hl2 (.inr ⟨hBl, rfl⟩)
    have := run_endRound (P := P) jump hl3
    rw [hrec] at this ⊢
    exact ⟨this, by rw [hrec] at hl3; exact hl3, World.putObj_heap_same (Array.getElem?_eq_some_iff.1 hl3).1,
      fun d hd => (World.putObj_heap_other (hD d hd).2).trans (hk3.block _ _ (hX2 d hd) (.inr ⟨(hD d hd).1, rfl⟩))⟩
  have noS : ∀ {A C : World}, Rd B S A C → Rd B (fun _ => False) A C := fun h => ⟨h.os, h.tape, h.output, h.size, fun k o ho hc => h.block k o ho (hc.imp False.elim id)⟩
  rintro e a3 W3 hp
  cases e with
  | normal =>
    obtain ⟨hk3, hi3⟩ := hp
    obtain ⟨hr, hl3, hl4, hk4⟩ := fin none W3 (noS hk3)
    refine ⟨_, _, hr, .inl ⟨rfl, ⟨hI _ _ _ hi3 (Moves.putObj _ _ hBl hl3 rfl), hl4, hk4⟩, ?_⟩⟩
    have g := grownBy_putObj' W3 l (.loop (rec (if (Option.none : Option Code).isNone then .ready else .done) Option.none))
    refine ⟨g.os.trans (hk3.os.trans (hg2.os.trans hk1.os)), g.tape.trans (hk3.tape.trans (hg2.tape.trans hk1.tape)), g.output.trans (hk3.output.trans (hg2.output.trans hk1.output)),
      Nat.le_trans (Nat.le_trans (Nat.le_trans hk1.size hg2.size) hk3.size) g.size, fun k o ho hc => ?_⟩
    have hkl : k ≠ l := by
      rcases hc with hc | hc
      · exact hSl k hc
      · omega
    have hc' : S k ∨ (B ≤ k ∧ o.isCells = false) := hc.imp id (fun c => ⟨by omega, c.2⟩)
    exact (World.putObj_heap_other hkl).trans (hk3.block k o ((ho2 k hkl).trans (hk1.block k o ho hc')) hc')
  | ret =>
    obtain ⟨hk3, hi3⟩ := hp
    obtain ⟨hr, hl3, hl4, hk4⟩ := fin (some .ret) W3 hk3
    exact ⟨_, _, hr, .inr ⟨rfl, .ret, hIx _ _ _ _ _ _ hBl hi3 hl3, hl4, hk4⟩⟩
  | exit id =>
    obtain ⟨hk3, hi3⟩ := hp
    obtain ⟨hr, hl3, hl4, hk4⟩ := fin (some (.exit id)) W3 hk3
    exact ⟨_, _, hr, .inr ⟨rfl, .exit id, hIx _ _ _ _ _ _ hBl hi3 hl3, hl4, hk4⟩⟩
  | goto t =>
    obtain ⟨hk3, hi3⟩ := hp
    obtain ⟨hr, hl3, hl4, hk4⟩ := fin (some (.goto t)) W3 hk3
    exact ⟨_, _, hr, .inr ⟨rfl, .goto t, hIx _ _ _ _ _ _ hBl hi3 hl3, hl4, hk4⟩⟩
  | panic ch => exact hp.elim
  | outgrown => exact hp.elim

/-- A LOOP OVER SUCH AN ITERATOR, outside every other one. -/
theorem range_outerW {α : Type} {P : Program} {g : Operand} {ps : Array Tmp} {assign body : Code} {Q : Exit → Act → World → Prop} {a : Act} {w : World}
    {gf : Nat} {lb : Array Value} (hg : a.eval g = .func (.func gf) #[] lb) (eg : Enters P gf)
    {encs : α → Array Value} {Nx : List α → α → World → Prop} {Fin : List α → World → Prop} {S V : Nat → Prop} (hseq : IterW P gf lb encs Nx Fin S V w) (hps : ∀ x, (encs x).size = ps.size) (hF : ∀ xs, Abides w.heap.size (Fin xs))
    (I : List α → World → Prop) (Ix : Code → List α → World → Prop) (hI : ∀ s, Stab w.heap.size (fun k => w.heap.size ≤ k) (I s)) (hIx : ∀ c s, Abides w.heap.size (Ix c s)) (hV : ∀ s W, I s W → oneBox V W) (h0 : I [] w)
    (hround : ∀ l pre x W, Nx pre x W → w.heap.size < l → I pre W → (∃ r, W.heap[l]? = some (.loop r)) →
      assign.wpIn (Fence.wide.inRound l) 9 P (Exit.then (rdThenW l P w.heap.size (fun k => ¬ V k ∧ k ≠ l) I Ix (pre ++ [x]) body W) (fun _ _ _ => False))
      { tmps := (ps.zip (encs x)).foldl (fun t (p, v) => t.setIfInBounds p v) a.tmps, defers := [] } W)
    (hdone : ∀ xs W, Fin xs W → I xs W → W.heap[w.heap.size]? = some (.deferred (some [])) → Q .normal { a with defers := { target := .collected w.heap.size, args := #[] } :: a.defers } W)
    (hstop : ∀ c pre x W, Ix c (pre ++ [x]) W → W.heap[w.heap.size]? = some (.deferred (some [])) → c.wpIn Fence.wide 9 P Q { a with defers := { target := .collected w.heap.size, args := #[] } :: a.defers } W) :
    (Code.rangeFunc g ps assign body).wpIn Fence.wide 9 P Q a w := by
  refine wpIn_rangeFunc ?_
  intro fn hfn
  obtain ⟨rec, hrec⟩ : ∃ rec : LoopState → Option Code → Loop, rec = fun st pe => { state := st, pending := pe, fn, tmps := a.tmps, params := ps, assign, body, defers := w.heap.size } := ⟨_, rfl⟩
  obtain ⟨W1, hW1⟩ : ∃ W1, (w.alloc (.deferred (some []))).alloc (.loop (rec .ready none)) = W1 := ⟨_, rfl⟩
  have hL1 : W1.heap[w.heap.size + 1]? = some (.loop (rec .ready none)) := by
    rw [← hW1]; have := World.alloc_heap_new (w.alloc (.deferred (some []))) (.loop (rec .ready none)); rwa [World.size_alloc] at this
  have hK1 : W1.heap[w.heap.size]? = some (.deferred (some [])) := by
    rw [← hW1]; exact (Below.heap_alloc _ _ _ (by simp)).trans (World.alloc_heap_new w _)
  have hsz : W1.heap.size = w.heap.size + 2 := by rw [← hW1]; simp
  have hb1 : Below w.heap.size w W1 := by
    rw [← hW1]; exact ((Below.refl _ w).alloc (Nat.le_refl _) _).alloc (by simp) _
  refine ⟨w.heap.size + 1, [{ target := .collected w.heap.size, args := #[] }], W1, { target := .fn (.func gf) lb, args := #[.func (.yield (w.heap.size + 1)) #[] #[]] }, W1, gf,
    #[.func (.yield (w.heap.size + 1)) #[] #[]] ++ lb, W1, ?_, ?_, ?_, ?_, fun _ => by omega, ?_⟩
  · rw [← hW1, hrec]; exact run_enterLoop_outer _ _ _ _ _
  · simp only [resolve, hg]
    simp [go_sem]
  · intro f' hf'; exact trivial
  · simp [invoke, go_sem, eg _ _]
  · have hJS : ∀ {r : Loop} {p : World → Prop}, Stab w.heap.size (fun k => w.heap.size ≤ k) p → Stab W1.heap.size (fun k => W1.heap.size ≤ k) (fun W => p W ∧ W.heap[w.heap.size + 1]? = some (.loop r) ∧ heldD (some w.heap.size) W) := fun {r p} hp W W' h hm =>
      ⟨hp W W' h.1 ⟨hm.os, hm.tape, hm.output, hm.size, fun k o ho hT hc => hm.block k o ho (by omega) (.inl (by omega))⟩, hm.block _ _ h.2.1 (by omega) (.inl (by omega)),
        fun d hd => by cases hd; exact hm.block _ _ (h.2.2 _ rfl) (by omega) (.inl (by omega))⟩
    have h01 : I [] W1 := hI _ _ _ h0 ⟨hb1.os, hb1.tape, hb1.output, hb1.size, fun k o ho hT hc => (hb1.block k (by omega)).trans ho⟩
    refine callsIn_wide_n ((hseq (w.heap.size + 1)
      (fun pre W => I pre W ∧ W.heap[w.heap.size + 1]? = some (.loop (rec .ready none)) ∧ heldD (some w.heap.size) W)
      (fun pre W => ∃ c, Ix c pre W ∧ W.heap[w.heap.size + 1]? = some (.loop (rec .done (some c))) ∧ heldD (some w.heap.size) W)
      W1 (.below hb1) (by omega) (by omega) (fun s => hJS (hI s)) (fun s W1 h => ⟨hV _ _ h.1, _, h.2.1⟩) ?_ ⟨h01, hL1, fun d hd => by cases hd; exact hK1⟩).mono ?_)
    · rintro pre x W ⟨hi, hl, hk⟩ hx
      exact range_roundW rec hrec hps (by omega) (by omega) (fun k hk => hk.2) (fun d hd => by cases hd; omega) I Ix (fun s => (hI s).old) hIx pre x W (fun hi' hl' => hround _ pre x W hx (by omega) hi' hl') hi hl hk
    · rintro e W2 ⟨⟨v, rfl⟩, (⟨xs, hx, hi, hl, hk⟩ | ⟨pre, x, c, hi, hl, hk⟩)⟩
      · exact ⟨none, _, by have := run_endLoop (P := P) hl (by rw [hrec]; simp); rw [hrec] at this; exact this,
          hdone xs _ (hF _ _ _ _ _ (by omega) hx hl) ((hI _).old _ _ hi (Moves.putObj _ _ (by omega) hl rfl)) ((World.putObj_heap_other (by omega)).trans (hk _ rfl))⟩
      · exact ⟨some c, _, by have := run_endLoop (P := P) hl (by rw [hrec]; simp); rw [hrec] at this; exact this,
          hstop c pre x _ (hIx c _ _ _ _ _ (by omega) hi hl) ((World.putObj_heap_other (by omega)).trans (hk _ rfl))⟩

end Go.Proofs.YthedmemkckclpaaGreat
