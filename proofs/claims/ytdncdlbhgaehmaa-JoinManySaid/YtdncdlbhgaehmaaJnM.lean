/- IterX, IterT, JnM, JnP, JnH, JnO, JnA, JnK, Known20: in one text. -/
import Derived.Test.YtdncdlbhgaehmaaIterK
import Derived.Test.YtdncdlbhgaehmaaLgK
import Derived.Stop.RegionWithIn
import Derived.Laws.Rows
import Derived.Test.YtdncdlbhgaehmaaLive
import Derived.Maps.OwnIn
/- An iterator that makes no block and only reads; the rounds may turn what it reads: what it knows is told by what the loop holds (K); the protocol, and the law of a loop over it; no program is named here. Printed by gen_iterx.py. -/
namespace Go.Proofs.Ytdncdlbhgaehmaa
set_option linter.unusedVariables false
open Go.RowKit Go.Shelf

/-- A loop's own record, or a deferred call's. -/
def isRec : Obj → Bool
  | .loop _ => true
  | .deferred _ => true
  | _ => false
/-- As Rd, but of what holds no cells only the records of loops are kept: a round may turn maps that were made since. -/
structure RdX (B : Nat) (S : Nat → Prop) (w w' : World) : Prop where
  os : w'.os = w.os
  tape : w'.tape = w.tape
  output : w'.output = w.output
  size : w.heap.size ≤ w'.heap.size
  block : ∀ k o, w.heap[k]? = some o → (S k ∨ (B ≤ k ∧ isRec o = true)) → w'.heap[k]? = some o
theorem RdX.refl (B : Nat) (S : Nat → Prop) (w : World) : RdX B S w w := ⟨rfl, rfl, rfl, Nat.le_refl _, fun _ _ h _ => h⟩
theorem RdX.trans {B : Nat} {S : Nat → Prop} {a b c : World} (h : RdX B S a b) (k : RdX B S b c) : RdX B S a c :=
  ⟨k.os.trans h.os, k.tape.trans h.tape, k.output.trans h.output, Nat.le_trans h.size k.size, fun i o ho hc => k.block i o (h.block i o ho hc) hc⟩
theorem RdX.below {B : Nat} {S : Nat → Prop} {W W' : World} (h : Below W.heap.size W W') : RdX B S W W' :=
  ⟨h.os, h.tape, h.output, h.size, fun k o ho _ => (h.block k (Array.getElem?_eq_some_iff.1 ho).1).trans ho⟩
theorem RdX.get {B : Nat} {S : Nat → Prop} {w w' : World} (h : RdX B S w w') {k : Nat} {o : Obj} (hk : w.heap[k]? = some o) (hS : S k) : w'.heap[k]? = some o := h.block k o hk (.inl hS)
theorem RdX.frame {B : Nat} {S Z : Nat → Prop} {w w' : World} (h : FrameT Z w w') (hS : ∀ k, S k → ¬ Z k) (hr : ∀ k o, Z k → w.heap[k]? = some o → B ≤ k → isRec o = false) : RdX B S w w' :=
  ⟨h.os, h.tape, h.output, h.size, fun k o ho hc => h.get ho (fun hz => hc.elim (fun hs => hS k hs hz) (fun hb => by have := hr k o hz ho hb.1; rw [this] at hb; exact absurd hb.2 (by simp)))⟩
theorem below_rdX {wE w0 W : World} {B0 : Nat} {S : Nat → Prop} (h0 : Below wE.heap.size wE w0) (hR : RdX B0 S w0 W) (hS : ∀ k, k < wE.heap.size → S k) : Below wE.heap.size wE W :=
  ⟨hR.os.trans h0.os, hR.tape.trans h0.tape, hR.output.trans h0.output, Nat.le_trans h0.size hR.size, fun k hk => by
    have h1 := h0.block k hk
    obtain ⟨o, ho⟩ : ∃ o, wE.heap[k]? = some o := ⟨_, Array.getElem?_eq_some_iff.2 ⟨hk, rfl⟩⟩
    rw [ho] at h1 ⊢
    exact hR.block k o h1 (.inl (hS k hk))⟩
/-- How a round's body may be left. -/
def rdEndX {α : Type} (B : Nat) (S : Nat → Prop) (I : List α → World → Prop) (Ix : Code → List α → World → Prop) (xs : List α) (W : World) : Exit → Act → World → Prop
  | .normal, _, W' => RdX B S W W' ∧ I xs W'
  | .ret, _, W' => RdX B (fun _ => False) W W' ∧ Ix .ret xs W'
  | .exit i, _, W' => RdX B (fun _ => False) W W' ∧ Ix (.exit i) xs W'
  | .goto i, _, W' => RdX B (fun _ => False) W W' ∧ Ix (.goto i) xs W'
  | _, _, _ => False
def IterX (P : Program) (g : Nat) (lb : Array Value) {α : Type} (encs : α → Array Value) (K : List α → World → Prop) (Nx : List α → α → Prop) (Fin : List α → Prop) (S : Nat → Prop) (w0 : World) : Prop :=
  ∀ (l : Nat) (J Jx : List α → World → Prop) (W : World), RdX w0.heap.size S w0 W → (∀ s W1, J s W1 → K s W1) →
    (∀ pre x W1, J pre W1 → Nx pre x → YieldAt Fence.wide 9 P l (encs x) W1 fun e W' =>
      (e = .returned (.bool true) ∧ J (pre ++ [x]) W' ∧ RdX W.heap.size S W1 W') ∨ (e = .returned (.bool false) ∧ Jx (pre ++ [x]) W')) →
    J [] W →
    CallsIn Fence.wide 9 P g (#[.func (.yield l) #[] #[]] ++ lb) W fun e W' => (∃ v, e = .returned v) ∧ ((∃ xs, Fin xs ∧ J xs W') ∨ (∃ pre x, Jx (pre ++ [x]) W'))
/-- What abides the turn of a loop's record that lies at B or beyond. -/
def AbidesX (B : Nat) (p : World → Prop) : Prop := ∀ W l r o', B ≤ l → p W → W.heap[l]? = some (.loop r) → p (W.putObj l o')
theorem AbidesX.and {B : Nat} {p q : World → Prop} (h : AbidesX B p) (k : AbidesX B q) : AbidesX B (fun W => p W ∧ q W) := fun W l r o' hl hp hr => ⟨h W l r o' hl hp.1 hr, k W l r o' hl hp.2 hr⟩
theorem AbidesX.pure {B : Nat} (p : Prop) : AbidesX B (fun _ => p) := fun _ _ _ _ _ hp _ => hp
theorem AbidesX.ex {B : Nat} {β : Sort _} {p : β → World → Prop} (h : ∀ b, AbidesX B (p b)) : AbidesX B (fun W => ∃ b, p b W) := fun W l r o' hl ⟨b, hb⟩ hr => ⟨b, h b W l r o' hl hb hr⟩
theorem AbidesX.cells {B k : Nat} {c : Array Value} {T : TypeId} {f : Nat × Nat} : AbidesX B (fun W => W.heap[k]? = some (.cells c T f)) := fun W l r o' hl hp hr =>
  (World.putObj_heap_other (fun e => by rw [e, hr] at hp; cases hp)).trans hp
theorem AbidesX.of_stab {B : Nat} {p : World → Prop} (h : Stab B (fun _ => False) p) : AbidesX B p := fun W l r o' hl hp hr => h _ _ hp (Moves.putObj _ _ hl hr rfl)
theorem frame_putObjX (W : World) (l : Nat) (o' : Obj) : FrameT (fun k => k = l) W (W.putObj l o') := by
  have g := grownBy_putObj' W l o'
  exact ⟨g.os, g.tape, g.output, g.size, fun k hk hT => World.putObj_heap_other hT⟩
/-- As rdThen. -/
def rdThenX {α : Type} (l : Nat) (P : Program) (B : Nat) (S : Nat → Prop) (I : List α → World → Prop) (Ix : Code → List α → World → Prop) (xs : List α) (body : Code) (W : World) (a : Act) (W1 : World) : Prop :=
  RdX B S W W1 ∧ ∃ p : World → Prop, AbidesX B p ∧ p W1 ∧ ∀ W2, p W2 → (∃ r, W2.heap[l]? = some (.loop r)) → body.wpIn (Fence.wide.inRound l) 9 P (rdEndX B S I Ix xs W2) a W2
theorem rdThenX_mk {α : Type} {l : Nat} {P : Program} {B : Nat} {S : Nat → Prop} {I : List α → World → Prop} {Ix : Code → List α → World → Prop} {xs : List α} {body : Code} {W : World} {a : Act} {W1 : World}
    (p : World → Prop) (hp : AbidesX B p) (h1 : p W1) (h : RdX B S W W1) (hb : ∀ W2, p W2 → (∃ r, W2.heap[l]? = some (.loop r)) → body.wpIn (Fence.wide.inRound l) 9 P (rdEndX B S I Ix xs W2) a W2) :
    rdThenX l P B S I Ix xs body W a W1 := ⟨h, p, hp, h1, hb⟩
/-- As range_roundU, where what is left behind need but abide the turn of a loop's record. ONE ROUND of a loop whose record lies at l, out of the walks of its assignment and its body. -/
theorem range_roundX {α : Type} {P : Program} {ps : Array Tmp} {assign body : Code} {tmps : Array Value} {fn : FuncId} {l dd B B1 : Nat} {D : Option Nat} (rec : LoopState → Option Code → Loop)
    (hrec : rec = fun st pe => { state := st, pending := pe, fn, tmps, params := ps, assign, body, defers := dd })
    {encs : α → Array Value} {S : Nat → Prop} (hps : ∀ x, (encs x).size = ps.size) (hBl : B ≤ l) (hlB : l < B1) (hSl : ∀ k, S k → k ≠ l) (hD : ∀ d, D = some d → B ≤ d ∧ d ≠ l)
    (I : List α → World → Prop) (Ix : Code → List α → World → Prop) (hI : ∀ s, AbidesX B (I s)) (hIx : ∀ c s, AbidesX B (Ix c s))
    (pre : List α) (x : α) (W : World)
    (hround : I pre W → (∃ r, W.heap[l]? = some (.loop r)) → assign.wpIn (Fence.wide.inRound l) 9 P (Exit.then (rdThenX l P B S I Ix (pre ++ [x]) body W) (fun _ _ _ => False))
      { tmps := (ps.zip (encs x)).foldl (fun t (p, v) => t.setIfInBounds p v) tmps, defers := [] } W)
    (hi : I pre W) (hl : W.heap[l]? = some (.loop (rec .ready none))) (hXW : heldD D W) :
    YieldAt Fence.wide 9 P l (encs x) W fun e W' =>
      (e = .returned (.bool true) ∧ (I (pre ++ [x]) W' ∧ W'.heap[l]? = some (.loop (rec .ready none)) ∧ heldD D W') ∧ RdX B1 S W W') ∨
      (e = .returned (.bool false) ∧ ∃ c, Ix c (pre ++ [x]) W' ∧ W'.heap[l]? = some (.loop (rec .done (some c))) ∧ heldD D W') := by
  have hy := run_yield (P := P) (args := encs x) hl (by rw [hrec]; exact hps x)
  rw [hrec] at hy
  refine ⟨fn, _, assign, body, hy, roundIn_of_wpIn trivial (wpIn_mono (hround hi ⟨_, hl⟩) ?_)⟩
  clear hy
  rintro e a1 W1 hp
  cases e <;> try exact hp.elim
  obtain ⟨hk1, p, hpS, hp1, hb⟩ := hp
  have hl1 : W1.heap[l]? = some (.loop (rec .ready none)) := hk1.block _ _ hl (.inr ⟨hBl, rfl⟩)
  have hX1 : heldD D W1 := fun d hd => hk1.block _ _ (hXW d hd) (.inr ⟨(hD d hd).1, rfl⟩)
  have hlt1 : l < W1.heap.size := (Array.getElem?_eq_some_iff.1 hl1).1
  refine ⟨_, run_beginRound hl1 (by rw [hrec]), ?_⟩
  obtain ⟨W2, hW2⟩ : ∃ W2, W1.putObj l (.loop { rec .ready none with state := .busy }) = W2 := ⟨_, rfl⟩
  have hl2 : W2.heap[l]? = some (.loop { rec .ready none with state := .busy }) := by rw [← hW2]; exact World.putObj_heap_same hlt1
  have hX2 : heldD D W2 := fun d hd => by rw [← hW2]; exact (World.putObj_heap_other (hD d hd).2).trans (hX1 d hd)
  have hp2 : p W2 := by rw [← hW2]; exact hpS _ _ _ _ hBl hp1 hl1
  have ho2 : ∀ k, k ≠ l → W2.heap[k]? = W1.heap[k]? := fun k hk => by rw [← hW2]; exact World.putObj_heap_other hk
  rw [hW2]
  have hg2 := hW2 ▸ grownBy_putObj' W1 l (.loop { rec .ready none with state := .busy })
  refine wpIn_mono (hb W2 hp2 ⟨_, hl2⟩) ?_
  clear hW2 hb
  have fin : ∀ (jump : Option Code) (W3 : World), RdX B (fun _ => False) W2 W3 →
      (Instr.endRound l jump).run P W3 = .ok (.bool jump.isNone) (W3.putObj l (.loop (rec (if jump.isNone then .ready else .done) jump))) ∧
      W3.heap[l]? = some (.loop { rec .ready none with state := .busy }) ∧
      (W3.putObj l (.loop (rec (if jump.isNone then .ready else .done) jump))).heap[l]? = some (.loop (rec (if jump.isNone then .ready else .done) jump)) ∧
      heldD D (W3.putObj l (.loop (rec (if jump.isNone then .ready else .done) jump))) := fun jump W3 hk3 => by
    have hl3 := hk3.block _ _ hl2 (.inr ⟨hBl, rfl⟩)
    have := run_endRound (P := P) jump hl3
    rw [hrec] at this ⊢
    exact ⟨this, by rw [hrec] at hl3; exact hl3, World.putObj_heap_same (Array.getElem?_eq_some_iff.1 hl3).1,
      fun d hd => (World.putObj_heap_other (hD d hd).2).trans (hk3.block _ _ (hX2 d hd) (.inr ⟨(hD d hd).1, rfl⟩))⟩
  have noS : ∀ {A C : World}, RdX B S A C → RdX B (fun _ => False) A C := fun h => ⟨h.os, h.tape, h.output, h.size, fun k o ho hc => h.block k o ho (hc.imp False.elim id)⟩
  rintro e a3 W3 hp
  cases e with
  | normal =>
    obtain ⟨hk3, hi3⟩ := hp
    obtain ⟨hr, hl3, hl4, hk4⟩ := fin none W3 (noS hk3)
    refine ⟨_, _, hr, .inl ⟨rfl, ⟨hI _ _ _ _ _ hBl hi3 hl3, hl4, hk4⟩, ?_⟩⟩
    have g := grownBy_putObj' W3 l (.loop (rec (if (Option.none : Option Code).isNone then .ready else .done) Option.none))
    refine ⟨g.os.trans (hk3.os.trans (hg2.os.trans hk1.os)), g.tape.trans (hk3.tape.trans (hg2.tape.trans hk1.tape)), g.output.trans (hk3.output.trans (hg2.output.trans hk1.output)),
      Nat.le_trans (Nat.le_trans (Nat.le_trans hk1.size hg2.size) hk3.size) g.size, fun k o ho hc => ?_⟩
    have hkl : k ≠ l := by
      rcases hc with hc | hc
      · exact hSl k hc
      · omega
    have hc' : S k ∨ (B ≤ k ∧ isRec o = true) := hc.imp id (fun c => ⟨by omega, c.2⟩)
    exact (World.putObj_heap_other hkl).trans (hk3.block k o ((ho2 k hkl).trans (hk1.block k o ho hc')) hc')
  | ret =>
    obtain ⟨hk3, hi3⟩ := hp
    obtain ⟨hr, hl3, hl4, hk4⟩ := fin (some .ret) W3 hk3
    exact ⟨_, _, hr, .inr ⟨rfl, .ret, hIx _ _ _ _ _ _ hBl hi3 hl3, hl4, hk4⟩⟩
  | exit id =>
    obtain ⟨hk3, hi3⟩ := hp
    obtain ⟨hr, hl3, hl4, hk4⟩ := fin (some (.exit id)) W3 hk3
    exact ⟨_, _, hr, .inr ⟨rfl, .exit id, hIx _ _ _ _ _ _ hBl hi3 hl3, hl4, hk4⟩⟩
  | goto t =>
    obtain ⟨hk3, hi3⟩ := hp
    obtain ⟨hr, hl3, hl4, hk4⟩ := fin (some (.goto t)) W3 hk3
    exact ⟨_, _, hr, .inr ⟨rfl, .goto t, hIx _ _ _ _ _ _ hBl hi3 hl3, hl4, hk4⟩⟩
  | panic ch => exact hp.elim
  | outgrown => exact hp.elim

/-- A LOOP OVER SUCH AN ITERATOR, outside every other one. -/
theorem range_outerX {α : Type} {P : Program} {g : Operand} {ps : Array Tmp} {assign body : Code} {Q : Exit → Act → World → Prop} {a : Act} {w : World}
    {gf : Nat} {lb : Array Value} (hg : a.eval g = .func (.func gf) #[] lb) (eg : Enters P gf)
    {encs : α → Array Value} {K : List α → World → Prop} {Nx : List α → α → Prop} {Fin : List α → Prop} {S : Nat → Prop} (hseq : IterX P gf lb encs K Nx Fin S w) (hps : ∀ x, (encs x).size = ps.size) (hS : ∀ k, S k → k < w.heap.size)
    (I : List α → World → Prop) (Ix : Code → List α → World → Prop) (hI : ∀ s, AbidesX w.heap.size (I s)) (hIx : ∀ c s, AbidesX w.heap.size (Ix c s)) (hK : ∀ s W, I s W → K s W) (h0 : ∀ W, Below w.heap.size w W → I [] W)
    (hround : ∀ l pre x W, Nx pre x → w.heap.size < l → I pre W → (∃ r, W.heap[l]? = some (.loop r)) →
      assign.wpIn (Fence.wide.inRound l) 9 P (Exit.then (rdThenX l P w.heap.size S I Ix (pre ++ [x]) body W) (fun _ _ _ => False))
      { tmps := (ps.zip (encs x)).foldl (fun t (p, v) => t.setIfInBounds p v) a.tmps, defers := [] } W)
    (hdone : ∀ xs W, Fin xs → I xs W → W.heap[w.heap.size]? = some (.deferred (some [])) → Q .normal { a with defers := { target := .collected w.heap.size, args := #[] } :: a.defers } W)
    (hstop : ∀ c pre x W, Ix c (pre ++ [x]) W → W.heap[w.heap.size]? = some (.deferred (some [])) → c.wpIn Fence.wide 9 P Q { a with defers := { target := .collected w.heap.size, args := #[] } :: a.defers } W) :
    (Code.rangeFunc g ps assign body).wpIn Fence.wide 9 P Q a w := by
  refine wpIn_rangeFunc ?_
  intro fn hfn
  obtain ⟨rec, hrec⟩ : ∃ rec : LoopState → Option Code → Loop, rec = fun st pe => { state := st, pending := pe, fn, tmps := a.tmps, params := ps, assign, body, defers := w.heap.size } := ⟨_, rfl⟩
  obtain ⟨W1, hW1⟩ : ∃ W1, (w.alloc (.deferred (some []))).alloc (.loop (rec .ready none)) = W1 := ⟨_, rfl⟩
  have hL1 : W1.heap[w.heap.size + 1]? = some (.loop (rec .ready none)) := by
    rw [← hW1]; have := World.alloc_heap_new (w.alloc (.deferred (some []))) (.loop (rec .ready none)); rwa [World.size_alloc] at this
  have hK1 : W1.heap[w.heap.size]? = some (.deferred (some [])) := by
    rw [← hW1]; exact (Below.heap_alloc _ _ _ (by simp)).trans (World.alloc_heap_new w _)
  have hsz : W1.heap.size = w.heap.size + 2 := by rw [← hW1]; simp
  have hb1 : Below w.heap.size w W1 := by
    rw [← hW1]; exact ((Below.refl _ w).alloc (Nat.le_refl _) _).alloc (by simp) _
  refine ⟨w.heap.size + 1, [{ target := .collected w.heap.size, args := #[] }], W1, { target := .fn (.func gf) lb, args := #[.func (.yield (w.heap.size + 1)) #[] #[]] }, W1, gf,
    #[.func (.yield (w.heap.size + 1)) #[] #[]] ++ lb, W1, ?_, ?_, ?_, ?_, fun _ => by omega, ?_⟩
  · rw [← hW1, hrec]; exact run_enterLoop_outer _ _ _ _ _
  · simp only [resolve, hg]
    simp [go_sem]
  · intro f' hf'; exact trivial
  · simp [invoke, go_sem, eg _ _]
  · have h01 : I [] W1 := h0 W1 hb1
    refine callsIn_wide_n ((hseq (w.heap.size + 1)
      (fun pre W => I pre W ∧ W.heap[w.heap.size + 1]? = some (.loop (rec .ready none)) ∧ heldD (some w.heap.size) W)
      (fun pre W => ∃ c, Ix c pre W ∧ W.heap[w.heap.size + 1]? = some (.loop (rec .done (some c))) ∧ heldD (some w.heap.size) W)
      W1 (.below hb1) (fun s W1 h => hK _ _ h.1) ?_ ⟨h01, hL1, fun d hd => by cases hd; exact hK1⟩).mono ?_)
    · rintro pre x W ⟨hi, hl, hk⟩ hx
      exact range_roundX rec hrec hps (by omega) (by omega) (fun k hk => by have := hS k hk; omega) (fun d hd => by cases hd; omega) I Ix hI hIx pre x W (fun hi' hl' => hround _ pre x W hx (by omega) hi' hl') hi hl hk
    · rintro e W2 ⟨⟨v, rfl⟩, (⟨xs, hx, hi, hl, hk⟩ | ⟨pre, x, c, hi, hl, hk⟩)⟩
      · exact ⟨none, _, by have := run_endLoop (P := P) hl (by rw [hrec]; simp); rw [hrec] at this; exact this,
          hdone xs _ hx (hI _ _ _ _ _ (by omega) hi hl) ((World.putObj_heap_other (by omega)).trans (hk _ rfl))⟩
      · exact ⟨some c, _, by have := run_endLoop (P := P) hl (by rw [hrec]; simp); rw [hrec] at this; exact this,
          hstop c pre x _ (hIx c _ _ _ _ _ (by omega) hi hl) ((World.putObj_heap_other (by omega)).trans (hk _ rfl))⟩

end Go.Proofs.Ytdncdlbhgaehmaa

/- An iterator that makes blocks of its own and reads what the rounds leave: the rounds turn but what the loop says (T: it grows by new blocks alone); the protocol, the law of a loop over it, outside every loop and within a round. Printed by gen_itert.py. -/
namespace Go.Proofs.Ytdncdlbhgaehmaa
set_option linter.unusedVariables false
open Go.RowKit Go.Shelf

def IterT (P : Program) (g : Nat) (lb : Array Value) {α : Type} (encs : α → Array Value) (K : World → Prop) (Nx : List α → α → World → Prop) (Fin : List α → Prop) (S : Nat → Prop) (w0 : World) : Prop :=
  ∀ (l : Nat) (J : List α → (Nat → Prop) → World → Prop) (Jx : List α → World → Prop) (W : World) (T0 : Nat → Prop), Below w0.heap.size w0 W →
    (∀ s T W1, J s T W1 → K W1 ∧ ∀ k, T k → k < W1.heap.size ∧ ¬ S k) →
    (∀ s T W1 W2, J s T W1 → Below W1.heap.size W1 W2 → J s T W2) →
    (∀ pre x T W1, J pre T W1 → Nx pre x W1 → YieldAt Fence.wide 9 P l (encs x) W1 fun e W' =>
      (e = .returned (.bool true) ∧ ∃ T', J (pre ++ [x]) T' W' ∧ FrameT T W1 W' ∧ ∀ k, T' k → T k ∨ W1.heap.size ≤ k) ∨ (e = .returned (.bool false) ∧ Jx (pre ++ [x]) W')) →
    J [] T0 W →
    CallsIn Fence.wide 9 P g (#[.func (.yield l) #[] #[]] ++ lb) W fun e W' => (∃ v, e = .returned v) ∧ ((∃ xs T, Fin xs ∧ J xs T W') ∨ (∃ pre x, Jx (pre ++ [x]) W'))
/-- How a round's body may be left. -/
def rdEndT {α : Type} (I : List α → (Nat → Prop) → World → Prop) (Ix : Code → List α → World → Prop) (T : Nat → Prop) (xs : List α) (W : World) : Exit → Act → World → Prop
  | .normal, _, W' => FrameT T W W' ∧ ∃ T', I xs T' W' ∧ ∀ k, T' k → T k ∨ W.heap.size ≤ k
  | .ret, _, W' => FrameT T W W' ∧ Ix .ret xs W'
  | .exit i, _, W' => FrameT T W W' ∧ Ix (.exit i) xs W'
  | .goto i, _, W' => FrameT T W W' ∧ Ix (.goto i) xs W'
  | _, _, _ => False
def rdThenT {α : Type} (l : Nat) (P : Program) (B : Nat) (I : List α → (Nat → Prop) → World → Prop) (Ix : Code → List α → World → Prop) (T : Nat → Prop) (xs : List α) (body : Code) (W : World) (a : Act) (W1 : World) : Prop :=
  Below W.heap.size W W1 ∧ ∃ p : World → Prop, AbidesX B p ∧ p W1 ∧ ∀ W2, p W2 → (∃ r, W2.heap[l]? = some (.loop r)) → body.wpIn (Fence.wide.inRound l) 9 P (rdEndT I Ix T xs W2) a W2
theorem rdThenT_mk {α : Type} {l : Nat} {P : Program} {B : Nat} {I : List α → (Nat → Prop) → World → Prop} {Ix : Code → List α → World → Prop} {T : Nat → Prop} {xs : List α} {body : Code} {W : World} {a : Act} {W1 : World}
    (p : World → Prop) (hp : AbidesX B p) (h1 : p W1) (h : Below W.heap.size W W1) (hb : ∀ W2, p W2 → (∃ r, W2.heap[l]? = some (.loop r)) → body.wpIn (Fence.wide.inRound l) 9 P (rdEndT I Ix T xs W2) a W2) :
    rdThenT l P B I Ix T xs body W a W1 := ⟨h, p, hp, h1, hb⟩
/-- Blocks that are no loop's record. -/
def noRecT (T : Nat → Prop) (W : World) : Prop := ∀ k, T k → ∀ o, W.heap[k]? = some o → isRec o = false
/-- ONE ROUND of a loop whose record lies at l. -/
theorem range_roundT {α : Type} {P : Program} {ps : Array Tmp} {assign body : Code} {tmps : Array Value} {fn : FuncId} {l dd B : Nat} {D : Option Nat} (rec : LoopState → Option Code → Loop)
    (hrec : rec = fun st pe => { state := st, pending := pe, fn, tmps, params := ps, assign, body, defers := dd })
    {encs : α → Array Value} (hps : ∀ x, (encs x).size = ps.size) (hBl : B ≤ l) (hD : ∀ d, D = some d → B ≤ d ∧ d ≠ l)
    (I : List α → (Nat → Prop) → World → Prop) (Ix : Code → List α → World → Prop) (hI : ∀ s T, AbidesX B (I s T)) (hIx : ∀ c s, AbidesX B (Ix c s)) (hR : ∀ s T W, I s T W → noRecT T W)
    (pre : List α) (x : α) (T : Nat → Prop) (W : World)
    (hround : I pre T W → (∃ r, W.heap[l]? = some (.loop r)) → assign.wpIn (Fence.wide.inRound l) 9 P (Exit.then (rdThenT l P B I Ix T (pre ++ [x]) body W) (fun _ _ _ => False))
      { tmps := (ps.zip (encs x)).foldl (fun t (p, v) => t.setIfInBounds p v) tmps, defers := [] } W)
    (hi : I pre T W) (hl : W.heap[l]? = some (.loop (rec .ready none))) (hXW : heldD D W) :
    YieldAt Fence.wide 9 P l (encs x) W fun e W' =>
      (e = .returned (.bool true) ∧ ∃ T', (I (pre ++ [x]) T' W' ∧ W'.heap[l]? = some (.loop (rec .ready none)) ∧ heldD D W') ∧ FrameT T W W' ∧ ∀ k, T' k → T k ∨ W.heap.size ≤ k) ∨
      (e = .returned (.bool false) ∧ ∃ c, Ix c (pre ++ [x]) W' ∧ W'.heap[l]? = some (.loop (rec .done (some c))) ∧ heldD D W') := by
  have hTl : ¬ T l := fun h => by have := hR _ _ _ hi l h _ hl; exact absurd this (by simp [isRec])
  have hTd : ∀ d, D = some d → ¬ T d := fun d hd h => by have := hR _ _ _ hi d h _ (hXW d hd); exact absurd this (by simp [isRec])
  have hlt0 : l < W.heap.size := (Array.getElem?_eq_some_iff.1 hl).1
  have hy := run_yield (P := P) (args := encs x) hl (by rw [hrec]; exact hps x)
  rw [hrec] at hy
  refine ⟨fn, _, assign, body, hy, roundIn_of_wpIn trivial (wpIn_mono (hround hi ⟨_, hl⟩) ?_)⟩
  clear hy
  rintro e a1 W1 hp
  cases e <;> try exact hp.elim
  obtain ⟨hk1, p, hpS, hp1, hb⟩ := hp
  have hl1 : W1.heap[l]? = some (.loop (rec .ready none)) := (hk1.block _ hlt0).trans hl
  have hX1 : heldD D W1 := fun d hd => (hk1.block _ (Array.getElem?_eq_some_iff.1 (hXW d hd)).1).trans (hXW d hd)
  have hlt1 : l < W1.heap.size := (Array.getElem?_eq_some_iff.1 hl1).1
  refine ⟨_, run_beginRound hl1 (by rw [hrec]), ?_⟩
  obtain ⟨W2, hW2⟩ : ∃ W2, W1.putObj l (.loop { rec .ready none with state := .busy }) = W2 := ⟨_, rfl⟩
  have hl2 : W2.heap[l]? = some (.loop { rec .ready none with state := .busy }) := by rw [← hW2]; exact World.putObj_heap_same hlt1
  have hX2 : heldD D W2 := fun d hd => by rw [← hW2]; exact (World.putObj_heap_other (hD d hd).2).trans (hX1 d hd)
  have hp2 : p W2 := by rw [← hW2]; exact hpS _ _ _ _ hBl hp1 hl1
  have ho2 : ∀ k, k ≠ l → W2.heap[k]? = W1.heap[k]? := fun k hk => by rw [← hW2]; exact World.putObj_heap_other hk
  rw [hW2]
  have hg2 := hW2 ▸ grownBy_putObj' W1 l (.loop { rec .ready none with state := .busy })
  refine wpIn_mono (hb W2 hp2 ⟨_, hl2⟩) ?_
  clear hW2 hb
  have fin : ∀ (jump : Option Code) (W3 : World), FrameT T W2 W3 →
      (Instr.endRound l jump).run P W3 = .ok (.bool jump.isNone) (W3.putObj l (.loop (rec (if jump.isNone then .ready else .done) jump))) ∧
      W3.heap[l]? = some (.loop { rec .ready none with state := .busy }) ∧
      (W3.putObj l (.loop (rec (if jump.isNone then .ready else .done) jump))).heap[l]? = some (.loop (rec (if jump.isNone then .ready else .done) jump)) ∧
      heldD D (W3.putObj l (.loop (rec (if jump.isNone then .ready else .done) jump))) := fun jump W3 hk3 => by
    have hl3 := hk3.get hl2 hTl
    have := run_endRound (P := P) jump hl3
    rw [hrec] at this ⊢
    exact ⟨this, by rw [hrec] at hl3; exact hl3, World.putObj_heap_same (Array.getElem?_eq_some_iff.1 hl3).1,
      fun d hd => (World.putObj_heap_other (hD d hd).2).trans (hk3.get (hX2 d hd) (hTd d hd))⟩
  rintro e a3 W3 hp
  cases e with
  | normal =>
    obtain ⟨hk3, T', hi3, hT'⟩ := hp
    obtain ⟨hr, hl3, hl4, hk4⟩ := fin none W3 hk3
    have g := grownBy_putObj' W3 l (.loop (rec (if (Option.none : Option Code).isNone then .ready else .done) Option.none))
    have hs12 := hk1.size
    have hs2 := hg2.size
    refine ⟨_, _, hr, .inl ⟨rfl, T', ⟨hI _ _ _ _ _ _ hBl hi3 hl3, hl4, hk4⟩, ⟨g.os.trans (hk3.os.trans (hg2.os.trans hk1.os)), g.tape.trans (hk3.tape.trans (hg2.tape.trans hk1.tape)), g.output.trans (hk3.output.trans (hg2.output.trans hk1.output)),
      Nat.le_trans (Nat.le_trans (Nat.le_trans hk1.size hg2.size) hk3.size) g.size, fun k hk hT => ?_⟩, fun k hk => ?_⟩⟩
    · by_cases hkl : k = l
      · subst hkl; exact hl4.trans hl.symm
      · exact (World.putObj_heap_other hkl).trans ((hk3.block k (by omega) hT).trans ((ho2 k hkl).trans (hk1.block k hk)))
    · rcases hT' k hk with h | h
      · exact .inl h
      · exact .inr (by omega)
  | ret =>
    obtain ⟨hk3, hi3⟩ := hp
    obtain ⟨hr, hl3, hl4, hk4⟩ := fin (some .ret) W3 hk3
    exact ⟨_, _, hr, .inr ⟨rfl, .ret, hIx _ _ _ _ _ _ hBl hi3 hl3, hl4, hk4⟩⟩
  | exit id =>
    obtain ⟨hk3, hi3⟩ := hp
    obtain ⟨hr, hl3, hl4, hk4⟩ := fin (some (.exit id)) W3 hk3
    exact ⟨_, _, hr, .inr ⟨rfl, .exit id, hIx _ _ _ _ _ _ hBl hi3 hl3, hl4, hk4⟩⟩
  | goto t =>
    obtain ⟨hk3, hi3⟩ := hp
    obtain ⟨hr, hl3, hl4, hk4⟩ := fin (some (.goto t)) W3 hk3
    exact ⟨_, _, hr, .inr ⟨rfl, .goto t, hIx _ _ _ _ _ _ hBl hi3 hl3, hl4, hk4⟩⟩
  | panic ch => exact hp.elim
  | outgrown => exact hp.elim
theorem heldD_below {D : Option Nat} {W W' : World} (h : heldD D W) (hB : Below W.heap.size W W') : heldD D W' := fun d hd => (hB.block _ (Array.getElem?_eq_some_iff.1 (h d hd)).1).trans (h d hd)

/-- A LOOP OVER SUCH AN ITERATOR, outside every other one. -/
theorem range_outerT {α : Type} {P : Program} {g : Operand} {ps : Array Tmp} {assign body : Code} {Q : Exit → Act → World → Prop} {a : Act} {w : World}
    {gf : Nat} {lb : Array Value} (hg : a.eval g = .func (.func gf) #[] lb) (eg : Enters P gf)
    {encs : α → Array Value} {K : World → Prop} {Nx : List α → α → World → Prop} {Fin : List α → Prop} {S : Nat → Prop} (hseq : IterT P gf lb encs K Nx Fin S w) (hps : ∀ x, (encs x).size = ps.size) (hS : ∀ k, S k → k < w.heap.size)
    (T0 : Nat → Prop) (I : List α → (Nat → Prop) → World → Prop) (Ix : Code → List α → World → Prop) (hI : ∀ s T, AbidesX w.heap.size (I s T)) (hIx : ∀ c s, AbidesX w.heap.size (Ix c s)) (hK : ∀ s T W, I s T W → K W ∧ ∀ k, T k → k < W.heap.size ∧ ¬ S k) (hR : ∀ s T W, I s T W → noRecT T W) (hIB : ∀ s T W W', I s T W → Below W.heap.size W W' → I s T W') (h0 : I [] T0 w)
    (hround : ∀ l pre x T W, Nx pre x W → w.heap.size < l → I pre T W → (∃ r, W.heap[l]? = some (.loop r)) →
      assign.wpIn (Fence.wide.inRound l) 9 P (Exit.then (rdThenT l P w.heap.size I Ix T (pre ++ [x]) body W) (fun _ _ _ => False))
      { tmps := (ps.zip (encs x)).foldl (fun t (p, v) => t.setIfInBounds p v) a.tmps, defers := [] } W)
    (hdone : ∀ xs T W, Fin xs → I xs T W → W.heap[w.heap.size]? = some (.deferred (some [])) → Q .normal { a with defers := { target := .collected w.heap.size, args := #[] } :: a.defers } W)
    (hstop : ∀ c pre x W, Ix c (pre ++ [x]) W → W.heap[w.heap.size]? = some (.deferred (some [])) → c.wpIn Fence.wide 9 P Q { a with defers := { target := .collected w.heap.size, args := #[] } :: a.defers } W) :
    (Code.rangeFunc g ps assign body).wpIn Fence.wide 9 P Q a w := by
  refine wpIn_rangeFunc ?_
  intro fn hfn
  obtain ⟨rec, hrec⟩ : ∃ rec : LoopState → Option Code → Loop, rec = fun st pe => { state := st, pending := pe, fn, tmps := a.tmps, params := ps, assign, body, defers := w.heap.size } := ⟨_, rfl⟩
  obtain ⟨W1, hW1⟩ : ∃ W1, (w.alloc (.deferred (some []))).alloc (.loop (rec .ready none)) = W1 := ⟨_, rfl⟩
  have hL1 : W1.heap[w.heap.size + 1]? = some (.loop (rec .ready none)) := by
    rw [← hW1]; have := World.alloc_heap_new (w.alloc (.deferred (some []))) (.loop (rec .ready none)); rwa [World.size_alloc] at this
  have hK1 : W1.heap[w.heap.size]? = some (.deferred (some [])) := by
    rw [← hW1]; exact (Below.heap_alloc _ _ _ (by simp)).trans (World.alloc_heap_new w _)
  have hsz : W1.heap.size = w.heap.size + 2 := by rw [← hW1]; simp
  have hb1 : Below w.heap.size w W1 := by
    rw [← hW1]; exact ((Below.refl _ w).alloc (Nat.le_refl _) _).alloc (by simp) _
  refine ⟨w.heap.size + 1, [{ target := .collected w.heap.size, args := #[] }], W1, { target := .fn (.func gf) lb, args := #[.func (.yield (w.heap.size + 1)) #[] #[]] }, W1, gf,
    #[.func (.yield (w.heap.size + 1)) #[] #[]] ++ lb, W1, ?_, ?_, ?_, ?_, fun _ => by omega, ?_⟩
  · rw [← hW1, hrec]; exact run_enterLoop_outer _ _ _ _ _
  · simp only [resolve, hg]
    simp [go_sem]
  · intro f' hf'; exact trivial
  · simp [invoke, go_sem, eg _ _]
  · have h01 : I [] T0 W1 := hIB _ _ _ _ h0 hb1
    refine callsIn_wide_n ((hseq (w.heap.size + 1)
      (fun pre T W => I pre T W ∧ W.heap[w.heap.size + 1]? = some (.loop (rec .ready none)) ∧ heldD (some w.heap.size) W)
      (fun pre W => ∃ c, Ix c pre W ∧ W.heap[w.heap.size + 1]? = some (.loop (rec .done (some c))) ∧ heldD (some w.heap.size) W)
      W1 T0 hb1 (fun s T W1 h => hK _ _ _ h.1) (fun s T Wa Wb h hB => ⟨hIB _ _ _ _ h.1 hB, (hB.block _ (Array.getElem?_eq_some_iff.1 h.2.1).1).trans h.2.1, heldD_below h.2.2 hB⟩) ?_ ⟨h01, hL1, fun d hd => by cases hd; exact hK1⟩).mono ?_)
    · rintro pre x T W ⟨hi, hl, hk⟩ hx
      exact range_roundT rec hrec hps (by omega) (fun d hd => by cases hd; omega) I Ix hI hIx hR pre x T W (fun hi' hl' => hround _ pre x T W hx (by omega) hi' hl') hi hl hk
    · rintro e W2 ⟨⟨v, rfl⟩, (⟨xs, T, hx, hi, hl, hk⟩ | ⟨pre, x, c, hi, hl, hk⟩)⟩
      · exact ⟨none, _, by have := run_endLoop (P := P) hl (by rw [hrec]; simp); rw [hrec] at this; exact this,
          hdone xs T _ hx (hI _ _ _ _ _ _ (by omega) hi hl) ((World.putObj_heap_other (by omega)).trans (hk _ rfl))⟩
      · exact ⟨some c, _, by have := run_endLoop (P := P) hl (by rw [hrec]; simp); rw [hrec] at this; exact this,
          hstop c pre x _ (hIx c _ _ _ _ _ (by omega) hi hl) ((World.putObj_heap_other (by omega)).trans (hk _ rfl))⟩

/-- .. and within a round of another loop. -/
theorem range_innerT {α : Type} {P : Program} {g : Operand} {ps : Array Tmp} {assign body : Code} {Q : Exit → Act → World → Prop} {a : Act} {w : World}
    {gf : Nat} {lb : Array Value} (hg : a.eval g = .func (.func gf) #[] lb) (eg : Enters P gf) {l0 : Nat} (hr0 : ∃ r0, w.heap[l0]? = some (.loop r0))
    {encs : α → Array Value} {K : World → Prop} {Nx : List α → α → World → Prop} {Fin : List α → Prop} {S : Nat → Prop} (hseq : IterT P gf lb encs K Nx Fin S w) (hps : ∀ x, (encs x).size = ps.size)
    (T0 : Nat → Prop) (I : List α → (Nat → Prop) → World → Prop) (Ix : Code → List α → World → Prop) (hI : ∀ s T, AbidesX w.heap.size (I s T)) (hIx : ∀ c s, AbidesX w.heap.size (Ix c s)) (hK : ∀ s T W, I s T W → K W ∧ ∀ k, T k → k < W.heap.size ∧ ¬ S k) (hR : ∀ s T W, I s T W → noRecT T W) (hIB : ∀ s T W W', I s T W → Below W.heap.size W W' → I s T W') (h0 : I [] T0 w)
    (hround : ∀ l pre x T W, Nx pre x W → w.heap.size ≤ l → I pre T W → (∃ r, W.heap[l]? = some (.loop r)) →
      assign.wpIn (Fence.wide.inRound l) 9 P (Exit.then (rdThenT l P w.heap.size I Ix T (pre ++ [x]) body W) (fun _ _ _ => False))
      { tmps := (ps.zip (encs x)).foldl (fun t (p, v) => t.setIfInBounds p v) a.tmps, defers := [] } W)
    (hdone : ∀ xs T W, Fin xs → I xs T W → Q .normal a W)
    (hstop : ∀ c pre x W, Ix c (pre ++ [x]) W → c.wpIn (Fence.wide.inRound l0) 9 P Q a W) :
    (Code.rangeFunc g ps assign body).wpIn (Fence.wide.inRound l0) 9 P Q a w := by
  obtain ⟨r0, hr0⟩ := hr0
  refine wpIn_rangeFunc ?_
  intro fn hfn
  obtain ⟨rec, hrec⟩ : ∃ rec : LoopState → Option Code → Loop, rec = fun st pe => { state := st, pending := pe, fn, tmps := a.tmps, params := ps, assign, body, defers := r0.defers } := ⟨_, rfl⟩
  obtain ⟨W1, hW1⟩ : ∃ W1, w.alloc (.loop (rec .ready none)) = W1 := ⟨_, rfl⟩
  have hL1 : W1.heap[w.heap.size]? = some (.loop (rec .ready none)) := by
    rw [← hW1]; exact World.alloc_heap_new w _
  have hsz : W1.heap.size = w.heap.size + 1 := by rw [← hW1]; simp
  have hb1 : Below w.heap.size w W1 := by
    rw [← hW1]; exact (Below.refl _ w).alloc (Nat.le_refl _) _
  refine ⟨w.heap.size, [], W1, { target := .fn (.func gf) lb, args := #[.func (.yield w.heap.size) #[] #[]] }, W1, gf,
    #[.func (.yield w.heap.size) #[] #[]] ++ lb, W1, ?_, ?_, ?_, ?_, fun _ => by omega, ?_⟩
  · rw [← hW1, hrec]; exact run_enterLoop_inner hr0 _ _ _ _ _
  · simp only [resolve, hg]
    simp [go_sem]
  · intro f' hf'; exact trivial
  · simp [invoke, go_sem, eg _ _]
  · have h01 : I [] T0 W1 := hIB _ _ _ _ h0 hb1
    have hcall := (hseq w.heap.size
      (fun pre T W => I pre T W ∧ W.heap[w.heap.size]? = some (.loop (rec .ready none)) ∧ heldD none W)
      (fun pre W => ∃ c, Ix c pre W ∧ W.heap[w.heap.size]? = some (.loop (rec .done (some c))) ∧ heldD none W)
      W1 T0 hb1 (fun s T W1 h => hK _ _ _ h.1) (fun s T Wa Wb h hB => ⟨hIB _ _ _ _ h.1 hB, (hB.block _ (Array.getElem?_eq_some_iff.1 h.2.1).1).trans h.2.1, heldD_below h.2.2 hB⟩)
      (by
        rintro pre x T W ⟨hi, hl, hk⟩ hx
        exact range_roundT rec hrec hps (Nat.le_refl _) (fun d hd => by cases hd) I Ix hI hIx hR pre x T W (fun hi' hl' => hround _ pre x T W hx (Nat.le_refl _) hi' hl') hi hl hk)
      ⟨h01, hL1, fun d hd => by cases hd⟩).mono (R' := rangePost (Fence.wide.inRound l0) 9 P w.heap.size Q { a with defers := [] ++ a.defers }) (by
        rintro e W2 ⟨⟨v, rfl⟩, (⟨xs, T, hx, hi, hl, hk⟩ | ⟨pre, x, c, hi, hl, hk⟩)⟩
        · exact ⟨none, _, by have := run_endLoop (P := P) hl (by rw [hrec]; simp); rw [hrec] at this; exact this,
            hdone xs T _ hx (hI _ _ _ _ _ _ (Nat.le_refl _) hi hl)⟩
        · exact ⟨some c, _, by have := run_endLoop (P := P) hl (by rw [hrec]; simp); rw [hrec] at this; exact this,
            hstop c pre x _ (hIx c _ _ _ _ _ (Nat.le_refl _) hi hl)⟩)
    exact CallsIn.inRound l0 (callsIn_wide_n hcall)

end Go.Proofs.Ytdncdlbhgaehmaa

/- Package join as plain data, where each ledger has one group that has but a hard state. -/
namespace Go.Proofs.Ytdncdlbhgaehmaa
open Go.RowKit Go.Shelf
set_option linter.unusedVariables false

/-- A group's number, its term, where it was written. -/
structure HR where
  n : Int
  t : Int
  s : Int
  a : Int
def HR.ok (x : HR) : Prop := (0 ≤ x.n ∧ x.n ≤ 999) ∧ 0 ≤ x.t ∧ x.t ≤ 1000
def hp (n t : Int) : PartC := ⟨n, 2, none, 0, 0, t, 0, 0, 0, 0, false, false⟩
def hl (x : HR) : LG := ⟨⟨x.n, 1, 0, x.t, 0, 0, []⟩, [⟨-1, x.s, x.a⟩]⟩
theorem hp_isB {x : HR} (h : x.ok) : isB (hp x.n x.t) [] = true := by
  rw [isB_iff]
  refine ⟨h.1, .inr (.inl ⟨rfl, ?_, rfl, rfl, rfl, rfl, rfl⟩)⟩
  obtain ⟨-, h1, h2⟩ := h
  show hardB x.t 0 0 = true
  simp only [hardB, Bool.and_eq_true, wB_iff]
  omega
theorem hl_do {x : HR} (h : x.ok) : doLG ⟨newP x.n, []⟩ (hp x.n x.t) [] x.s x.a = hl x := by
  unfold doLG
  rw [if_pos ⟨hp_isB h, rfl, by show ¬ (2 : Int) = 5; decide⟩]
  have e : doSp (newP x.n) (hp x.n x.t) [] = ⟨x.n, 1, 0, x.t, 0, 0, []⟩ := by
    unfold doSp
    rw [if_pos ⟨spr_new h.1 (by decide) (by decide), hp_isB h, rfl⟩]
    rfl
  dsimp only
  rw [e]
  rfl
theorem hl_spots (x : HR) : spotsL (hl x).g (hl x).F = [⟨x.n, -1, x.s, x.a⟩] := by
  rfl
/-- A part that tells a hard state, done by a ledger that lacks the group. -/
theorem hl_ldo {x : HR} (h : x.ok) {A : List LG} (hA : getZ LG.n A x.n = none) : ldo A [(hp x.n x.t, [])] x.s x.a = putZ LG.n (hl x) A := by
  show ldo1 A (hp x.n x.t, []) x.s x.a = _
  unfold ldo1
  rw [if_pos (hp_isB h), if_neg (show ¬ (hp x.n x.t).k = 5 by show ¬ (2 : Int) = 5; decide)]
  show putZ LG.n (doLG ((getZ LG.n A x.n).getD ⟨newP x.n, []⟩) (hp x.n x.t) [] x.s x.a) A = _
  rw [hA]
  show putZ LG.n (doLG ⟨newP x.n, []⟩ (hp x.n x.t) [] x.s x.a) A = _
  rw [hl_do h]
theorem hl_ok {x : HR} (h : x.ok) : okLG 2 (hl x) := by
  have h1 : okLG 2 (doLG ⟨newP x.n, []⟩ (hp x.n x.t) [] x.s x.a) := okLG_mono (doLG_ok (N := 0) (L := ⟨newP x.n, []⟩) ⟨spr_new h.1 (by decide) (by decide), Nat.le_refl _, Nat.le_refl _⟩ _ _ _ _) (by decide)
  rwa [hl_do h] at h1
/-- What Of makes of the rest: a group that is there already is left out. -/
def joinA (A : List LG) (x : HR) : List LG := if (getZ LG.n A x.n).isSome = true then A else putZ LG.n (hl x) A
def joinL (X : List HR) (A : List LG) : List LG := X.foldl joinA A
theorem joinL_snoc (X : List HR) (x : HR) (A : List LG) : joinL (X ++ [x]) A = joinA (joinL X A) x := by unfold joinL; rw [List.foldl_append]; rfl
theorem joinA_ok {A : List LG} (h : okA 2 A) {x : HR} (hx : x.ok) : okA 2 (joinA A x) := by
  unfold joinA
  split
  · exact h
  · intro L hL
    rcases mem_putZ.1 hL with rfl | hL
    · exact hl_ok hx
    · exact h L hL.1
theorem joinA_len (A : List LG) (x : HR) : (joinA A x).length ≤ A.length + 1 := by
  unfold joinA
  split
  · omega
  · exact putZ_len _ _ _
theorem joinL_ok : ∀ (X : List HR) {A : List LG}, (∀ x ∈ X, x.ok) → okA 2 A → okA 2 (joinL X A)
  | [], A, _, h => h
  | x :: r, A, hx, h => joinL_ok r (fun y hy => hx y (List.mem_cons_of_mem _ hy)) (joinA_ok h (hx x (by simp)))
theorem joinL_len : ∀ (X : List HR) (A : List LG), (joinL X A).length ≤ A.length + X.length
  | [], A => Nat.le_refl _
  | x :: r, A => by
    have h1 := joinA_len A x
    have h2 := joinL_len r (joinA A x)
    show (joinL r (joinA A x)).length ≤ _
    rw [List.length_cons]; omega

end Go.Proofs.Ytdncdlbhgaehmaa

/- Package join: together, part, parts: of a group that has but a hard state. -/
namespace Go.Proofs.Ytdncdlbhgaehmaa
open Go.RowKit Go.Shelf
set_option linter.unusedVariables false
attribute [local go_sem] Oper.semAt_some wide_fn wide_round_fn

set_option maxRecDepth 100000 in
theorem together_hard (b off cap : Nat) (W : World) (h : W.cell? ⟨b, off + 1, none⟩ = some (.int .i64 (-1))) (h0 : 1 ≤ cap) : Gives Try.prog 77 #[.slice (some ⟨b, off, none⟩) 1 cap] W (.int .i64 1) := by
  unfold Gives
  go_enter Try.func77, Try.ntmps77
  go_wp2
  go_ret
  exact ⟨rfl, Below.refl _ _⟩
/-- A holding of a group that has but a hard state. -/
abbrev hdV (x : HR) (ga : Option Addr) (gc : Nat) (b off cap : Nat) : Value := .agg #[.int .i64 x.n, .int .i64 1, .int .i64 0, .int .i64 x.t, .int .i64 0, .int .i64 0, .slice ga 0 gc, .slice (some ⟨b, off, none⟩) 1 cap]
abbrev hdC (x : HR) (ga : Option Addr) (gc : Nat) (b off cap : Nat) : Array Value := #[.int .i64 x.n, .int .i64 1, .int .i64 0, .int .i64 x.t, .int .i64 0, .int .i64 0, .slice ga 0 gc, .slice (some ⟨b, off, none⟩) 1 cap]
theorem set10 {w : World} {b : Nat} {T : TypeId} {v0 v1 v2 v3 v4 v5 v6 v7 v8 v9 : Value} (h : w.heap[b]? = some (.cells #[v0, v1, v2, v3, v4, v5, v6, v7, v8, v9] T (0, 0))) (u1 u3 u4 u5 : Value) :
    (((((w.setCell ⟨b, 1, none⟩ u1).setCell ⟨b, 3, none⟩ u3).setCell ⟨b, 4, none⟩ u4).setCell ⟨b, 5, none⟩ u5).heap[b]? = some (.cells #[v0, u1, v2, u3, u4, u5, v6, v7, v8, v9] T (0, 0))) ∧
    (((((w.setCell ⟨b, 3, none⟩ u3).setCell ⟨b, 4, none⟩ u4).setCell ⟨b, 5, none⟩ u5).setCell ⟨b, 1, none⟩ u1).heap[b]? = some (.cells #[v0, u1, v2, u3, u4, u5, v6, v7, v8, v9] T (0, 0))) := by
  constructor
  · have a := Go.Joins.block_setCell (Go.Joins.block_setCell (Go.Joins.block_setCell (Go.Joins.block_setCell h u1 (i := 1)) u3 (i := 3)) u4 (i := 4)) u5 (i := 5)
    simpa only [List.setIfInBounds_toArray, List.set_cons_succ, List.set_cons_zero] using a
  · have a := Go.Joins.block_setCell (Go.Joins.block_setCell (Go.Joins.block_setCell (Go.Joins.block_setCell h u3 (i := 3)) u4 (i := 4)) u5 (i := 5)) u1 (i := 1)
    simpa only [List.setIfInBounds_toArray, List.set_cons_succ, List.set_cons_zero] using a
theorem set4_frame (w : World) (b i j k l : Nat) (u1 u2 u3 u4 : Value) : FrameT (fun x => x = b) w ((((w.setCell ⟨b, i, none⟩ u1).setCell ⟨b, j, none⟩ u2).setCell ⟨b, k, none⟩ u3).setCell ⟨b, l, none⟩ u4) :=
  (((FrameT.setCell w b i u1).trans (FrameT.setCell _ b j u2)).trans (FrameT.setCell _ b k u3)).trans (FrameT.setCell _ b l u4)
set_option maxRecDepth 100000 in
set_option maxHeartbeats 4000000 in
theorem part_hard (x : HR) (ga : Option Addr) (gc b off cap c2 : Nat) (W : World) (h : W.cell? ⟨b, off + 1, none⟩ = some (.int .i64 (-1))) (hb : b < W.heap.size) :
    Calls Try.prog 78 #[hdV x ga gc b off cap, .slice (some ⟨b, off, none⟩) 1 c2] W fun e w' => e = .returned (hp x.n x.t).val ∧ Below W.heap.size W w' := by
  have hB3 : Below W.heap.size W (((W.alloc (.cells #[.int .i64 x.n, .int .i64 1, .int .i64 0, .int .i64 x.t, .int .i64 0, .int .i64 0, .slice ga 0 gc, .slice (some ⟨b, off, none⟩) 1 cap] 98)).alloc (.cells #[.int .i64 0, .int .i64 0, .slice none 0 0, .int .i64 0, .int .i64 0, .int .i64 0, .int .i64 0, .int .i64 0, .bool false, .bool false] 41)).alloc (.cells #[.int .i64 x.n, .int .i64 0, .slice none 0 0, .int .i64 0, .int .i64 0, .int .i64 0, .int .i64 0, .int .i64 0, .bool false, .bool false] 41)) := bel_alloc (bel_alloc (bel_alloc (Below.refl _ _) _) _) _
  have k1 : (((W.alloc (.cells #[.int .i64 x.n, .int .i64 1, .int .i64 0, .int .i64 x.t, .int .i64 0, .int .i64 0, .slice ga 0 gc, .slice (some ⟨b, off, none⟩) 1 cap] 98)).alloc (.cells #[.int .i64 0, .int .i64 0, .slice none 0 0, .int .i64 0, .int .i64 0, .int .i64 0, .int .i64 0, .int .i64 0, .bool false, .bool false] 41)).alloc (.cells #[.int .i64 x.n, .int .i64 0, .slice none 0 0, .int .i64 0, .int .i64 0, .int .i64 0, .int .i64 0, .int .i64 0, .bool false, .bool false] 41)).cell? ⟨b, off + 1, none⟩ = some (.int .i64 (-1)) := (hB3.cell (p := ⟨b, off + 1, none⟩) hb).trans h
  have b1 : (((W.alloc (.cells #[.int .i64 x.n, .int .i64 1, .int .i64 0, .int .i64 x.t, .int .i64 0, .int .i64 0, .slice ga 0 gc, .slice (some ⟨b, off, none⟩) 1 cap] 98)).alloc (.cells #[.int .i64 0, .int .i64 0, .slice none 0 0, .int .i64 0, .int .i64 0, .int .i64 0, .int .i64 0, .int .i64 0, .bool false, .bool false] 41)).alloc (.cells #[.int .i64 x.n, .int .i64 0, .slice none 0 0, .int .i64 0, .int .i64 0, .int .i64 0, .int .i64 0, .int .i64 0, .bool false, .bool false] 41)).heap[W.heap.size]? = some (.cells #[.int .i64 x.n, .int .i64 1, .int .i64 0, .int .i64 x.t, .int .i64 0, .int .i64 0, .slice ga 0 gc, .slice (some ⟨b, off, none⟩) 1 cap] 98 (0, 0)) := ((bel_alloc (bel_alloc (Below.refl (W.alloc (.cells #[.int .i64 x.n, .int .i64 1, .int .i64 0, .int .i64 x.t, .int .i64 0, .int .i64 0, .slice ga 0 gc, .slice (some ⟨b, off, none⟩) 1 cap] 98)).heap.size (W.alloc (.cells #[.int .i64 x.n, .int .i64 1, .int .i64 0, .int .i64 x.t, .int .i64 0, .int .i64 0, .slice ga 0 gc, .slice (some ⟨b, off, none⟩) 1 cap] 98))) _) _).block _ (by simp)).trans (World.alloc_heap_new W _)
  have b2 : (((W.alloc (.cells #[.int .i64 x.n, .int .i64 1, .int .i64 0, .int .i64 x.t, .int .i64 0, .int .i64 0, .slice ga 0 gc, .slice (some ⟨b, off, none⟩) 1 cap] 98)).alloc (.cells #[.int .i64 0, .int .i64 0, .slice none 0 0, .int .i64 0, .int .i64 0, .int .i64 0, .int .i64 0, .int .i64 0, .bool false, .bool false] 41)).alloc (.cells #[.int .i64 x.n, .int .i64 0, .slice none 0 0, .int .i64 0, .int .i64 0, .int .i64 0, .int .i64 0, .int .i64 0, .bool false, .bool false] 41)).heap[W.heap.size + 1]? = some (.cells #[.int .i64 0, .int .i64 0, .slice none 0 0, .int .i64 0, .int .i64 0, .int .i64 0, .int .i64 0, .int .i64 0, .bool false, .bool false] 41 (0, 0)) := by
    have := two_a (W.alloc (.cells #[.int .i64 x.n, .int .i64 1, .int .i64 0, .int .i64 x.t, .int .i64 0, .int .i64 0, .slice ga 0 gc, .slice (some ⟨b, off, none⟩) 1 cap] 98)) #[.int .i64 0, .int .i64 0, .slice none 0 0, .int .i64 0, .int .i64 0, .int .i64 0, .int .i64 0, .int .i64 0, .bool false, .bool false] #[.int .i64 x.n, .int .i64 0, .slice none 0 0, .int .i64 0, .int .i64 0, .int .i64 0, .int .i64 0, .int .i64 0, .bool false, .bool false] 41 41
    rwa [World.size_alloc] at this
  have b3 : (((W.alloc (.cells #[.int .i64 x.n, .int .i64 1, .int .i64 0, .int .i64 x.t, .int .i64 0, .int .i64 0, .slice ga 0 gc, .slice (some ⟨b, off, none⟩) 1 cap] 98)).alloc (.cells #[.int .i64 0, .int .i64 0, .slice none 0 0, .int .i64 0, .int .i64 0, .int .i64 0, .int .i64 0, .int .i64 0, .bool false, .bool false] 41)).alloc (.cells #[.int .i64 x.n, .int .i64 0, .slice none 0 0, .int .i64 0, .int .i64 0, .int .i64 0, .int .i64 0, .int .i64 0, .bool false, .bool false] 41)).heap[W.heap.size + 1 + 1]? = some (.cells #[.int .i64 x.n, .int .i64 0, .slice none 0 0, .int .i64 0, .int .i64 0, .int .i64 0, .int .i64 0, .int .i64 0, .bool false, .bool false] 41 (0, 0)) := by
    have := two_b (W.alloc (.cells #[.int .i64 x.n, .int .i64 1, .int .i64 0, .int .i64 x.t, .int .i64 0, .int .i64 0, .slice ga 0 gc, .slice (some ⟨b, off, none⟩) 1 cap] 98)) #[.int .i64 0, .int .i64 0, .slice none 0 0, .int .i64 0, .int .i64 0, .int .i64 0, .int .i64 0, .int .i64 0, .bool false, .bool false] #[.int .i64 x.n, .int .i64 0, .slice none 0 0, .int .i64 0, .int .i64 0, .int .i64 0, .int .i64 0, .int .i64 0, .bool false, .bool false] 41 41
    rwa [World.size_alloc] at this
  obtain ⟨x0, x1, x2, x3, x4, x5, x6, x7⟩ := cells8 b1
  go_enter Try.func78, Try.ntmps78
  go_wp2
  generalize (((W.alloc (.cells #[.int .i64 x.n, .int .i64 1, .int .i64 0, .int .i64 x.t, .int .i64 0, .int .i64 0, .slice ga 0 gc, .slice (some ⟨b, off, none⟩) 1 cap] 98)).alloc (.cells #[.int .i64 0, .int .i64 0, .slice none 0 0, .int .i64 0, .int .i64 0, .int .i64 0, .int .i64 0, .int .i64 0, .bool false, .bool false] 41)).alloc (.cells #[.int .i64 x.n, .int .i64 0, .slice none 0 0, .int .i64 0, .int .i64 0, .int .i64 0, .int .i64 0, .int .i64 0, .bool false, .bool false] 41)) = W0 at *
  clear k1
  have y3 : W0.drew.cell? ⟨W.heap.size, 3, none⟩ = _ := x3
  have y4 : W0.drew.cell? ⟨W.heap.size, 4, none⟩ = _ := x4
  have y5 : W0.drew.cell? ⟨W.heap.size, 5, none⟩ = _ := x5
  obtain ⟨p1, p2, p3, p4, p5, p6, p7⟩ := cells10 b3
  have f1 : W0.frozen? ⟨W.heap.size + 1 + 1, 1, none⟩ = false := frozen_of_row _ _ _ _ _ b3
  have g1 : W0.drew.frozen? ⟨W.heap.size + 1 + 1, 1, none⟩ = false := frozen_of_row _ _ _ _ _ b3
  have f3 : W0.frozen? ⟨W.heap.size + 1 + 1, 3, none⟩ = false := frozen_of_row _ _ _ _ _ b3
  have g3 : W0.drew.frozen? ⟨W.heap.size + 1 + 1, 3, none⟩ = false := frozen_of_row _ _ _ _ _ b3
  have f4 : W0.frozen? ⟨W.heap.size + 1 + 1, 4, none⟩ = false := frozen_of_row _ _ _ _ _ b3
  have g4 : W0.drew.frozen? ⟨W.heap.size + 1 + 1, 4, none⟩ = false := frozen_of_row _ _ _ _ _ b3
  have f5 : W0.frozen? ⟨W.heap.size + 1 + 1, 5, none⟩ = false := frozen_of_row _ _ _ _ _ b3
  have g5 : W0.drew.frozen? ⟨W.heap.size + 1 + 1, 5, none⟩ = false := frozen_of_row _ _ _ _ _ b3
  have q1 : W0.drew.cell? ⟨W.heap.size + 1 + 1, 1, none⟩ = _ := p1
  have q3 : W0.drew.cell? ⟨W.heap.size + 1 + 1, 3, none⟩ = _ := p3
  have q4 : W0.drew.cell? ⟨W.heap.size + 1 + 1, 4, none⟩ = _ := p4
  have q5 : W0.drew.cell? ⟨W.heap.size + 1 + 1, 5, none⟩ = _ := p5
  have hS1 := (set10 b3 (.int .i64 2) (.int .i64 x.t) (.int .i64 0) (.int .i64 0)).1
  have hS2 := (set10 b3 (.int .i64 2) (.int .i64 x.t) (.int .i64 0) (.int .i64 0)).2
  have hF1 := set4_frame W0 (W.heap.size + 1 + 1) 1 3 4 5 (.int .i64 2) (.int .i64 x.t) (.int .i64 0) (.int .i64 0)
  have hF2 := set4_frame W0 (W.heap.size + 1 + 1) 3 4 5 1 (.int .i64 x.t) (.int .i64 0) (.int .i64 0) (.int .i64 2)
  have HS1 := Lib.hid hS1
  have HS2 := Lib.hid hS2
  have HF1 := Lib.hid hF1
  have HF2 := Lib.hid hF2
  have HB3 := Lib.hid hB3
  have HB2 := Lib.hid b2
  clear hS1 hS2 hF1 hF2 hB3 b2 b1 b3
  go_region
  all_goals
    clear x0 x1 x2 x3 x4 x5 x6 x7 y3 y4 y5 p1 p2 p3 p4 p5 p6 p7 f1 f3 f4 f5 g1 g3 g4 g5 q1 q3 q4 q5
    first
      | (have hSf : ((((W0.setCell ⟨W.heap.size + 1 + 1, 1, none⟩ (.int .i64 2)).setCell ⟨W.heap.size + 1 + 1, 3, none⟩ (.int .i64 x.t)).setCell ⟨W.heap.size + 1 + 1, 4, none⟩ (.int .i64 0)).setCell ⟨W.heap.size + 1 + 1, 5, none⟩ (.int .i64 0)).drew.heap[W.heap.size + 1 + 1]? = some (.cells #[.int .i64 x.n, .int .i64 2, .slice none 0 0, .int .i64 x.t, .int .i64 0, .int .i64 0, .int .i64 0, .int .i64 0, .bool false, .bool false] 41 (0, 0)) := HS1.out
         have hFf := HF1.out.drew
         generalize ((((W0.setCell ⟨W.heap.size + 1 + 1, 1, none⟩ (.int .i64 2)).setCell ⟨W.heap.size + 1 + 1, 3, none⟩ (.int .i64 x.t)).setCell ⟨W.heap.size + 1 + 1, 4, none⟩ (.int .i64 0)).setCell ⟨W.heap.size + 1 + 1, 5, none⟩ (.int .i64 0)).drew = Wf at hSf hFf ⊢)
      | (have hSf : ((((W0.setCell ⟨W.heap.size + 1 + 1, 3, none⟩ (.int .i64 x.t)).setCell ⟨W.heap.size + 1 + 1, 4, none⟩ (.int .i64 0)).setCell ⟨W.heap.size + 1 + 1, 5, none⟩ (.int .i64 0)).setCell ⟨W.heap.size + 1 + 1, 1, none⟩ (.int .i64 2)).drew.heap[W.heap.size + 1 + 1]? = some (.cells #[.int .i64 x.n, .int .i64 2, .slice none 0 0, .int .i64 x.t, .int .i64 0, .int .i64 0, .int .i64 0, .int .i64 0, .bool false, .bool false] 41 (0, 0)) := HS2.out
         have hFf := HF2.out.drew
         generalize ((((W0.setCell ⟨W.heap.size + 1 + 1, 3, none⟩ (.int .i64 x.t)).setCell ⟨W.heap.size + 1 + 1, 4, none⟩ (.int .i64 0)).setCell ⟨W.heap.size + 1 + 1, 5, none⟩ (.int .i64 0)).setCell ⟨W.heap.size + 1 + 1, 1, none⟩ (.int .i64 2)).drew = Wf at hSf hFf ⊢)
    have hb2 := hFf.get HB2.out (by omega)
    have HFf := Lib.hid hFf
    have HSf := Lib.hid hSf
    have HBf := Lib.hid hb2
    obtain ⟨x0, x1, x2, x3, x4, x5, x6, x7, x8, x9⟩ := cells10a hSf
    obtain ⟨y0, y1, y2, y3, y4, y5, y6, y7, y8, y9⟩ := cells10a hb2
    have z0 : Wf.frozen? ⟨W.heap.size + 1, 0, none⟩ = false := frozen_of_row _ _ 0 _ _ hb2
    have z1 : Wf.frozen? ⟨W.heap.size + 1, 1, none⟩ = false := frozen_of_row _ _ 1 _ _ hb2
    have z2 : Wf.frozen? ⟨W.heap.size + 1, 2, none⟩ = false := frozen_of_row _ _ 2 _ _ hb2
    have z3 : Wf.frozen? ⟨W.heap.size + 1, 3, none⟩ = false := frozen_of_row _ _ 3 _ _ hb2
    have z4 : Wf.frozen? ⟨W.heap.size + 1, 4, none⟩ = false := frozen_of_row _ _ 4 _ _ hb2
    have z5 : Wf.frozen? ⟨W.heap.size + 1, 5, none⟩ = false := frozen_of_row _ _ 5 _ _ hb2
    have z6 : Wf.frozen? ⟨W.heap.size + 1, 6, none⟩ = false := frozen_of_row _ _ 6 _ _ hb2
    have z7 : Wf.frozen? ⟨W.heap.size + 1, 7, none⟩ = false := frozen_of_row _ _ 7 _ _ hb2
    have z8 : Wf.frozen? ⟨W.heap.size + 1, 8, none⟩ = false := frozen_of_row _ _ 8 _ _ hb2
    have z9 : Wf.frozen? ⟨W.heap.size + 1, 9, none⟩ = false := frozen_of_row _ _ 9 _ _ hb2
    clear hFf hSf hb2
    have hBF : Below W.heap.size W Wf := HB3.out.trans (HFf.out.toBelow HB3.out.size (fun k hk => by omega))
    have HBF := Lib.hid hBF
    clear hBF
    go_wp2
    refine bodyPost_ret (results_cell_row rfl _ _ (W.heap.size + 1) 41 #[.int .i64 x.n, .int .i64 2, .slice none 0 0, .int .i64 x.t, .int .i64 0, .int .i64 0, .int .i64 0, .int .i64 0, .bool false, .bool false] (0, 0) _ rfl (st10_block HBf.out _ _ _ _ _ _ _ _ _ _) Try.underlying41 rfl (by kernel_rfl)) rfl ⟨rfl, st10_below HBF.out (by omega) _ _ _ _ _ _ _ _ _ _⟩
theorem two_ends {e : Ending} {A B : Prop} (h : (e = .returned (.bool true) ∧ A) ∨ (e = .returned (.bool false) ∧ B)) : ∃ b, e = .returned (.bool b) ∧ ((b = true ∧ A) ∨ (b = false ∧ B)) := by
  rcases h with ⟨rfl, h⟩ | ⟨rfl, h⟩
  · exact ⟨true, rfl, .inl ⟨rfl, h⟩⟩
  · exact ⟨false, rfl, .inr ⟨rfl, h⟩⟩
/-- The iterator parts$1: one part. -/
theorem spotJ_at {w W : World} {b off : Nat} {x : HR} (h : w.cell? ⟨b, off + 1, none⟩ = some (.int .i64 (-1)) ∧ w.cell? ⟨b, off + 2, none⟩ = some (.int .i64 x.s) ∧ w.cell? ⟨b, off + 3, none⟩ = some (.int .i64 x.a)) (hb : b < w.heap.size) (hB : Below w.heap.size w W) : W.cell? ⟨b, off + 1, none⟩ = some (.int .i64 (-1)) ∧ W.cell? ⟨b, off + 2, none⟩ = some (.int .i64 x.s) ∧ W.cell? ⟨b, off + 3, none⟩ = some (.int .i64 x.a) :=
  ⟨(hB.cell (p := ⟨b, off + 1, none⟩) hb).trans h.1, (hB.cell (p := ⟨b, off + 2, none⟩) hb).trans h.2.1, (hB.cell (p := ⟨b, off + 3, none⟩) hb).trans h.2.2⟩
set_option maxRecDepth 100000 in
set_option maxHeartbeats 4000000 in
theorem parts_iter (x : HR) (ga : Option Addr) (gc b off cap Bx : Nat) (w0 : World) (hx : w0.heap[Bx]? = some (.cells #[.int .i64 x.n, .int .i64 1, .int .i64 0, .int .i64 x.t, .int .i64 0, .int .i64 0, .slice ga 0 gc, .slice (some ⟨b, off, none⟩) 1 cap] 98 (0, 0))) (hs : w0.cell? ⟨b, off + 1, none⟩ = some (.int .i64 (-1)) ∧ w0.cell? ⟨b, off + 2, none⟩ = some (.int .i64 x.s) ∧ w0.cell? ⟨b, off + 3, none⟩ = some (.int .i64 x.a)) (hb : b < w0.heap.size) (hcap : 1 ≤ cap) :
    IterT Try.prog 76 #[.pointer (some ⟨Bx, 0, none⟩)] (fun x : HR => #[(hp x.n x.t).val, .agg #[.int .i64 x.s, .int .i64 x.a]]) (fun _ => True) (fun pre y _ => pre = [] ∧ y = x) (fun xs => xs = [x]) (fun _ => False) w0 := by
  intro l J Jx W T0 hW _ hJB hY h0
  have hbx := (hW.block _ (heap_lt hx)).trans hx
  have hss := spotJ_at hs hb hW
  have hbW : b < W.heap.size := Nat.lt_of_lt_of_le hb hW.size
  obtain ⟨x0, x1, x2, x3, x4, x5, x6, x7⟩ := cells8 hbx
  have HBX := Lib.hid hbx
  have HSS := Lib.hid hss
  have HJB := Lib.hid hJB
  clear hx hs hW hbx hss hJB
  refine callsIn_of_wp Try.func76 rfl trivial ?_ rfl
  simp only [Try.ntmps76, List.size_toArray, List.length_cons, List.length_nil, Nat.reduceAdd, Nat.reduceSub, Array.replicate_succ, Array.replicate_zero, List.push_toArray, List.append_toArray, List.nil_append, List.cons_append]
  gi_wp2
  gi_loopw [3, 4] (fun s3 s4 wr => (∃ u, u = s4) ∧ ((s3 = .slice (some ⟨b, off, none⟩) 1 cap ∧ wr = W) ∨ (∃ a c T, s3 = .slice a 0 c ∧ J [x] T wr))) (fun s3 _ _ => (match s3 with | .slice _ n _ => n | _ => 0))
  case atStart => exact ⟨⟨_, rfl⟩, .inl ⟨rfl, rfl⟩⟩
  case round =>
  obtain ⟨⟨u4, rfl⟩, (⟨rfl, rfl⟩ | ⟨a3, c3, T, rfl, hJ⟩)⟩ := hrel
  · obtain ⟨s1, s2, s3⟩ := HSS.out
    have GT := Lib.hid (together_hard b off cap wr s1 hcap)
    gi_wp2_with (gi_at_call 77; refine (callsIn_wide.2 GT.out).mono ?_; rintro e w1 ⟨rfl, hB1⟩; have HB1 := Lib.hid hB1; have hc1 := spotJ_at HSS.out hbW hB1; have hb1 := (hB1.block _ (heap_lt HBX.out)).trans HBX.out; clear hB1)
    obtain ⟨t1, t2, t3⟩ := hc1
    obtain ⟨y0, y1, y2, y3, y4, y5, y6, y7⟩ := cells8 hb1
    have hbw1 : b < w1.heap.size := Nat.lt_of_lt_of_le hbW HB1.out.size
    have GP := Lib.hid (fun W' (hB : Below w1.heap.size w1 W') => part_hard x ga gc b off cap cap W' ((hB.cell (p := ⟨b, off + 1, none⟩) hbw1).trans t1) (Nat.lt_of_lt_of_le hbw1 hB.size))
    have HT1 := Lib.hid (fun W' (hB : Below w1.heap.size w1 W') => (show W'.cell? ⟨b, off + 2, none⟩ = some (.int .i64 x.s) ∧ W'.cell? ⟨b, off + 3, none⟩ = some (.int .i64 x.a) from ⟨(hB.cell (p := ⟨b, off + 2, none⟩) hbw1).trans t2, (hB.cell (p := ⟨b, off + 3, none⟩) hbw1).trans t3⟩))
    have e2 : w1.drew.cell? ⟨b, off + 2, none⟩ = some (.int .i64 x.s) := t2
    have e3 : w1.drew.cell? ⟨b, off + 3, none⟩ = some (.int .i64 x.a) := t3
    have z0 : w1.drew.cell? ⟨Bx, 0, none⟩ = _ := y0
    have z1 : w1.drew.cell? ⟨Bx, 1, none⟩ = _ := y1
    have z2 : w1.drew.cell? ⟨Bx, 2, none⟩ = _ := y2
    have z3 : w1.drew.cell? ⟨Bx, 3, none⟩ = _ := y3
    have z4 : w1.drew.cell? ⟨Bx, 4, none⟩ = _ := y4
    have z5 : w1.drew.cell? ⟨Bx, 5, none⟩ = _ := y5
    have z6 : w1.drew.cell? ⟨Bx, 6, none⟩ = _ := y6
    have z7 : w1.drew.cell? ⟨Bx, 7, none⟩ = _ := y7
    clear x0 x1 x2 x3 x4 x5 x6 x7 s1 s2 s3 hb1
    gi_region_with (first
      | (gi_at_call 78; refine (callsIn_wide.2 (GP.out _ (Below.refl _ _).drew)).mono ?_; rintro e w2 ⟨rfl, hB2⟩; obtain ⟨r2, r3⟩ := HT1.out _ ((Below.refl _ _).drew.trans hB2); obtain ⟨fn, tmps, assign, body, hyy, hR1⟩ := hY [] x T0 w2 (HJB.out _ _ _ _ h0 (bel2 HB1.out ((Below.refl _ _).drew.trans hB2))) ⟨rfl, rfl⟩)
      | (go_simp; refine (roundIn_wide_n hR1).mono ?_; rintro e W3 h4; obtain ⟨bb, rfl, h3⟩ := two_ends h4; clear h4))
    all_goals
      rcases h3 with ⟨rfl, T', hJ', -, -⟩ | ⟨rfl, hJx⟩
      · clear hyy hR1 r2 r3 e2 e3 z0 z1 z2 z3 z4 z5 z6 z7 y0 y1 y2 y3 y4 y5 y6 y7 t1 t2 t3
        gi_wp2
        all_goals
          go_roundw
          case rel => exact ⟨⟨_, rfl⟩, .inr ⟨_, _, T', rfl, hJ'⟩⟩
          case measure => exact Nat.zero_lt_one
      · gi_wp2
        refine bodyPost_ret (results_none rfl _ _ _) rfl ?_
        exact ⟨⟨_, rfl⟩, .inr ⟨[], x, hJx⟩⟩
  · gi_wp2
    refine bodyPost_end (results_none rfl _ _ _) rfl ?_
    exact ⟨⟨_, rfl⟩, .inl ⟨_, T, rfl, hJ⟩⟩
end Go.Proofs.Ytdncdlbhgaehmaa

/- Package join: what is held (the iterator holdings$1), where each ledger has one group that has but a hard state. -/
namespace Go.Proofs.Ytdncdlbhgaehmaa
open Go.RowKit Go.Shelf
set_option linter.unusedVariables false
attribute [local go_sem] Oper.semAt_some wide_fn wide_round_fn

theorem one_spots {W : World} {e : Nat} {x : HR} {T : Nat → Prop} (h : LT W e [hl x] T) (hx : x.ok) : Calls Try.prog 32 #[.pointer (some ⟨e, 0, none⟩)] W fun r w' => ∃ b off c, r = .returned (.slice (some ⟨b, off, none⟩) 1 c) ∧ 1 ≤ c ∧ w'.cell? ⟨b, off, none⟩ = some (.int .i64 x.n) ∧ (w'.cell? ⟨b, off + 1, none⟩ = some (.int .i64 (-1)) ∧ w'.cell? ⟨b, off + 2, none⟩ = some (.int .i64 x.s) ∧ w'.cell? ⟨b, off + 3, none⟩ = some (.int .i64 x.a)) ∧ b < w'.heap.size ∧ Below W.heap.size W w' := by
  obtain ⟨M, F, h, h1, rfl⟩ := h
  have hF : F.length = 1 := by have := congrArg List.length h1; rwa [List.length_map] at this
  have hfl : fl F = [⟨x.n, -1, x.s, x.a⟩] := by
    rw [fl_flA, h1]
    show spotsL (hl x).g (hl x).F ++ [] = _
    rw [List.append_nil, hl_spots]
  refine (sall_any (N := 2) h (by omega) (by rw [h1]; intro L hL; rw [List.mem_singleton.1 hL]; exact hl_ok hx) (by decide)).mono ?_
  rintro r w' ⟨v, rfl, h2, h4⟩
  rw [hfl] at h2
  obtain ⟨a, c, rfl, hc, hr⟩ := rowV_own h2
  obtain ⟨b, off, rfl, hb, hx⟩ := hr.2.2 Nat.zero_lt_one
  refine ⟨b, off, c, rfl, hc, ?_, ⟨?_, ?_, ?_⟩, hb, h4⟩
  · exact hx 0 (show 0 < 4 by decide)
  · exact hx 1 (show 1 < 4 by decide)
  · exact hx 2 (show 2 < 4 by decide)
  · exact hx 3 (show 3 < 4 by decide)
theorem one_groups {W : World} {e : Nat} {x : HR} {T : Nat → Prop} (h : LT W e [hl x] T) : Calls Try.prog 30 #[.pointer (some ⟨e, 0, none⟩)] W fun r w' => ∃ b off c ga gc, r = .returned (.slice (some ⟨b, off, none⟩) 1 c) ∧ (w'.cell? ⟨b, off, none⟩ = some (.int .i64 x.n) ∧ w'.cell? ⟨b, off + 1, none⟩ = some (.int .i64 1) ∧ w'.cell? ⟨b, off + 2, none⟩ = some (.int .i64 0) ∧ w'.cell? ⟨b, off + 3, none⟩ = some (.int .i64 x.t) ∧ w'.cell? ⟨b, off + 4, none⟩ = some (.int .i64 0) ∧ w'.cell? ⟨b, off + 5, none⟩ = some (.int .i64 0) ∧ w'.cell? ⟨b, off + 6, none⟩ = some (.slice ga 0 gc)) ∧ b < w'.heap.size ∧ Below W.heap.size W w' := by
  refine (tGroups h (show 1 ≤ 1000 by decide)).mono ?_
  rintro r w' ⟨a, c, Gs, rfl, ⟨hl1, -, hr, -⟩, hG, hB⟩
  have hl1' : Gs.length = 1 := hl1
  match Gs, hl1' with
  | [⟨g, ga, gc⟩], _ =>
    have hg : g = (hl x).g := by simpa using hG
    subst hg
    obtain ⟨b, off, rfl, hb, hc⟩ := hr.2.2 Nat.zero_lt_one
    exact ⟨b, off, c, ga, gc, rfl, ⟨hc 0 (show 0 < 7 by decide), hc 1 (show 1 < 7 by decide), hc 2 (show 2 < 7 by decide), hc 3 (show 3 < 7 by decide), hc 4 (show 4 < 7 by decide), hc 5 (show 5 < 7 by decide), hc 6 (show 6 < 7 by decide)⟩, hb, hB⟩
/-- What holdings yields. -/
structure HX where
  x : HR
  ga : Option Addr
  gc : Nat
  b : Nat
  off : Nat
  cap : Nat
/-- The ledgers of a row. -/
def RowLs (la : Option Addr) (E : List Nat) (X : List HR) (W : World) : Prop := E.length = X.length ∧ (0 < E.length → ∃ rb ro, la = some ⟨rb, ro, none⟩ ∧ rb < W.heap.size ∧ ∀ i (h : i < E.length), W.cell? ⟨rb, ro + i, none⟩ = some (.pointer (some ⟨E[i], 0, none⟩))) ∧ ∀ i (h : i < E.length) (h2 : i < X.length), ∃ T, LT W E[i] [hl X[i]] T
theorem RowLs.below {la : Option Addr} {E : List Nat} {X : List HR} {W W' : World} (h : RowLs la E X W) (hB : Below W.heap.size W W') : RowLs la E X W' := by
  refine ⟨h.1, fun h0 => ?_, fun i hi h2 => ?_⟩
  · obtain ⟨rb, ro, e, hb, hc⟩ := h.2.1 h0
    exact ⟨rb, ro, e, Nat.lt_of_lt_of_le hb hB.size, fun i hi => (hB.cell (p := ⟨rb, ro + i, none⟩) hb).trans (hc i hi)⟩
  · obtain ⟨T, hT⟩ := h.2.2 i hi h2
    exact ⟨T, hT.below hB⟩
def nxH (X : List HR) (pre : List HX) (y : HX) (W : World) : Prop := (∃ h : pre.length < X.length, y.x = X[pre.length]) ∧ 1 ≤ y.cap ∧ y.b < W.heap.size ∧ W.cell? ⟨y.b, y.off + 1, none⟩ = some (.int .i64 (-1)) ∧ W.cell? ⟨y.b, y.off + 2, none⟩ = some (.int .i64 y.x.s) ∧ W.cell? ⟨y.b, y.off + 3, none⟩ = some (.int .i64 y.x.a)
set_option maxRecDepth 100000 in
set_option maxHeartbeats 8000000 in
theorem hold_iter (la : Option Addr) (lc : Nat) (E : List Nat) (X : List HR) (hX : ∀ x ∈ X, x.ok) (hl : E.length = X.length ∧ E.length < 1000) (Bx : Nat) (w0 : World) (hb : w0.heap[Bx]? = some (.cells #[.slice la E.length lc] 50 (0, 0))) :
    IterT Try.prog 75 #[.pointer (some ⟨Bx, 0, none⟩)] (fun y : HX => #[hdV y.x y.ga y.gc y.b y.off y.cap]) (RowLs la E X) (nxH X) (fun ys => ys.map HX.x = X) (fun _ => False) w0 := by
  intro l J Jx W T0 hW hJK hJB hY h0
  have c0 : W.cell? ⟨Bx, 0, none⟩ = some (.slice la E.length lc) := cell_of_row _ _ 0 _ _ _ ((hW.block _ (heap_lt hb)).trans hb)
  have HJK := Lib.hid hJK
  have HJB := Lib.hid hJB
  have HL := Lib.hid hl
  have HX' := Lib.hid hX
  clear hb hW hJK hJB hX
  refine callsIn_of_wp Try.func75 rfl trivial ?_ rfl
  simp only [Try.ntmps75, List.size_toArray, List.length_cons, List.length_nil, Nat.reduceAdd, Nat.reduceSub, Array.replicate_succ, Array.replicate_zero, List.push_toArray, List.append_toArray, List.nil_append, List.cons_append]
  gi_wp2
  gi_loopw [4, 5, 7, 8, 11] (fun s4 s5 s7 s8 q wr => (∃ u, u = s4) ∧ (∃ u, u = s5) ∧ (∃ u, u = s7) ∧ (∃ u, u = s8) ∧ ∃ (i : Nat) (pre : List HX) (T : Nat → Prop), i ≤ E.length ∧ q = .int .i64 (i : Int) ∧ J pre T wr ∧ pre.map HX.x = X.take i) (fun _ _ _ _ q _ => E.length - (intOf q).toNat)
  case atStart => exact ⟨⟨_, rfl⟩, ⟨_, rfl⟩, ⟨_, rfl⟩, ⟨_, rfl⟩, 0, [], T0, Nat.zero_le _, rfl, h0, rfl⟩
  case round =>
  obtain ⟨⟨u4, rfl⟩, ⟨u5, rfl⟩, ⟨u7, rfl⟩, ⟨u8, rfl⟩, i, pre, T, hi, rfl, hJ, hpre⟩ := hrel
  clear c0 h0
  by_cases hlt : i < E.length
  · have hlt' : (i : Int) < (E.length : Int) := by omega
    have hw9 : IntKind.i64.wrap ((i : Int) + 1) = ((i + 1 : Nat) : Int) := (IntWalk.i64_in _ (by omega)).trans (by push_cast; rfl)
    have hiX : i < X.length := by omega
    obtain ⟨-, hrw, hled⟩ := (HJK.out _ _ _ hJ).1
    obtain ⟨rb, ro, rfl, hrb, hrow⟩ := hrw (by omega)
    have c1 := hrow i hlt
    obtain ⟨Ti, hLT⟩ := hled i hlt hiX
    have hxo := HX'.out X[i] (List.getElem_mem hiX)
    have HLT := Lib.hid (fun W' (hB : Below wr.heap.size wr W') => hLT.below hB)
    have HTK := Lib.hid (show X.take (i + 1) = X.take i ++ [X[i]] from List.take_succ_eq_append_getElem hiX)
    have HPRE := Lib.hid hpre
    have hpl : pre.length = i := by have := congrArg List.length hpre; rw [List.length_map, List.length_take] at this; omega
    have HNX := Lib.hid (show ∃ h : pre.length < X.length, X[i] = X[pre.length] from ⟨by omega, by simp [hpl]⟩)
    generalize E[i] = e at *
    generalize X[i] = x at *
    have GSp := Lib.hid (fun W' (hB : Below wr.heap.size wr W') => one_spots (HLT.out W' hB) hxo)
    have GGr := Lib.hid (fun W' (hB : Below wr.heap.size wr W') => one_groups (HLT.out W' hB))
    have HJ := Lib.hid (fun W' (hB : Below wr.heap.size wr W') => HJB.out _ _ _ _ hJ hB)
    clear hrow hled hLT hxo hpre hpl hJ hrb hrw
    gi_wp2_with (first
      | (gi_at_call 32; refine (callsIn_wide.2 (GSp.out _ (Below.refl _ _))).mono ?_; rintro e1 w1 ⟨b, off, cp, rfl, hcp, s0, s1, hb, hB1⟩; have HB1 := Lib.hid hB1; clear hB1)
      | (gi_at_call 30; refine (callsIn_wide.2 (GGr.out _ HB1.out)).mono ?_; rintro e2 w2 ⟨gb, go, gcp, ga, gc, rfl, g0, hgb, hB2⟩; have HB2 := Lib.hid hB2; have HBW := Lib.hid (bel2 HB1.out hB2); replace s0 := (hB2.cell (p := ⟨b, off, none⟩) hb).trans s0; replace s1 := spotJ_at s1 hb hB2; replace hb := Nat.lt_of_lt_of_le hb hB2.size; clear hB2))
    obtain ⟨wg, rfl⟩ : ∃ wg : World, wg = w2 := ⟨_, rfl⟩
    gi_loopw [5, 7, 8, 20] (fun s5 s7 s8 q wz => (∃ u, u = s7) ∧ (∃ u, u = s8) ∧ ((s5 = .slice (some ⟨b, off, none⟩) 1 cp ∧ q = .int .i64 0 ∧ wz = wg) ∨ (∃ a c y T', s5 = .slice a 0 c ∧ q = .int .i64 1 ∧ J (pre ++ [y]) T' wz ∧ y.x = x))) (fun _ _ _ q _ => 1 - (intOf q).toNat)
    case atStart => exact ⟨⟨_, rfl⟩, ⟨_, rfl⟩, .inl ⟨rfl, rfl, rfl⟩⟩
    case round =>
    obtain ⟨⟨u7, rfl⟩, ⟨u8, rfl⟩, (⟨rfl, rfl, rfl⟩ | ⟨a5, c5, y, T', rfl, rfl, hJ', hyx⟩)⟩ := hrel
    · obtain ⟨g0, g1, g2, g3, g4, g5, g6⟩ := g0
      gi_wp2
      have h7 := World.alloc_heap_new wr (.cells #[.int .i64 x.n, .int .i64 1, .int .i64 0, .int .i64 x.t, .int .i64 0, .int .i64 0, .slice ga 0 gc] 65)
      have hBA := bel_alloc (Below.refl wr.heap.size wr) (.cells #[.int .i64 x.n, .int .i64 1, .int .i64 0, .int .i64 x.t, .int .i64 0, .int .i64 0, .slice ga 0 gc] 65)
      have hs0 := (hBA.cell (p := ⟨b, off, none⟩) hb).trans s0
      have hs1 := spotJ_at s1 hb hBA
      have hbA := Nat.lt_of_lt_of_le hb hBA.size
      have HBA := Lib.hid (bel2 HBW.out hBA)
      clear s0 s1 hb g0 g1 g2 g3 g4 g5 g6 hgb hBA
      generalize wr.alloc (.cells #[.int .i64 x.n, .int .i64 1, .int .i64 0, .int .i64 x.t, .int .i64 0, .int .i64 0, .slice ga 0 gc] 65) = wA at *
      generalize wr.heap.size = X7 at h7 ⊢
      have H7 := Lib.hid h7
      have HS1 := Lib.hid hs1
      clear h7 hs1
      gi_loopw [8] (fun s8 wz => Below wA.heap.size wA wz ∧ (s8 = .int .i64 0 ∨ s8 = .int .i64 1)) (fun s8 _ => 1 - (intOf s8).toNat)
      case atStart => exact ⟨Below.refl _ _, .inl rfl⟩
      case round =>
      obtain ⟨hBz, hs8⟩ := hrel
      have HBZ := Lib.hid hBz
      have h7z := (hBz.block _ (heap_lt H7.out)).trans H7.out
      obtain ⟨x0, x1, x2, x3, x4, x5, x6, -⟩ := cells7 h7z
      have k0 := (hBz.cell (p := ⟨b, off, none⟩) hbA).trans hs0
      have HS := Lib.hid (fun W (hW : Below wr.heap.size wr W) => (show W.cell? ⟨b, off, none⟩ = some (.int .i64 x.n) ∧ W.cell? ⟨X7, 0, none⟩ = some (.int .i64 x.n) from ⟨(hW.cell (p := ⟨b, off, none⟩) (Nat.lt_of_lt_of_le hbA HBZ.out.size)).trans k0, (hW.cell (p := ⟨X7, 0, none⟩) (heap_lt h7z)).trans x0⟩))
      have H7Z := Lib.hid h7z
      clear hBz h7z x0 x1 x2 x3 x4 x5 x6 k0
      rcases hs8 with rfl | rfl
      · gi_wp2
        refine wpIn_region_below rfl (by kernel_rfl) (by kernel_rfl) ?_
        repeat (first
          | (refine BigFrame.wpQuietIn_skip (by first | quiet_asked_in | exact fun _ _ _ _ => trivial) (by rfl) ?_; (try simp only [Act.put, List.setIfInBounds_toArray, List.set_cons_zero, List.set_cons_succ]))
          | (refine BigFrame.wpQuietIn_want (by first | quiet_asked_in | exact fun _ _ _ _ => trivial) (by rfl) (fun K hK => ?_); apply Exists.intro; refine ⟨fun W hW => ?_, hK _ ?_⟩; (focus (have hWB : Below _ _ W := hW; obtain ⟨l0, y0⟩ := HS.out _ hW; go_simp; (first | done | with_reducible rfl | (fail) | (rw [if_neg (by omega)]; go_simp; (first | done | with_reducible rfl))))); clear hK K; (try simp only [Act.put, List.setIfInBounds_toArray, List.set_cons_zero, List.set_cons_succ])))
        refine wpQuietIn_nil ?_
        intro w9 hB9
        replace hB9 : Below _ _ w9 := hB9
        gi_wp2
        go_roundw
        case rel => exact ⟨HBZ.out.trans (hB9.mono HBZ.out.size), .inr rfl⟩
        case measure => simp [intOf]
      · gi_wp2
        refine wpIn_region_below rfl (by kernel_rfl) (by kernel_rfl) ?_
        repeat (first
          | (refine BigFrame.wpQuietIn_skip (by first | quiet_asked_in | exact fun _ _ _ _ => trivial) (by rfl) ?_; (try simp only [Act.put, List.setIfInBounds_toArray, List.set_cons_zero, List.set_cons_succ]))
          | (refine BigFrame.wpQuietIn_want (by first | quiet_asked_in | exact fun _ _ _ _ => trivial) (by rfl) (fun K hK => ?_); apply Exists.intro; refine ⟨fun W hW => ?_, hK _ ?_⟩; (focus (have hWB : Below _ _ W := hW; obtain ⟨l0, y0⟩ := HS.out _ hW; go_simp; (first | done | with_reducible rfl | (fail) | (rw [if_neg (by omega)]; go_simp; (first | done | with_reducible rfl))))); clear hK K; (try simp only [Act.put, List.setIfInBounds_toArray, List.set_cons_zero, List.set_cons_succ])))
        refine wpQuietIn_nil ?_
        intro w9 hB9
        replace hB9 : Below _ _ w9 := hB9
        have hBW9 := bel2 HBA.out (bel2 HBZ.out hB9)
        have h79 := (hB9.block _ (heap_lt H7Z.out)).trans H7Z.out
        have hs9 := spotJ_at HS1.out hbA (bel2 HBZ.out hB9)
        have hb9 := Nat.lt_of_lt_of_le hbA (bel2 HBZ.out hB9).size
        obtain ⟨v0, v1, v2, v3, v4, v5, v6, -⟩ := cells7 h79
        have z0 : w9.drew.cell? ⟨X7, 0, none⟩ = _ := v0
        have z1 : w9.drew.cell? ⟨X7, 1, none⟩ = _ := v1
        have z2 : w9.drew.cell? ⟨X7, 2, none⟩ = _ := v2
        have z3 : w9.drew.cell? ⟨X7, 3, none⟩ = _ := v3
        have z4 : w9.drew.cell? ⟨X7, 4, none⟩ = _ := v4
        have z5 : w9.drew.cell? ⟨X7, 5, none⟩ = _ := v5
        have z6 : w9.drew.cell? ⟨X7, 6, none⟩ = _ := v6
        obtain ⟨fn, tmps, assign, body, hyy, hR1⟩ := hY pre ⟨x, ga, gc, b, off, cp⟩ T w9.drew (HJ.out _ hBW9.drew) ⟨HNX.out, hcp, hb9, hs9⟩
        clear h79 hs9
        gi_wp2
        gi_region_with (go_simp; refine (roundIn_wide_n hR1).mono ?_; rintro e W3 h4; obtain ⟨bb, rfl, h3⟩ := two_ends h4; clear h4)
        all_goals
          rcases h3 with ⟨rfl, T', hJ', -, -⟩ | ⟨rfl, hJx⟩
          · clear hyy hR1 z0 z1 z2 z3 z4 z5 z6 v0 v1 v2 v3 v4 v5 v6
            gi_wp2
            all_goals exact ⟨⟨⟨_, rfl⟩, ⟨_, rfl⟩, .inr ⟨_, _, ⟨x, ga, gc, b, off, cp⟩, T', rfl, by go_num, hJ', rfl⟩⟩, by simp [intOf]⟩
          · gi_wp2
            refine bodyPost_ret (results_none rfl _ _ _) rfl ?_
            exact ⟨⟨_, rfl⟩, .inr ⟨_, _, hJx⟩⟩
    · gi_wp2
      exact ⟨⟨⟨_, rfl⟩, ⟨_, rfl⟩, ⟨_, rfl⟩, ⟨_, rfl⟩, i + 1, _, T', by omega, by go_num, hJ', by rw [List.map_append, HPRE.out, HTK.out, ← hyx]; rfl⟩, by simp [intOf]; omega⟩
  · have hOk : i = E.length := by omega
    subst i
    have hge : ¬ (E.length : Int) < (E.length : Int) := by omega
    have HF := Lib.hid (show pre.map HX.x = X by rw [hpre, List.take_of_length_le (by omega)])
    gi_wp2
    refine bodyPost_end (results_none rfl _ _ _) rfl ?_
    exact ⟨⟨_, rfl⟩, .inl ⟨_, HF.out, _, hJ⟩⟩
theorem holdings_makes (la : Option Addr) (lc : Nat) (E : List Nat) (X : List HR) (hX : ∀ x ∈ X, x.ok) (hl : E.length = X.length ∧ E.length < 1000) (w : World) :
    Calls Try.prog 48 #[.slice la E.length lc] w fun e w' => ∃ lb, e = .returned (.func (.func 75) #[] lb) ∧ w' = w.alloc (.cells #[.slice la E.length lc] 50) ∧
      IterT Try.prog 75 lb (fun y : HX => #[hdV y.x y.ga y.gc y.b y.off y.cap]) (RowLs la E X) (nxH X) (fun ys => ys.map HX.x = X) (fun _ => False) w' := by
  have HI := Lib.hid (hold_iter la lc E X hX hl w.heap.size _ (World.alloc_heap_new w (.cells #[.slice la E.length lc] 50)))
  clear hX hl
  go_enter Try.func48, Try.ntmps48
  go_wp2
  go_ret
  exact ⟨_, rfl, rfl, HI.out⟩
theorem parts_makes (x : HR) (ga : Option Addr) (gc b off cap : Nat) (w : World) (hs : w.cell? ⟨b, off + 1, none⟩ = some (.int .i64 (-1)) ∧ w.cell? ⟨b, off + 2, none⟩ = some (.int .i64 x.s) ∧ w.cell? ⟨b, off + 3, none⟩ = some (.int .i64 x.a)) (hb : b < w.heap.size) (hcap : 1 ≤ cap) :
    Calls Try.prog 50 #[hdV x ga gc b off cap] w fun e w' => ∃ lb, e = .returned (.func (.func 76) #[] lb) ∧ w' = w.alloc (.cells #[.int .i64 x.n, .int .i64 1, .int .i64 0, .int .i64 x.t, .int .i64 0, .int .i64 0, .slice ga 0 gc, .slice (some ⟨b, off, none⟩) 1 cap] 98) ∧
      IterT Try.prog 76 lb (fun x : HR => #[(hp x.n x.t).val, .agg #[.int .i64 x.s, .int .i64 x.a]]) (fun _ => True) (fun pre y _ => pre = [] ∧ y = x) (fun xs => xs = [x]) (fun _ => False) w' := by
  have hB := bel_alloc (Below.refl w.heap.size w) (.cells #[.int .i64 x.n, .int .i64 1, .int .i64 0, .int .i64 x.t, .int .i64 0, .int .i64 0, .slice ga 0 gc, .slice (some ⟨b, off, none⟩) 1 cap] 98)
  have HI := Lib.hid (parts_iter x ga gc b off cap w.heap.size _ (World.alloc_heap_new w (.cells #[.int .i64 x.n, .int .i64 1, .int .i64 0, .int .i64 x.t, .int .i64 0, .int .i64 0, .slice ga 0 gc, .slice (some ⟨b, off, none⟩) 1 cap] 98)) (spotJ_at hs hb hB) (Nat.lt_of_lt_of_le hb hB.size) hcap)
  clear hs hb hB hcap
  go_enter Try.func50, Try.ntmps50
  go_wp2
  go_ret
  exact ⟨_, rfl, rfl, HI.out⟩

end Go.Proofs.Ytdncdlbhgaehmaa

/- Package join: Of, where each ledger has one group that has but a hard state. -/
namespace Go.Proofs.Ytdncdlbhgaehmaa
open Go.RowKit Go.Shelf
set_option linter.unusedVariables false
attribute [local go_sem] Oper.semAt_some wide_fn wide_round_fn

theorem LT.noRecJ {W : World} {e : Nat} {A : List LG} {T : Nat → Prop} (h : LT W e A T) {k : Nat} (hk : T k) {o : Obj} (hq : W.heap[k]? = some o) : isRec o = false := by
  obtain ⟨M, F, h, -, rfl⟩ := h
  rcases hk with rfl | rfl | ⟨x, hx, rfl | rfl⟩
  · rw [h.box] at hq; cases hq; rfl
  · obtain ⟨es, cl, hb⟩ := h.map.block
    rw [hb] at hq; cases hq; rfl
  · obtain ⟨-, a, c, h1, -⟩ := h.logs x hx
    rw [h1] at hq; cases hq; rfl
  · obtain ⟨-, a, c, -, h1, -⟩ := h.logs x hx
    obtain ⟨es, cl, hb⟩ := h1.block
    rw [hb] at hq; cases hq; rfl
theorem rec_no_cell {W : World} {p : Addr} {o : Obj} (hl : W.heap[p.block]? = some o) (ho : isRec o = true) (u : Value) : W.cell? p ≠ some u := fun e => by
  have hcc : o.isCells = false := by cases o <;> first | rfl | cases ho
  obtain ⟨o2, h2, h3⟩ := isCells_of_cell e
  rw [hl] at h2
  cases h2; rw [hcc] at h3; cases h3
theorem LT.turnJ {W : World} {e l : Nat} {A : List LG} {T : Nat → Prop} {o o' : Obj} (h : LT W e A T) (hl : W.heap[l]? = some o) (ho : isRec o = true) : LT (W.putObj l o') e A T := by
  have hT : ¬ T l := fun hk => by have := h.noRecJ hk hl; rw [this] at ho; cases ho
  obtain ⟨M, F, h, h1, rfl⟩ := h
  refine ⟨M, F, h.frame (T := fun k => k = l) (frame_putObjX W l o') (fun k hk e => hT (e ▸ hk)) (fun a es hr k hk e => ?_), h1, rfl⟩
  subst e
  obtain ⟨b, off, rfl, h0, rfl⟩ := hk
  obtain ⟨b', off', e, hlt, hc⟩ := hr.2.2 h0
  cases e
  cases es with
  | nil => exact absurd h0 (by simp)
  | cons y es => exact rec_no_cell (p := ⟨_, _, none⟩) hl ho _ (hc 0 (by simp [entryCells, EntryC.cells]))
theorem AbidesX.cellJ {B : Nat} {a : Addr} {v : Value} : AbidesX B (fun W => W.cell? a = some v) := fun W l r o' hl hp hr => by
  have hne : a.block ≠ l := fun e => rec_no_cell (p := a) (by rw [e]; exact hr) rfl v hp
  exact (World.cell?_of_block (w := W) (World.putObj_heap_other hne)).trans hp
theorem AbidesX.sizeJ {B b : Nat} : AbidesX B (fun W => b < W.heap.size) := fun W l r o' hl hp hr => by
  have := (frame_putObjX W l o').size
  exact Nat.lt_of_lt_of_le hp this
/-- All that is put together: its ledger at e, held in the box B3. -/
def jI (W : World) (B3 e : Nat) (A : List LG) (T : Nat → Prop) (W1 : World) : Prop :=
  LT W1 e A T ∧ W1.heap[B3]? = some (.cells #[.pointer (some ⟨e, 0, none⟩)] 53 (0, 0)) ∧ Below W.heap.size W W1 ∧ W.heap.size ≤ B3 ∧ ∀ k, T k → W.heap.size ≤ k ∧ k ≠ B3
theorem jI.below {W W1 W2 : World} {B3 e : Nat} {A : List LG} {T : Nat → Prop} (h : jI W B3 e A T W1) (hB : Below W1.heap.size W1 W2) : jI W B3 e A T W2 :=
  ⟨h.1.below hB, (hB.block _ (heap_lt h.2.1)).trans h.2.1, bel2 h.2.2.1 hB, h.2.2.2⟩
theorem jI.turn {W W1 : World} {B3 e l : Nat} {A : List LG} {T : Nat → Prop} {o o' : Obj} (h : jI W B3 e A T W1) (hl : W1.heap[l]? = some o) (ho : isRec o = true) (hWl : W.heap.size ≤ l) : jI W B3 e A T (W1.putObj l o') := by
  have hF := frame_putObjX W1 l o'
  exact ⟨h.1.turnJ hl ho, hF.get h.2.1 (fun e => by have h9 := h.2.1; rw [show B3 = l from e, hl] at h9; have h8 := Option.some.inj h9; subst h8; cases ho), h.2.2.1.trans (hF.toBelow h.2.2.1.size (fun k hk => hk ▸ hWl)), h.2.2.2⟩
theorem jI.do {W W1 W2 : World} {B3 e : Nat} {A A' : List LG} {T T' : Nat → Prop} (h : jI W B3 e A T W1) (h1 : LT W2 e A' T') (hF : FrameT T W1 W2) (hT : ∀ k, T' k → T k ∨ W1.heap.size ≤ k) : jI W B3 e A' T' W2 := by
  obtain ⟨a1, a2, a3, a4, a5⟩ := h
  refine ⟨h1, hF.get a2 (fun e => (a5 _ e).2 rfl), a3.trans (hF.toBelow a3.size (fun k hk => (a5 k hk).1)), a4, fun k hk => ?_⟩
  rcases hT k hk with h | h
  · exact a5 k h
  · have := heap_lt a2; have := a3.size; omega
def ldoS (A : List LG) (s : List HR) : List LG := s.foldl (fun A x => ldo A [(hp x.n x.t, [])] x.s x.a) A
/-- Within a round of Of: what the inner loop holds. -/
def jI2 (W W2 : World) (B3 e : Nat) (A : List LG) (T : Nat → Prop) (s : List HR) (T1 : Nat → Prop) (Wz : World) : Prop :=
  jI W B3 e (ldoS A s) T1 Wz ∧ FrameT T W2 Wz ∧ ∀ k, T1 k → T k ∨ W2.heap.size ≤ k
theorem jI2.below {W W2 Wz Wy : World} {B3 e : Nat} {A : List LG} {T T1 : Nat → Prop} {s : List HR} (h : jI2 W W2 B3 e A T s T1 Wz) (hB : Below Wz.heap.size Wz Wy) : jI2 W W2 B3 e A T s T1 Wy :=
  ⟨h.1.below hB, h.2.1.trans (FrameT.below hB), h.2.2⟩
theorem jI2.turn {W W2 Wz : World} {B3 e l : Nat} {A : List LG} {T T1 : Nat → Prop} {s : List HR} {o o' : Obj} (h : jI2 W W2 B3 e A T s T1 Wz) (hl : Wz.heap[l]? = some o) (ho : isRec o = true) (hWl : W.heap.size ≤ l) (h2 : W2.heap.size ≤ l) : jI2 W W2 B3 e A T s T1 (Wz.putObj l o') := by
  have g := frame_putObjX Wz l o'
  exact ⟨h.1.turn hl ho hWl, ⟨g.os.trans h.2.1.os, g.tape.trans h.2.1.tape, g.output.trans h.2.1.output, Nat.le_trans h.2.1.size g.size, fun k hk hT => (g.block k (Nat.lt_of_lt_of_le hk h.2.1.size) (by show ¬ k = l; omega)).trans (h.2.1.block k hk hT)⟩, h.2.2⟩
theorem jI2.do {W W2 Wz Wy : World} {B3 e : Nat} {A A' : List LG} {T T1 T' : Nat → Prop} {x : HR} (h : jI2 W W2 B3 e A T [] T1 Wz) (h1 : LT Wy e A' T') (hA : A' = ldo A [(hp x.n x.t, [])] x.s x.a) (hF : FrameT T1 Wz Wy) (hT : ∀ k, T' k → T1 k ∨ Wz.heap.size ≤ k) : jI2 W W2 B3 e A T [x] T' Wy := by
  subst hA
  refine ⟨h.1.do h1 hF hT, ⟨hF.os.trans h.2.1.os, hF.tape.trans h.2.1.tape, hF.output.trans h.2.1.output, Nat.le_trans h.2.1.size hF.size, fun k hk hz => (hF.block k (Nat.lt_of_lt_of_le hk h.2.1.size) (fun e => ?_)).trans (h.2.1.block k hk hz)⟩, fun k hk => ?_⟩
  · rcases h.2.2 k e with h9 | h9
    · exact hz h9
    · omega
  · rcases hT k hk with h9 | h9
    · exact h.2.2 k h9
    · exact .inr (Nat.le_trans h.2.1.size h9)
/-- What Of makes: the first ledger's copy, what the others have on top. -/
def firstA : List HR → List LG
  | [] => []
  | x :: _ => [hl x]
def joinAll (X : List HR) : List LG := joinL X (firstA X)
theorem firstA_ok {X : List HR} (hX : ∀ x ∈ X, x.ok) : okA 2 (firstA X) := by
  cases X with
  | nil => intro L hL; cases hL
  | cons x r => intro L hL; rw [show L = hl x from List.mem_singleton.1 hL]; exact hl_ok (hX x (by simp))
theorem firstA_len (X : List HR) : (firstA X).length ≤ 1 := by cases X <;> simp [firstA]
def OfPost (W : World) (A : List LG) (r : Ending) (w' : World) : Prop := ∃ e, r = .returned (.pointer (some ⟨e, 0, none⟩)) ∧ LG1 W e A w'
theorem LT.setJ {W : World} {e B : Nat} {A : List LG} {T : Nat → Prop} {q : Option Addr} {t : TypeId} (h : LT W e A T) (hb : W.heap[B]? = some (.cells #[.pointer q] t (0, 0))) (hT : ¬ T B) (u : Value) : LT (W.setCell ⟨B, 0, none⟩ u) e A T := by
  obtain ⟨M, F, h, h1, rfl⟩ := h
  refine ⟨M, F, h.frame (FrameT.setCell W B 0 u) (fun k hk e => hT (e ▸ hk)) (fun a es hr k hk e => ?_), h1, rfl⟩
  have e' : k = B := e
  subst e'
  obtain ⟨b, off, rfl, h0, rfl⟩ := hk
  obtain ⟨b', off', e, hlt, hc⟩ := hr.2.2 h0
  cases e
  cases es with
  | nil => exact absurd h0 (by simp)
  | cons y es =>
    have h2 := hc 0 (by simp [entryCells, EntryC.cells])
    rw [Lib.cell_of_heap hb] at h2
    have h3 := Array.mem_of_getElem? h2
    simp [entryCells, EntryC.cells] at h3
theorem jI_new {W w1 : World} {e : Nat} (h : LG1 W e [] w1) : ∃ T, jI W w1.heap.size e [] T (w1.alloc (.cells #[.pointer (some ⟨e, 0, none⟩)] 53)) := by
  obtain ⟨T, h1, h2, h3⟩ := h
  have hB := bel_alloc (Below.refl w1.heap.size w1) (.cells #[.pointer (some ⟨e, 0, none⟩)] 53)
  exact ⟨T, h1.below hB, World.alloc_heap_new w1 _, bel2 h2 hB, h2.size, fun k hk => ⟨h3 k hk, fun e => by have := h1.lt hk; omega⟩⟩
theorem jI_copy {W w1 w2 : World} {e0 e : Nat} {A : List LG} (hB : Below W.heap.size W w1) (h : LG1 (w1.alloc (.cells #[.pointer (some ⟨e0, 0, none⟩)] 53)) e A w2) : w2.cell? ⟨w1.heap.size, 0, none⟩ = some (.pointer (some ⟨e0, 0, none⟩)) ∧ w2.frozen? ⟨w1.heap.size, 0, none⟩ = false ∧ ∃ T, jI W w1.heap.size e A T (w2.setCell ⟨w1.heap.size, 0, none⟩ (.pointer (some ⟨e, 0, none⟩))) := by
  obtain ⟨T, h1, h2, h3⟩ := h
  have hbx := World.alloc_heap_new w1 (.cells #[.pointer (some ⟨e0, 0, none⟩)] 53)
  have hb2 := (h2.block _ (heap_lt hbx)).trans hbx
  have hs : (w1.alloc (.cells #[.pointer (some ⟨e0, 0, none⟩)] 53)).heap.size = w1.heap.size + 1 := World.size_alloc _ _
  have hB2 : Below W.heap.size W w2 := bel2 (bel2 hB (bel_alloc (Below.refl _ _) _)) h2
  have hT : ¬ T w1.heap.size := fun hk => by have := h3 _ hk; omega
  refine ⟨cell_of_row _ _ 0 _ _ _ hb2, frozen_of_row _ _ 0 _ _ hb2, T, h1.setJ hb2 hT _, heap_setCell_same _ _ 0 _ _ _ hb2, hB2.setCell (p := ⟨w1.heap.size, 0, none⟩) hB.size _, hB.size, fun k hk => ⟨?_, fun e => hT (e ▸ hk)⟩⟩
  have := h3 k hk; have := hB.size; omega
theorem joinA_some {A : List LG} {x : HR} {L : LG} (h : getZ LG.n A x.n = some L) : joinA A x = A := by unfold joinA; rw [h]; exact if_pos rfl
theorem joinA_none {A : List LG} {x : HR} (hx : x.ok) (h : getZ LG.n A x.n = none) : joinA A x = ldoS A [x] := by
  show _ = ldo A [(hp x.n x.t, [])] x.s x.a
  rw [hl_ldo hx h]
  unfold joinA; rw [h, if_neg (by simp)]
set_option maxRecDepth 100000 in
set_option maxHeartbeats 8000000 in
theorem jof_any (W : World) (la : Option Addr) (lc : Nat) (E : List Nat) (X : List HR) (hX : ∀ x ∈ X, x.ok) (hl : E.length = X.length ∧ E.length < 1000) (h : RowLs la E X W) : Calls Try.prog 28 #[.slice la E.length lc] W (OfPost W (joinAll X)) := by
  obtain ⟨n, hn⟩ : ∃ n, E.length = n := ⟨_, rfl⟩
  have GN := Lib.hid (fun w (hB : Below W.heap.size W w) => gNew1 (w := W) hB)
  have GH := Lib.hid (fun w => holdings_makes la lc E X hX hl w)
  have HRW := Lib.hid (fun w (hB : Below W.heap.size W w) => h.below hB)
  have HX' := Lib.hid hX
  have HL := Lib.hid hl
  have HE := Lib.hid hn
  have HN := Lib.hid (show X.length < 1000 by omega)
  rw [hn] at GH ⊢
  have hrw := h.2.1
  have hlt := h.2.2
  clear h hX hl
  refine (callsIn_wide (n := 9)).1 ?_
  refine callsIn_of_wp_marks Try.func28 rfl trivial ?_ rfl
  simp only [Try.ntmps28, List.size_toArray, List.length_cons, List.length_nil, Nat.reduceAdd, Nat.reduceSub, Array.replicate_succ, Array.replicate_zero, List.push_toArray, List.append_toArray, List.nil_append, List.cons_append]
  by_cases h0 : n = 0
  · obtain rfl : X = [] := by
      cases X with
      | nil => rfl
      | cons a b => have := HL.out.1; rw [HE.out] at this; exact absurd (this.symm.trans h0) (by simp)
    have h0' : ¬ (0 : Int) < (n : Int) := by omega
    clear hrw hlt hn h0
    gi_wp2_with (first
      | (gi_at_call 26; refine (callsIn_wide.2 (GN.out _ (Below.refl _ _))).mono ?_; rintro e1 w1 ⟨e, rfl, hg0, hge, hB1⟩; obtain ⟨T0, hJ0⟩ := jI_new hg0; have HJ0 := Lib.hid hJ0; clear hg0 hge hB1 hJ0)
      | (gi_at_call 48; fail))
    generalize w1.alloc (.cells #[.pointer (some ⟨e, 0, none⟩)] 53) = w3 at HJ0 ⊢
    generalize w1.heap.size = B3 at HJ0 ⊢
    obtain ⟨A0, hA0⟩ : ∃ A0 : List LG, A0 = [] := ⟨_, rfl⟩
    rw [← hA0] at HJ0
    have HA0 := Lib.hid (show okA 2 A0 ∧ A0.length ≤ 1 by rw [hA0]; exact ⟨(fun L hL => by cases hL), Nat.zero_le _⟩)
    obtain ⟨X, hX0⟩ : ∃ X : List HR, X = [] := ⟨_, rfl⟩
    have HA00 := Lib.hid (show joinL X A0 = joinAll [] by rw [hX0, hA0]; rfl)
    clear hA0
    rw [← hX0] at GH HRW HX' HL HN
    clear hX0
    gi_wp2_with (gi_at_call 48; refine (callsIn_wide.2 (GH.out _)).mono ?_; rintro e1 w5 ⟨lb, rfl, hw5, hI5⟩; have HW5 := Lib.hid hw5; have HI5 := Lib.hid hI5; clear hw5 hI5)
    have hB35 : Below w3.heap.size w3 w5 := by rw [HW5.out]; exact bel_alloc (Below.refl _ _) _
    have HJ5 := Lib.hid (HJ0.out.below hB35)
    have HW5s := Lib.hid (show W.heap.size ≤ w5.heap.size from HJ5.out.2.2.1.size)
    clear hB35
    refine range_outerT rfl (enters_of Try.func75 (by kernel_rfl) rfl) HI5.out (fun _ => rfl) (fun k hk => hk.elim) T0
      (fun pre T W1 => (∀ z ∈ pre, z.x ∈ X) ∧ jI W B3 e (joinL (pre.map HX.x) A0) T W1) (fun _ _ _ => False) (fun s T W1 l r o' hl2 hp hr => ⟨hp.1, hp.2.turn hr rfl (Nat.le_trans HW5s.out hl2)⟩) (fun _ _ _ _ _ _ _ hp _ => hp) (fun s T W1 hp => ⟨HRW.out _ hp.2.2.2.1, fun k hk => ⟨hp.2.1.lt hk, id⟩⟩) (fun s T W1 hp k hk o ho => hp.2.1.noRecJ hk ho) (fun s T W1 W2 hp hB => ⟨hp.1, hp.2.below hB⟩) ⟨(fun z hz => by cases hz), HJ5.out⟩ ?hr ?hd ?hs
    case hr =>
      rintro l0 pre y T W1 hnx hll ⟨hpm, hi1⟩ hrec
      obtain ⟨yx, yga, ygc, yb, yoff, ycap⟩ := y
      obtain ⟨⟨hpl, hyx⟩, hyc, hyb, hys⟩ := hnx
      dsimp only at *
      have hyX : yx ∈ X := hyx ▸ List.getElem_mem _
      have hyo := HX'.out yx hyX
      have HPM := Lib.hid (show ∀ z ∈ pre ++ [(⟨yx, yga, ygc, yb, yoff, ycap⟩ : HX)], z.x ∈ X from fun z hz => by
        rcases List.mem_append.1 hz with hz | hz
        · exact hpm z hz
        · rw [List.mem_singleton.1 hz]; exact hyX)
      obtain ⟨A, hA⟩ : ∃ A, A = joinL (pre.map HX.x) A0 := ⟨_, rfl⟩
      have HJA := Lib.hid (show joinL ((pre ++ [(⟨yx, yga, ygc, yb, yoff, ycap⟩ : HX)]).map HX.x) A0 = joinA A yx by rw [List.map_append, hA]; exact joinL_snoc _ _ _)
      have HAok := Lib.hid (show okA 2 A from by
        rw [hA]
        exact joinL_ok _ (fun z hz => by
          obtain ⟨q, hq, rfl⟩ := List.mem_map.1 hz
          exact HX'.out _ (hpm q hq)) HA0.out.1)
      have HAln := Lib.hid (show A.length ≤ 1001 from by
        have h1 := joinL_len (pre.map HX.x) A0
        rw [← hA, List.length_map] at h1
        have h2 := HA0.out.2
        have h3 := HN.out
        omega)
      rw [← hA] at hi1
      have HYO := Lib.hid hyo
      have hBa := bel_alloc (Below.refl W1.heap.size W1) (.cells #[.int .i64 yx.n, .int .i64 1, .int .i64 0, .int .i64 yx.t, .int .i64 0, .int .i64 0, .slice yga 0 ygc, .slice (some ⟨yb, yoff, none⟩) 1 ycap] 98)
      have hW1 : W.heap.size ≤ W1.heap.size := hi1.2.2.1.size
      clear hpm hyx hyX hA hpl
      gi_wp2
      refine rdThenT_mk (fun W' => jI W B3 e A T W' ∧ (W'.heap[W1.heap.size]? = some (.cells #[.int .i64 yx.n, .int .i64 1, .int .i64 0, .int .i64 yx.t, .int .i64 0, .int .i64 0, .slice yga 0 ygc, .slice (some ⟨yb, yoff, none⟩) 1 ycap] 98 (0, 0)) ∧ (yb < W'.heap.size ∧ (W'.cell? ⟨yb, yoff + 1, none⟩ = some (.int .i64 (-1)) ∧ (W'.cell? ⟨yb, yoff + 2, none⟩ = some (.int .i64 yx.s) ∧ W'.cell? ⟨yb, yoff + 3, none⟩ = some (.int .i64 yx.a))))))
        (AbidesX.and (fun W' l r o' hl2 hp hr => hp.turn hr rfl (Nat.le_trans HW5s.out hl2)) (AbidesX.cells.and (AbidesX.sizeJ.and (AbidesX.cellJ.and (AbidesX.cellJ.and AbidesX.cellJ))))) ⟨hi1.below hBa, World.alloc_heap_new W1 _, Nat.lt_of_lt_of_le hyb hBa.size, spotJ_at hys hyb hBa⟩ hBa ?_
      clear hi1 hys hBa hrec hyb hyo
      generalize W1.heap.size = Xh
      clear hW1 W1
      rintro W2 ⟨hJ2, hh, hb2, hs2⟩ hrec2
      obtain ⟨x0, x1, x2, x3, x4, x5, x6, x7⟩ := cells8 hh
      have b3 : W2.cell? ⟨B3, 0, none⟩ = some (.pointer (some ⟨e, 0, none⟩)) := cell_of_row _ _ 0 _ _ _ hJ2.2.1
      have HJ2 := Lib.hid hJ2
      have HH2 := Lib.hid hh
      have HS2 := Lib.hid (And.intro hb2 hs2)
      have HRC := Lib.hid hrec2
      have GG := tGet hJ2.1 yx.n ⟨by have := HYO.out.1; omega, by have := HYO.out.1; omega⟩
      clear hJ2 hh hb2 hs2 hrec2
      cases hg : getZ LG.n A yx.n with
      | some L =>
        have HJS := Lib.hid (joinA_some hg)
        obtain ⟨⟨id, fi, te, ht, hv, hc, gl⟩, F⟩ := L
        have GS := Lib.hid (GG.mono (R' := fun r w' => ∃ va vc, r = .returned (.tuple #[.agg #[.int .i64 id, .int .i64 fi, .int .i64 te, .int .i64 ht, .int .i64 hv, .int .i64 hc, .slice va gl.length vc], .bool true]) ∧ Below W2.heap.size W2 w') (by
          rintro r w' ⟨hB, (⟨L, va, vc, h1, rfl, -⟩ | ⟨h1, -⟩)⟩
          · rw [hg] at h1; cases h1; exact ⟨va, vc, rfl, hB⟩
          · rw [hg] at h1; cases h1))
        clear GG hg
        gi_wp2_with (gi_at_call 49; refine (callsIn_wide.2 GS.out).mono ?_; rintro e1 w6 ⟨va, vc, rfl, hB6⟩; have HB6 := Lib.hid hB6; clear hB6)
        have hB7 := bel2 HB6.out (bel_alloc (Below.refl w6.heap.size w6) (.cells #[.int .i64 id, .int .i64 fi, .int .i64 te, .int .i64 ht, .int .i64 hv, .int .i64 hc, .slice va gl.length vc] 65))
        exact ⟨FrameT.below hB7, T, ⟨HPM.out, by rw [HJA.out, HJS.out]; exact HJ2.out.below hB7⟩, fun k hk => .inl hk⟩
      | none =>
        have HJS := Lib.hid (joinA_none HYO.out hg)
        have GS := Lib.hid (GG.mono (R' := fun r w' => r = .returned (.tuple #[.agg #[.int .i64 0, .int .i64 0, .int .i64 0, .int .i64 0, .int .i64 0, .int .i64 0, .slice none 0 0], .bool false]) ∧ Below W2.heap.size W2 w') (by
          rintro r w' ⟨hB, (⟨L, va, vc, h1, -⟩ | ⟨-, rfl⟩)⟩
          · rw [hg] at h1; cases h1
          · exact ⟨rfl, hB⟩))
        clear GG hg
        have GP := Lib.hid (fun w6 (hB : Below W2.heap.size W2 w6) => parts_makes yx yga ygc yb yoff ycap w6 (spotJ_at HS2.out.2 HS2.out.1 hB) (Nat.lt_of_lt_of_le HS2.out.1 hB.size) hyc)
        gi_wp2_with (first
          | (gi_at_call 49; refine (callsIn_wide.2 GS.out).mono ?_; rintro e1 w6 ⟨rfl, hB6⟩; have hB7 := bel2 hB6 (bel_alloc (Below.refl w6.heap.size w6) (.cells #[.int .i64 0, .int .i64 0, .int .i64 0, .int .i64 0, .int .i64 0, .int .i64 0, .slice none 0 0] 65)); have HB7 := Lib.hid hB7; have hh7 := (hB7.block _ (heap_lt HH2.out)).trans HH2.out; clear x0 x1 x2 x3 x4 x5 x6 x7; obtain ⟨x0, x1, x2, x3, x4, x5, x6, x7⟩ := cells8 hh7; clear hB6 hB7 hh7)
          | (gi_at_call 50; refine (callsIn_wide.2 (GP.out _ HB7.out)).mono ?_; rintro e1 w8 ⟨lb2, rfl, hw8, hI8⟩; have HW8 := Lib.hid hw8; have HI8 := Lib.hid hI8; clear hw8 hI8))
        have hB8 : Below W2.heap.size W2 w8 := by rw [HW8.out]; exact bel2 HB7.out (bel_alloc (Below.refl _ _) _)
        have hr8 : ∃ r0, w8.heap[l0]? = some (.loop r0) := by
          obtain ⟨r0, hr0⟩ := HRC.out
          exact ⟨r0, (hB8.block _ (heap_lt hr0)).trans hr0⟩
        have HB8 := Lib.hid hB8
        have HJ8 := Lib.hid (show jI2 W W2 B3 e A T [] T w8 from ⟨HJ2.out.below hB8, FrameT.below hB8, fun k hk => .inl hk⟩)
        have HZ := Lib.hid (show W.heap.size ≤ w8.heap.size ∧ W2.heap.size ≤ w8.heap.size from ⟨(HJ2.out.below hB8).2.2.1.size, hB8.size⟩)
        clear hB8 x0 x1 x2 x3 x4 x5 x6 x7 b3
        refine range_innerT rfl (enters_of Try.func76 (by kernel_rfl) rfl) hr8 HI8.out (fun _ => rfl) T
          (fun s T1 Wz => jI2 W W2 B3 e A T s T1 Wz) (fun _ _ _ => False) (fun s T1 Wz l r o' hl2 hp hr => hp.turn hr rfl (Nat.le_trans HZ.out.1 hl2) (Nat.le_trans HZ.out.2 hl2)) (fun _ _ _ _ _ _ _ hp _ => hp) (fun s T1 Wz hp => ⟨trivial, fun k hk => ⟨hp.1.1.lt hk, id⟩⟩) (fun s T1 Wz hp k hk o ho => hp.1.1.noRecJ hk ho) (fun s T1 Wz Wy hp hB => hp.below hB) HJ8.out ?jr ?jd ?js
        case jr =>
          clear hr8
          rintro l1 pre2 z T1 Wz ⟨rfl, rfl⟩ hl1 hI2 hrec6
          have hB9 : Below Wz.heap.size Wz ((Wz.alloc (.cells #[.int .i64 z.n, .int .i64 2, .slice none 0 0, .int .i64 z.t, .int .i64 0, .int .i64 0, .int .i64 0, .int .i64 0, .bool false, .bool false] 41)).alloc (.cells #[.int .i64 z.s, .int .i64 z.a] 34)) := bel_alloc (bel_alloc (Below.refl _ _) _) _
          have n1 := two_a Wz #[.int .i64 z.n, .int .i64 2, .slice none 0 0, .int .i64 z.t, .int .i64 0, .int .i64 0, .int .i64 0, .int .i64 0, .bool false, .bool false] #[.int .i64 z.s, .int .i64 z.a] 41 34
          have n2 := two_b Wz #[.int .i64 z.n, .int .i64 2, .slice none 0 0, .int .i64 z.t, .int .i64 0, .int .i64 0, .int .i64 0, .int .i64 0, .bool false, .bool false] #[.int .i64 z.s, .int .i64 z.a] 41 34
          gi_wp2
          refine rdThenT_mk (fun W' => jI2 W W2 B3 e A T [] T1 W' ∧ (W'.heap[Wz.heap.size]? = some (.cells #[.int .i64 z.n, .int .i64 2, .slice none 0 0, .int .i64 z.t, .int .i64 0, .int .i64 0, .int .i64 0, .int .i64 0, .bool false, .bool false] 41 (0, 0)) ∧ W'.heap[Wz.heap.size + 1]? = some (.cells #[.int .i64 z.s, .int .i64 z.a] 34 (0, 0))))
            (AbidesX.and (fun W' l r o' hl2 hp hr => hp.turn hr rfl (Nat.le_trans HZ.out.1 hl2) (Nat.le_trans HZ.out.2 hl2)) (AbidesX.cells.and AbidesX.cells)) ⟨hI2.below hB9, n1, n2⟩ hB9 ?_
          clear hI2 hrec6 hB9 n1 n2
          generalize Wz.heap.size = Xp
          clear Wz
          rintro W6 ⟨hI6, hp6, ha6⟩ hrec6
          have b3 : W6.cell? ⟨B3, 0, none⟩ = some (.pointer (some ⟨e, 0, none⟩)) := cell_of_row _ _ 0 _ _ _ hI6.1.2.1
          obtain ⟨u0, u1, u2, u3, u4, u5, u6, u7, u8, u9⟩ := cells10a hp6
          have hB7 := bel_alloc (Below.refl W6.heap.size W6) (.cells #[.int .i64 z.n, .int .i64 2, .slice none 0 0, .int .i64 z.t, .int .i64 0, .int .i64 0, .int .i64 0, .int .i64 0, .bool false, .bool false] 41)
          have ha7 := (hB7.block _ (heap_lt ha6)).trans ha6
          have t0 := cell_of_row _ _ 0 _ _ _ ha7
          have t1 := cell_of_row _ _ 1 _ _ _ ha7
          have hI7 := hI6.below hB7
          have GD := Lib.hid (tDo hI7.1.1 HAok.out (some ⟨W6.heap.size, 0, none⟩) 1 1 [(hp z.n z.t, [])] ⟨rfl, by decide, rowV_new W6 41 #[.int .i64 z.n, .int .i64 2, .slice none 0 0, .int .i64 z.t, .int .i64 0, .int .i64 0, .int .i64 0, .int .i64 0, .bool false, .bool false] 1 10 rfl (by decide), fun q hq => by rw [List.mem_singleton.1 hq]; exact hasE_nil rfl rfl⟩ (c := 0) (fun q hq => by rw [List.mem_singleton.1 hq]; exact ⟨Nat.le_refl _, Nat.le_refl _⟩) (by decide) (by have := HAln.out; show A.length + 1 < 100000; omega) z.s z.a)
          have HI7 := Lib.hid hI7
          have HB7' := Lib.hid hB7
          clear hI6 hp6 ha6 hB7 ha7 hI7 hrec6
          gi_wp2_with (gi_at_call 27; refine (callsIn_wide.2 GD.out).mono ?_; rintro e1 w9 ⟨⟨v9, rfl⟩, T', h9, hF9, hT9⟩)
          have hz := HI7.out.do h9 rfl hF9 hT9
          exact ⟨(FrameT.below HB7'.out).trans hF9, T', hz, fun k hk => (hT9 k hk).imp id (fun h => Nat.le_trans HB7'.out.size h)⟩
        case jd =>
          clear hr8
          rintro xs T1 Wz hfin hI2
          subst hfin
          have HI2 := Lib.hid hI2
          clear hI2
          gi_wp2
          exact ⟨HI2.out.2.1, T1, ⟨HPM.out, by rw [HJA.out, HJS.out]; exact HI2.out.1⟩, HI2.out.2.2⟩
        case js =>
          rintro cc pre2 z Wz hf
          exact hf.elim
    case hd =>
      rintro xs T Wd hfin ⟨-, hi⟩ hD
      have hc3 : Wd.cell? ⟨B3, 0, none⟩ = some (.pointer (some ⟨e, 0, none⟩)) := cell_of_row _ _ 0 _ _ _ hi.2.1
      rw [hfin] at hi
      have HI := Lib.hid hi
      have HD := Lib.hid hD
      clear hi hD
      gi_wp2
      have hz := HI.out.turn (o' := .deferred none) HD.out rfl HW5s.out
      exact leave_one HD.out (results_tmp rfl _ _ _) ⟨e, rfl, T, by rw [HA00.out] at hz; exact hz.1, hz.2.2.1, fun k hk => (hz.2.2.2.2 k hk).1⟩
    case hs =>
      rintro cc pre x Wd hf
      exact hf.elim
  · have h0' : (0 : Int) < (n : Int) := by omega
    obtain ⟨rb, ro, rfl, hrb, hrow⟩ := hrw (by omega)
    obtain ⟨x0, X', hXX⟩ : ∃ x0 X', X = x0 :: X' := by
      cases X with
      | nil => exact absurd (HE.out.symm.trans HL.out.1) h0
      | cons a b => exact ⟨_, _, rfl⟩
    have c0 := hrow 0 (by omega)
    obtain ⟨Ti, hTi⟩ := hlt 0 (by omega) (by rw [hXX]; simp)
    have hx0 : X[0]'(by rw [hXX]; simp) = x0 := by subst hXX; rfl
    rw [hx0] at hTi
    generalize E[0] = f0 at *
    have GC := Lib.hid (fun w (hB : Below W.heap.size W w) => tCopy (hTi.below hB) (show 1 ≤ 1000 by decide))
    have HA00 := Lib.hid (show joinL X [hl x0] = joinAll X by rw [hXX]; rfl)
    have HA0 := Lib.hid (show okA 2 [hl x0] ∧ [hl x0].length ≤ 1 from ⟨fun L hL => by rw [List.mem_singleton.1 hL]; exact hl_ok (HX'.out x0 (by rw [hXX]; simp)), Nat.le_refl _⟩)
    clear hrow hTi hx0 hXX hrw hlt hn h0
    gi_wp2_with (first
      | (gi_at_call 26; refine (callsIn_wide.2 (GN.out _ (Below.refl _ _))).mono ?_; rintro e1 w1 ⟨e0, rfl, hg0, hge, hB1⟩; have HB1 := Lib.hid hB1; have c1 := (bel2 hB1 (bel_alloc (Below.refl w1.heap.size w1) (.cells #[.pointer (some ⟨e0, 0, none⟩)] 53))).cell (p := ⟨rb, ro + 0, none⟩) hrb; rw [c0, Nat.add_zero] at c1; clear hg0 hge hB1)
      | (gi_at_call 47; refine (callsIn_wide.2 (GC.out _ (bel2 HB1.out (bel_alloc (Below.refl _ _) _)))).mono ?_; rintro e1 w2 ⟨e, rfl, hC⟩; obtain ⟨k0, k1, T0, hJ0⟩ := jI_copy HB1.out hC; have HJ0 := Lib.hid hJ0; clear hJ0 hC)
      | (gi_at_call 48; fail))
    clear k0 k1 c0 c1
    generalize w2.setCell ⟨w1.heap.size, 0, none⟩ (.pointer (some ⟨e, 0, none⟩)) = w3 at HJ0 ⊢
    generalize w1.heap.size = B3 at HJ0 ⊢
    obtain ⟨A0, hA0⟩ : ∃ A0 : List LG, A0 = [hl x0] := ⟨_, rfl⟩
    rw [← hA0] at HJ0 HA0 HA00
    clear hA0
    gi_wp2_with (gi_at_call 48; refine (callsIn_wide.2 (GH.out _)).mono ?_; rintro e1 w5 ⟨lb, rfl, hw5, hI5⟩; have HW5 := Lib.hid hw5; have HI5 := Lib.hid hI5; clear hw5 hI5)
    have hB35 : Below w3.heap.size w3 w5 := by rw [HW5.out]; exact bel_alloc (Below.refl _ _) _
    have HJ5 := Lib.hid (HJ0.out.below hB35)
    have HW5s := Lib.hid (show W.heap.size ≤ w5.heap.size from HJ5.out.2.2.1.size)
    clear hB35
    refine range_outerT rfl (enters_of Try.func75 (by kernel_rfl) rfl) HI5.out (fun _ => rfl) (fun k hk => hk.elim) T0
      (fun pre T W1 => (∀ z ∈ pre, z.x ∈ X) ∧ jI W B3 e (joinL (pre.map HX.x) A0) T W1) (fun _ _ _ => False) (fun s T W1 l r o' hl2 hp hr => ⟨hp.1, hp.2.turn hr rfl (Nat.le_trans HW5s.out hl2)⟩) (fun _ _ _ _ _ _ _ hp _ => hp) (fun s T W1 hp => ⟨HRW.out _ hp.2.2.2.1, fun k hk => ⟨hp.2.1.lt hk, id⟩⟩) (fun s T W1 hp k hk o ho => hp.2.1.noRecJ hk ho) (fun s T W1 W2 hp hB => ⟨hp.1, hp.2.below hB⟩) ⟨(fun z hz => by cases hz), HJ5.out⟩ ?hr ?hd ?hs
    case hr =>
      rintro l0 pre y T W1 hnx hll ⟨hpm, hi1⟩ hrec
      obtain ⟨yx, yga, ygc, yb, yoff, ycap⟩ := y
      obtain ⟨⟨hpl, hyx⟩, hyc, hyb, hys⟩ := hnx
      dsimp only at *
      have hyX : yx ∈ X := hyx ▸ List.getElem_mem _
      have hyo := HX'.out yx hyX
      have HPM := Lib.hid (show ∀ z ∈ pre ++ [(⟨yx, yga, ygc, yb, yoff, ycap⟩ : HX)], z.x ∈ X from fun z hz => by
        rcases List.mem_append.1 hz with hz | hz
        · exact hpm z hz
        · rw [List.mem_singleton.1 hz]; exact hyX)
      obtain ⟨A, hA⟩ : ∃ A, A = joinL (pre.map HX.x) A0 := ⟨_, rfl⟩
      have HJA := Lib.hid (show joinL ((pre ++ [(⟨yx, yga, ygc, yb, yoff, ycap⟩ : HX)]).map HX.x) A0 = joinA A yx by rw [List.map_append, hA]; exact joinL_snoc _ _ _)
      have HAok := Lib.hid (show okA 2 A from by
        rw [hA]
        exact joinL_ok _ (fun z hz => by
          obtain ⟨q, hq, rfl⟩ := List.mem_map.1 hz
          exact HX'.out _ (hpm q hq)) HA0.out.1)
      have HAln := Lib.hid (show A.length ≤ 1001 from by
        have h1 := joinL_len (pre.map HX.x) A0
        rw [← hA, List.length_map] at h1
        have h2 := HA0.out.2
        have h3 := HN.out
        omega)
      rw [← hA] at hi1
      have HYO := Lib.hid hyo
      have hBa := bel_alloc (Below.refl W1.heap.size W1) (.cells #[.int .i64 yx.n, .int .i64 1, .int .i64 0, .int .i64 yx.t, .int .i64 0, .int .i64 0, .slice yga 0 ygc, .slice (some ⟨yb, yoff, none⟩) 1 ycap] 98)
      have hW1 : W.heap.size ≤ W1.heap.size := hi1.2.2.1.size
      clear hpm hyx hyX hA hpl
      gi_wp2
      refine rdThenT_mk (fun W' => jI W B3 e A T W' ∧ (W'.heap[W1.heap.size]? = some (.cells #[.int .i64 yx.n, .int .i64 1, .int .i64 0, .int .i64 yx.t, .int .i64 0, .int .i64 0, .slice yga 0 ygc, .slice (some ⟨yb, yoff, none⟩) 1 ycap] 98 (0, 0)) ∧ (yb < W'.heap.size ∧ (W'.cell? ⟨yb, yoff + 1, none⟩ = some (.int .i64 (-1)) ∧ (W'.cell? ⟨yb, yoff + 2, none⟩ = some (.int .i64 yx.s) ∧ W'.cell? ⟨yb, yoff + 3, none⟩ = some (.int .i64 yx.a))))))
        (AbidesX.and (fun W' l r o' hl2 hp hr => hp.turn hr rfl (Nat.le_trans HW5s.out hl2)) (AbidesX.cells.and (AbidesX.sizeJ.and (AbidesX.cellJ.and (AbidesX.cellJ.and AbidesX.cellJ))))) ⟨hi1.below hBa, World.alloc_heap_new W1 _, Nat.lt_of_lt_of_le hyb hBa.size, spotJ_at hys hyb hBa⟩ hBa ?_
      clear hi1 hys hBa hrec hyb hyo
      generalize W1.heap.size = Xh
      clear hW1 W1
      rintro W2 ⟨hJ2, hh, hb2, hs2⟩ hrec2
      obtain ⟨x0, x1, x2, x3, x4, x5, x6, x7⟩ := cells8 hh
      have b3 : W2.cell? ⟨B3, 0, none⟩ = some (.pointer (some ⟨e, 0, none⟩)) := cell_of_row _ _ 0 _ _ _ hJ2.2.1
      have HJ2 := Lib.hid hJ2
      have HH2 := Lib.hid hh
      have HS2 := Lib.hid (And.intro hb2 hs2)
      have HRC := Lib.hid hrec2
      have GG := tGet hJ2.1 yx.n ⟨by have := HYO.out.1; omega, by have := HYO.out.1; omega⟩
      clear hJ2 hh hb2 hs2 hrec2
      cases hg : getZ LG.n A yx.n with
      | some L =>
        have HJS := Lib.hid (joinA_some hg)
        obtain ⟨⟨id, fi, te, ht, hv, hc, gl⟩, F⟩ := L
        have GS := Lib.hid (GG.mono (R' := fun r w' => ∃ va vc, r = .returned (.tuple #[.agg #[.int .i64 id, .int .i64 fi, .int .i64 te, .int .i64 ht, .int .i64 hv, .int .i64 hc, .slice va gl.length vc], .bool true]) ∧ Below W2.heap.size W2 w') (by
          rintro r w' ⟨hB, (⟨L, va, vc, h1, rfl, -⟩ | ⟨h1, -⟩)⟩
          · rw [hg] at h1; cases h1; exact ⟨va, vc, rfl, hB⟩
          · rw [hg] at h1; cases h1))
        clear GG hg
        gi_wp2_with (gi_at_call 49; refine (callsIn_wide.2 GS.out).mono ?_; rintro e1 w6 ⟨va, vc, rfl, hB6⟩; have HB6 := Lib.hid hB6; clear hB6)
        have hB7 := bel2 HB6.out (bel_alloc (Below.refl w6.heap.size w6) (.cells #[.int .i64 id, .int .i64 fi, .int .i64 te, .int .i64 ht, .int .i64 hv, .int .i64 hc, .slice va gl.length vc] 65))
        exact ⟨FrameT.below hB7, T, ⟨HPM.out, by rw [HJA.out, HJS.out]; exact HJ2.out.below hB7⟩, fun k hk => .inl hk⟩
      | none =>
        have HJS := Lib.hid (joinA_none HYO.out hg)
        have GS := Lib.hid (GG.mono (R' := fun r w' => r = .returned (.tuple #[.agg #[.int .i64 0, .int .i64 0, .int .i64 0, .int .i64 0, .int .i64 0, .int .i64 0, .slice none 0 0], .bool false]) ∧ Below W2.heap.size W2 w') (by
          rintro r w' ⟨hB, (⟨L, va, vc, h1, -⟩ | ⟨-, rfl⟩)⟩
          · rw [hg] at h1; cases h1
          · exact ⟨rfl, hB⟩))
        clear GG hg
        have GP := Lib.hid (fun w6 (hB : Below W2.heap.size W2 w6) => parts_makes yx yga ygc yb yoff ycap w6 (spotJ_at HS2.out.2 HS2.out.1 hB) (Nat.lt_of_lt_of_le HS2.out.1 hB.size) hyc)
        gi_wp2_with (first
          | (gi_at_call 49; refine (callsIn_wide.2 GS.out).mono ?_; rintro e1 w6 ⟨rfl, hB6⟩; have hB7 := bel2 hB6 (bel_alloc (Below.refl w6.heap.size w6) (.cells #[.int .i64 0, .int .i64 0, .int .i64 0, .int .i64 0, .int .i64 0, .int .i64 0, .slice none 0 0] 65)); have HB7 := Lib.hid hB7; have hh7 := (hB7.block _ (heap_lt HH2.out)).trans HH2.out; clear x0 x1 x2 x3 x4 x5 x6 x7; obtain ⟨x0, x1, x2, x3, x4, x5, x6, x7⟩ := cells8 hh7; clear hB6 hB7 hh7)
          | (gi_at_call 50; refine (callsIn_wide.2 (GP.out _ HB7.out)).mono ?_; rintro e1 w8 ⟨lb2, rfl, hw8, hI8⟩; have HW8 := Lib.hid hw8; have HI8 := Lib.hid hI8; clear hw8 hI8))
        have hB8 : Below W2.heap.size W2 w8 := by rw [HW8.out]; exact bel2 HB7.out (bel_alloc (Below.refl _ _) _)
        have hr8 : ∃ r0, w8.heap[l0]? = some (.loop r0) := by
          obtain ⟨r0, hr0⟩ := HRC.out
          exact ⟨r0, (hB8.block _ (heap_lt hr0)).trans hr0⟩
        have HB8 := Lib.hid hB8
        have HJ8 := Lib.hid (show jI2 W W2 B3 e A T [] T w8 from ⟨HJ2.out.below hB8, FrameT.below hB8, fun k hk => .inl hk⟩)
        have HZ := Lib.hid (show W.heap.size ≤ w8.heap.size ∧ W2.heap.size ≤ w8.heap.size from ⟨(HJ2.out.below hB8).2.2.1.size, hB8.size⟩)
        clear hB8 x0 x1 x2 x3 x4 x5 x6 x7 b3
        refine range_innerT rfl (enters_of Try.func76 (by kernel_rfl) rfl) hr8 HI8.out (fun _ => rfl) T
          (fun s T1 Wz => jI2 W W2 B3 e A T s T1 Wz) (fun _ _ _ => False) (fun s T1 Wz l r o' hl2 hp hr => hp.turn hr rfl (Nat.le_trans HZ.out.1 hl2) (Nat.le_trans HZ.out.2 hl2)) (fun _ _ _ _ _ _ _ hp _ => hp) (fun s T1 Wz hp => ⟨trivial, fun k hk => ⟨hp.1.1.lt hk, id⟩⟩) (fun s T1 Wz hp k hk o ho => hp.1.1.noRecJ hk ho) (fun s T1 Wz Wy hp hB => hp.below hB) HJ8.out ?jr ?jd ?js
        case jr =>
          clear hr8
          rintro l1 pre2 z T1 Wz ⟨rfl, rfl⟩ hl1 hI2 hrec6
          have hB9 : Below Wz.heap.size Wz ((Wz.alloc (.cells #[.int .i64 z.n, .int .i64 2, .slice none 0 0, .int .i64 z.t, .int .i64 0, .int .i64 0, .int .i64 0, .int .i64 0, .bool false, .bool false] 41)).alloc (.cells #[.int .i64 z.s, .int .i64 z.a] 34)) := bel_alloc (bel_alloc (Below.refl _ _) _) _
          have n1 := two_a Wz #[.int .i64 z.n, .int .i64 2, .slice none 0 0, .int .i64 z.t, .int .i64 0, .int .i64 0, .int .i64 0, .int .i64 0, .bool false, .bool false] #[.int .i64 z.s, .int .i64 z.a] 41 34
          have n2 := two_b Wz #[.int .i64 z.n, .int .i64 2, .slice none 0 0, .int .i64 z.t, .int .i64 0, .int .i64 0, .int .i64 0, .int .i64 0, .bool false, .bool false] #[.int .i64 z.s, .int .i64 z.a] 41 34
          gi_wp2
          refine rdThenT_mk (fun W' => jI2 W W2 B3 e A T [] T1 W' ∧ (W'.heap[Wz.heap.size]? = some (.cells #[.int .i64 z.n, .int .i64 2, .slice none 0 0, .int .i64 z.t, .int .i64 0, .int .i64 0, .int .i64 0, .int .i64 0, .bool false, .bool false] 41 (0, 0)) ∧ W'.heap[Wz.heap.size + 1]? = some (.cells #[.int .i64 z.s, .int .i64 z.a] 34 (0, 0))))
            (AbidesX.and (fun W' l r o' hl2 hp hr => hp.turn hr rfl (Nat.le_trans HZ.out.1 hl2) (Nat.le_trans HZ.out.2 hl2)) (AbidesX.cells.and AbidesX.cells)) ⟨hI2.below hB9, n1, n2⟩ hB9 ?_
          clear hI2 hrec6 hB9 n1 n2
          generalize Wz.heap.size = Xp
          clear Wz
          rintro W6 ⟨hI6, hp6, ha6⟩ hrec6
          have b3 : W6.cell? ⟨B3, 0, none⟩ = some (.pointer (some ⟨e, 0, none⟩)) := cell_of_row _ _ 0 _ _ _ hI6.1.2.1
          obtain ⟨u0, u1, u2, u3, u4, u5, u6, u7, u8, u9⟩ := cells10a hp6
          have hB7 := bel_alloc (Below.refl W6.heap.size W6) (.cells #[.int .i64 z.n, .int .i64 2, .slice none 0 0, .int .i64 z.t, .int .i64 0, .int .i64 0, .int .i64 0, .int .i64 0, .bool false, .bool false] 41)
          have ha7 := (hB7.block _ (heap_lt ha6)).trans ha6
          have t0 := cell_of_row _ _ 0 _ _ _ ha7
          have t1 := cell_of_row _ _ 1 _ _ _ ha7
          have hI7 := hI6.below hB7
          have GD := Lib.hid (tDo hI7.1.1 HAok.out (some ⟨W6.heap.size, 0, none⟩) 1 1 [(hp z.n z.t, [])] ⟨rfl, by decide, rowV_new W6 41 #[.int .i64 z.n, .int .i64 2, .slice none 0 0, .int .i64 z.t, .int .i64 0, .int .i64 0, .int .i64 0, .int .i64 0, .bool false, .bool false] 1 10 rfl (by decide), fun q hq => by rw [List.mem_singleton.1 hq]; exact hasE_nil rfl rfl⟩ (c := 0) (fun q hq => by rw [List.mem_singleton.1 hq]; exact ⟨Nat.le_refl _, Nat.le_refl _⟩) (by decide) (by have := HAln.out; show A.length + 1 < 100000; omega) z.s z.a)
          have HI7 := Lib.hid hI7
          have HB7' := Lib.hid hB7
          clear hI6 hp6 ha6 hB7 ha7 hI7 hrec6
          gi_wp2_with (gi_at_call 27; refine (callsIn_wide.2 GD.out).mono ?_; rintro e1 w9 ⟨⟨v9, rfl⟩, T', h9, hF9, hT9⟩)
          have hz := HI7.out.do h9 rfl hF9 hT9
          exact ⟨(FrameT.below HB7'.out).trans hF9, T', hz, fun k hk => (hT9 k hk).imp id (fun h => Nat.le_trans HB7'.out.size h)⟩
        case jd =>
          clear hr8
          rintro xs T1 Wz hfin hI2
          subst hfin
          have HI2 := Lib.hid hI2
          clear hI2
          gi_wp2
          exact ⟨HI2.out.2.1, T1, ⟨HPM.out, by rw [HJA.out, HJS.out]; exact HI2.out.1⟩, HI2.out.2.2⟩
        case js =>
          rintro cc pre2 z Wz hf
          exact hf.elim
    case hd =>
      rintro xs T Wd hfin ⟨-, hi⟩ hD
      have hc3 : Wd.cell? ⟨B3, 0, none⟩ = some (.pointer (some ⟨e, 0, none⟩)) := cell_of_row _ _ 0 _ _ _ hi.2.1
      rw [hfin] at hi
      have HI := Lib.hid hi
      have HD := Lib.hid hD
      clear hi hD
      gi_wp2
      have hz := HI.out.turn (o' := .deferred none) HD.out rfl HW5s.out
      exact leave_one HD.out (results_tmp rfl _ _ _) ⟨e, rfl, T, by rw [HA00.out] at hz; exact hz.1, hz.2.2.1, fun k hk => (hz.2.2.2.2 k hk).1⟩
    case hs =>
      rintro cc pre x Wd hf
      exact hf.elim

end Go.Proofs.Ytdncdlbhgaehmaa

/- Package join: Apart, where each ledger has one group that has but a hard state. -/
namespace Go.Proofs.Ytdncdlbhgaehmaa
open Go.RowKit Go.Shelf Go.Maps
set_option linter.unusedVariables false
attribute [local go_sem] Oper.semAt_some wide_fn wide_round_fn

def idsJ (ys : List HX) : List Int := ys.map fun y => y.x.n
theorem idsJ_snoc (ys : List HX) (y : HX) : idsJ (ys ++ [y]) = idsJ ys ++ [y.x.n] := by unfold idsJ; rw [List.map_append]; rfl
theorem ids_of (ys : List HX) {X : List HR} (h : ys.map HX.x = X) : idsJ ys = X.map HR.n := by rw [← h, List.map_map]; rfl
/-- The numbers that came so far, each once. -/
def apI (W : World) (M B2 B3 : Nat) (X : List HR) (pre : List HX) (W1 : World) : Prop :=
  ∃ (D : DataW Unit) (k : Nat), W1.ownsMap Try.prog 3 (plainElem Try.prog 3) M k D ∧ Holds D (fun z => (idsJ pre).count z) ∧ (idsJ pre).Nodup ∧ k ≤ pre.length ∧ pre.map HX.x = X.take pre.length ∧ W1.heap[B3]? = some (.cells #[.map (some M)] 104 (0, 0)) ∧ W1.heap[B2]? = some (.cells #[.bool false] 4 (0, 0)) ∧ Below W.heap.size W W1 ∧ (W.heap.size ≤ M ∧ W.heap.size ≤ B2 ∧ M ≠ B2 ∧ M ≠ B3 ∧ B2 ≠ B3)
def apT (M B2 : Nat) (k : Nat) : Prop := k = M ∨ k = B2
/-- A number that came twice. -/
def apX (W : World) (B2 : Nat) (X : List HR) (W1 : World) : Prop := ¬ (X.map HR.n).Nodup ∧ W1.heap[B2]? = some (.cells #[.bool false] 4 (0, 0)) ∧ Below W.heap.size W W1 ∧ W.heap.size ≤ B2
theorem apX.turn {W W1 : World} {B2 l : Nat} {X : List HR} {o o' : Obj} (h : apX W B2 X W1) (hl : W1.heap[l]? = some o) (ho : isRec o = true) (hWl : W.heap.size ≤ l) : apX W B2 X (W1.putObj l o') := by
  have hF := frame_putObjX W1 l o'
  refine ⟨h.1, hF.get h.2.1 (fun e => ?_), h.2.2.1.trans (hF.toBelow h.2.2.1.size (fun k hk => hk ▸ hWl)), h.2.2.2⟩
  have hb := h.2.1
  rw [show B2 = l from e, hl] at hb; have h8 := Option.some.inj hb; subst h8; cases ho
theorem mapJ_frame {T : Nat → Prop} {W W' : World} {M k : Nat} {D : DataW Unit} (h : W.ownsMap Try.prog 3 (plainElem Try.prog 3) M k D) (hF : FrameT T W W') (hM : ¬ T M) : W'.ownsMap Try.prog 3 (plainElem Try.prog 3) M k D := by
  obtain ⟨es, ck, h1, r⟩ := h
  exact ⟨es, ck, hF.get h1 hM, r⟩
theorem mapJ_block {W : World} {M k : Nat} {D : DataW Unit} (h : W.ownsMap Try.prog 3 (plainElem Try.prog 3) M k D) : ∃ es ck, W.heap[M]? = some (.map es ck) := by
  obtain ⟨es, ck, h1, _⟩ := h
  exact ⟨es, ck, h1⟩
theorem apI.below {W W1 W2 : World} {M B2 B3 : Nat} {X : List HR} {pre : List HX} (h : apI W M B2 B3 X pre W1) (hB : Below W1.heap.size W1 W2) : apI W M B2 B3 X pre W2 := by
  obtain ⟨D, k, a1, a2, a3, a4, a5, a6, a7, a8, a9⟩ := h
  exact ⟨D, k, mapJ_frame (T := fun _ => False) a1 (FrameT.below hB) id, a2, a3, a4, a5, (hB.block _ (heap_lt a6)).trans a6, (hB.block _ (heap_lt a7)).trans a7, bel2 a8 hB, a9⟩
theorem apI.turn {W W1 : World} {M B2 B3 l : Nat} {X : List HR} {pre : List HX} {o o' : Obj} (h : apI W M B2 B3 X pre W1) (hl : W1.heap[l]? = some o) (ho : isRec o = true) (hWl : W.heap.size ≤ l) : apI W M B2 B3 X pre (W1.putObj l o') := by
  obtain ⟨D, k, a1, a2, a3, a4, a5, a6, a7, a8, a9⟩ := h
  have hF := frame_putObjX W1 l o'
  have nc : ∀ (b : Nat) (c : Array Value) (t : TypeId) (f : Nat × Nat), W1.heap[b]? = some (.cells c t f) → b ≠ l := fun b c t f hb e => by
    rw [e, hl] at hb; have h8 := Option.some.inj hb; subst h8; cases ho
  have nm : M ≠ l := fun e => by
    obtain ⟨es, ck, hb⟩ := mapJ_block a1
    rw [e, hl] at hb; have h8 := Option.some.inj hb; subst h8; cases ho
  exact ⟨D, k, mapJ_frame a1 hF nm, a2, a3, a4, a5, hF.get a6 (nc _ _ _ _ a6), hF.get a7 (nc _ _ _ _ a7), a8.trans (hF.toBelow a8.size (fun k hk => hk ▸ hWl)), a9⟩
theorem apI.noRec {W W1 : World} {M B2 B3 : Nat} {X : List HR} {pre : List HX} (h : apI W M B2 B3 X pre W1) : noRecT (apT M B2) W1 := by
  obtain ⟨D, k, a1, a2, a3, a4, a5, a6, a7, a8, a9⟩ := h
  rintro q (rfl | rfl) o ho
  · obtain ⟨es, ck, hb⟩ := mapJ_block a1
    rw [hb] at ho; cases ho; rfl
  · rw [a7] at ho; cases ho; rfl
theorem apI.lt {W W1 : World} {M B2 B3 : Nat} {X : List HR} {pre : List HX} (h : apI W M B2 B3 X pre W1) {k : Nat} (hk : apT M B2 k) : k < W1.heap.size := by
  obtain ⟨D, q, a1, a2, a3, a4, a5, a6, a7, a8, a9⟩ := h
  rcases hk with rfl | rfl
  · exact a1.lt
  · exact heap_lt a7
/-- One more number. -/
theorem apI.next {W W1 W2 : World} {M B2 B3 : Nat} {X : List HR} {pre : List HX} {y : HX} {D : DataW Unit} {k : Nat} (hN : (idsJ pre).Nodup) (hk : k ≤ pre.length) (hX : pre.map HX.x = X.take pre.length) (hyx : ∃ h : pre.length < X.length, y.x = X[pre.length]) (hc : (idsJ pre).count y.x.n = 0) (hD : Holds D (fun z => (idsJ pre).count z))
    (h3 : W1.heap[B3]? = some (.cells #[.map (some M)] 104 (0, 0))) (h2 : W1.heap[B2]? = some (.cells #[.bool false] 4 (0, 0))) (hB : Below W.heap.size W W1) (h9 : W.heap.size ≤ M ∧ W.heap.size ≤ B2 ∧ M ≠ B2 ∧ M ≠ B3 ∧ B2 ≠ B3)
    (hown : W2.ownsMap Try.prog 3 (plainElem Try.prog 3) M (k + 1) (D.put (.int .i64 y.x.n) (.lit (.int .i64 ((1 : Nat) : Int))))) (hF : FrameT (fun q => q = M) W1 W2) : apI W M B2 B3 X (pre ++ [y]) W2 := by
  obtain ⟨hpl, hyx⟩ := hyx
  refine ⟨_, k + 1, hown, holds_put hD y.x.n 1 ?_ (fun z hz => ?_), ?_, by rw [List.length_append, List.length_singleton]; omega, ?_, hF.get h3 (Ne.symm h9.2.2.2.1), hF.get h2 (Ne.symm h9.2.2.1), hB.trans (hF.toBelow hB.size (fun k hk => hk ▸ h9.1)), h9⟩
  · rw [idsJ_snoc, List.count_append, hc]; simp
  · rw [idsJ_snoc, List.count_append, List.count_singleton]
    rw [if_neg (by simpa using Ne.symm hz)]; rfl
  · rw [idsJ_snoc, List.nodup_append]
    refine ⟨hN, by simp, fun a ha b hb => ?_⟩
    rw [List.mem_singleton.1 hb]
    rintro rfl
    exact absurd hc (Nat.ne_of_gt (List.count_pos_iff.2 ha))
  · rw [List.map_append, hX, List.length_append, List.length_singleton, List.take_succ_eq_append_getElem hpl, ← hyx]; rfl
theorem ap_twice {X : List HR} {pre : List HX} {y : HX} (hX : pre.map HX.x = X.take pre.length) (hyx : ∃ h : pre.length < X.length, y.x = X[pre.length]) (hc : (idsJ pre).count y.x.n ≠ 0) : ¬ (X.map HR.n).Nodup := by
  obtain ⟨hpl, hyx⟩ := hyx
  intro hN
  have h1 : ((X.take (pre.length + 1)).map HR.n).Nodup := hN.sublist ((List.take_sublist _ _).map _)
  rw [List.take_succ_eq_append_getElem hpl, ← hyx, ← hX, List.map_append, List.map_map, List.nodup_append] at h1
  have hm : y.x.n ∈ idsJ pre := List.count_pos_iff.1 (Nat.pos_of_ne_zero hc)
  exact h1.2.2 _ hm _ (by simp) rfl
theorem ap_zero (W : World) (X : List HR) : apI W (W.heap.size + 1) W.heap.size (W.heap.size + 1 + 1) X [] (((W.alloc (.cells #[.bool false] 4)).alloc (.map #[] 0)).alloc (.cells #[.map (some (W.heap.size + 1))] 104)) := by
  have s1 : (W.alloc (.cells #[.bool false] 4)).heap.size = W.heap.size + 1 := World.size_alloc _ _
  have s2 : ((W.alloc (.cells #[.bool false] 4)).alloc (.map #[] 0)).heap.size = W.heap.size + 1 + 1 := by rw [World.size_alloc, s1]
  have hb2 := World.alloc_heap_new W (.cells #[.bool false] 4)
  have hm : (W.alloc (.cells #[.bool false] 4)).alloc (.map #[] 0) |>.ownsMap Try.prog 3 (plainElem (H := Unit) Try.prog 3) (W.heap.size + 1) 0 (.map []) := by
    have := World.ownsMap_made (W.alloc (.cells #[.bool false] 4)) Try.prog 3 (plainElem (H := Unit) Try.prog 3)
    rwa [s1] at this
  have h3 := World.alloc_heap_new ((W.alloc (.cells #[.bool false] 4)).alloc (.map #[] 0)) (.cells #[.map (some (W.heap.size + 1))] 104)
  rw [s2] at h3
  have hB2 : Below (W.alloc (.cells #[.bool false] 4)).heap.size (W.alloc (.cells #[.bool false] 4)) (((W.alloc (.cells #[.bool false] 4)).alloc (.map #[] 0)).alloc (.cells #[.map (some (W.heap.size + 1))] 104)) := bel_alloc (bel_alloc (Below.refl _ _) _) _
  exact ⟨.map [], 0, hm.alloc _, holds_nil, List.nodup_nil, Nat.le_refl _, rfl, h3, (hB2.block _ (heap_lt hb2)).trans hb2, bel2 (bel_alloc (Below.refl W.heap.size W) (.cells #[.bool false] 4)) hB2, by omega, Nat.le_refl _, by omega, by omega, by omega⟩
set_option maxRecDepth 100000 in
set_option maxHeartbeats 8000000 in
theorem apart_any (W : World) (la : Option Addr) (lc : Nat) (E : List Nat) (X : List HR) (hX : ∀ x ∈ X, x.ok) (hl : E.length = X.length ∧ E.length < 1000) (h : RowLs la E X W) : Calls Try.prog 29 #[.slice la E.length lc] W fun r w' => r = .returned (.bool (decide (X.map HR.n).Nodup)) ∧ Below W.heap.size W w' := by
  have hmm := @run_makeMap Try.prog
  have GH := Lib.hid (fun w => holdings_makes la lc E X hX hl w)
  have HRW := Lib.hid (fun w (hB : Below W.heap.size W w) => h.below hB)
  have HX' := Lib.hid hX
  have HN := Lib.hid (show X.length < 1000 by omega)
  generalize E.length = n at GH ⊢
  clear h hX hl
  refine (callsIn_wide (n := 9)).1 ?_
  refine callsIn_of_wp_marks Try.func29 rfl trivial ?_ rfl
  simp only [Try.ntmps29, List.size_toArray, List.length_cons, List.length_nil, Nat.reduceAdd, Nat.reduceSub, Array.replicate_succ, Array.replicate_zero, List.push_toArray, List.append_toArray, List.nil_append, List.cons_append]
  gi_wp2_with (gi_at_call 48; fail)
  have HJ0 := Lib.hid (ap_zero W X)
  generalize (((W.alloc (.cells #[.bool false] 4)).alloc (.map #[] 0)).alloc (.cells #[.map (some (W.heap.size + 1))] 104)) = w3 at HJ0 ⊢
  generalize hM : W.heap.size + 1 = M at HJ0 ⊢
  generalize hB3 : M + 1 = B3 at HJ0 ⊢
  generalize hB2 : W.heap.size = B2 at HJ0 ⊢
  clear hmm hM hB3
  gi_wp2_with (gi_at_call 48; refine (callsIn_wide.2 (GH.out _)).mono ?_; rintro e1 w5 ⟨lb, rfl, hw5, hI5⟩; have HW5 := Lib.hid hw5; have HI5 := Lib.hid hI5; clear hw5 hI5)
  have hB35 : Below w3.heap.size w3 w5 := by rw [HW5.out]; exact bel_alloc (Below.refl _ _) _
  have HJ5 := Lib.hid (HJ0.out.below hB35)
  have HW5s := Lib.hid (show W.heap.size ≤ w5.heap.size from by obtain ⟨_, _, _, _, _, _, _, _, _, a8, _⟩ := HJ5.out; exact a8.size)
  have HB2 := Lib.hid hB2
  clear hB35 hB2
  refine range_outerT rfl (enters_of Try.func75 (by kernel_rfl) rfl) HI5.out (fun _ => rfl) (fun k hk => hk.elim) (apT M B2)
    (fun pre T W1 => T = apT M B2 ∧ apI W M B2 B3 X pre W1) (fun cc _ W1 => cc = Code.ret ∧ apX W B2 X W1) (fun s T W1 l r o' hl2 hp hr => ⟨hp.1, hp.2.turn hr rfl (Nat.le_trans HW5s.out hl2)⟩) (fun _ _ W1 l r o' hl2 hp hr => ⟨hp.1, hp.2.turn hr rfl (Nat.le_trans HW5s.out hl2)⟩) (fun s T W1 hp => ⟨HRW.out _ (by obtain ⟨_, _, _, _, _, _, _, _, _, _, a8, _⟩ := hp; exact a8), fun k hk => ⟨hp.2.lt (hp.1 ▸ hk), id⟩⟩) (fun s T W1 hp => hp.1 ▸ hp.2.noRec) (fun s T W1 W2 hp hB => ⟨hp.1, hp.2.below hB⟩) ⟨rfl, HJ5.out⟩ ?hr ?hd ?hs
  case hr =>
    rintro l0 pre y T W1 hnx hll ⟨rfl, hi1⟩ hrec
    obtain ⟨yx, yga, ygc, yb, yoff, ycap⟩ := y
    obtain ⟨hyx, -⟩ := hnx
    have HYX := Lib.hid hyx
    dsimp only at hyx
    have hyo := HX'.out yx (by obtain ⟨h1, h2⟩ := hyx; exact h2 ▸ List.getElem_mem _)
    have HYO := Lib.hid hyo
    have HPL := Lib.hid (show pre.length < 1000 by obtain ⟨h1, -⟩ := hyx; have := HN.out; omega)
    have hBa := bel_alloc (Below.refl W1.heap.size W1) (.cells #[.int .i64 yx.n, .int .i64 1, .int .i64 0, .int .i64 yx.t, .int .i64 0, .int .i64 0, .slice yga 0 ygc, .slice (some ⟨yb, yoff, none⟩) 1 ycap] 98)
    gi_wp2
    refine rdThenT_mk (fun W' => apI W M B2 B3 X pre W' ∧ W'.heap[W1.heap.size]? = some (.cells #[.int .i64 yx.n, .int .i64 1, .int .i64 0, .int .i64 yx.t, .int .i64 0, .int .i64 0, .slice yga 0 ygc, .slice (some ⟨yb, yoff, none⟩) 1 ycap] 98 (0, 0)))
      (AbidesX.and (fun W' l r o' hl2 hp hr => hp.turn hr rfl (Nat.le_trans HW5s.out hl2)) AbidesX.cells) ⟨hi1.below hBa, World.alloc_heap_new W1 _⟩ hBa ?_
    clear hi1 hBa hrec hyx hyo
    generalize W1.heap.size = Xh
    clear W1
    rintro W2 ⟨hJ2, hh⟩ hrec2
    obtain ⟨D, k, a1, a2, a3, a4, a5, a6, a7, a8, a9⟩ := hJ2
    have x0 := (cells8 hh).1
    have b3 : W2.cell? ⟨B3, 0, none⟩ = some (.map (some M)) := cell_of_row _ _ 0 _ _ _ a6
    have hkey : keyOf Try.prog 3 (.int .i64 yx.n) = some (.int .i64 yx.n) := keyOf_int_mk Try.underlying3 (wf_i64 (by have := HYO.out.1; omega))
    have hne : Xh ≠ M := fun e => by
      obtain ⟨es, ck, hb⟩ := mapJ_block a1
      rw [e, hb] at hh; cases hh
    have hk6 : k < maxLen := by have := HPL.out; unfold maxLen; omega
    have hcl := List.count_le_length (a := yx.n) (l := idsJ pre)
    have hcl2 : (idsJ pre).length = pre.length := List.length_map _
    obtain ⟨m, hm⟩ : ∃ m, m = (idsJ pre).count yx.n := ⟨_, rfl⟩
    rw [← hm] at hcl
    have hmb : m < 1000 := by have := HPL.out; omega
    have HA2 := Lib.hid a2
    have HPR := Lib.hid (And.intro a3 (And.intro a4 a5))
    have HBX := Lib.hid (And.intro a6 (And.intro a7 (And.intro a8 a9)))
    have HHH := Lib.hid hh
    have HMM := Lib.hid hm
    clear a2 a3 a4 a5 a6 a7 a8 a9 hh hcl hcl2 hrec2 hm
    by_cases hm0 : m = 0
    · have hgt : ¬ (1 : Int) < (m : Int) + 1 := by omega
      have HM0 := Lib.hid hm0
      clear hm0
      gi_wp2_with (first
        | (gi_at_lookup; refine wpListIn_lookup_own_int _ rfl _ _ 104 rfl 3 3 .i64 lawInt Try.underlying104 Try.underlying3 (zeroInt _) M (k + 1) _ rfl hown7 _ _ rfl hkey ?_; intro c2 hat2 hwc2; have hc2 := holds_at HD7.out hat2; (try dsimp only at hc2); (try rw [if_pos rfl] at hc2); subst hc2; clear hat2)
        | (gi_at_lookup; refine wpListIn_lookup_own_int _ rfl _ _ 104 rfl 3 3 .i64 lawInt Try.underlying104 Try.underlying3 (zeroInt _) M k _ rfl a1 _ _ rfl hkey ?_; intro c hat hwc; have hc0 := holds_at HA2.out hat; (try dsimp only at hc0); rw [← HMM.out] at hc0; subst hc0; clear hat)
        | (gi_at_mapUpdate; refine wpListIn_mapUpdate_own _ rfl _ _ _ 104 rfl 3 3 lawInt Try.underlying104 _ M k _ rfl a1 hk6 _ _ _ rfl rfl hkey _ [] (plainElem_int (a := (m : Int) + 1) Try.underlying3 (wf_i64 (by omega))) ?_; intro w7 hown7 hgrow7; have hF7 : FrameT (fun q => q = M) W2 w7 := ⟨hgrow7.os, hgrow7.tape, hgrow7.output, hgrow7.size, fun q hq hT => hgrow7.block q hq (fun e => hT (Option.some.inj e))⟩; have HF7 := Lib.hid hF7; have b37 : w7.cell? ⟨B3, 0, none⟩ = some (.map (some M)) := cell_of_row _ _ 0 _ _ _ (hF7.get HBX.out.1 (fun e => HBX.out.2.2.2.2.2.2.1 e.symm)); have x07 := (cells8 (hF7.get HHH.out hne)).1; have HO7 := Lib.hid hown7; have HD7 := Lib.hid (holds_put HA2.out yx.n (m + 1) (f' := fun z => if z = yx.n then m + 1 else (idsJ pre).count z) (if_pos rfl) (fun z hz => if_neg hz)); clear hF7))
      exact ⟨HF7.out.mono fun k hk => .inl hk, _, ⟨rfl, apI.next (y := ⟨yx, yga, ygc, yb, yoff, ycap⟩) HPR.out.1 HPR.out.2.1 HPR.out.2.2 HYX.out (HMM.out.symm.trans HM0.out) HA2.out HBX.out.1 HBX.out.2.1 HBX.out.2.2.1 HBX.out.2.2.2 (by have h8 := HO7.out; rw [show (m : Int) + 1 = ((1 : Nat) : Int) by rw [HM0.out]; rfl] at h8; exact h8) HF7.out⟩, fun k hk => .inl hk⟩
    · have hgt : (1 : Int) < (m : Int) + 1 := by omega
      have HM0 := Lib.hid hm0
      clear hm0
      gi_wp2_with (first
        | (gi_at_lookup; refine wpListIn_lookup_own_int _ rfl _ _ 104 rfl 3 3 .i64 lawInt Try.underlying104 Try.underlying3 (zeroInt _) M (k + 1) _ rfl hown7 _ _ rfl hkey ?_; intro c2 hat2 hwc2; have hc2 := holds_at HD7.out hat2; (try dsimp only at hc2); (try rw [if_pos rfl] at hc2); subst hc2; clear hat2)
        | (gi_at_lookup; refine wpListIn_lookup_own_int _ rfl _ _ 104 rfl 3 3 .i64 lawInt Try.underlying104 Try.underlying3 (zeroInt _) M k _ rfl a1 _ _ rfl hkey ?_; intro c hat hwc; have hc0 := holds_at HA2.out hat; (try dsimp only at hc0); rw [← HMM.out] at hc0; subst hc0; clear hat)
        | (gi_at_mapUpdate; refine wpListIn_mapUpdate_own _ rfl _ _ _ 104 rfl 3 3 lawInt Try.underlying104 _ M k _ rfl a1 hk6 _ _ _ rfl rfl hkey _ [] (plainElem_int (a := (m : Int) + 1) Try.underlying3 (wf_i64 (by omega))) ?_; intro w7 hown7 hgrow7; have hF7 : FrameT (fun q => q = M) W2 w7 := ⟨hgrow7.os, hgrow7.tape, hgrow7.output, hgrow7.size, fun q hq hT => hgrow7.block q hq (fun e => hT (Option.some.inj e))⟩; have HF7 := Lib.hid hF7; have b37 : w7.cell? ⟨B3, 0, none⟩ = some (.map (some M)) := cell_of_row _ _ 0 _ _ _ (hF7.get HBX.out.1 (fun e => HBX.out.2.2.2.2.2.2.1 e.symm)); have x07 := (cells8 (hF7.get HHH.out hne)).1; have HO7 := Lib.hid hown7; have c27 : w7.cell? ⟨B2, 0, none⟩ = some (.bool false) := cell_of_row _ _ 0 _ _ _ (hF7.get HBX.out.2.1 (fun e => HBX.out.2.2.2.2.2.1 e.symm)); have f27 : w7.frozen? ⟨B2, 0, none⟩ = false := frozen_of_row _ _ 0 _ _ (hF7.get HBX.out.2.1 (fun e => HBX.out.2.2.2.2.2.1 e.symm)); have HD7 := Lib.hid (holds_put HA2.out yx.n (m + 1) (f' := fun z => if z = yx.n then m + 1 else (idsJ pre).count z) (if_pos rfl) (fun z hz => if_neg hz)); clear hF7))
      have hb27 := HF7.out.get HBX.out.2.1 (fun e => HBX.out.2.2.2.2.2.1 e.symm)
      exact ⟨(HF7.out.mono fun k hk => .inl hk).trans ((FrameT.setCell w7 B2 0 (.bool false)).mono fun k hk => .inr hk), rfl, ap_twice (y := ⟨yx, yga, ygc, yb, yoff, ycap⟩) HPR.out.2.2 HYX.out (by rw [← HMM.out]; exact HM0.out), heap_setCell_same _ _ 0 _ _ _ hb27, (HBX.out.2.2.1.trans (HF7.out.toBelow HBX.out.2.2.1.size (fun k hk => hk ▸ HBX.out.2.2.2.1))).setCell (p := ⟨B2, 0, none⟩) HBX.out.2.2.2.2.1 _, HBX.out.2.2.2.2.1⟩
  case hd =>
    rintro xs T Wd hfin ⟨-, hi⟩ hD
    obtain ⟨D, k, a1, a2, a3, a4, a5, a6, a7, a8, a9⟩ := hi
    have c2 : Wd.cell? ⟨B2, 0, none⟩ = some (.bool false) := cell_of_row _ _ 0 _ _ _ a7
    have f2 : Wd.frozen? ⟨B2, 0, none⟩ = false := frozen_of_row _ _ 0 _ _ a7
    have HND := Lib.hid (show (X.map HR.n).Nodup by rw [← ids_of xs hfin]; exact a3)
    have HB8 := Lib.hid (a8.setCell (p := ⟨B2, 0, none⟩) a9.2.1 (.bool true))
    have HDs := Lib.hid ((FrameT.setCell Wd B2 0 (.bool true)).get hD (fun e => by rw [show w5.heap.size = B2 from e, a7] at hD; cases hD))
    have hr2 := heap_setCell_same Wd B2 0 _ _ (.bool true) a7
    have hc3 : ((Wd.setCell ⟨B2, 0, none⟩ (.bool true)).putObj w5.heap.size (.deferred none)).cell? ⟨B2, 0, none⟩ = some (.bool true) := cell_putObj (cell_of_row _ _ 0 _ _ _ hr2) HDs.out rfl
    have HC3 := Lib.hid hc3
    clear a1 a2 a3 a4 a5 a6 a7 a8 a9 hD hr2 hc3 hfin
    gi_wp2
    have hc3 := HC3.out
    refine leave_one HDs.out (v := .bool true) (by simp [results, Try.results29, go_sem, hc3]) ⟨by rw [decide_eq_true HND.out], below_putObj HB8.out (Nat.le_refl _) HW5s.out _⟩
  case hs =>
    rintro cc pre x Wd ⟨rfl, hx⟩ hD
    have hc3 : (Wd.putObj w5.heap.size (.deferred none)).cell? ⟨B2, 0, none⟩ = some (.bool false) := cell_putObj (cell_of_row _ _ 0 _ _ _ hx.2.1) hD rfl
    have HXX := Lib.hid hx
    have HD := Lib.hid hD
    have HC3 := Lib.hid hc3
    clear hx hD hc3
    gi_wp2
    have hc3 := HC3.out
    refine leave_one HD.out (v := .bool false) (by simp [results, Try.results29, go_sem, hc3]) ⟨by rw [decide_eq_false HXX.out.1], below_putObj HXX.out.2.2.1 (Nat.le_refl _) HW5s.out _⟩

end Go.Proofs.Ytdncdlbhgaehmaa

/- Package join: plain data of what is put together; many ledgers that are made. -/
namespace Go.Proofs.Ytdncdlbhgaehmaa
open Go.RowKit Go.Shelf
set_option linter.unusedVariables false
attribute [local go_sem] Oper.semAt_some wide_fn wide_round_fn

/-! ### Numbers alone -/
def insN (A : List Int) (n : Int) : List Int := if A.contains n then A else insZ id n (A.filter fun a => !decide (a = n))
theorem map_insZ {α : Type} (nm : α → Int) (x : α) : ∀ F : List α, (insZ nm x F).map nm = insZ id (nm x) (F.map nm)
  | [] => rfl
  | y :: r => by
    unfold insZ
    simp only [List.map_cons, id]
    split
    · rfl
    · rw [List.map_cons, map_insZ nm x r]
theorem map_joinA (A : List LG) (x : HR) : (joinA A x).map LG.n = insN (A.map LG.n) x.n := by
  unfold joinA insN
  have e : (getZ LG.n A x.n).isSome = (A.map LG.n).contains x.n := by
    unfold getZ
    rw [Bool.eq_iff_iff, List.find?_isSome]
    simp
  rw [e]
  split
  · rfl
  · show (insZ LG.n (hl x) (delZ LG.n A (LG.n (hl x)))).map LG.n = _
    rw [map_insZ]
    unfold delZ
    rw [List.filter_map]
    rfl
theorem map_joinL : ∀ (X : List HR) (A : List LG), (joinL X A).map LG.n = (X.map HR.n).foldl insN (A.map LG.n)
  | [], A => rfl
  | x :: r, A => by
    show (joinL r (joinA A x)).map LG.n = _
    rw [map_joinL r, map_joinA]; rfl
def firstN : List Int → List Int
  | [] => []
  | n :: _ => [n]
def allN (l : List Int) : List Int := l.foldl insN (firstN l)
theorem map_joinAll (X : List HR) : (joinAll X).map LG.n = allN (X.map HR.n) := by
  unfold joinAll allN
  rw [map_joinL]
  cases X <;> rfl
theorem joinA_hl {A : List LG} (h : ∀ L ∈ A, ∃ y : HR, y.ok ∧ L = hl y) {x : HR} (hx : x.ok) : ∀ L ∈ joinA A x, ∃ y : HR, y.ok ∧ L = hl y := by
  unfold joinA
  split
  · exact h
  · intro L hL
    rcases mem_putZ.1 hL with rfl | hL
    · exact ⟨x, hx, rfl⟩
    · exact h L hL.1
theorem joinL_hl : ∀ (X : List HR) {A : List LG}, (∀ x ∈ X, x.ok) → (∀ L ∈ A, ∃ y : HR, y.ok ∧ L = hl y) → ∀ L ∈ joinL X A, ∃ y : HR, y.ok ∧ L = hl y
  | [], A, _, h => h
  | x :: r, A, hX, h => joinL_hl r (fun y hy => hX y (List.mem_cons_of_mem _ hy)) (joinA_hl h (hX x (by simp)))
theorem joinAll_hl {X : List HR} (hX : ∀ x ∈ X, x.ok) : ∀ L ∈ joinAll X, ∃ y : HR, y.ok ∧ L = hl y := by
  refine joinL_hl X hX ?_
  cases X with
  | nil => intro L hL; cases hL
  | cons x r => intro L hL; exact ⟨x, hX x (by simp), List.mem_singleton.1 hL⟩
theorem flA_hl : ∀ {A : List LG}, (∀ L ∈ A, ∃ y : HR, y.ok ∧ L = hl y) → (flA A).length = A.length
  | [], _ => rfl
  | L :: r, h => by
    obtain ⟨y, -, e⟩ := h L (by simp)
    have h2 := flA_hl (A := r) (fun q hq => h q (List.mem_cons_of_mem _ hq))
    show (spotsL L.g L.F ++ flA r).length = _
    rw [List.length_append, h2, e, hl_spots]
    simp only [List.length_cons, List.length_nil]; omega
/-- The numbers of JoinMany. -/
def idsK (k t : Nat) : List Int := (List.range k).map fun (i : Nat) => (((i * 7 + t) % k : Nat) : Int)
def chkK (k t : Nat) : Bool :=
  decide ((idsK k t).Nodup) == (!decide (k % 7 = 0) || decide (k = 0)) &&
  (if k % 7 = 0 then (allN (idsK k t)).length == k / 7 else allN (idsK k t) == (List.range k).map fun (i : Nat) => (i : Int))
theorem chkK_all : ((List.range 20).all fun k => (List.range 20).all fun t => decide (k ≤ t) && !decide (k = 0) || chkK k t) = true := by kernel_rfl
theorem idsK_mod (k t : Nat) : idsK k t = idsK k (t % k) := by
  unfold idsK
  congr 1
  funext i
  rw [Nat.add_mod, Nat.add_mod (i * 7) (t % k), Nat.mod_mod]
theorem chkK_of (k t : Nat) (hk : k < 20) : chkK k t = true := by
  have h := chkK_all
  rw [List.all_eq_true] at h
  have h1 := h k (List.mem_range.2 hk)
  rw [List.all_eq_true] at h1
  have e : chkK k t = chkK k (t % k) := by unfold chkK; rw [idsK_mod]
  rw [e]
  rcases Nat.eq_zero_or_pos k with h0 | h0
  · subst h0
    have : chkK 0 (t % 0) = chkK 0 0 := by unfold chkK idsK; rfl
    exact this.trans (show chkK 0 0 = true by kernel_rfl)
  · have h2 := h1 (t % k) (List.mem_range.2 (by have := Nat.mod_lt t h0; omega))
    have h3 := Nat.mod_lt t h0
    simp only [Bool.or_eq_true, Bool.and_eq_true, decide_eq_true_eq] at h2
    rcases h2 with h2 | h2
    · omega
    · exact h2

/-! ### Ledgers that are made, one behind the other -/
theorem LT.frameH {W W' : World} {e : Nat} {x : HR} {T Z : Nat → Prop} (h : LT W e [hl x] T) (hF : FrameT Z W W') (hT : ∀ k, T k → ¬ Z k) : LT W' e [hl x] T := by
  obtain ⟨M, F, h, h1, rfl⟩ := h
  refine ⟨M, F, ⟨hF.get h.box (hT _ (.inl rfl)), h.map.frame hF (hT _ (.inr (.inl rfl))), fun y hy => ?_, h.off, h.apart, h.ris, h.ids⟩, h1, rfl⟩
  have hL : y.L = hl x := by
    have : y.L ∈ F.map LE.L := List.mem_map_of_mem hy
    rw [h1] at this
    exact List.mem_singleton.1 this
  obtain ⟨h0, a, c, hA⟩ := h.logs y hy
  refine ⟨h0, a, c, hA.frame hF (hT _ (.inr (.inr ⟨y, hy, .inl rfl⟩))) (hT _ (.inr (.inr ⟨y, hy, .inr rfl⟩))) (fun k hk => ?_)⟩
  rw [hL] at hk
  obtain ⟨b, off, -, h9, -⟩ := hk
  exact absurd h9 (Nat.lt_irrefl 0)
/-- A ledger is made and told a hard state. -/
theorem hard_do {w W : World} {e : Nat} {x : HR} (hx : x.ok) (h : LG1 w e [] W) (a : Option Addr) (c : Nat) (hp1 : HasP W a 1 [(hp x.n x.t, [])]) :
    Calls Try.prog 27 #[.pointer (some ⟨e, 0, none⟩), .slice a 1 c, .agg #[.int .i64 x.s, .int .i64 x.a]] W fun r w' => (∃ v, r = .returned v) ∧ LG1 w e [hl x] w' := by
  have h9 : ldo [] [(hp x.n x.t, [])] x.s x.a = [hl x] := (hl_ldo hx rfl).trans rfl
  have := gDo1 (N := 0) (c := 0) h (fun L hL => by cases hL) a 1 c [(hp x.n x.t, [])] hp1 (fun q hq => by rw [List.mem_singleton.1 hq]; exact ⟨Nat.le_refl _, Nat.le_refl _⟩) (by decide) (by decide) x.s x.a
  rwa [h9] at this
theorem own_ltJ {W : World} {base : Nat} {e : TypeId} {size : Nat} {v : Value} {n : Nat} {xs : List Value} (h : W.ownsRow base e size v n xs) {k : Nat} (hk : some k = v.ownBlock) : k < W.heap.size ∧ base ≤ k := by
  rcases h.2 with ⟨rfl, -⟩ | ⟨g, cap, cur, rfl, hb, hg, -⟩
  · cases hk
  · cases hk; exact ⟨heap_lt hg, hb⟩
theorem infoLedJ : (Try.prog.info? 53).map (fun i => (i.zero, i.size, i.bytes)) = some (some (.pointer none), 1, 8) := by kernel_rfl
structure MkAt (w : World) (v : Value) (X : List HR) (es : List Nat) (W : World) : Prop where
  len : es.length = X.length
  led : W.ownsRow w.heap.size 53 1 v es.length (es.map fun e => .pointer (some ⟨e, 0, none⟩))
  bel : Below w.heap.size w W
  lgs : ∀ i (h : i < es.length) (h2 : i < X.length), ∃ T, LT W es[i] [hl X[i]] T ∧ ∀ k, T k → some k ≠ v.ownBlock
theorem mk_zero (w : World) : MkAt w (.slice none 0 0) [] [] w := ⟨rfl, World.ownsRow_nil _ _ _ _, Below.refl _ _, fun i h => absurd h (by simp)⟩
theorem mk_app {w wr w5 w8 : World} {e : Nat} {v v' : Value} {X : List HR} {es : List Nat} {x : HR} (h : MkAt w v X es wr) (hL : LG1 wr e [hl x] w5)
    (hown : w8.ownsRow w.heap.size 53 1 v' (es.length + 1) ((es.map fun e => Value.pointer (some ⟨e, 0, none⟩)) ++ [.pointer (some ⟨e, 0, none⟩)])) (hg : (w5.alloc (.cells #[.pointer (some ⟨e, 0, none⟩)] 53)).grownBy w8 v.ownBlock) (hn : v'.ownBlock = v.ownBlock ∨ v'.ownBlock = some (w5.alloc (.cells #[.pointer (some ⟨e, 0, none⟩)] 53)).heap.size) :
    MkAt w v' (X ++ [x]) (es ++ [e]) w8 := by
  obtain ⟨Tn, hLT, hB, hTn⟩ := hL
  have h5 : Below w5.heap.size w5 (w5.alloc (.cells #[.pointer (some ⟨e, 0, none⟩)] 53)) := bel_alloc (Below.refl _ _) _
  have hsz : (w5.alloc (.cells #[.pointer (some ⟨e, 0, none⟩)] 53)).heap.size = w5.heap.size + 1 := World.size_alloc _ _
  have hvb : ∀ k, some k = v.ownBlock → k < wr.heap.size ∧ w.heap.size ≤ k := fun k hk => own_ltJ h.led hk
  have hG : FrameT (fun k => some k = v.ownBlock) (w5.alloc (.cells #[.pointer (some ⟨e, 0, none⟩)] 53)) w8 := ⟨hg.os, hg.tape, hg.output, hg.size, fun k hk hT => hg.block k hk (fun e => hT e)⟩
  have hF58 : FrameT (fun k => some k = v.ownBlock) w5 w8 := (FrameT.below h5).trans hG
  have hF8 : FrameT (fun k => some k = v.ownBlock) wr w8 := (FrameT.below hB).trans hF58
  have hs := hB.size
  have hnv : ∀ k, k < w5.heap.size → some k ≠ v.ownBlock → some k ≠ v'.ownBlock := fun k hk hne e2 => by
    rcases hn with hn | hn
    · exact hne (e2.trans hn)
    · have := Option.some.inj (e2.trans hn); omega
  refine ⟨by rw [List.length_append, List.length_append, h.len]; rfl, ?_, h.bel.trans (hF8.toBelow h.bel.size fun k hk => (hvb k hk).2), fun i hi h2 => ?_⟩
  · rw [List.length_append, List.length_singleton, List.map_append]; exact hown
  · have hlen := h.len
    by_cases hlt : i < es.length
    · have hlt2 : i < X.length := by omega
      rw [List.getElem_append_left hlt, List.getElem_append_left hlt2]
      obtain ⟨T, hT, hTv⟩ := h.lgs i hlt hlt2
      exact ⟨T, hT.frameH hF8 (fun k hk e => hTv k hk e), fun k hk => hnv k (by have := hT.lt hk; omega) (hTv k hk)⟩
    · have hi' : i = es.length := by rw [List.length_append, List.length_singleton] at hi; omega
      have hiX : i = X.length := by omega
      have e1 : (es ++ [e])[i] = e := by subst hi'; simp
      have e2 : (X ++ [x])[i] = x := by subst hiX; simp
      rw [e1, e2]
      exact ⟨Tn, hLT.frameH hF58 (fun k hk e => by have := hTn k hk; have := (hvb k e).1; omega), fun k hk => hnv k (hLT.lt hk) (fun e => by have := hTn k hk; have := (hvb k e).1; omega)⟩
theorem mk_row {w W : World} {v : Value} {X : List HR} {es : List Nat} (h : MkAt w v X es W) : ∃ la lc, v = .slice la es.length lc ∧ RowLs la es X W := by
  obtain ⟨a, c, rfl, hc, hr⟩ := rowV_own h.led
  refine ⟨a, c, rfl, h.len, fun h0 => ?_, fun i hi h2 => ?_⟩
  · obtain ⟨b, off, rfl, hb, hx⟩ := hr.2.2 h0
    exact ⟨b, off, rfl, hb, fun i hi => (hx i (by simpa using hi)).trans (by simp)⟩
  · obtain ⟨T, hT, -⟩ := h.lgs i hi h2
    exact ⟨T, hT⟩

end Go.Proofs.Ytdncdlbhgaehmaa

/- What the laws of package join hold by themselves: the example. -/
namespace Go.Proofs.Ytdncdlbhgaehmaa
open Go.RowKit Go.Shelf
set_option linter.unusedVariables false
attribute [local go_sem] Oper.semAt_some wide_fn wide_round_fn

theorem rowLs2 {W : World} {e1 e2 : Nat} {x1 x2 : HR} {T1 T2 : Nat → Prop} (h1 : LT W e1 [hl x1] T1) (h2 : LT W e2 [hl x2] T2) : RowLs (some ⟨W.heap.size, 0, none⟩) [e1, e2] [x1, x2] (W.alloc (.cells #[.pointer (some ⟨e1, 0, none⟩), .pointer (some ⟨e2, 0, none⟩)] 53)) := by
  have hb := World.alloc_heap_new W (.cells #[.pointer (some ⟨e1, 0, none⟩), .pointer (some ⟨e2, 0, none⟩)] 53)
  have hB := bel_alloc (Below.refl W.heap.size W) (.cells #[.pointer (some ⟨e1, 0, none⟩), .pointer (some ⟨e2, 0, none⟩)] 53)
  refine ⟨rfl, fun _ => ⟨W.heap.size, 0, rfl, heap_lt hb, fun i hi => ?_⟩, fun i hi hi2 => ?_⟩
  · match i, hi with
    | 0, _ => exact cell_of_row _ _ 0 _ _ _ hb
    | 1, _ => exact cell_of_row _ _ 1 _ _ _ hb
  · match i, hi with
    | 0, _ => exact ⟨T1, h1.below hB⟩
    | 1, _ => exact ⟨T2, h2.below hB⟩
theorem rowLs0 (W : World) : RowLs none [] [] W := ⟨rfl, fun h => absurd h (by simp), fun i hi => absurd hi (by simp)⟩
theorem hasP_hp (W : World) (n t : Int) : HasP (W.alloc (.cells #[.int .i64 n, .int .i64 2, .slice none 0 0, .int .i64 t, .int .i64 0, .int .i64 0, .int .i64 0, .int .i64 0, .bool false, .bool false] 41)) (some ⟨W.heap.size, 0, none⟩) 1 [(hp n t, [])] :=
  ⟨rfl, by decide, rowV_new W 41 #[.int .i64 n, .int .i64 2, .slice none 0 0, .int .i64 t, .int .i64 0, .int .i64 0, .int .i64 0, .int .i64 0, .bool false, .bool false] 1 10 rfl (by decide), fun q hq => by rw [List.mem_singleton.1 hq]; exact hasE_nil rfl rfl⟩
abbrev xa20 : HR := ⟨4, 1, 1, 0⟩
abbrev xb20 : HR := ⟨2, 0, 2, 0⟩
theorem xa20_ok : xa20.ok := ⟨⟨by decide, by decide⟩, by decide, by decide⟩
theorem xb20_ok : xb20.ok := ⟨⟨by decide, by decide⟩, by decide, by decide⟩
theorem join20 : joinAll [xa20, xb20] = [hl xb20, hl xa20] := by rfl
theorem ldo20 {x : HR} (hx : x.ok) : ldo [] [(hp x.n x.t, [])] x.s x.a = [hl x] := (hl_ldo hx rfl).trans rfl
theorem hard_do2 {w W : World} {e e2 : Nat} {x : HR} {A2 : List LG} (hx : x.ok) (h : LG2 w e [] e2 A2 W) (a : Option Addr) (c : Nat) (hp1 : HasP W a 1 [(hp x.n x.t, [])]) :
    Calls Try.prog 27 #[.pointer (some ⟨e, 0, none⟩), .slice a 1 c, .agg #[.int .i64 x.s, .int .i64 x.a]] W fun r w' => (∃ v, r = .returned v) ∧ LG2 w e [hl x] e2 A2 w' := by
  have := gDo2 (N := 0) (c := 0) h (fun L hL => by cases hL) a 1 c [(hp x.n x.t, [])] hp1 (fun q hq => by rw [List.mem_singleton.1 hq]; exact ⟨Nat.le_refl _, Nat.le_refl _⟩) (by decide) (by decide) x.s x.a
  rwa [ldo20 hx] at this
set_option maxRecDepth 100000 in
set_option maxHeartbeats 8000000 in
theorem known20_any (w : World) : Gives Try.prog 25 #[] w (.bool true) := by
  have GN := Lib.hid (fun (W : World) => gNew1 (w := W) (Below.refl W.heap.size W))
  have GA := Lib.hid (fun (W : World) (e e2 : Nat) (h : LG2 w e [] e2 [] W) => hard_do2 xa20_ok (h.below (bel_alloc (Below.refl _ _) _)) _ 1 (hasP_hp W 4 1))
  have GB := Lib.hid (fun (W : World) (e e2 : Nat) (h : LG2 w e2 [hl xa20] e [] W) => hard_do2 xb20_ok (h.swap.below (bel_alloc (Below.refl _ _) _)) _ 1 (hasP_hp W 2 0))
  have hok2 : ∀ x ∈ [xa20, xb20], x.ok := fun x hx => by
    rcases List.mem_cons.1 hx with rfl | hx
    · exact xa20_ok
    · rw [List.mem_singleton.1 hx]; exact xb20_ok
  have hok3 : ∀ x ∈ [xa20, xa20], x.ok := fun x hx => by
    rcases List.mem_cons.1 hx with rfl | hx
    · exact xa20_ok
    · rw [List.mem_singleton.1 hx]; exact xa20_ok
  have GO := Lib.hid (fun W la e1 e2 (h : RowLs la [e1, e2] [xa20, xb20] W) => (show Calls Try.prog 28 #[.slice la 2 2] W (OfPost W [hl xb20, hl xa20]) from jof_any W la 2 [e1, e2] [xa20, xb20] hok2 ⟨rfl, show 2 < 1000 by decide⟩ h))
  have GP1 := Lib.hid (fun W la e1 e2 (h : RowLs la [e1, e2] [xa20, xb20] W) => (show Calls Try.prog 29 #[.slice la 2 2] W (fun r w' => r = .returned (.bool true) ∧ Below W.heap.size W w') from apart_any W la 2 [e1, e2] [xa20, xb20] hok2 ⟨rfl, show 2 < 1000 by decide⟩ h))
  have GP2 := Lib.hid (fun W la e1 e2 (h : RowLs la [e1, e2] [xa20, xa20] W) => (show Calls Try.prog 29 #[.slice la 2 2] W (fun r w' => r = .returned (.bool false) ∧ Below W.heap.size W w') from apart_any W la 2 [e1, e2] [xa20, xa20] hok3 ⟨rfl, show 2 < 1000 by decide⟩ h))
  have GZ := Lib.hid (fun W => (show Calls Try.prog 28 #[.slice none 0 0] W (OfPost W []) from jof_any W none 0 [] [] (fun x hx => by cases hx) ⟨rfl, by decide⟩ (rowLs0 W)))
  have GS := Lib.hid (fun W e T (h : LT W e [hl xb20, hl xa20] T) => (show Calls Try.prog 32 #[.pointer (some ⟨e, 0, none⟩)] W (fun r w' => ∃ b off c, r = .returned (.slice (some ⟨b, off, none⟩) 2 c) ∧ w'.cell? ⟨b, off, none⟩ = some (.int .i64 2) ∧ b < w'.heap.size ∧ Below W.heap.size W w') from
    (tSpots (N := 2) h (show 2 ≤ 1000 by decide) (fun L hL => by
      rcases List.mem_cons.1 hL with rfl | hL
      · exact hl_ok xb20_ok
      · rw [List.mem_singleton.1 hL]; exact hl_ok xa20_ok) (by decide)).mono fun r w' ⟨a, c, h1, h2, h3⟩ => by
      have h2' : RowV w' a 2 4 (spotCells [⟨2, -1, 2, 0⟩, ⟨4, -1, 1, 0⟩]) := h2
      obtain ⟨b, off, rfl, hb, hx⟩ := h2'.2.2 (by decide)
      exact ⟨b, off, c, h1, hx 0 (by decide), hb, h3⟩))
  have GG2 := Lib.hid (fun W e T (h : LT W e [hl xb20, hl xa20] T) => (show Calls Try.prog 30 #[.pointer (some ⟨e, 0, none⟩)] W (fun r w' => ∃ a c, r = .returned (.slice a 2 c) ∧ Below W.heap.size W w') from
    (tGroups h (show 2 ≤ 1000 by decide)).mono fun r w' ⟨a, c, Gs, h1, _, _, h2⟩ => ⟨a, c, h1, h2⟩))
  have GG0 := Lib.hid (fun W e T (h : LT W e [] T) => (show Calls Try.prog 30 #[.pointer (some ⟨e, 0, none⟩)] W (fun r w' => ∃ a c, r = .returned (.slice a 0 c) ∧ Below W.heap.size W w') from
    (tGroups h (show 0 ≤ 1000 by decide)).mono fun r w' ⟨a, c, Gs, h1, _, _, h2⟩ => ⟨a, c, h1, h2⟩))
  clear hok2 hok3
  unfold Gives
  go_enter Try.func25, Try.ntmps25
  go_wp2_with (first
    | (go_at_call 26; ((with_reducible refine (GN.out w1).mono ?_); rintro e w2 ⟨eb, rfl, hb, -, hB2⟩; have HL2 := Lib.hid (HA1.out.two hb); clear hb hB2))
    | (go_at_call 26; ((with_reducible refine (GN.out w).mono ?_); rintro e w1 ⟨ea, rfl, ha, -, hB1⟩; have HA1 := Lib.hid ha; clear ha hB1))
    | (go_at_call 27; ((with_reducible refine (GB.out _ _ _ HL3.out).mono ?_); rintro e w4 ⟨⟨v4, rfl⟩, h4⟩; have HB4 := Lib.hid h4.bel; obtain ⟨Tb, Ta, hTb, hTa, -⟩ := h4; have HTb := Lib.hid (fun W' (hB : Below w4.heap.size w4 W') => hTb.below hB); have HTa := Lib.hid (fun W' (hB : Below w4.heap.size w4 W') => hTa.below hB); clear hTb hTa))
    | (go_at_call 27; ((with_reducible refine (GA.out _ _ _ HL2.out).mono ?_); rintro e w3 ⟨⟨v3, rfl⟩, h3⟩; have HL3 := Lib.hid h3; clear h3))
    | (go_at_call 28; ((with_reducible refine (GZ.out w7).mono ?_); rintro e w8 ⟨ez, rfl, Tz, hz, hB8, -⟩; have HZ := Lib.hid hz; have HG8 := Lib.hid (HG7.out.below hB8); have HW8 := Lib.hid (bel2 HW7.out hB8); have hs8 := (hB8.cell (p := ⟨sb, so, none⟩) hsb).trans hs7; have hsb8 := Nat.lt_of_lt_of_le hsb hB8.size; clear hz hB8))
    | (go_at_call 28; ((with_reducible refine (GO.out _ _ _ _ (rowLs2 (HTa.out w4 (Below.refl _ _)) (HTb.out w4 (Below.refl _ _)))).mono ?_); rintro e w6 ⟨eg, rfl, Tg, hg, hB6, -⟩; have HG6 := Lib.hid hg; have HW6 := Lib.hid (bel2 (bel_alloc (Below.refl w4.heap.size w4) _) hB6); clear hg hB6))
    | (go_at_call 32; ((with_reducible refine (GS.out _ _ _ HG6.out).mono ?_); rintro e w7 ⟨sb, so, sc, rfl, hs7, hsb, hB7⟩; have HG7 := Lib.hid (HG6.out.below hB7); have HW7 := Lib.hid (bel2 HW6.out hB7); clear hB7))
    | (go_at_call 30; ((with_reducible refine (GG0.out _ _ _ HZ9.out).mono ?_); rintro e w10 ⟨za, zc, rfl, hB10⟩; have HW10 := Lib.hid (bel2 HW9.out hB10); clear hB10))
    | (go_at_call 30; ((with_reducible refine (GG2.out _ _ _ HG8.out).mono ?_); rintro e w9 ⟨ga, gc, rfl, hB9⟩; have HZ9 := Lib.hid (HZ.out.below hB9); have HW9 := Lib.hid (bel2 HW8.out hB9); have hs9 := (hB9.cell (p := ⟨sb, so, none⟩) hsb8).trans hs8; clear hB9))
    | (go_at_call 29; ((with_reducible refine (GP2.out _ _ _ _ (rowLs2 (HTa.out w11 HW11.out) (HTa.out w11 HW11.out))).mono ?_); rintro e w12 ⟨rfl, hB12⟩; have HW12 := Lib.hid (bel2 (bel2 HW11.out (bel_alloc (Below.refl w11.heap.size w11) _)) hB12); clear hB12))
    | (go_at_call 29; ((with_reducible refine (GP1.out _ _ _ _ (rowLs2 (HTa.out w10 HW10.out) (HTb.out w10 HW10.out))).mono ?_); rintro e w11 ⟨rfl, hB11⟩; have HW11 := Lib.hid (bel2 (bel2 HW10.out (bel_alloc (Below.refl w10.heap.size w10) _)) hB11); clear hB11)))
  go_ret
  exact ⟨rfl, bel2 HB4.out HW12.out⟩

end Go.Proofs.Ytdncdlbhgaehmaa
