/- IterX, RpI, RpJ, RpT, RpN, RpL, RpR, RpO, RpW, Known19: in one text. -/
import Derived.Test.YtdncdlbhgaehmaaIterK
import Derived.Test.YtdncdlbhgaehmaaRpM
import Derived.Scope
import Derived.Test.YtdncdlbhgaehmaaPartSame
/- An iterator that makes no block and only reads; the rounds may turn what it reads: what it knows is told by what the loop holds (K); the protocol, and the law of a loop over it; no program is named here. Printed by gen_iterx.py. -/
namespace Go.Proofs.Ytdncdlbhgaehmaa
set_option linter.unusedVariables false
open Go.RowKit Go.Shelf

/-- A loop's own record, or a deferred call's. -/
def isRec : Obj → Bool
  | .loop _ => true
  | .deferred _ => true
  | _ => false
/-- As Rd, but of what holds no cells only the records of loops are kept: a round may turn maps that were made since. -/
structure RdX (B : Nat) (S : Nat → Prop) (w w' : World) : Prop where
  os : w'.os = w.os
  tape : w'.tape = w.tape
  output : w'.output = w.output
  size : w.heap.size ≤ w'.heap.size
  block : ∀ k o, w.heap[k]? = some o → (S k ∨ (B ≤ k ∧ isRec o = true)) → w'.heap[k]? = some o
theorem RdX.refl (B : Nat) (S : Nat → Prop) (w : World) : RdX B S w w := ⟨rfl, rfl, rfl, Nat.le_refl _, fun _ _ h _ => h⟩
theorem RdX.trans {B : Nat} {S : Nat → Prop} {a b c : World} (h : RdX B S a b) (k : RdX B S b c) : RdX B S a c :=
  ⟨k.os.trans h.os, k.tape.trans h.tape, k.output.trans h.output, Nat.le_trans h.size k.size, fun i o ho hc => k.block i o (h.block i o ho hc) hc⟩
theorem RdX.below {B : Nat} {S : Nat → Prop} {W W' : World} (h : Below W.heap.size W W') : RdX B S W W' :=
  ⟨h.os, h.tape, h.output, h.size, fun k o ho _ => (h.block k (Array.getElem?_eq_some_iff.1 ho).1).trans ho⟩
theorem RdX.get {B : Nat} {S : Nat → Prop} {w w' : World} (h : RdX B S w w') {k : Nat} {o : Obj} (hk : w.heap[k]? = some o) (hS : S k) : w'.heap[k]? = some o := h.block k o hk (.inl hS)
theorem RdX.frame {B : Nat} {S Z : Nat → Prop} {w w' : World} (h : FrameT Z w w') (hS : ∀ k, S k → ¬ Z k) (hr : ∀ k o, Z k → w.heap[k]? = some o → B ≤ k → isRec o = false) : RdX B S w w' :=
  ⟨h.os, h.tape, h.output, h.size, fun k o ho hc => h.get ho (fun hz => hc.elim (fun hs => hS k hs hz) (fun hb => by have := hr k o hz ho hb.1; rw [this] at hb; exact absurd hb.2 (by simp)))⟩
theorem below_rdX {wE w0 W : World} {B0 : Nat} {S : Nat → Prop} (h0 : Below wE.heap.size wE w0) (hR : RdX B0 S w0 W) (hS : ∀ k, k < wE.heap.size → S k) : Below wE.heap.size wE W :=
  ⟨hR.os.trans h0.os, hR.tape.trans h0.tape, hR.output.trans h0.output, Nat.le_trans h0.size hR.size, fun k hk => by
    have h1 := h0.block k hk
    obtain ⟨o, ho⟩ : ∃ o, wE.heap[k]? = some o := ⟨_, Array.getElem?_eq_some_iff.2 ⟨hk, rfl⟩⟩
    rw [ho] at h1 ⊢
    exact hR.block k o h1 (.inl (hS k hk))⟩
/-- How a round's body may be left. -/
def rdEndX {α : Type} (B : Nat) (S : Nat → Prop) (I : List α → World → Prop) (Ix : Code → List α → World → Prop) (xs : List α) (W : World) : Exit → Act → World → Prop
  | .normal, _, W' => RdX B S W W' ∧ I xs W'
  | .ret, _, W' => RdX B (fun _ => False) W W' ∧ Ix .ret xs W'
  | .exit i, _, W' => RdX B (fun _ => False) W W' ∧ Ix (.exit i) xs W'
  | .goto i, _, W' => RdX B (fun _ => False) W W' ∧ Ix (.goto i) xs W'
  | _, _, _ => False
def IterX (P : Program) (g : Nat) (lb : Array Value) {α : Type} (encs : α → Array Value) (K : List α → World → Prop) (Nx : List α → α → Prop) (Fin : List α → Prop) (S : Nat → Prop) (w0 : World) : Prop :=
  ∀ (l : Nat) (J Jx : List α → World → Prop) (W : World), RdX w0.heap.size S w0 W → (∀ s W1, J s W1 → K s W1) →
    (∀ pre x W1, J pre W1 → Nx pre x → YieldAt Fence.wide 9 P l (encs x) W1 fun e W' =>
      (e = .returned (.bool true) ∧ J (pre ++ [x]) W' ∧ RdX W.heap.size S W1 W') ∨ (e = .returned (.bool false) ∧ Jx (pre ++ [x]) W')) →
    J [] W →
    CallsIn Fence.wide 9 P g (#[.func (.yield l) #[] #[]] ++ lb) W fun e W' => (∃ v, e = .returned v) ∧ ((∃ xs, Fin xs ∧ J xs W') ∨ (∃ pre x, Jx (pre ++ [x]) W'))
/-- What abides the turn of a loop's record that lies at B or beyond. -/
def AbidesX (B : Nat) (p : World → Prop) : Prop := ∀ W l r o', B ≤ l → p W → W.heap[l]? = some (.loop r) → p (W.putObj l o')
theorem AbidesX.and {B : Nat} {p q : World → Prop} (h : AbidesX B p) (k : AbidesX B q) : AbidesX B (fun W => p W ∧ q W) := fun W l r o' hl hp hr => ⟨h W l r o' hl hp.1 hr, k W l r o' hl hp.2 hr⟩
theorem AbidesX.pure {B : Nat} (p : Prop) : AbidesX B (fun _ => p) := fun _ _ _ _ _ hp _ => hp
theorem AbidesX.ex {B : Nat} {β : Sort _} {p : β → World → Prop} (h : ∀ b, AbidesX B (p b)) : AbidesX B (fun W => ∃ b, p b W) := fun W l r o' hl ⟨b, hb⟩ hr => ⟨b, h b W l r o' hl hb hr⟩
theorem AbidesX.cells {B k : Nat} {c : Array Value} {T : TypeId} {f : Nat × Nat} : AbidesX B (fun W => W.heap[k]? = some (.cells c T f)) := fun W l r o' hl hp hr =>
  (World.putObj_heap_other (fun e => by rw [e, hr] at hp; cases hp)).trans hp
theorem AbidesX.of_stab {B : Nat} {p : World → Prop} (h : Stab B (fun _ => False) p) : AbidesX B p := fun W l r o' hl hp hr => h _ _ hp (Moves.putObj _ _ hl hr rfl)
theorem frame_putObjX (W : World) (l : Nat) (o' : Obj) : FrameT (fun k => k = l) W (W.putObj l o') := by
  have g := grownBy_putObj' W l o'
  exact ⟨g.os, g.tape, g.output, g.size, fun k hk hT => World.putObj_heap_other hT⟩
/-- As rdThen. -/
def rdThenX {α : Type} (l : Nat) (P : Program) (B : Nat) (S : Nat → Prop) (I : List α → World → Prop) (Ix : Code → List α → World → Prop) (xs : List α) (body : Code) (W : World) (a : Act) (W1 : World) : Prop :=
  RdX B S W W1 ∧ ∃ p : World → Prop, AbidesX B p ∧ p W1 ∧ ∀ W2, p W2 → (∃ r, W2.heap[l]? = some (.loop r)) → body.wpIn (Fence.wide.inRound l) 9 P (rdEndX B S I Ix xs W2) a W2
theorem rdThenX_mk {α : Type} {l : Nat} {P : Program} {B : Nat} {S : Nat → Prop} {I : List α → World → Prop} {Ix : Code → List α → World → Prop} {xs : List α} {body : Code} {W : World} {a : Act} {W1 : World}
    (p : World → Prop) (hp : AbidesX B p) (h1 : p W1) (h : RdX B S W W1) (hb : ∀ W2, p W2 → (∃ r, W2.heap[l]? = some (.loop r)) → body.wpIn (Fence.wide.inRound l) 9 P (rdEndX B S I Ix xs W2) a W2) :
    rdThenX l P B S I Ix xs body W a W1 := ⟨h, p, hp, h1, hb⟩
/-- As range_roundU, where what is left behind need but abide the turn of a loop's record. ONE ROUND of a loop whose record lies at l, out of the walks of its assignment and its body. -/
theorem range_roundX {α : Type} {P : Program} {ps : Array Tmp} {assign body : Code} {tmps : Array Value} {fn : FuncId} {l dd B B1 : Nat} {D : Option Nat} (rec : LoopState → Option Code → Loop)
    (hrec : rec = fun st pe => { state := st, pending := pe, fn, tmps, params := ps, assign, body, defers := dd })
    {encs : α → Array Value} {S : Nat → Prop} (hps : ∀ x, (encs x).size = ps.size) (hBl : B ≤ l) (hlB : l < B1) (hSl : ∀ k, S k → k ≠ l) (hD : ∀ d, D = some d → B ≤ d ∧ d ≠ l)
    (I : List α → World → Prop) (Ix : Code → List α → World → Prop) (hI : ∀ s, AbidesX B (I s)) (hIx : ∀ c s, AbidesX B (Ix c s))
    (pre : List α) (x : α) (W : World)
    (hround : I pre W → (∃ r, W.heap[l]? = some (.loop r)) → assign.wpIn (Fence.wide.inRound l) 9 P (Exit.then (rdThenX l P B S I Ix (pre ++ [x]) body W) (fun _ _ _ => False))
      { tmps := (ps.zip (encs x)).foldl (fun t (p, v) => t.setIfInBounds p v) tmps, defers := [] } W)
    (hi : I pre W) (hl : W.heap[l]? = some (.loop (rec .ready none))) (hXW : heldD D W) :
    YieldAt Fence.wide 9 P l (encs x) W fun e W' =>
      (e = .returned (.bool true) ∧ (I (pre ++ [x]) W' ∧ W'.heap[l]? = some (.loop (rec .ready none)) ∧ heldD D W') ∧ RdX B1 S W W') ∨
      (e = .returned (.bool false) ∧ ∃ c, Ix c (pre ++ [x]) W' ∧ W'.heap[l]? = some (.loop (rec .done (some c))) ∧ heldD D W') := by
  have hy := run_yield (P := P) (args := encs x) hl (by rw [hrec]; exact hps x)
  rw [hrec] at hy
  refine ⟨fn, _, assign, body, hy, roundIn_of_wpIn trivial (wpIn_mono (hround hi ⟨_, hl⟩) ?_)⟩
  clear hy
  rintro e a1 W1 hp
  cases e <;> try exact hp.elim
  obtain ⟨hk1, p, hpS, hp1, hb⟩ := hp
  have hl1 : W1.heap[l]? = some (.loop (rec .ready none)) := hk1.block _ _ hl (.inr ⟨hBl, rfl⟩)
  have hX1 : heldD D W1 := fun d hd => hk1.block _ _ (hXW d hd) (.inr ⟨(hD d hd).1, rfl⟩)
  have hlt1 : l < W1.heap.size := (Array.getElem?_eq_some_iff.1 hl1).1
  refine ⟨_, run_beginRound hl1 (by rw [hrec]), ?_⟩
  obtain ⟨W2, hW2⟩ : ∃ W2, W1.putObj l (.loop { rec .ready none with state := .busy }) = W2 := ⟨_, rfl⟩
  have hl2 : W2.heap[l]? = some (.loop { rec .ready none with state := .busy }) := by rw [← hW2]; exact World.putObj_heap_same hlt1
  have hX2 : heldD D W2 := fun d hd => by rw [← hW2]; exact (World.putObj_heap_other (hD d hd).2).trans (hX1 d hd)
  have hp2 : p W2 := by rw [← hW2]; exact hpS _ _ _ _ hBl hp1 hl1
  have ho2 : ∀ k, k ≠ l → W2.heap[k]? = W1.heap[k]? := fun k hk => by rw [← hW2]; exact World.putObj_heap_other hk
  rw [hW2]
  have hg2 := hW2 ▸ grownBy_putObj' W1 l (.loop { rec .ready none with state := .busy })
  refine wpIn_mono (hb W2 hp2 ⟨_, hl2⟩) ?_
  clear hW2 hb
  have fin : ∀ (jump : Option Code) (W3 : World), RdX B (fun _ => False) W2 W3 →
      (Instr.endRound l jump).run P W3 = .ok (.bool jump.isNone) (W3.putObj l (.loop (rec (if jump.isNone then .ready else .done) jump))) ∧
      W3.heap[l]? = some (.loop { rec .ready none with state := .busy }) ∧
      (W3.putObj l (.loop (rec (if jump.isNone then .ready else .done) jump))).heap[l]? = some (.loop (rec (if jump.isNone then .ready else .done) jump)) ∧
      heldD D (W3.putObj l (.loop (rec (if jump.isNone then .ready else .done) jump))) := fun jump W3 hk3 => by
    have hl3 := hk3.block _ _ hl2 (.inr ⟨hBl, rfl⟩)
    have := run_endRound (P := P) jump hl3
    rw [hrec] at this ⊢
    exact ⟨this, by rw [hrec] at hl3; exact hl3, World.putObj_heap_same (Array.getElem?_eq_some_iff.1 hl3).1,
      fun d hd => (World.putObj_heap_other (hD d hd).2).trans (hk3.block _ _ (hX2 d hd) (.inr ⟨(hD d hd).1, rfl⟩))⟩
  have noS : ∀ {A C : World}, RdX B S A C → RdX B (fun _ => False) A C := fun h => ⟨h.os, h.tape, h.output, h.size, fun k o ho hc => h.block k o ho (hc.imp False.elim id)⟩
  rintro e a3 W3 hp
  cases e with
  | normal =>
    obtain ⟨hk3, hi3⟩ := hp
    obtain ⟨hr, hl3, hl4, hk4⟩ := fin none W3 (noS hk3)
    refine ⟨_, _, hr, .inl ⟨rfl, ⟨hI _ _ _ _ _ hBl hi3 hl3, hl4, hk4⟩, ?_⟩⟩
    have g := grownBy_putObj' W3 l (.loop (rec (if (Option.none : Option Code).isNone then .ready else .done) Option.none))
    refine ⟨g.os.trans (hk3.os.trans (hg2.os.trans hk1.os)), g.tape.trans (hk3.tape.trans (hg2.tape.trans hk1.tape)), g.output.trans (hk3.output.trans (hg2.output.trans hk1.output)),
      Nat.le_trans (Nat.le_trans (Nat.le_trans hk1.size hg2.size) hk3.size) g.size, fun k o ho hc => ?_⟩
    have hkl : k ≠ l := by
      rcases hc with hc | hc
      · exact hSl k hc
      · omega
    have hc' : S k ∨ (B ≤ k ∧ isRec o = true) := hc.imp id (fun c => ⟨by omega, c.2⟩)
    exact (World.putObj_heap_other hkl).trans (hk3.block k o ((ho2 k hkl).trans (hk1.block k o ho hc')) hc')
  | ret =>
    obtain ⟨hk3, hi3⟩ := hp
    obtain ⟨hr, hl3, hl4, hk4⟩ := fin (some .ret) W3 hk3
    exact ⟨_, _, hr, .inr ⟨rfl, .ret, hIx _ _ _ _ _ _ hBl hi3 hl3, hl4, hk4⟩⟩
  | exit id =>
    obtain ⟨hk3, hi3⟩ := hp
    obtain ⟨hr, hl3, hl4, hk4⟩ := fin (some (.exit id)) W3 hk3
    exact ⟨_, _, hr, .inr ⟨rfl, .exit id, hIx _ _ _ _ _ _ hBl hi3 hl3, hl4, hk4⟩⟩
  | goto t =>
    obtain ⟨hk3, hi3⟩ := hp
    obtain ⟨hr, hl3, hl4, hk4⟩ := fin (some (.goto t)) W3 hk3
    exact ⟨_, _, hr, .inr ⟨rfl, .goto t, hIx _ _ _ _ _ _ hBl hi3 hl3, hl4, hk4⟩⟩
  | panic ch => exact hp.elim
  | outgrown => exact hp.elim

/-- A LOOP OVER SUCH AN ITERATOR, outside every other one. -/
theorem range_outerX {α : Type} {P : Program} {g : Operand} {ps : Array Tmp} {assign body : Code} {Q : Exit → Act → World → Prop} {a : Act} {w : World}
    {gf : Nat} {lb : Array Value} (hg : a.eval g = .func (.func gf) #[] lb) (eg : Enters P gf)
    {encs : α → Array Value} {K : List α → World → Prop} {Nx : List α → α → Prop} {Fin : List α → Prop} {S : Nat → Prop} (hseq : IterX P gf lb encs K Nx Fin S w) (hps : ∀ x, (encs x).size = ps.size) (hS : ∀ k, S k → k < w.heap.size)
    (I : List α → World → Prop) (Ix : Code → List α → World → Prop) (hI : ∀ s, AbidesX w.heap.size (I s)) (hIx : ∀ c s, AbidesX w.heap.size (Ix c s)) (hK : ∀ s W, I s W → K s W) (h0 : ∀ W, Below w.heap.size w W → I [] W)
    (hround : ∀ l pre x W, Nx pre x → w.heap.size < l → I pre W → (∃ r, W.heap[l]? = some (.loop r)) →
      assign.wpIn (Fence.wide.inRound l) 9 P (Exit.then (rdThenX l P w.heap.size S I Ix (pre ++ [x]) body W) (fun _ _ _ => False))
      { tmps := (ps.zip (encs x)).foldl (fun t (p, v) => t.setIfInBounds p v) a.tmps, defers := [] } W)
    (hdone : ∀ xs W, Fin xs → I xs W → W.heap[w.heap.size]? = some (.deferred (some [])) → Q .normal { a with defers := { target := .collected w.heap.size, args := #[] } :: a.defers } W)
    (hstop : ∀ c pre x W, Ix c (pre ++ [x]) W → W.heap[w.heap.size]? = some (.deferred (some [])) → c.wpIn Fence.wide 9 P Q { a with defers := { target := .collected w.heap.size, args := #[] } :: a.defers } W) :
    (Code.rangeFunc g ps assign body).wpIn Fence.wide 9 P Q a w := by
  refine wpIn_rangeFunc ?_
  intro fn hfn
  obtain ⟨rec, hrec⟩ : ∃ rec : LoopState → Option Code → Loop, rec = fun st pe => { state := st, pending := pe, fn, tmps := a.tmps, params := ps, assign, body, defers := w.heap.size } := ⟨_, rfl⟩
  obtain ⟨W1, hW1⟩ : ∃ W1, (w.alloc (.deferred (some []))).alloc (.loop (rec .ready none)) = W1 := ⟨_, rfl⟩
  have hL1 : W1.heap[w.heap.size + 1]? = some (.loop (rec .ready none)) := by
    rw [← hW1]; have := World.alloc_heap_new (w.alloc (.deferred (some []))) (.loop (rec .ready none)); rwa [World.size_alloc] at this
  have hK1 : W1.heap[w.heap.size]? = some (.deferred (some [])) := by
    rw [← hW1]; exact (Below.heap_alloc _ _ _ (by simp)).trans (World.alloc_heap_new w _)
  have hsz : W1.heap.size = w.heap.size + 2 := by rw [← hW1]; simp
  have hb1 : Below w.heap.size w W1 := by
    rw [← hW1]; exact ((Below.refl _ w).alloc (Nat.le_refl _) _).alloc (by simp) _
  refine ⟨w.heap.size + 1, [{ target := .collected w.heap.size, args := #[] }], W1, { target := .fn (.func gf) lb, args := #[.func (.yield (w.heap.size + 1)) #[] #[]] }, W1, gf,
    #[.func (.yield (w.heap.size + 1)) #[] #[]] ++ lb, W1, ?_, ?_, ?_, ?_, fun _ => by omega, ?_⟩
  · rw [← hW1, hrec]; exact run_enterLoop_outer _ _ _ _ _
  · simp only [resolve, hg]
    simp [go_sem]
  · intro f' hf'; exact trivial
  · simp [invoke, go_sem, eg _ _]
  · have h01 : I [] W1 := h0 W1 hb1
    refine callsIn_wide_n ((hseq (w.heap.size + 1)
      (fun pre W => I pre W ∧ W.heap[w.heap.size + 1]? = some (.loop (rec .ready none)) ∧ heldD (some w.heap.size) W)
      (fun pre W => ∃ c, Ix c pre W ∧ W.heap[w.heap.size + 1]? = some (.loop (rec .done (some c))) ∧ heldD (some w.heap.size) W)
      W1 (.below hb1) (fun s W1 h => hK _ _ h.1) ?_ ⟨h01, hL1, fun d hd => by cases hd; exact hK1⟩).mono ?_)
    · rintro pre x W ⟨hi, hl, hk⟩ hx
      exact range_roundX rec hrec hps (by omega) (by omega) (fun k hk => by have := hS k hk; omega) (fun d hd => by cases hd; omega) I Ix hI hIx pre x W (fun hi' hl' => hround _ pre x W hx (by omega) hi' hl') hi hl hk
    · rintro e W2 ⟨⟨v, rfl⟩, (⟨xs, hx, hi, hl, hk⟩ | ⟨pre, x, c, hi, hl, hk⟩)⟩
      · exact ⟨none, _, by have := run_endLoop (P := P) hl (by rw [hrec]; simp); rw [hrec] at this; exact this,
          hdone xs _ hx (hI _ _ _ _ _ (by omega) hi hl) ((World.putObj_heap_other (by omega)).trans (hk _ rfl))⟩
      · exact ⟨some c, _, by have := run_endLoop (P := P) hl (by rw [hrec]; simp); rw [hrec] at this; exact this,
          hstop c pre x _ (hIx c _ _ _ _ _ (by omega) hi hl) ((World.putObj_heap_other (by omega)).trans (hk _ rfl))⟩

end Go.Proofs.Ytdncdlbhgaehmaa

/- Package replay: whose turn it is (the iterator turns$1). -/
namespace Go.Proofs.Ytdncdlbhgaehmaa
open Go.RowKit Go.Shelf
set_option linter.unusedVariables false
attribute [local go_sem] Oper.semAt_some wide_fn wide_round_fn

/-- What the iterator knows of the world. -/
def tuK (w2 : World) (C R r : Nat) (v : Value) (C0 : List RC) (pre : List Nat) (W : World) : Prop := ∃ T Rs, RpAt w2 C R r v T Rs W ∧ Rs.map rcore = runC C0 pre
theorem tuK.len {w2 W : World} {C R r : Nat} {v : Value} {C0 : List RC} {pre : List Nat} (h : tuK w2 C R r v C0 pre W) : W.cell? ⟨r, 0, none⟩ = some (.slice (some ⟨R, 0, none⟩) C0.length C0.length) ∧ ∀ i, i < C0.length → ∃ a c, W.cell? ⟨R, i, none⟩ = some (.slice a (lenC (runC C0 pre) i) c) := by
  obtain ⟨T, Rs, h, hc⟩ := h
  have hl : Rs.length = C0.length := by
    have := congrArg List.length hc
    rw [List.length_map, runC_length] at this; exact this
  refine ⟨by rw [← hl]; exact h.box_at.1, fun i hi => ?_⟩
  have hi' : i < Rs.length := by omega
  refine ⟨Rs[i].a, Rs[i].c, ?_⟩
  rw [h.row_at hi', ← lenC_core hc hi']
set_option maxRecDepth 100000 in
set_option maxHeartbeats 4000000 in
theorem turns_iter (Bs Br : Nat) (sa : Option Addr) (slen scap : Nat) (zs : List Int) (wE w0 : World) (hz : RowI .u8 wE sa slen zs) (hEW : Below wE.heap.size wE w0) (h1 : w0.heap[Bs]? = some (.cells #[.slice sa slen scap] 45 (0, 0))) (w2 : World) (C R r : Nat) (v : Value) (C0 : List RC) (h2 : w0.heap[Br]? = some (.cells #[.pointer (some ⟨r, 0, none⟩)] 47 (0, 0))) (hn : 0 < C0.length ∧ C0.length ≤ 64) (hlc : ∀ i, lenC C0 i < 1000000) :
    IterX Try.prog 60 #[.pointer (some ⟨Bs, 0, none⟩), .pointer (some ⟨Br, 0, none⟩)] (fun x : Nat => #[.int .i64 (x : Int)]) (tuK w2 C R r v C0) (fun _ x => x < C0.length) (fun xs => ∀ j, j < C0.length → lenC (runC C0 xs) j = 0) (fun k => k < wE.heap.size ∨ k = Bs ∨ k = Br) w0 := by
  intro l J Jx W hW hJK hY h0
  have hb1 := hW.get h1 (.inr (.inl rfl))
  have hb2 := hW.get h2 (.inr (.inr rfl))
  have cl0 : W.cell? ⟨Bs, 0, none⟩ = some (.slice sa slen scap) := cell_of_row _ _ 0 _ _ _ hb1
  have hE0 : Below wE.heap.size wE W := below_rdX hEW hW (fun k hk => .inl hk)
  have HK := Lib.hid (fun s W1 h => (hJK s W1 h).len)
  have HN := Lib.hid hn
  have HZ := Lib.hid hz
  have HB1 := Lib.hid hb1
  have HB2 := Lib.hid hb2
  have hn0 : ¬ (C0.length : Int) = 0 := by omega
  have hzl := hz.1
  have hzm : slen < 9223372036854775808 := by have := hz.2.1; unfold maxLen at this; omega
  clear h1 h2 hW hb1 hb2 hJK hz
  refine callsIn_of_wp Try.func60 rfl trivial ?_ rfl
  simp only [Try.ntmps60, List.size_toArray, List.length_cons, List.length_nil, Nat.reduceAdd, Nat.reduceSub, Array.replicate_succ, Array.replicate_zero, List.push_toArray, List.append_toArray, List.nil_append, List.cons_append]
  gi_wp2
  gi_loopw [5, 9] (fun s5 q wr => ∃ (k : Nat) (pre : List Nat), k ≤ slen ∧ (∃ u, u = s5) ∧ q = .int .i64 (k : Int) ∧ J pre wr ∧ RdX W.heap.size (fun k => k < wE.heap.size ∨ k = Bs ∨ k = Br) W wr) (fun _ q _ => slen - (intOf q).toNat)
  case atStart => exact ⟨0, [], by omega, ⟨_, rfl⟩, rfl, h0, RdX.refl _ _ _⟩
  case round =>
  obtain ⟨k, pre, hk, ⟨u5, rfl⟩, rfl, hJ, hR⟩ := hrel
  clear cl0 h0
  by_cases hlt : k < slen
  · have hlt' : (k : Int) < (slen : Int) := by omega
    have hw9 : IntKind.i64.wrap ((k : Int) + 1) = ((k + 1 : Nat) : Int) := (IntWalk.i64_in _ (by omega)).trans (by push_cast; rfl)
    have hEr := below_rdX hE0 hR (fun k hk => .inl hk)
    obtain ⟨b, off, rfl, hb, hx⟩ := HZ.out.2.2.2 (by omega)
    have hc := (hEr.cell (p := ⟨b, off + k, none⟩) hb).trans (hx k (by omega))
    obtain ⟨y, hy, hy3⟩ := nat_of_u8 (HZ.out.2.2.1 zs[k] (List.getElem_mem _))
    rw [hy] at hc
    have cb : wr.cell? ⟨Br, 0, none⟩ = _ := cell_of_row _ _ 0 _ _ _ (hR.get HB2.out (.inr (.inr rfl)))
    obtain ⟨cr, -⟩ := HK.out _ _ hJ
    have hm0 : ((y : Int)).tmod (C0.length : Int) = ((y % C0.length : Nat) : Int) := by rw [Int.tmod_eq_emod_of_nonneg (by omega)]; rfl
    have hml : y % C0.length < C0.length := Nat.mod_lt _ HN.out.1
    have hwm : IntKind.i64.wrap ((y % C0.length : Nat) : Int) = ((y % C0.length : Nat) : Int) := IntWalk.i64_in _ (by have := HN.out.2; omega)
    obtain ⟨fn, tmps, assign, body, hyy, hR1⟩ := hY pre (y % C0.length) wr hJ hml
    (try dsimp only at hyy)
    rw [Int.natCast_emod] at hyy
    clear hx hEr hy
    gi_wp2
    refine (roundIn_wide_n hR1).mono ?_
    rintro e W3 (⟨rfl, hJ3, hk3⟩ | ⟨rfl, hJx3⟩)
    · clear hyy hR1 hc cb cr
      gi_wp2
      go_roundw
      case rel => exact ⟨k + 1, _, by omega, ⟨_, rfl⟩, by go_num, hJ3, hR.trans hk3⟩
      case measure => simp [intOf]; omega
    · gi_wp2
      refine bodyPost_ret (results_none rfl _ _ _) rfl ?_
      exact ⟨⟨_, rfl⟩, .inr ⟨_, _, hJx3⟩⟩
  have hOk : k = slen := by omega
  subst k
  have hge : ¬ (slen : Int) < (slen : Int) := by omega
  have cb : wr.cell? ⟨Br, 0, none⟩ = _ := cell_of_row _ _ 0 _ _ _ (hR.get HB2.out (.inr (.inr rfl)))
  obtain ⟨cr, -⟩ := HK.out _ _ hJ
  have HPR := Lib.hid hJ
  obtain ⟨p0, w9, hpw⟩ : ∃ p0 w9, p0 = pre ∧ w9 = wr := ⟨_, _, rfl, rfl⟩
  clear hpw
  gi_wp2
  gi_loopw [6, 30] (fun s6 q wz => ∃ (i : Nat) (pr : List Nat), i ≤ C0.length ∧ (∃ u, u = s6) ∧ q = .int .i64 (i : Int) ∧ J pr wz ∧ (∀ j, j < i → lenC (runC C0 pr) j = 0) ∧ RdX W.heap.size (fun k => k < wE.heap.size ∨ k = Bs ∨ k = Br) W wz) (fun _ q _ => C0.length - (intOf q).toNat)
  case atStart => exact ⟨0, pre, by omega, ⟨_, rfl⟩, rfl, hJ, (fun j hj => absurd hj (Nat.not_lt_zero j)), hR⟩
  case round =>
  clear hJ hR cb cr HPR hge
  rename_i wz
  obtain ⟨i, pr, hi, ⟨u6, rfl⟩, rfl, hJ, hpast, hR⟩ := hrel
  have HPA := Lib.hid hpast
  clear hpast
  by_cases hlt : i < C0.length
  · have hlt' : (i : Int) < (C0.length : Int) := by omega
    have hw9 : IntKind.i64.wrap ((i : Int) + 1) = ((i + 1 : Nat) : Int) := (IntWalk.i64_in _ (by have := HN.out.2; omega)).trans (by push_cast; rfl)
    have cb := cell_of_row _ _ 0 _ _ _ (hR.get HB2.out (.inr (.inr rfl)))
    obtain ⟨cr, crow⟩ := HK.out _ _ hJ
    obtain ⟨ra, rc, ci⟩ := crow i hlt
    clear crow
    obtain ⟨m, hm⟩ : ∃ m, lenC (runC C0 pr) i = m := ⟨_, rfl⟩
    rw [hm] at ci
    have HM := Lib.hid hm
    clear hm
    have HPL := Lib.hid (show m < 1000000 by
      have h1 := HM.out
      have h2 : ∀ (xs : List Nat) (C : List RC), lenC (runC C xs) i ≤ lenC C i := fun xs => by
        induction xs with
        | nil => exact fun C => Nat.le_refl _
        | cons x xs ih => exact fun C => Nat.le_trans (ih (stepRC C x)) (by rw [stepRC_lenC]; split <;> omega)
      have h3 := h2 pr C0
      have h4 := hlc i
      omega)
    gi_wp2
    obtain ⟨wo, rfl⟩ : ∃ wo : World, wo = wr := ⟨_, rfl⟩
    gi_loopw [41] (fun q wz => ∃ (k : Nat) (ps : List Nat), k ≤ m ∧ q = .int .i64 (k : Int) ∧ J ps wz ∧ lenC (runC C0 ps) i = m - k ∧ (∀ j, j < i → lenC (runC C0 ps) j = 0) ∧ RdX W.heap.size (fun k => k < wE.heap.size ∨ k = Bs ∨ k = Br) W wz) (fun q _ => m - (intOf q).toNat)
    case atStart => exact ⟨0, pr, by omega, rfl, hJ, HM.out, HPA.out, hR⟩
    case round =>
    clear hJ hR cb cr ci
    obtain ⟨k, ps, hk, rfl, hJ, hlen, hpast, hR⟩ := hrel
    have HLE := Lib.hid hlen
    have HPS := Lib.hid hpast
    clear hlen hpast
    by_cases hkm : k < m
    · have hkm' : (k : Int) < (m : Int) := by omega
      have hw8 : IntKind.i64.wrap ((k : Int) + 1) = ((k + 1 : Nat) : Int) := (IntWalk.i64_in _ (by have := HPL.out; omega)).trans (by push_cast; rfl)
      obtain ⟨fn, tmps, assign, body, hyy, hR1⟩ := hY ps i _ hJ hlt
      (try dsimp only at hyy)
      gi_wp2
      refine (roundIn_wide_n hR1).mono ?_
      rintro e W3 (⟨rfl, hJ3, hk3⟩ | ⟨rfl, hJx3⟩)
      · clear hyy hR1
        gi_wp2
        go_roundw
        case rel => exact ⟨k + 1, _, by omega, by go_num, hJ3, (by rw [runC_snoc, stepRC_lenC, if_pos rfl, HLE.out]; omega), (fun j hj => by rw [runC_snoc, stepRC_lenC, if_neg (by omega)]; exact HPS.out j hj), hR.trans hk3⟩
        case measure => simp [intOf]; omega
      · gi_wp2
        refine bodyPost_ret (results_none rfl _ _ _) rfl ?_
        exact ⟨⟨_, rfl⟩, .inr ⟨_, _, hJx3⟩⟩
    have hOk : k = m := by omega
    subst k
    have hge : ¬ (m : Int) < (m : Int) := by omega
    gi_wp2
    go_roundw
    case rel => exact ⟨i + 1, ps, by omega, ⟨_, rfl⟩, by go_num, hJ, (fun j hj => by
      rcases Nat.lt_succ_iff_lt_or_eq.1 hj with h | rfl
      · exact HPS.out j h
      · rw [HLE.out]; omega), hR⟩
    case measure => simp [intOf]; omega
  have hOk : i = C0.length := by omega
  subst i
  have hge : ¬ (C0.length : Int) < (C0.length : Int) := by omega
  have HF := Lib.hid (show ∀ j, j < C0.length → lenC (runC C0 pr) j = 0 from HPA.out)
  gi_wp2
  refine bodyPost_end (results_none rfl _ _ _) rfl ?_
  exact ⟨⟨_, rfl⟩, .inl ⟨_, HF.out, hJ⟩⟩

end Go.Proofs.Ytdncdlbhgaehmaa

/- Package replay: turns. -/
namespace Go.Proofs.Ytdncdlbhgaehmaa
open Go.RowKit Go.Shelf
set_option linter.unusedVariables false
attribute [local go_sem] Oper.semAt_some wide_fn wide_round_fn

theorem turns_makes (sa : Option Addr) (slen scap : Nat) (zs : List Int) (wE w : World) (hz : RowI .u8 wE sa slen zs) (hEW : Below wE.heap.size wE w) (w2 : World) (C R r : Nat) (v : Value) (C0 : List RC) (hn : 0 < C0.length ∧ C0.length ≤ 64) (hlc : ∀ i, lenC C0 i < 1000000) :
    Calls Try.prog 39 #[.pointer (some ⟨r, 0, none⟩), .slice sa slen scap] w fun e w' => ∃ lb, e = .returned (.func (.func 60) #[] lb) ∧ w' = (w.alloc (.cells #[.pointer (some ⟨r, 0, none⟩)] 47)).alloc (.cells #[.slice sa slen scap] 45) ∧
      IterX Try.prog 60 lb (fun x : Nat => #[.int .i64 (x : Int)]) (tuK w2 C R r v C0) (fun _ x => x < C0.length) (fun xs => ∀ j, j < C0.length → lenC (runC C0 xs) j = 0) (fun k => k < wE.heap.size ∨ k = w.heap.size + 1 ∨ k = w.heap.size) w' := by
  have b1 := two_a w #[.pointer (some ⟨r, 0, none⟩)] #[.slice sa slen scap] 47 45
  have b2 := two_b w #[.pointer (some ⟨r, 0, none⟩)] #[.slice sa slen scap] 47 45
  have hB := bel_alloc (bel_alloc (Below.refl w.heap.size w) (.cells #[.pointer (some ⟨r, 0, none⟩)] 47)) (.cells #[.slice sa slen scap] 45)
  have HI := Lib.hid (turns_iter (w.heap.size + 1) w.heap.size sa slen scap zs wE _ hz (hEW.trans (hB.mono hEW.size)) b2 w2 C R r v C0 b1 hn hlc)
  clear hz hEW b1 b2 hB hn hlc
  go_enter Try.func39, Try.ntmps39
  go_wp2
  go_ret
  exact ⟨_, rfl, rfl, HI.out⟩

end Go.Proofs.Ytdncdlbhgaehmaa

/- Package replay: a replay abides the turn of a loop's record. -/
namespace Go.Proofs.Ytdncdlbhgaehmaa
open Go.RowKit Go.Shelf
set_option linter.unusedVariables false

theorem LT.noRec {W : World} {e : Nat} {A : List LG} {T : Nat → Prop} (h : LT W e A T) {k : Nat} (hk : T k) {o : Obj} (hq : W.heap[k]? = some o) : isRec o = false := by
  obtain ⟨M, F, h, -, rfl⟩ := h
  rcases hk with rfl | rfl | ⟨x, hx, rfl | rfl⟩
  · rw [h.box] at hq; cases hq; rfl
  · obtain ⟨es, cl, hb⟩ := h.map.block
    rw [hb] at hq; cases hq; rfl
  · obtain ⟨-, a, c, h1, -⟩ := h.logs x hx
    rw [h1] at hq; cases hq; rfl
  · obtain ⟨-, a, c, -, h1, -⟩ := h.logs x hx
    obtain ⟨es, cl, hb⟩ := h1.block
    rw [hb] at hq; cases hq; rfl
theorem LT.noLoop {W : World} {e : Nat} {A : List LG} {T : Nat → Prop} (h : LT W e A T) {k : Nat} (hk : T k) {q : Loop} : W.heap[k]? ≠ some (.loop q) := fun e => by
  have := h.noRec hk e
  exact absurd this (by simp [isRec])
/-- What a replay turns: no loop's record. -/
theorem RpAt.noRec {w2 W : World} {C R r : Nat} {v : Value} {T : Nat → Nat → Prop} {Rs : List RS} (h : RpAt w2 C R r v T Rs W) {k : Nat} (hk : ownRp R T Rs.length k) {o : Obj} (hq : W.heap[k]? = some o) : isRec o = false := by
  rcases hk with rfl | ⟨i, hi, hk⟩
  · rw [h.row] at hq; cases hq; rfl
  · exact (h.lgs i hi).noRec hk hq
theorem RpAt.turnR {w2 W : World} {C R r l : Nat} {v : Value} {T : Nat → Nat → Prop} {Rs : List RS} {o o' : Obj} (h : RpAt w2 C R r v T Rs W) (hl : W.heap[l]? = some o) (ho : isRec o = true) (hb : w2.heap.size ≤ l) : RpAt w2 C R r v T Rs (W.putObj l o') := by
  have hcl : ∀ (c : Array Value) (t : TypeId) (f : Nat × Nat), o ≠ .cells c t f := fun c t f e => by rw [e] at ho; cases ho
  have hcc : o.isCells = false := by cases o <;> first | rfl | cases ho
  have hce : ∀ (j : Nat) (u : Value), W.cell? ⟨l, j, none⟩ ≠ some u := fun j u e => by
    obtain ⟨o2, h2, h3⟩ := isCells_of_cell e
    rw [show W.heap[(⟨l, j, none⟩ : Addr).block]? = some o from hl] at h2
    cases h2; rw [hcc] at h3; cases h3
  exact h.frame (Z := fun k => k = l) (frame_putObjX W l o') ⟨fun e => (by have h9 := h.row; rw [show R = l from e, hl] at h9; exact hcl _ _ _ (Option.some.inj h9)), fun e => (by have h9 := h.box; rw [show r = l from e, hl] at h9; exact hcl _ _ _ (Option.some.inj h9))⟩
    (fun k hk e => by
      obtain ⟨_, _, o2, ho2, hc⟩ := ownBlockL_lt h.led hk
      rw [show k = l from e, hl] at ho2; cases ho2; rw [hcc] at hc; cases hc)
    (fun k _ hk e => by omega)
    (fun i hi k hk e => by
      have := (h.lgs i hi).noRec hk (o := o) (by rw [show k = l from e]; exact hl)
      rw [this] at ho; cases ho)
    (fun a es hr k hk e => by
      subst e
      obtain ⟨b, off, rfl, h0, rfl⟩ := hk
      obtain ⟨b', off', e, hlt, hc⟩ := hr.2.2 h0
      cases e
      cases es with
      | nil => exact absurd h0 (by simp)
      | cons y es => exact hce _ _ (hc 0 (by simp [entryCells, EntryC.cells])))
theorem RpAt.turn {w2 W : World} {C R r l : Nat} {v : Value} {T : Nat → Nat → Prop} {Rs : List RS} {q : Loop} {o' : Obj} (h : RpAt w2 C R r v T Rs W) (hl : W.heap[l]? = some (.loop q)) (hb : w2.heap.size ≤ l) : RpAt w2 C R r v T Rs (W.putObj l o') := h.turnR hl rfl hb

end Go.Proofs.Ytdncdlbhgaehmaa

/- Package replay: New. -/
namespace Go.Proofs.Ytdncdlbhgaehmaa
open Go.RowKit Go.Shelf
set_option linter.unusedVariables false
set_option linter.unusedSimpArgs false
attribute [local go_sem] Oper.semAt_some wide_fn wide_round_fn

/-- A ledger of nothing has no entries to look after. -/
theorem LT.frame0 {W W' : World} {e : Nat} {T Z : Nat → Prop} (h : LT W e [] T) (hF : FrameT Z W W') (hT : ∀ k, T k → ¬ Z k) : LT W' e [] T := by
  obtain ⟨M, F, h, h1, rfl⟩ := h
  obtain rfl : F = [] := List.map_eq_nil_iff.1 h1
  exact ⟨M, [], ⟨hF.get h.box (hT _ (.inl rfl)), h.map.frame hF (hT _ (.inr (.inl rfl))), (fun x hx => by cases hx), (fun x hx => by cases hx), List.Pairwise.nil, h.ris, (fun x hx => by cases hx)⟩, rfl, rfl⟩
/-- Within New's loop: k ledgers stand. -/
structure NwAt (w2 : World) (R r : Nat) (v : Value) (T : Nat → Nat → Prop) (Sh : List SV) (es : List Nat) (W : World) : Prop where
  box : W.heap[r]? = some (.cells #[.slice (some ⟨R, 0, none⟩) Sh.length Sh.length, v] 77 (0, 0))
  led : W.ownsRow w2.heap.size 53 1 v es.length (es.map fun e => .pointer (some ⟨e, 0, none⟩))
  rr : w2.heap.size ≤ r ∧ some r ≠ v.ownBlock
  bel : Below w2.heap.size w2 W
  lgs : ∀ i (h : i < es.length), LT W es[i] [] (T i)
  tlo : ∀ i, i < es.length → ∀ k, T i k → w2.heap.size ≤ k ∧ k ≠ r ∧ some k ≠ v.ownBlock
  tap : ∀ i j, i < es.length → j < es.length → i ≠ j → ∀ k, T i k → ¬ T j k
theorem NwAt.below {w2 W W' : World} {R r : Nat} {v : Value} {T : Nat → Nat → Prop} {Sh : List SV} {es : List Nat} (h : NwAt w2 R r v T Sh es W) (hB : Below W.heap.size W W') : NwAt w2 R r v T Sh es W' :=
  ⟨(hB.block _ (heap_lt h.box)).trans h.box, ownL_frame (T := fun _ => False) h.led (FrameT.below hB) (fun _ _ => id), h.rr, bel2 h.bel hB, fun i hi => (h.lgs i hi).below hB, h.tlo, h.tap⟩
theorem nw_zero (w2 : World) (R : Nat) (Sh : List SV) : NwAt w2 R w2.heap.size (.slice none 0 0) (fun _ _ => False) Sh [] (w2.alloc (.cells #[.slice (some ⟨R, 0, none⟩) Sh.length Sh.length, .slice none 0 0] 77)) :=
  ⟨World.alloc_heap_new w2 _, World.ownsRow_nil _ _ _ _, ⟨Nat.le_refl _, by simp [Value.ownBlock]⟩, bel_alloc (Below.refl _ _) _, fun i h => absurd h (by simp), fun i h => absurd h (by simp), fun i j h => absurd h (by simp)⟩
theorem nw_app {w2 wr w5 w8 : World} {R r le : Nat} {v v' : Value} {T : Nat → Nat → Prop} {Tn : Nat → Prop} {Sh : List SV} {es : List Nat} (h : NwAt w2 R r v T Sh es wr) (hB : Below wr.heap.size wr w5) (hL : LT w5 le [] Tn) (hTn : ∀ k, Tn k → wr.heap.size ≤ k)
    (hown : w8.ownsRow w2.heap.size 53 1 v' (es.length + 1) ((es.map fun e => Value.pointer (some ⟨e, 0, none⟩)) ++ [.pointer (some ⟨le, 0, none⟩)])) (hg : (w5.alloc (.cells #[.pointer (some ⟨le, 0, none⟩)] 53)).grownBy w8 v.ownBlock) (hn : ∀ k, some k = v'.ownBlock → some k = v.ownBlock ∨ k = w5.heap.size + 1) :
    w8.cell? ⟨r, 1, none⟩ = some v ∧ w8.frozen? ⟨r, 1, none⟩ = false ∧ ∃ T', NwAt w2 R r v' T' Sh (es ++ [le]) (w8.setCell ⟨r, 1, none⟩ v') := by
  have hBA : Below wr.heap.size wr (w5.alloc (.cells #[.pointer (some ⟨le, 0, none⟩)] 53)) := bel_alloc hB _
  have h5 : Below w5.heap.size w5 (w5.alloc (.cells #[.pointer (some ⟨le, 0, none⟩)] 53)) := bel_alloc (Below.refl _ _) _
  have hrl := heap_lt h.box
  have hvb : ∀ k, some k = v.ownBlock → k < wr.heap.size ∧ w2.heap.size ≤ k := fun k hk => by have := ownBlockL_lt h.led hk; exact ⟨this.1, this.2.1⟩
  have hG : FrameT (fun k => some k = v.ownBlock) (w5.alloc (.cells #[.pointer (some ⟨le, 0, none⟩)] 53)) w8 := ⟨hg.os, hg.tape, hg.output, hg.size, fun k hk hT => hg.block k hk (fun e => hT e)⟩
  have hF8 : FrameT (fun k => some k = v.ownBlock) wr w8 := (FrameT.below hBA).trans hG
  have hF58 : FrameT (fun k => some k = v.ownBlock) w5 w8 := (FrameT.below h5).trans hG
  have hS := FrameT.setCell w8 r 1 v'
  have hF9 : FrameT (fun k => some k = v.ownBlock ∨ k = r) wr (w8.setCell ⟨r, 1, none⟩ v') := (hF8.mono fun _ h => .inl h).trans (hS.mono fun _ h => .inr h)
  have hF59 : FrameT (fun k => some k = v.ownBlock ∨ k = r) w5 (w8.setCell ⟨r, 1, none⟩ v') := (hF58.mono fun _ h => .inl h).trans (hS.mono fun _ h => .inr h)
  have b8 := hF8.get h.box h.rr.2
  have hs5 := hB.size
  have hrr := h.rr
  have hw2 := h.bel.size
  have hl : ∀ i, i < es.length → ∀ k, T i k → k < wr.heap.size := fun i hi k hk => (h.lgs i hi).lt hk
  have hoth : some r ≠ v'.ownBlock := fun e => by
    rcases hn r e with e | e
    · exact hrr.2 e
    · omega
  refine ⟨cell_of_row _ _ 1 _ _ _ b8, frozen_of_row _ r 1 _ _ b8, fun i => if i < es.length then T i else Tn, ?_, ?_, ⟨hrr.1, hoth⟩, ?_, fun i hi => ?_, fun i hi k hk => ?_, fun i j hi hj hij k hk hk2 => ?_⟩
  · have e := Go.Joins.block_setCell b8 v' (i := 1)
    exact e
  · rw [List.length_append, List.length_singleton, List.map_append]
    exact ownL_frame hown hS (fun k hk e => hoth (e ▸ hk))
  · exact h.bel.trans (hF9.toBelow hw2 (fun k hk => by
      rcases hk with hk | rfl
      · exact (hvb k hk).2
      · exact hrr.1))
  · by_cases e : i < es.length
    · simp only [if_pos e, List.getElem_append_left e]
      refine (h.lgs i e).frame0 hF9 (fun k hk hz => ?_)
      have := h.tlo i e k hk
      rcases hz with hz | hz
      · exact this.2.2 hz
      · exact this.2.1 hz
    · have hi' : i = es.length := by rw [List.length_append, List.length_singleton] at hi; omega
      subst hi'
      simp only [Nat.lt_irrefl, if_false, List.getElem_concat_length]
      refine hL.frame0 hF59 (fun k hk hz => ?_)
      have := hTn k hk
      rcases hz with hz | hz
      · have := (hvb k hz).1; omega
      · omega
  · (try dsimp only at hk)
    by_cases e : i < es.length
    · rw [if_pos e] at hk
      have h1 := h.tlo i e k hk
      refine ⟨h1.1, h1.2.1, fun e2 => ?_⟩
      rcases hn k e2 with e2 | e2
      · exact h1.2.2 e2
      · have := hl i e k hk; omega
    · rw [if_neg e] at hk
      have h1 := hTn k hk
      refine ⟨by omega, by omega, fun e2 => ?_⟩
      rcases hn k e2 with e2 | e2
      · have := (hvb k e2).1; omega
      · have := hL.lt hk; omega
  · (try dsimp only at hk hk2)
    rw [List.length_append, List.length_singleton] at hi hj
    by_cases e : i < es.length
    · rw [if_pos e] at hk
      by_cases e2 : j < es.length
      · rw [if_pos e2] at hk2
        exact h.tap i j e e2 hij k hk hk2
      · rw [if_neg e2] at hk2
        have := hl i e k hk; have := hTn k hk2; omega
    · rw [if_neg e] at hk
      by_cases e2 : j < es.length
      · rw [if_pos e2] at hk2
        have := hl j e2 k hk2; have := hTn k hk; omega
      · omega
theorem newRC_get {K : Nat} {n : Int} {Fs : List FC} {i : Nat} (h : i < (newRC K n Fs).length) : (newRC K n Fs)[i] = (splitC (i : Int) n Fs, []) := by
  have e : (newRC K n Fs)[i]? = some (splitC (i : Int) n Fs, []) := by
    have hK : i < K := by rwa [newRC_len] at h
    unfold newRC
    rw [List.getElem?_map, List.getElem?_range hK]; rfl
  exact (List.getElem?_eq_some_iff.1 e).2
/-- All ledgers stand: a replay. -/
theorem nw_done {w2 W : World} {C R r : Nat} {v : Value} {T : Nat → Nat → Prop} {Sh : List SV} {es : List Nat} {n : Int} {Fs : List FC} (h : NwAt w2 R r v T Sh es W) (hl : es.length = Sh.length) (hR : w2.heap[R]? = some (.cells (Sh.map SV.val).toArray 22 (0, 0))) (hC : R < C ∧ C ≤ w2.heap.size) (hd : shDone C n Fs Sh w2) (hc : shCap Sh) :
    ∃ Rs, RpAt w2 C R r v T Rs W ∧ Rs.map rcore = newRC Sh.length n Fs := by
  obtain ⟨Rs, hRs⟩ : ∃ Rs, Rs = (List.range Sh.length).map fun i => (⟨(Sh[i]?.map SV.a).getD none, (Sh[i]?.map SV.c).getD 0, (Sh[i]?.map SV.L).getD [], (es[i]?).getD 0, []⟩ : RS) := ⟨_, rfl⟩
  have hRl : Rs.length = Sh.length := by rw [hRs, List.length_map, List.length_range]
  have hi : ∀ i (h1 : i < Rs.length) (h2 : i < Sh.length) (h3 : i < es.length), Rs[i] = ⟨Sh[i].a, Sh[i].c, Sh[i].L, es[i], []⟩ := fun i h1 h2 h3 => by
    subst hRs
    simp [h2, h3]
  have e1 : Rs.map RS.val = Sh.map SV.val := List.ext_getElem (by rw [List.length_map, List.length_map, hRl]) fun i h1 h2 => by
    rw [List.length_map] at h1 h2
    rw [List.getElem_map, List.getElem_map, hi i h1 h2 (by omega)]
  have e2 : Rs.map RS.led = es.map fun e => .pointer (some ⟨e, 0, none⟩) := List.ext_getElem (by rw [List.length_map, List.length_map, hRl, hl]) fun i h1 h2 => by
    rw [List.length_map] at h1 h2
    rw [List.getElem_map, List.getElem_map, hi i h1 (by omega) h2]
  have e3 : Rs.map rcore = newRC Sh.length n Fs := List.ext_getElem (by rw [List.length_map, hRl, newRC_len]) fun i h1 h2 => by
    rw [List.length_map] at h1
    rw [List.getElem_map, hi i h1 (by omega) (by omega), newRC_get]
    unfold rcore
    dsimp only
    rw [(hd i (by omega)).2.2]
  have hbl := heap_lt hR
  refine ⟨Rs, ⟨by rw [hRl]; exact h.box, by rw [e1]; exact (h.bel.block _ hbl).trans hR, by rw [e2, hRl, ← hl]; exact h.led, ⟨hC.1, hC.2, h.rr⟩, ?_, fun x hx => ?_, fun i h1 => ?_, fun i h1 => h.tlo i (by omega), fun i j h1 h2 => h.tap i j (by omega) (by omega)⟩, e3⟩
  · exact ⟨h.bel.os, h.bel.tape, h.bel.output, h.bel.size, fun k hk _ => h.bel.block k hk⟩
  · obtain ⟨i, h1, rfl⟩ := List.getElem_of_mem hx
    rw [hi i h1 (by omega) (by omega)]
    exact ⟨(hd i (by omega)).1, (hd i (by omega)).2.1, hc _ (List.getElem_mem _)⟩
  · rw [hi i h1 (by omega) (by omega)]
    exact h.lgs i (by omega)

def NewPost (n : Int) (Fs : List FC) (W : World) (e : Ending) (w' : World) : Prop :=
  ∃ w2 C R r v T Rs, e = .returned (.pointer (some ⟨r, 0, none⟩)) ∧ RpAt w2 C R r v T Rs w' ∧ Rs.map rcore = newRC Rs.length n Fs ∧ (Rs.length : Int) = heldI n ∧ W.heap.size ≤ R ∧ Below W.heap.size W w'
theorem infoLedP : (Try.prog.info? 53).map (fun i => (i.zero, i.size, i.bytes)) = some (some (.pointer none), 1, 8) := by kernel_rfl
set_option maxRecDepth 100000 in
set_option maxHeartbeats 4000000 in
theorem rnew_any (n : Int) (fa : Option Addr) (flen fcap : Nat) (Fs : List FV) (W : World) (hFs : FoundsAt W fa flen Fs) :
    Calls Try.prog 19 #[.slice fa flen fcap, .int .i64 n] W (NewPost n (Fs.map fcore) W) := by
  obtain ⟨i0, hi, hz0, hz1, hz2⟩ := info_parts infoLedP
  have GS := Lib.hid (split_anyC n fa flen fcap Fs W hFs)
  have hbd := heldI_bd n
  clear hFs
  go_enter Try.func19, Try.ntmps19
  go_wp2_with (go_at_call 12; (with_reducible refine GS.out.mono ?_); rintro e w2 ⟨R, C, Sh, rfl, hlen, hR, hWR, hC, hd, hcp, hB2⟩; have HLEN := Lib.hid hlen; have HR := Lib.hid hR; have HWR := Lib.hid hWR; have HC := Lib.hid hC; have HD := Lib.hid hd; have HCP := Lib.hid hcp; have HB2 := Lib.hid hB2; have hSl : Sh.length ≤ 64 := (by omega); clear hR hWR hC hd hcp hB2 hlen hbd)
  have hNZ := nw_zero w2 R Sh
  have c0 : (w2.alloc (.cells #[.slice (some ⟨R, 0, none⟩) Sh.length Sh.length, .slice none 0 0] 77)).cell? ⟨w2.heap.size, 0, none⟩ = some (.slice (some ⟨R, 0, none⟩) Sh.length Sh.length) := cell_of_row _ _ 0 _ _ _ hNZ.box
  generalize w2.alloc (.cells #[.slice (some ⟨R, 0, none⟩) Sh.length Sh.length, .slice none 0 0] 77) = W0 at *
  have HNZ := Lib.hid hNZ
  clear hNZ
  obtain ⟨r, hr⟩ : ∃ r, r = w2.heap.size := ⟨_, rfl⟩
  rw [← hr] at HNZ c0 ⊢
  have HRR := Lib.hid hr
  clear hr
  go_wp2
  go_loopw [16] (fun q wr => ∃ k v T es, k = List.length es ∧ k ≤ Sh.length ∧ q = .int .i64 (k : Int) ∧ NwAt w2 R r v T Sh es wr) (fun q _ => Sh.length - (intOf q).toNat)
  case atStart => exact ⟨0, _, _, [], rfl, Nat.zero_le _, rfl, HNZ.out⟩
  case round =>
  clear c0
  obtain ⟨k, v, T, es, hke, hkS, rfl, hN⟩ := hrel
  have HN := Lib.hid hN
  have HKE := Lib.hid hke
  by_cases hlt : k < Sh.length
  · have hlt' : (k : Int) < (Sh.length : Int) := by omega
    have hw9 : IntKind.i64.wrap ((k : Int) + 1) = ((k + 1 : Nat) : Int) := (IntWalk.i64_in _ (by omega)).trans (by push_cast; rfl)
    have hrl := heap_lt hN.box
    have c1 : wr.cell? ⟨r, 1, none⟩ = some v := cell_of_row _ _ 1 _ _ _ hN.box
    have c1d : wr.drew.cell? ⟨r, 1, none⟩ = some v := c1
    have hown := hN.led
    have hws := hN.bel.size
    have GN := Lib.hid (fun W1 (h : Below wr.heap.size wr W1) => gNew1 (w := wr) h)
    clear hN
    go_wp2
    -- REGION
    refine wp_region_noPanic ?_
    refine wp_region_held_drew (S := fun _ => True) (by kernel_rfl) trivial (fun hHeld => ?_)
    refine wpAnyH_take (i := 0) (v := .pointer (some ⟨r, 0, none⟩)) rfl (by kernel_rfl) (by kernel_rfl) (by kernel_rfl) (fun _ _ _ h => h) (Or.inl ⟨by rfl, fun w hSw => by go_simp⟩) hHeld ?_
    try simp only [Act.put, List.getElem_toArray, List.getElem_cons_succ, List.getElem_cons_zero, List.setIfInBounds_toArray, List.set_cons_zero, List.set_cons_succ]
    refine wpAnyH_take (i := 1) (v := .pointer (some ⟨r, 0, none⟩)) rfl (by kernel_rfl) (by kernel_rfl) (by kernel_rfl) (fun _ _ _ h => h) (Or.inl ⟨by rfl, fun w hSw => by go_simp⟩) hHeld ?_
    try simp only [Act.put, List.getElem_toArray, List.getElem_cons_succ, List.getElem_cons_zero, List.setIfInBounds_toArray, List.set_cons_zero, List.set_cons_succ]
    refine wpAnyH_take (i := 2) (v := .pointer (some ⟨r, 0, none⟩)) rfl (by kernel_rfl) (by kernel_rfl) (by kernel_rfl) (fun _ _ _ h => h) (Or.inl ⟨by rfl, fun w hSw => by go_simp⟩) hHeld ?_
    try simp only [Act.put, List.getElem_toArray, List.getElem_cons_succ, List.getElem_cons_zero, List.setIfInBounds_toArray, List.set_cons_zero, List.set_cons_succ]
    refine wpAnyH_take (i := 3) (v := .pointer (some ⟨r, 1, none⟩)) rfl (by kernel_rfl) (by kernel_rfl) (by kernel_rfl) (fun _ _ _ h => h) (Or.inl ⟨by rfl, fun w hSw => by go_simp⟩) hHeld ?_
    try simp only [Act.put, List.getElem_toArray, List.getElem_cons_succ, List.getElem_cons_zero, List.setIfInBounds_toArray, List.set_cons_zero, List.set_cons_succ]
    refine wpAnyH_ready (rs := [4, 5]) (by kernel_rfl) (by simp) ?_
    refine AllReadyH.cons rfl (fun K hK => ?_) (AllReadyH.cons rfl (fun K hK => ?_) AllReadyH.nil)
    · go_simp
      refine hK.out _ _ trivial (fun hHeld => ?_)
      clear hK K
      try simp only [Act.put, List.getElem_toArray, List.getElem_cons_succ, List.getElem_cons_zero, List.setIfInBounds_toArray, List.set_cons_zero, List.set_cons_succ]
      refine wpAnyH_ready (rs := [5]) (by kernel_rfl) (by simp) ?_
      refine AllReadyH.cons rfl (fun K hK => ?_) AllReadyH.nil
      go_simp
      go_at_call 26
      refine (GN.out _ (Below.refl _ _).drew).mono ?_
      rintro e w5 ⟨le, rfl, ⟨Tn, hLT, hB5, hTn⟩, -, -⟩
      go_simp
      refine hK.out _ _ trivial (fun hHeld => ?_)
      clear hK K
      try simp only [Act.put, List.getElem_toArray, List.getElem_cons_succ, List.getElem_cons_zero, List.setIfInBounds_toArray, List.set_cons_zero, List.set_cons_succ]
      have c5 : w5.cell? ⟨r, 1, none⟩ = some v := (hB5.cell (p := ⟨r, 1, none⟩) hrl).trans c1
      have hBA : Below wr.heap.size wr (w5.alloc (.cells #[.pointer (some ⟨le, 0, none⟩)] 53)) := bel_alloc hB5 _
      have c5a : (w5.alloc (.cells #[.pointer (some ⟨le, 0, none⟩)] 53)).cell? ⟨r, 1, none⟩ = some v := (hBA.cell (p := ⟨r, 1, none⟩) hrl).trans c1
      have HOWN := Lib.hid (show (w5.alloc (.cells #[.pointer (some ⟨le, 0, none⟩)] 53)).ownsRow w2.heap.size 53 1 v es.length (es.map fun e => Value.pointer (some ⟨e, 0, none⟩)) from ownL_frame (T := fun _ => False) hown (FrameT.below hBA) (fun _ _ => id))
      have HBA := Lib.hid hBA
      clear hBA
      refine wpAnyH_ready (rs := [6]) (by kernel_rfl) (by simp) ?_
      refine AllReadyH.cons rfl (fun K hK => ?_) AllReadyH.nil
      go_simp
      refine hK.out _ _ trivial (fun hHeld => ?_)
      clear hK K
      try simp only [Act.put, List.getElem_toArray, List.getElem_cons_succ, List.getElem_cons_zero, List.setIfInBounds_toArray, List.set_cons_zero, List.set_cons_succ]
      refine wpAnyH_ready (rs := [7]) (by kernel_rfl) (by simp) ?_
      refine AllReadyH.cons rfl (fun K hK => ?_) AllReadyH.nil
      refine step_append_lies _ rfl _ _ 50 rfl w2.heap.size 53 i0 (.pointer none) 1 8 Try.underlying50 hi hz0 hz1 hz2 rfl (by decide) v es.length (es.map fun e => Value.pointer (some ⟨e, 0, none⟩)) rfl HOWN.out ⟨w5.heap.size, 0, none⟩ 1 1 [.pointer (some ⟨le, 0, none⟩)] rfl rfl (news_new _ _ _) (by simp [Value.oneCell']) (by omega) (by unfold maxLen; omega) (by omega) (by have := HBA.out.size; omega) _ rfl ?_
      intro g1 cp1 w8 hown8 hgrow8 hat8 _
      obtain ⟨x8, f8, T8, hN8⟩ := nw_app HN.out hB5 hLT hTn hown8 hgrow8 (fun k hk => by simp [Value.ownBlock] at hk; subst hk; rcases hat8 with h | h; exact .inl h.symm; exact .inr (by simpa using h))
      have HN8 := Lib.hid hN8
      clear hN8
      refine hK.out _ _ trivial (fun hHeld => ?_)
      clear hK K
      try simp only [Act.put, List.getElem_toArray, List.getElem_cons_succ, List.getElem_cons_zero, List.setIfInBounds_toArray, List.set_cons_zero, List.set_cons_succ]
      refine wpAnyH_take (i := 8) (v := .pointer (some ⟨r, 0, none⟩)) rfl (by kernel_rfl) (by kernel_rfl) (by kernel_rfl) (fun _ _ _ h => h) (Or.inl ⟨by rfl, fun w hSw => by go_simp⟩) hHeld ?_
      try simp only [Act.put, List.getElem_toArray, List.getElem_cons_succ, List.getElem_cons_zero, List.setIfInBounds_toArray, List.set_cons_zero, List.set_cons_succ]
      refine wpAnyH_take (i := 9) (v := .pointer (some ⟨r, 1, none⟩)) rfl (by kernel_rfl) (by kernel_rfl) (by kernel_rfl) (fun _ _ _ h => h) (Or.inl ⟨by rfl, fun w hSw => by go_simp⟩) hHeld ?_
      try simp only [Act.put, List.getElem_toArray, List.getElem_cons_succ, List.getElem_cons_zero, List.setIfInBounds_toArray, List.set_cons_zero, List.set_cons_succ]
      refine wpAnyH_ready (rs := [10]) (by kernel_rfl) (by simp) ?_
      refine AllReadyH.cons rfl (fun K hK => ?_) AllReadyH.nil
      go_simp
      refine hK.out _ _ trivial (fun hHeld => ?_)
      clear hK K
      try simp only [Act.put, List.getElem_toArray, List.getElem_cons_succ, List.getElem_cons_zero, List.setIfInBounds_toArray, List.set_cons_zero, List.set_cons_succ]
      refine wpAnyH_done (by kernel_rfl) ?_ _
      refine NoPanic.normal ?_
      go_wp2
      go_roundw
      case rel => exact ⟨k + 1, _, T8, es ++ [le], by rw [List.length_append, List.length_singleton, ← HKE.out], by omega, by go_num, by first | exact HN8.out | exact HN8.out.below (Below.refl _ _).drew⟩
      case measure => simp [intOf]; omega
    · go_simp
      go_at_call 26
      refine (GN.out _ (Below.refl _ _).drew).mono ?_
      rintro e w5 ⟨le, rfl, ⟨Tn, hLT, hB5, hTn⟩, -, -⟩
      go_simp
      refine hK.out _ _ trivial (fun hHeld => ?_)
      clear hK K
      try simp only [Act.put, List.getElem_toArray, List.getElem_cons_succ, List.getElem_cons_zero, List.setIfInBounds_toArray, List.set_cons_zero, List.set_cons_succ]
      have c5 : w5.cell? ⟨r, 1, none⟩ = some v := (hB5.cell (p := ⟨r, 1, none⟩) hrl).trans c1
      have hBA : Below wr.heap.size wr (w5.alloc (.cells #[.pointer (some ⟨le, 0, none⟩)] 53)) := bel_alloc hB5 _
      have c5a : (w5.alloc (.cells #[.pointer (some ⟨le, 0, none⟩)] 53)).cell? ⟨r, 1, none⟩ = some v := (hBA.cell (p := ⟨r, 1, none⟩) hrl).trans c1
      have HOWN := Lib.hid (show (w5.alloc (.cells #[.pointer (some ⟨le, 0, none⟩)] 53)).ownsRow w2.heap.size 53 1 v es.length (es.map fun e => Value.pointer (some ⟨e, 0, none⟩)) from ownL_frame (T := fun _ => False) hown (FrameT.below hBA) (fun _ _ => id))
      have HBA := Lib.hid hBA
      clear hBA
      refine wpAnyH_ready (rs := [4, 6]) (by kernel_rfl) (by simp) ?_
      refine AllReadyH.cons rfl (fun K hK => ?_) (AllReadyH.cons rfl (fun K hK => ?_) AllReadyH.nil)
      · go_simp
        refine hK.out _ _ trivial (fun hHeld => ?_)
        clear hK K
        try simp only [Act.put, List.getElem_toArray, List.getElem_cons_succ, List.getElem_cons_zero, List.setIfInBounds_toArray, List.set_cons_zero, List.set_cons_succ]
        refine wpAnyH_ready (rs := [6]) (by kernel_rfl) (by simp) ?_
        refine AllReadyH.cons rfl (fun K hK => ?_) AllReadyH.nil
        go_simp
        refine hK.out _ _ trivial (fun hHeld => ?_)
        clear hK K
        try simp only [Act.put, List.getElem_toArray, List.getElem_cons_succ, List.getElem_cons_zero, List.setIfInBounds_toArray, List.set_cons_zero, List.set_cons_succ]
        refine wpAnyH_ready (rs := [7]) (by kernel_rfl) (by simp) ?_
        refine AllReadyH.cons rfl (fun K hK => ?_) AllReadyH.nil
        refine step_append_lies _ rfl _ _ 50 rfl w2.heap.size 53 i0 (.pointer none) 1 8 Try.underlying50 hi hz0 hz1 hz2 rfl (by decide) v es.length (es.map fun e => Value.pointer (some ⟨e, 0, none⟩)) rfl HOWN.out ⟨w5.heap.size, 0, none⟩ 1 1 [.pointer (some ⟨le, 0, none⟩)] rfl rfl (news_new _ _ _) (by simp [Value.oneCell']) (by omega) (by unfold maxLen; omega) (by omega) (by have := HBA.out.size; omega) _ rfl ?_
        intro g1 cp1 w8 hown8 hgrow8 hat8 _
        obtain ⟨x8, f8, T8, hN8⟩ := nw_app HN.out hB5 hLT hTn hown8 hgrow8 (fun k hk => by simp [Value.ownBlock] at hk; subst hk; rcases hat8 with h | h; exact .inl h.symm; exact .inr (by simpa using h))
        have HN8 := Lib.hid hN8
        clear hN8
        refine hK.out _ _ trivial (fun hHeld => ?_)
        clear hK K
        try simp only [Act.put, List.getElem_toArray, List.getElem_cons_succ, List.getElem_cons_zero, List.setIfInBounds_toArray, List.set_cons_zero, List.set_cons_succ]
        refine wpAnyH_take (i := 8) (v := .pointer (some ⟨r, 0, none⟩)) rfl (by kernel_rfl) (by kernel_rfl) (by kernel_rfl) (fun _ _ _ h => h) (Or.inl ⟨by rfl, fun w hSw => by go_simp⟩) hHeld ?_
        try simp only [Act.put, List.getElem_toArray, List.getElem_cons_succ, List.getElem_cons_zero, List.setIfInBounds_toArray, List.set_cons_zero, List.set_cons_succ]
        refine wpAnyH_take (i := 9) (v := .pointer (some ⟨r, 1, none⟩)) rfl (by kernel_rfl) (by kernel_rfl) (by kernel_rfl) (fun _ _ _ h => h) (Or.inl ⟨by rfl, fun w hSw => by go_simp⟩) hHeld ?_
        try simp only [Act.put, List.getElem_toArray, List.getElem_cons_succ, List.getElem_cons_zero, List.setIfInBounds_toArray, List.set_cons_zero, List.set_cons_succ]
        refine wpAnyH_ready (rs := [10]) (by kernel_rfl) (by simp) ?_
        refine AllReadyH.cons rfl (fun K hK => ?_) AllReadyH.nil
        go_simp
        refine hK.out _ _ trivial (fun hHeld => ?_)
        clear hK K
        try simp only [Act.put, List.getElem_toArray, List.getElem_cons_succ, List.getElem_cons_zero, List.setIfInBounds_toArray, List.set_cons_zero, List.set_cons_succ]
        refine wpAnyH_done (by kernel_rfl) ?_ _
        refine NoPanic.normal ?_
        go_wp2
        go_roundw
        case rel => exact ⟨k + 1, _, T8, es ++ [le], by rw [List.length_append, List.length_singleton, ← HKE.out], by omega, by go_num, by first | exact HN8.out | exact HN8.out.below (Below.refl _ _).drew⟩
        case measure => simp [intOf]; omega
      · go_simp
        refine hK.out _ _ trivial (fun hHeld => ?_)
        clear hK K
        try simp only [Act.put, List.getElem_toArray, List.getElem_cons_succ, List.getElem_cons_zero, List.setIfInBounds_toArray, List.set_cons_zero, List.set_cons_succ]
        refine wpAnyH_ready (rs := [4]) (by kernel_rfl) (by simp) ?_
        refine AllReadyH.cons rfl (fun K hK => ?_) AllReadyH.nil
        go_simp
        refine hK.out _ _ trivial (fun hHeld => ?_)
        clear hK K
        try simp only [Act.put, List.getElem_toArray, List.getElem_cons_succ, List.getElem_cons_zero, List.setIfInBounds_toArray, List.set_cons_zero, List.set_cons_succ]
        refine wpAnyH_ready (rs := [7]) (by kernel_rfl) (by simp) ?_
        refine AllReadyH.cons rfl (fun K hK => ?_) AllReadyH.nil
        refine step_append_lies _ rfl _ _ 50 rfl w2.heap.size 53 i0 (.pointer none) 1 8 Try.underlying50 hi hz0 hz1 hz2 rfl (by decide) v es.length (es.map fun e => Value.pointer (some ⟨e, 0, none⟩)) rfl HOWN.out ⟨w5.heap.size, 0, none⟩ 1 1 [.pointer (some ⟨le, 0, none⟩)] rfl rfl (news_new _ _ _) (by simp [Value.oneCell']) (by omega) (by unfold maxLen; omega) (by omega) (by have := HBA.out.size; omega) _ rfl ?_
        intro g1 cp1 w8 hown8 hgrow8 hat8 _
        obtain ⟨x8, f8, T8, hN8⟩ := nw_app HN.out hB5 hLT hTn hown8 hgrow8 (fun k hk => by simp [Value.ownBlock] at hk; subst hk; rcases hat8 with h | h; exact .inl h.symm; exact .inr (by simpa using h))
        have HN8 := Lib.hid hN8
        clear hN8
        refine hK.out _ _ trivial (fun hHeld => ?_)
        clear hK K
        try simp only [Act.put, List.getElem_toArray, List.getElem_cons_succ, List.getElem_cons_zero, List.setIfInBounds_toArray, List.set_cons_zero, List.set_cons_succ]
        refine wpAnyH_take (i := 8) (v := .pointer (some ⟨r, 0, none⟩)) rfl (by kernel_rfl) (by kernel_rfl) (by kernel_rfl) (fun _ _ _ h => h) (Or.inl ⟨by rfl, fun w hSw => by go_simp⟩) hHeld ?_
        try simp only [Act.put, List.getElem_toArray, List.getElem_cons_succ, List.getElem_cons_zero, List.setIfInBounds_toArray, List.set_cons_zero, List.set_cons_succ]
        refine wpAnyH_take (i := 9) (v := .pointer (some ⟨r, 1, none⟩)) rfl (by kernel_rfl) (by kernel_rfl) (by kernel_rfl) (fun _ _ _ h => h) (Or.inl ⟨by rfl, fun w hSw => by go_simp⟩) hHeld ?_
        try simp only [Act.put, List.getElem_toArray, List.getElem_cons_succ, List.getElem_cons_zero, List.setIfInBounds_toArray, List.set_cons_zero, List.set_cons_succ]
        refine wpAnyH_ready (rs := [10]) (by kernel_rfl) (by simp) ?_
        refine AllReadyH.cons rfl (fun K hK => ?_) AllReadyH.nil
        go_simp
        refine hK.out _ _ trivial (fun hHeld => ?_)
        clear hK K
        try simp only [Act.put, List.getElem_toArray, List.getElem_cons_succ, List.getElem_cons_zero, List.setIfInBounds_toArray, List.set_cons_zero, List.set_cons_succ]
        refine wpAnyH_done (by kernel_rfl) ?_ _
        refine NoPanic.normal ?_
        go_wp2
        go_roundw
        case rel => exact ⟨k + 1, _, T8, es ++ [le], by rw [List.length_append, List.length_singleton, ← HKE.out], by omega, by go_num, by first | exact HN8.out | exact HN8.out.below (Below.refl _ _).drew⟩
        case measure => simp [intOf]; omega
    -- REGION END
  · have hOk : k = Sh.length := by omega
    have hge : ¬ (k : Int) < (Sh.length : Int) := by omega
    have hx1 := nw_done HN.out (by omega) HR.out HC.out HD.out HCP.out
    have HX1 := Lib.hid hx1
    clear hx1 hN
    go_wp2
    go_ret
    obtain ⟨Rs, h1, h2⟩ := HX1.out
    have hl : Rs.length = Sh.length := by have := congrArg List.length h2; rwa [List.length_map, newRC_len] at this
    exact ⟨w2, C, R, r, v, T, Rs, rfl, h1, by rw [hl]; exact h2, by rw [hl]; exact HLEN.out, HWR.out, bel2 HB2.out HN.out.bel⟩

end Go.Proofs.Ytdncdlbhgaehmaa

/- Package replay: Ledgers. -/
namespace Go.Proofs.Ytdncdlbhgaehmaa
open Go.RowKit Go.Shelf
set_option linter.unusedVariables false
attribute [local go_sem] Oper.semAt_some wide_fn wide_round_fn

set_option maxRecDepth 100000 in
set_option maxHeartbeats 1000000 in
theorem clone_led (ad : Addr) (n cap : Nat) (l : List Value) (hl : l.length = n) (hn0 : 0 < n ∧ n < 1000000) (h1 : ∀ u ∈ l, u.oneCell' = true) (w : World) (hrow : RowV w (some ad) n 1 l) :
    GivesOwn Try.prog 40 #[.slice (some ad) n cap] w 53 1 n l := by
  obtain ⟨i0, hi, hz0, hz1, hz2⟩ := info_parts infoLedP
  have hlen := hrow.1
  have hn : ∀ j u, l[j]? = some u → (w.alloc (.cells #[] 53)).cell? (ad.add j) = some u := fun j u hu => by
    obtain ⟨hj, rfl⟩ := List.getElem?_eq_some_iff.1 hu
    obtain ⟨b, off, e, hb, hx⟩ := hrow.2.2 hn0.1
    cases e
    rw [add_off]
    exact (World.cell?_alloc_lt w _ ⟨b, off + j, none⟩ hb).trans (hx j hj)
  have hq := fun w => Lib.run_eql_slice_nil (P := Try.prog) w 50 53 (some ad) n cap 0 0 Try.underlying50
  have hn1 := hn0.2
  clear hrow hn0
  unfold GivesOwn
  go_enter Try.func40, Try.ntmps40
  go_wp2_with (at_builtin; refine wpList_append_own _ rfl _ _ 50 rfl w.heap.size 53 i0 (.pointer none) 1 8 Try.underlying50 hi hz0 hz1 hz2 rfl (by decide) _ _ _ rfl (World.ownsRow_made w #[] 0 (Nat.le_refl _) (by unfold maxLen; omega) rfl) ad n cap l rfl hlen hn h1 (by unfold maxLen; omega) (by omega) (by simp) ?_; intro v' w2 hown' hgrow _)
  go_ret
  exact ⟨_, rfl, by simpa using hown', (bel_alloc (Below.refl _ _) _).grown hgrow (by simp) (fun g e => by cases e; exact Nat.le_refl _)⟩
set_option maxRecDepth 100000 in
set_option maxHeartbeats 1000000 in
theorem rled_any {w2 W : World} {C R r : Nat} {v : Value} {T : Nat → Nat → Prop} {Rs : List RS} (h : RpAt w2 C R r v T Rs W) (hn : 0 < Rs.length ∧ Rs.length ≤ 64) :
    Calls Try.prog 21 #[.pointer (some ⟨r, 0, none⟩)] W fun e w' => ∃ g cap, e = .returned (.slice (some ⟨g, 0, none⟩) Rs.length cap) ∧ (∀ i (hi : i < Rs.length), w'.cell? ⟨g, i, none⟩ = some Rs[i].led) ∧ Below W.heap.size W w' := by
  obtain ⟨-, c1⟩ := h.box_at
  obtain ⟨a, cap, rfl, hc, hrow⟩ := rowV_own h.led
  obtain ⟨b, off, rfl, hb, hx⟩ := hrow.2.2 hn.1
  have GC := Lib.hid (clone_led ⟨b, off, none⟩ Rs.length cap (Rs.map RS.led) (List.length_map _) ⟨hn.1, by omega⟩ (fun u hu => by obtain ⟨x, -, rfl⟩ := List.mem_map.1 hu; rfl) W hrow)
  have HN := Lib.hid hn
  clear h hc hrow hb hx hn
  unfold GivesOwn at GC
  go_enter Try.func21, Try.ntmps21
  go_wp2_with (go_at_call 40; ((with_reducible refine GC.out.mono ?_); rintro e w4 ⟨v', rfl, hown, hB⟩; have HO := Lib.hid hown; clear hown))
  go_ret
  have hn := HN.out
  rcases HO.out.2 with ⟨-, e⟩ | ⟨g, cp, cur, rfl, -, hg, hncp, -, hsz, htk⟩
  · omega
  · refine ⟨g, cp, rfl, fun i hi => ?_, hB⟩
    have hcur : cur[i]? = some Rs[i].led := by
      have e : (cur.toList.take (Rs.length * 1))[i]? = some Rs[i].led := by rw [htk]; simp [hi]
      rw [List.getElem?_take_of_lt (by omega)] at e
      simpa using e
    rw [Lib.cell_of_heap hg]
    exact hcur

end Go.Proofs.Ytdncdlbhgaehmaa

/- Package replay: Step at whatever shard, Run. -/
namespace Go.Proofs.Ytdncdlbhgaehmaa
open Go.RowKit Go.Shelf
set_option linter.unusedVariables false
attribute [local go_sem] Oper.semAt_some wide_fn wide_round_fn

theorem rp_len {Rs Rs' : List RS} {C : List RC} {l : List Nat} (h : Rs'.map rcore = runC C l) (h0 : Rs.map rcore = C) : Rs'.length = Rs.length := by
  have := congrArg List.length h
  rw [List.length_map, runC_length, ← h0, List.length_map] at this; exact this
theorem step_any {w2 W : World} {C R r K : Nat} {v : Value} {T : Nat → Nat → Prop} {Rs : List RS} (h : RpAt w2 C R r v T Rs W) (hn : Rs.length ≤ 64) (hok : okRC K (Rs.map rcore)) (hK : K ≤ 30) (i : Int) :
    Calls Try.prog 24 #[.pointer (some ⟨r, 0, none⟩), .int .i64 i] W fun e w' => e = .returned (.bool (decide (0 ≤ i ∧ i < (Rs.length : Int) ∧ 0 < lenC (Rs.map rcore) i.toNat))) ∧ ∃ Rs' T', RpAt w2 C R r v T' Rs' w' ∧ Rs'.map rcore = (if 0 ≤ i then stepRC (Rs.map rcore) i.toNat else Rs.map rcore) ∧ FrameT (ownRp R T Rs.length) W w' ∧ ∀ j, j < Rs.length → ∀ k, T' j k → T j k ∨ W.heap.size ≤ k := by
  by_cases hy : 0 ≤ i ∧ i < (Rs.length : Int) ∧ 0 < lenC (Rs.map rcore) i.toNat
  · obtain ⟨k, rfl⟩ : ∃ k : Nat, i = (k : Int) := ⟨i.toNat, by omega⟩
    obtain ⟨h0, h1, h2⟩ := hy
    rw [Int.toNat_natCast] at h2 ⊢
    have hk : k < Rs.length := by omega
    rw [decide_eq_true ⟨h0, h1, h2⟩, if_pos h0]
    rw [← lenC_core rfl hk] at h2
    obtain ⟨f, l, hL⟩ : ∃ f l, Rs[k].L = f :: l := by
      cases hL : Rs[k].L with
      | nil => rw [hL] at h2; exact absurd h2 (by simp)
      | cons f l => exact ⟨f, l, rfl⟩
    obtain ⟨k1, k2, k3, k4⟩ := hok (rcore Rs[k]) (List.mem_map_of_mem (List.getElem_mem hk))
    unfold rcore at k1 k2 k3 k4
    dsimp only at k1 k2 k3 k4
    rw [List.length_map] at k1 k2 k3
    obtain ⟨f1, f2⟩ := k4 (fcore f) (List.mem_map_of_mem (by rw [hL]; simp))
    have hP := (h.found (List.getElem_mem hk)).1.2.2.2.2 f (by rw [hL]; simp)
    have hfl : f.L.length = f.len := hP.1.1
    have f1' : f.L.length ≤ 6 := by simpa [fcore] using f1
    exact step_yes h hn hk hL k2 (c := 8) (fun x hx => f2 (core x) (List.mem_map_of_mem hx)) (by omega) (by omega)
  · rw [decide_eq_false hy]
    refine (step_no h hn i (by omega)).mono ?_
    rintro e w' ⟨rfl, hB⟩
    refine ⟨rfl, Rs, T, h.below hB, ?_, FrameT.below hB, fun _ _ _ hk => .inl hk⟩
    by_cases h0 : 0 ≤ i
    · rw [if_pos h0]
      unfold stepRC
      split
      · rename_i f l A hC
        have h1 := (List.getElem?_eq_some_iff.1 hC).1
        rw [List.length_map] at h1
        exfalso
        refine hy ⟨h0, by omega, ?_⟩
        unfold lenC
        rw [hC]; simp
      · rfl
    · rw [if_neg h0]
/-- What Run's loop holds. -/
def runI (w2 w5 : World) (C R r B : Nat) (v : Value) (T : Nat → Nat → Prop) (n : Nat) (C0 : List RC) (pre : List Nat) (W : World) : Prop :=
  ∃ T' Rs', RpAt w2 C R r v T' Rs' W ∧ Rs'.map rcore = runC C0 pre ∧ FrameT (ownRp R T n) w5 W ∧ (∀ j, j < n → ∀ k, T' j k → T j k ∨ w5.heap.size ≤ k) ∧ Rs'.length = n
theorem runI.turn {w2 w5 W : World} {C R r B l : Nat} {v : Value} {T : Nat → Nat → Prop} {n : Nat} {C0 : List RC} {pre : List Nat} {o o' : Obj} (hs : w2.heap.size ≤ w5.heap.size) (hl : w5.heap.size ≤ l) (h : runI w2 w5 C R r B v T n C0 pre W) (hq : W.heap[l]? = some o) (ho : isRec o = true) : runI w2 w5 C R r B v T n C0 pre (W.putObj l o') := by
  obtain ⟨T', Rs', h1, h2, h3, h4, h5⟩ := h
  refine ⟨T', Rs', h1.turnR hq ho (Nat.le_trans hs hl), h2, ?_, h4, h5⟩
  have g := frame_putObjX W l o'
  exact ⟨g.os.trans h3.os, g.tape.trans h3.tape, g.output.trans h3.output, Nat.le_trans h3.size g.size, fun k hk hT => (g.block k (Nat.lt_of_lt_of_le hk h3.size) (by show ¬ k = l; omega)).trans (h3.block k hk hT)⟩
theorem runI.abides {w2 w5 : World} {C R r B : Nat} {v : Value} {T : Nat → Nat → Prop} {n : Nat} {C0 : List RC} {pre : List Nat} (hs : w2.heap.size ≤ w5.heap.size) : AbidesX w5.heap.size (runI w2 w5 C R r B v T n C0 pre) :=
  fun W l q o' hl h hq => h.turn hs hl hq rfl
/-- A round's step, as the loop tells it. -/
theorem runI.step {w2 w5 W W' : World} {C R r B : Nat} {v : Value} {T T1 T2 : Nat → Nat → Prop} {n : Nat} {C0 : List RC} {pre : List Nat} {x : Nat} {Rs Rs' : List RS} {S : Nat → Prop} (hR : RpAt w2 C R r v T1 Rs W) (hc : Rs.map rcore = runC C0 pre) (hF : FrameT (ownRp R T n) w5 W) (hT : ∀ j, j < n → ∀ k, T1 j k → T j k ∨ w5.heap.size ≤ k) (hl : Rs.length = n)
    (h1 : RpAt w2 C R r v T2 Rs' W') (h2 : Rs'.map rcore = stepRC (Rs.map rcore) x) (h3 : FrameT (ownRp R T1 Rs.length) W W') (h4 : ∀ j, j < Rs.length → ∀ k, T2 j k → T1 j k ∨ W.heap.size ≤ k) (hS : ∀ k, S k → ¬ ownRp R T n k ∧ k < w5.heap.size) :
    RdX w5.heap.size S W W' ∧ runI w2 w5 C R r B v T n C0 (pre ++ [x]) W' := by
  refine ⟨RdX.frame h3 (fun k hk hz => ?_) (fun k o hz ho _ => hR.noRec hz ho), T2, Rs', h1, ?_, ?_, ?_, ?_⟩
  · obtain ⟨a, b⟩ := hS k hk
    rcases hz with rfl | ⟨i, hi, hz⟩
    · exact a (.inl rfl)
    · rcases hT i (by omega) k hz with hz | hz
      · exact a (.inr ⟨i, by omega, hz⟩)
      · omega
  · rw [h2, hc, runC_snoc]
  · refine ⟨h3.os.trans hF.os, h3.tape.trans hF.tape, h3.output.trans hF.output, Nat.le_trans hF.size h3.size, fun k hk hz => (h3.block k (Nat.lt_of_lt_of_le hk hF.size) ?_).trans (hF.block k hk hz)⟩
    rintro (rfl | ⟨i, hi, hz2⟩)
    · exact hz (.inl rfl)
    · rcases hT i (by omega) k hz2 with h | h
      · exact hz (.inr ⟨i, by omega, h⟩)
      · omega
  · intro j hj k hk
    rcases h4 j (by omega) k hk with h | h
    · exact hT j hj k h
    · exact .inr (Nat.le_trans hF.size h)
  · have := congrArg List.length h2
    rw [List.length_map, stepRC_length, List.length_map] at this; omega

theorem wpIn_scope_wide {n : Nat} {P : Program} {c : Code} {Q : Exit → Act → World → Prop} {a : Act} {w : World} (h : c.wpIn Fence.wide n P (Exit.noGoto Q) a w) : (Code.scope c).wpIn Fence.wide n P Q a w := wpIn_wide.2 (wp_scope_straight (wpIn_wide.1 h))
/-- What Run leaves. -/
def RunPost (w2 W : World) (C R r : Nat) (v : Value) (T : Nat → Nat → Prop) (Rs : List RS) (w' : World) : Prop :=
  ∃ xs T' Rs', RpAt w2 C R r v T' Rs' w' ∧ Rs'.map rcore = runC (Rs.map rcore) xs ∧ leftC (runC (Rs.map rcore) xs) = 0 ∧ FrameT (ownRp R T Rs.length) W w' ∧ (∀ j, j < Rs.length → ∀ k, T' j k → T j k ∨ W.heap.size ≤ k) ∧ Rs'.length = Rs.length
theorem run_post {w2 w5 W Wd : World} {C R r B : Nat} {v : Value} {T : Nat → Nat → Prop} {Rs : List RS} {xs : List Nat} {o o' : Obj} (h : runI w2 w5 C R r B v T Rs.length (Rs.map rcore) xs Wd) (hz : leftC (runC (Rs.map rcore) xs) = 0) (hB : Below W.heap.size W w5) (hs : w2.heap.size ≤ W.heap.size) (hD : Wd.heap[w5.heap.size]? = some o) (ho : isRec o = true) : RunPost w2 W C R r v T Rs (Wd.putObj w5.heap.size o') := by
  obtain ⟨T', Rs', h1, h2, h3, h4, h5⟩ := h.turn (o' := o') (Nat.le_trans hs hB.size) (Nat.le_refl _) hD ho
  refine ⟨xs, T', Rs', h1, h2, hz, (FrameT.below hB).trans h3, fun j hj k hk => ?_, h5⟩
  rcases h4 j hj k hk with h | h
  · exact .inl h
  · exact .inr (Nat.le_trans hB.size h)
theorem take_pred (pre : List Nat) (x : Nat) : (pre ++ [x]).take ((pre ++ [x]).length - 1) = pre := by simp
set_option maxRecDepth 100000 in
set_option maxHeartbeats 8000000 in
theorem run_any {w2 W wE : World} {C R r K : Nat} {v : Value} {T : Nat → Nat → Prop} {Rs : List RS} (h : RpAt w2 C R r v T Rs W) (hn : 0 < Rs.length ∧ Rs.length ≤ 64) (hok : okRC K (Rs.map rcore)) (hK : K ≤ 30) (sa : Option Addr) (slen scap : Nat) (zs : List Int) (hz : RowI .u8 wE sa slen zs) (hE : Below wE.heap.size wE W) (hER : wE.heap.size ≤ R) :
    Calls Try.prog 20 #[.pointer (some ⟨r, 0, none⟩), .slice sa slen scap] W fun e w' => (∃ x, e = .returned x) ∧ RunPost w2 W C R r v T Rs w' := by
  have hCl : (Rs.map rcore).length = Rs.length := List.length_map _
  have hB0 := bel_alloc (Below.refl W.heap.size W) (.cells #[.pointer (some ⟨r, 0, none⟩)] 47)
  have GT := Lib.hid (fun w (hB : Below wE.heap.size wE w) => turns_makes sa slen scap zs wE w hz hB w2 C R r v (Rs.map rcore) (by rw [hCl]; exact hn) (hok.len hK))
  have HH := Lib.hid h
  have HN := Lib.hid hn
  have HOK := Lib.hid hok
  have HE := Lib.hid hE
  have HB0 := Lib.hid hB0
  have HX0 := Lib.hid (World.alloc_heap_new W (.cells #[.pointer (some ⟨r, 0, none⟩)] 47))
  have HCL := Lib.hid hCl
  clear h hn hok hz hE hB0 hCl
  refine (callsIn_wide (n := 9)).1 ?_
  refine callsIn_of_wp_marks Try.func20 rfl trivial ?_ rfl
  simp only [Try.ntmps20, List.size_toArray, List.length_cons, List.length_nil, Nat.reduceAdd, Nat.reduceSub, Array.replicate_succ, Array.replicate_zero, List.push_toArray, List.append_toArray, List.nil_append, List.cons_append]
  have b0 : (W.alloc (.cells #[.pointer (some ⟨r, 0, none⟩)] 47)).cell? ⟨W.heap.size, 0, none⟩ = some (.pointer (some ⟨r, 0, none⟩)) := cell_of_row _ _ 0 _ _ _ HX0.out
  gi_wp2
  refine wpIn_scope_wide ?_
  gi_wp2
  refine wpIn_label ?_
  gi_wp2_with (gi_at_call 39; refine (callsIn_wide.2 (GT.out _ (HE.out.trans (HB0.out.mono HE.out.size)))).mono ?_; rintro e1 w5 ⟨lb, rfl, hw5, hI5⟩; have HW5 := Lib.hid hw5; have HI5 := Lib.hid hI5; clear hw5 hI5)
  have hB05 : Below (W.alloc (.cells #[.pointer (some ⟨r, 0, none⟩)] 47)).heap.size (W.alloc (.cells #[.pointer (some ⟨r, 0, none⟩)] 47)) w5 := by rw [HW5.out]; exact bel_alloc (bel_alloc (Below.refl _ _) _) _
  have hx5 := (hB05.block _ (heap_lt HX0.out)).trans HX0.out
  have hB5 : Below W.heap.size W w5 := bel2 HB0.out hB05
  have hsz : w5.heap.size = W.heap.size + 3 := by rw [HW5.out]; simp
  have hw2 : w2.heap.size ≤ W.heap.size := HH.out.frm.size
  have HX5 := Lib.hid hx5
  have HB5 := Lib.hid hB5
  have HSZ := Lib.hid hsz
  have HW2 := Lib.hid hw2
  have hown : ∀ k, ownRp R T Rs.length k → k < W.heap.size ∧ wE.heap.size ≤ k := by
    have hlo := HH.out.lo
    rintro k (rfl | ⟨i, hi, hk⟩)
    · exact ⟨heap_lt HH.out.row, hER⟩
    · exact ⟨(HH.out.lgs i hi).lt hk, by have := (HH.out.tlo i hi k hk).1; omega⟩
  have HOWN := Lib.hid hown
  have HI6 := Lib.hid (show IterX Try.prog 60 lb (fun x : Nat => #[.int .i64 (x : Int)]) (tuK w2 C R r v (Rs.map rcore)) (fun _ x => x < (Rs.map rcore).length) (fun xs => ∀ j, j < (Rs.map rcore).length → lenC (runC (Rs.map rcore) xs) j = 0) (fun k => k < wE.heap.size ∨ k = W.heap.size + 1 + 1 ∨ k = W.heap.size + 1) w5 from by have := HI5.out; simpa using this)
  have hF5 : FrameT (ownRp R T Rs.length) w5 w5 := FrameT.refl _ _
  have hR5 := HH.out.below hB5
  clear hx5 hB5 hsz hw2 hown hB05 HI5 HW5 b0
  have HHS := Lib.hid (show ∀ W', runI w2 w5 C R r W.heap.size v T Rs.length (Rs.map rcore) [] W' → True from fun _ _ => trivial)
  refine range_outerX rfl (enters_of Try.func60 (by kernel_rfl) rfl) HI6.out (fun _ => rfl) (fun k hk => by have := HSZ.out; have := HE.out.size; omega)
    (fun pre W' => runI w2 w5 C R r W.heap.size v T Rs.length (Rs.map rcore) pre W') (fun cc pre W' => cc = Code.exit 0 ∧ (runI w2 w5 C R r W.heap.size v T Rs.length (Rs.map rcore) (pre.take (pre.length - 1)) W' ∧ leftC (runC (Rs.map rcore) (pre.take (pre.length - 1))) = 0))
    (fun _ => runI.abides (by have := HSZ.out; have := HW2.out; omega)) (fun _ _ => (AbidesX.pure _).and ((runI.abides (by have := HSZ.out; have := HW2.out; omega)).and (AbidesX.pure _))) (fun s W' ⟨T', Rs', h1, h2, _⟩ => ⟨T', Rs', h1, h2⟩)
    (fun W' hW' => ⟨T, Rs, hR5.below hW', rfl, FrameT.below hW', fun _ _ _ hk => .inl hk, rfl⟩) ?hr ?hd ?hs
  case hr =>
    clear HHS hF5 hR5
    rintro l0 pre x W1 hx hl hi1 hrec
    gi_wp2
    refine rdThenX_mk (fun W' => runI w2 w5 C R r W.heap.size v T Rs.length (Rs.map rcore) pre W') (runI.abides (by have := HSZ.out; have := HW2.out; omega)) hi1 (RdX.refl _ _ _) ?_
    clear hi1 hrec W1
    rintro W1 ⟨T1, Rs1, hR1, hc1, hF1, hT1, hl1⟩ hrec
    have hbx := hF1.get HX5.out (fun e => by have := (HOWN.out _ e).1; omega)
    have b0 : W1.cell? ⟨W.heap.size, 0, none⟩ = some (.pointer (some ⟨r, 0, none⟩)) := cell_of_row _ _ 0 _ _ _ hbx
    have hok1 : okRC K (Rs1.map rcore) := by rw [hc1]; exact HOK.out.run _
    have HR1 := Lib.hid hR1
    have HC1 := Lib.hid hc1
    have HF1 := Lib.hid hF1
    have HT1 := Lib.hid hT1
    have HL1 := Lib.hid hl1
    have HBX := Lib.hid hbx
    have HOK1 := Lib.hid hok1
    have HLT := Lib.hid (show leftC (Rs1.map rcore) < 1000000 from hok1.left hK (by rw [List.length_map, hl1]; exact HN.out.2))
    have GL := Lib.hid (left_any hR1 (by rw [hl1]; exact HN.out.2) HLT.out)
    have hlt := HLT.out
    clear hR1 hc1 hF1 hT1 hl1 hbx hok1 hrec hx
    by_cases hz : leftC (Rs1.map rcore) = 0
    · rw [hz] at GL
      have HZ := Lib.hid hz
      clear hz hlt
      gi_wp2_with (gi_at_call 22; refine (callsIn_wide.2 GL.out).mono ?_; rintro e wa ⟨rfl, hBa⟩; have HBA := Lib.hid hBa; clear hBa)
      exact ⟨RdX.below HBA.out, rfl, by rw [take_pred]; exact ⟨T1, Rs1, HR1.out.below HBA.out, HC1.out, HF1.out.trans (FrameT.below HBA.out), HT1.out, HL1.out⟩, by rw [take_pred, ← HC1.out]; exact HZ.out⟩
    · obtain ⟨m, hm⟩ : ∃ m, leftC (Rs1.map rcore) = m := ⟨_, rfl⟩
      rw [hm] at GL hz hlt
      have hz' : ¬ (m : Int) = 0 := by omega
      clear hm hz
      have GS := Lib.hid (fun wa (hB : Below W1.heap.size W1 wa) => step_any (HR1.out.below hB) (by rw [HL1.out]; exact HN.out.2) HOK1.out hK (x : Int))
      gi_wp2_with (first
        | (gi_at_call 22; refine (callsIn_wide.2 GL.out).mono ?_; rintro e wa ⟨rfl, hBa⟩; have HBA := Lib.hid hBa; have ba : wa.cell? ⟨W.heap.size, 0, none⟩ = some (.pointer (some ⟨r, 0, none⟩)) := (hBa.cell (p := ⟨W.heap.size, 0, none⟩) (heap_lt HBX.out)).trans b0; clear hBa)
        | (gi_at_call 24; refine (callsIn_wide.2 (GS.out _ HBA.out)).mono ?_; rintro e w3 ⟨rfl, Rs2, T2, hR2, hc2, hF2, hT2⟩; have HR2 := Lib.hid hR2; have HC2 := Lib.hid hc2; have HF2 := Lib.hid hF2; have HT2 := Lib.hid hT2; clear hR2 hc2 hF2 hT2))
      have hz := runI.step (B := W.heap.size) (x := x) (S := fun k => k < wE.heap.size ∨ k = W.heap.size + 1 + 1 ∨ k = W.heap.size + 1) (HR1.out.below HBA.out) HC1.out (HF1.out.trans (FrameT.below HBA.out)) HT1.out HL1.out HR2.out (by have := HC2.out; rwa [if_pos (Int.natCast_nonneg x), Int.toNat_natCast] at this) HF2.out HT2.out (fun k hk => ⟨fun e => by have := HOWN.out k e; omega, by have := HSZ.out; have := HE.out.size; omega⟩)
      exact ⟨(RdX.below HBA.out).trans hz.1, hz.2⟩
  case hd =>
    clear HHS hF5 hR5
    rintro xs Wd hfin hi hD
    have HZ := Lib.hid (leftC_zero (C := runC (Rs.map rcore) xs) (fun j hj => hfin j (by rw [runC_length] at hj; exact hj)))
    have HI := Lib.hid hi
    have HD := Lib.hid hD
    clear hi hD hfin
    gi_wp2
    exact leave_one HD.out (results_none rfl _ _ _) ⟨⟨_, rfl⟩, run_post HI.out HZ.out HB5.out HW2.out HD.out rfl⟩
  case hs =>
    clear HHS hF5 hR5
    rintro cc pre x Wd ⟨rfl, hi, hz⟩ hD
    have HZ := Lib.hid hz
    have HI := Lib.hid hi
    have HD := Lib.hid hD
    clear hi hD hz
    gi_wp2
    exact leave_one HD.out (results_none rfl _ _ _) ⟨⟨_, rfl⟩, run_post HI.out HZ.out HB5.out HW2.out HD.out rfl⟩

end Go.Proofs.Ytdncdlbhgaehmaa

/- Package replay: one replay, made since (RpS); its operations. -/
namespace Go.Proofs.Ytdncdlbhgaehmaa
open Go.RowKit Go.Shelf
set_option linter.unusedVariables false
attribute [local go_sem] Oper.semAt_some wide_fn wide_round_fn

/-- A replay of which stands what C tells, made since w. -/
def RpS (w : World) (C : List RC) (r : Nat) (W : World) : Prop :=
  ∃ w2 B R v T Rs, RpAt w2 B R r v T Rs W ∧ Rs.map rcore = C ∧ w.heap.size ≤ R ∧ Below w.heap.size w W ∧ (0 < C.length ∧ C.length ≤ 64) ∧ okRC 30 C
theorem RpS.below {w W W' : World} {C : List RC} {r : Nat} (h : RpS w C r W) (hB : Below W.heap.size W W') : RpS w C r W' := by
  obtain ⟨w2, B, R, v, T, Rs, h1, h2, h3, h4, h5⟩ := h
  exact ⟨w2, B, R, v, T, Rs, h1.below hB, h2, h3, bel2 h4 hB, h5⟩
theorem RpS.bel {w W : World} {C : List RC} {r : Nat} (h : RpS w C r W) : Below w.heap.size w W := by
  obtain ⟨w2, B, R, v, T, Rs, h1, h2, h3, h4, h5⟩ := h; exact h4
theorem rs_len {Rs : List RS} {C : List RC} (h : Rs.map rcore = C) : Rs.length = C.length := by rw [← h, List.length_map]
theorem RpS.left {w W : World} {C : List RC} {r : Nat} (h : RpS w C r W) : Calls Try.prog 22 #[.pointer (some ⟨r, 0, none⟩)] W fun e w' => e = .returned (.int .i64 ((leftC C : Nat) : Int)) ∧ Below W.heap.size W w' := by
  obtain ⟨w2, B, R, v, T, Rs, h1, h2, h3, h4, h5, h6⟩ := h
  have hl := rs_len h2
  subst h2
  refine (left_any h1 (by omega) (h6.left (by decide) h5.2)).mono ?_
  rintro e w' ⟨rfl, hB⟩
  exact ⟨rfl, hB⟩
theorem RpS.left' {w W : World} {C : List RC} {r : Nat} (h : RpS w C r W) : Calls Try.prog 22 #[.pointer (some ⟨r, 0, none⟩)] W fun e w' => e = .returned (.int .i64 ((leftC C : Nat) : Int)) ∧ RpS w C r w' := h.left.mono fun e w' ⟨h1, h2⟩ => ⟨h1, h.below h2⟩
theorem rp_own {w2 W : World} {B R r : Nat} {v : Value} {T : Nat → Nat → Prop} {Rs : List RS} (h : RpAt w2 B R r v T Rs W) {w : World} (hw : w.heap.size ≤ R) {k : Nat} (hk : ownRp R T Rs.length k) : w.heap.size ≤ k ∧ k < W.heap.size := by
  have hlo := h.lo
  rcases hk with rfl | ⟨i, hi, hk⟩
  · exact ⟨hw, heap_lt h.row⟩
  · exact ⟨by have := (h.tlo i hi k hk).1; omega, (h.lgs i hi).lt hk⟩
theorem RpS.step {w W : World} {C : List RC} {r : Nat} (h : RpS w C r W) (i : Int) : Calls Try.prog 24 #[.pointer (some ⟨r, 0, none⟩), .int .i64 i] W fun e w' => e = .returned (.bool (decide (0 ≤ i ∧ i < (C.length : Int) ∧ 0 < lenC C i.toNat))) ∧ RpS w (if 0 ≤ i then stepRC C i.toNat else C) r w' := by
  obtain ⟨w2, B, R, v, T, Rs, h1, h2, h3, h4, h5, h6⟩ := h
  have hl := rs_len h2
  subst h2
  refine (step_any h1 (by omega) h6 (by decide) i).mono ?_
  rintro e w' ⟨rfl, Rs', T', h7, h8, h9, h10⟩
  refine ⟨by rw [hl], w2, B, R, v, T', Rs', h7, h8, h3, h4.trans (h9.toBelow h4.size fun k hk => (rp_own h1 h3 hk).1), ?_, ?_⟩
  · split
    · rw [stepRC_length]; exact h5
    · exact h5
  · split
    · exact h6.step _
    · exact h6
theorem runC_len {C : List RC} {xs : List Nat} : (runC C xs).length = C.length := runC_length xs C
theorem RpS.run {w W : World} {C : List RC} {r : Nat} (h : RpS w C r W) (sa : Option Addr) (slen scap : Nat) (zs : List Int) (hz : RowI .u8 w sa slen zs) : Calls Try.prog 20 #[.pointer (some ⟨r, 0, none⟩), .slice sa slen scap] W fun e w' => (∃ x, e = .returned x) ∧ ∃ xs, RpS w (runC C xs) r w' ∧ leftC (runC C xs) = 0 := by
  obtain ⟨w2, B, R, v, T, Rs, h1, h2, h3, h4, h5, h6⟩ := h
  have hl := rs_len h2
  subst h2
  refine (run_any h1 (by omega) h6 (by decide) sa slen scap zs hz h4 h3).mono ?_
  rintro e w' ⟨he, xs, T', Rs', h7, h8, h9, h10, h11, h12⟩
  exact ⟨he, xs, ⟨w2, B, R, v, T', Rs', h7, h8, h3, h4.trans (h10.toBelow h4.size fun k hk => (rp_own h1 h3 hk).1), by rw [runC_len]; exact h5, h6.run xs⟩, h9⟩
theorem RpS.new (n : Int) (fa : Option Addr) (flen fcap : Nat) (Fs : List FV) (W : World) (hFs : FoundsAt W fa flen Fs) (hf : Fs.length ≤ 30 ∧ ∀ f ∈ Fs.map fcore, fewFC f) :
    Calls Try.prog 19 #[.slice fa flen fcap, .int .i64 n] W fun e w' => ∃ r, e = .returned (.pointer (some ⟨r, 0, none⟩)) ∧ RpS W (newRC (heldI n).toNat n (Fs.map fcore)) r w' := by
  refine (rnew_any n fa flen fcap Fs W hFs).mono ?_
  rintro e w' ⟨w2, B, R, r, v, T, Rs, rfl, h1, h2, h3, h4, h5⟩
  have hb := heldI_bd n
  have e1 : Rs.length = (heldI n).toNat := by omega
  rw [e1] at h2
  exact ⟨r, rfl, w2, B, R, v, T, Rs, h1, h2, h4, h5, by rw [newRC_len]; omega, newRC_ok (by rw [List.length_map]; exact hf.1) hf.2⟩
/-- Its ledgers, as they come out. -/
def LedOut (g : Nat) (C : List RC) (W : World) : Prop := ∃ es : List Nat, es.length = C.length ∧ ∀ i (h : i < C.length), W.cell? ⟨g, i, none⟩ = some (.pointer (some ⟨es[i]!, 0, none⟩)) ∧ ∃ T, LT W es[i]! C[i].2 T
theorem RpS.ledgers {w W : World} {C : List RC} {r : Nat} (h : RpS w C r W) : Calls Try.prog 21 #[.pointer (some ⟨r, 0, none⟩)] W fun e w' => ∃ g cap, e = .returned (.slice (some ⟨g, 0, none⟩) C.length cap) ∧ LedOut g C w' ∧ Below W.heap.size W w' := by
  obtain ⟨w2, B, R, v, T, Rs, h1, h2, h3, h4, h5, h6⟩ := h
  have hl := rs_len h2
  subst h2
  refine (rled_any h1 (by omega)).mono ?_
  rintro e w' ⟨g, cap, rfl, h7, hB⟩
  refine ⟨g, cap, by rw [hl], ⟨Rs.map RS.e, by simp, fun i hi => ?_⟩, hB⟩
  have hi' : i < Rs.length := by omega
  have e1 : (Rs.map RS.e)[i]! = Rs[i].e := by rw [getElem!_pos (Rs.map RS.e) i (by simpa using hi')]; simp
  rw [e1]
  refine ⟨h7 i hi', T i, ?_⟩
  rw [List.getElem_map]
  exact (h1.lgs i hi').below hB
theorem LedOut.below {g : Nat} {C : List RC} {W W' : World} (h : LedOut g C W) (hB : Below W.heap.size W W') : LedOut g C W' := by
  obtain ⟨es, h1, h2⟩ := h
  refine ⟨es, h1, fun i hi => ?_⟩
  obtain ⟨h3, T, h4⟩ := h2 i hi
  have hlt : g < W.heap.size := by obtain ⟨o, ho, _⟩ := isCells_of_cell h3; exact heap_lt ho
  exact ⟨(hB.cell (p := ⟨g, i, none⟩) hlt).trans h3, T, h4.below hB⟩

end Go.Proofs.Ytdncdlbhgaehmaa

/- Package replay: two replays in one world. -/
namespace Go.Proofs.Ytdncdlbhgaehmaa
open Go.RowKit Go.Shelf
set_option linter.unusedVariables false
attribute [local go_sem] Oper.semAt_some wide_fn wide_round_fn

/-- Where a replay lies. -/
def footRp (w2 : World) (B R r : Nat) (v : Value) (T : Nat → Nat → Prop) (n : Nat) (k : Nat) : Prop := k = R ∨ k = r ∨ some k = v.ownBlock ∨ (B ≤ k ∧ k < w2.heap.size) ∨ ∃ i, i < n ∧ T i k
theorem RpAt.foot_lt {w2 W : World} {B R r : Nat} {v : Value} {T : Nat → Nat → Prop} {Rs : List RS} (h : RpAt w2 B R r v T Rs W) {k : Nat} (hk : footRp w2 B R r v T Rs.length k) : k < W.heap.size := by
  rcases hk with rfl | rfl | hk | hk | ⟨i, hi, hk⟩
  · exact heap_lt h.row
  · exact heap_lt h.box
  · exact (ownBlockL_lt h.led hk).1
  · exact Nat.lt_of_lt_of_le hk.2 h.frm.size
  · exact (h.lgs i hi).lt hk
/-- What a replay turns holds no entries. -/
theorem RpAt.noEnt {w2 W : World} {B R r : Nat} {v : Value} {T : Nat → Nat → Prop} {Rs : List RS} (h : RpAt w2 B R r v T Rs W) : NoEnt W (ownRp R T Rs.length) := by
  rintro a l hr k hk (rfl | ⟨i, hi, hz⟩)
  · obtain ⟨b, off, rfl, h0, rfl⟩ := hk
    obtain ⟨b', off', e, hlt, hc⟩ := hr.2.2 h0
    cases e
    cases l with
    | nil => exact absurd h0 (by simp)
    | cons y l =>
      have h1 := hc 0 (by simp [entryCells, EntryC.cells])
      rw [Lib.cell_of_heap h.row] at h1
      simp [entryCells, EntryC.cells] at h1
  · obtain ⟨M, F, h1, -, h2⟩ := h.lgs i hi
    rw [h2] at hz
    exact h1.row hr hk hz
/-- Another replay turns what is its own. -/
theorem RpAt.other {w2 u2 W W' : World} {B R r D Q q : Nat} {v u : Value} {T U : Nat → Nat → Prop} {Rs Us : List RS} (h : RpAt w2 B R r v T Rs W) (g : RpAt u2 D Q q u U Us W) (hF : FrameT (ownRp Q U Us.length) W W') (hA : ∀ k, ownRp Q U Us.length k → ¬ footRp w2 B R r v T Rs.length k) : RpAt w2 B R r v T Rs W' :=
  h.frame hF ⟨fun e => hA _ e (.inl rfl), fun e => hA _ e (.inr (.inl rfl))⟩ (fun k hk e => hA k e (.inr (.inr (.inl hk)))) (fun k h1 h2 e => hA k e (.inr (.inr (.inr (.inl ⟨h1, h2⟩))))) (fun i hi k hk e => hA k e (.inr (.inr (.inr (.inr ⟨i, hi, hk⟩))))) g.noEnt
/-- Two replays, made since w. -/
def Rp2 (w : World) (C : List RC) (r : Nat) (D : List RC) (q : Nat) (W : World) : Prop :=
  ∃ w2 B R v T Rs u2 B' R' u U Us, RpAt w2 B R r v T Rs W ∧ RpAt u2 B' R' q u U Us W ∧ (Rs.map rcore = C ∧ Us.map rcore = D) ∧ (w.heap.size ≤ R ∧ w.heap.size ≤ R') ∧ Below w.heap.size w W ∧ ((0 < C.length ∧ C.length ≤ 64) ∧ okRC 30 C) ∧ ((0 < D.length ∧ D.length ≤ 64) ∧ okRC 30 D) ∧
    (∀ k, ownRp R T Rs.length k → ¬ footRp u2 B' R' q u U Us.length k) ∧ (∀ k, ownRp R' U Us.length k → ¬ footRp w2 B R r v T Rs.length k)
theorem Rp2.swap {w W : World} {C D : List RC} {r q : Nat} (h : Rp2 w C r D q W) : Rp2 w D q C r W := by
  obtain ⟨w2, B, R, v, T, Rs, u2, B', R', u, U, Us, h1, h2, h3, h4, h5, h6, h7, h8, h9⟩ := h
  exact ⟨u2, B', R', u, U, Us, w2, B, R, v, T, Rs, h2, h1, h3.symm, h4.symm, h5, h7, h6, h9, h8⟩
theorem Rp2.below {w W W' : World} {C D : List RC} {r q : Nat} (h : Rp2 w C r D q W) (hB : Below W.heap.size W W') : Rp2 w C r D q W' := by
  obtain ⟨w2, B, R, v, T, Rs, u2, B', R', u, U, Us, h1, h2, h3, h4, h5, h6⟩ := h
  exact ⟨w2, B, R, v, T, Rs, u2, B', R', u, U, Us, h1.below hB, h2.below hB, h3, h4, bel2 h5 hB, h6⟩
theorem Rp2.bel {w W : World} {C D : List RC} {r q : Nat} (h : Rp2 w C r D q W) : Below w.heap.size w W := by
  obtain ⟨w2, B, R, v, T, Rs, u2, B', R', u, U, Us, h1, h2, h3, h4, h5, h6⟩ := h; exact h5
theorem Rp2.one {w W : World} {C D : List RC} {r q : Nat} (h : Rp2 w C r D q W) : RpS w C r W := by
  obtain ⟨w2, B, R, v, T, Rs, u2, B', R', u, U, Us, h1, h2, h3, h4, h5, h6, h7⟩ := h
  exact ⟨w2, B, R, v, T, Rs, h1, h3.1, h4.1, h5, h6.1, h6.2⟩
/-- A second one is made. -/
theorem RpS.two {w W W' : World} {C D : List RC} {r q : Nat} (h : RpS w C r W) (g : RpS W D q W') : Rp2 w C r D q W' := by
  obtain ⟨w2, B, R, v, T, Rs, h1, h2, h3, h4, h5, h6⟩ := h
  obtain ⟨u2, B', R', u, U, Us, g1, g2, g3, g4, g5, g6⟩ := g
  have hs := h4.size
  have hlo := g1.lo
  have hge : ∀ k, footRp u2 B' R' q u U Us.length k → W.heap.size ≤ k := by
    rintro k (rfl | rfl | hk | hk | ⟨i, hi, hk⟩)
    · exact g3
    · omega
    · have := (ownBlockL_lt g1.led hk).2.1; omega
    · omega
    · have := (g1.tlo i hi k hk).1; omega
  refine ⟨w2, B, R, v, T, Rs, u2, B', R', u, U, Us, h1.below g4, g1, ⟨h2, g2⟩, ⟨h3, by omega⟩, bel2 h4 g4, ⟨h5, h6⟩, ⟨g5, g6⟩, fun k hk hf => ?_, fun k hk hf => ?_⟩
  · have := (rp_own h1 h3 hk).2; have := hge k hf; omega
  · have h9 := h1.foot_lt hf
    have := hge k (by rcases hk with rfl | hk; exact .inl rfl; exact .inr (.inr (.inr (.inr hk))))
    omega
theorem Rp2.run {w W : World} {C D : List RC} {r q : Nat} (h : Rp2 w C r D q W) (sa : Option Addr) (slen scap : Nat) (zs : List Int) (hz : RowI .u8 w sa slen zs) : Calls Try.prog 20 #[.pointer (some ⟨r, 0, none⟩), .slice sa slen scap] W fun e w' => (∃ x, e = .returned x) ∧ ∃ xs, Rp2 w (runC C xs) r D q w' ∧ leftC (runC C xs) = 0 := by
  obtain ⟨w2, B, R, v, T, Rs, u2, B', R', u, U, Us, h1, g1, ⟨h2, g2⟩, ⟨h3, g3⟩, h4, ⟨h5, h6⟩, h7, hA, hA2⟩ := h
  have hl := rs_len h2
  subst h2
  refine (run_any h1 (by omega) h6 (by decide) sa slen scap zs hz h4 h3).mono ?_
  rintro e w' ⟨he, xs, T', Rs', h8, h9, h10, h11, h12, h13⟩
  refine ⟨he, xs, ⟨w2, B, R, v, T', Rs', u2, B', R', u, U, Us, h8, g1.other h1 h11 hA, ⟨h9, g2⟩, ⟨h3, g3⟩, h4.trans (h11.toBelow h4.size fun k hk => (rp_own h1 h3 hk).1), ⟨by rw [runC_len]; exact h5, h6.run xs⟩, h7, fun k hk hf => ?_, fun k hk hf => ?_⟩, h10⟩
  · have hlt := g1.foot_lt hf
    rcases hk with rfl | ⟨i, hi, hk⟩
    · exact hA _ (.inl rfl) hf
    · rcases h12 i (by omega) k hk with hk | hk
      · exact hA k (.inr ⟨i, by omega, hk⟩) hf
      · omega
  · have hlt := (rp_own g1 g3 hk).2
    refine hA2 k hk ?_
    rcases hf with hf | hf | hf | hf | ⟨i, hi, hf⟩
    · exact .inl hf
    · exact .inr (.inl hf)
    · exact .inr (.inr (.inl hf))
    · exact .inr (.inr (.inr (.inl hf)))
    · rcases h12 i (by omega) k hf with hf | hf
      · exact .inr (.inr (.inr (.inr ⟨i, by omega, hf⟩)))
      · omega

end Go.Proofs.Ytdncdlbhgaehmaa

/- What the laws of package replay hold by themselves: the example. -/
namespace Go.Proofs.Ytdncdlbhgaehmaa
open Go.RowKit Go.Shelf
set_option linter.unusedVariables false
attribute [local go_sem] Oper.semAt_some wide_fn wide_round_fn

def bp (g k : Int) : PartC := ⟨g, k, none, 0, 0, 0, 0, 0, 0, 0, false, false⟩
def k19F (b : Nat) : FV := ⟨4, some ⟨b, 0, none⟩, 2, 2, [(bp 1 2, []), (bp 2 2, [])], 3, 16⟩
theorem k19_at (w : World) : FoundsAt ((w.alloc (.cells #[.int .i64 1, .int .i64 2, .slice none 0 0, .int .i64 0, .int .i64 0, .int .i64 0, .int .i64 0, .int .i64 0, .bool false, .bool false, .int .i64 2, .int .i64 2, .slice none 0 0, .int .i64 0, .int .i64 0, .int .i64 0, .int .i64 0, .int .i64 0, .bool false, .bool false] 41)).alloc (.cells #[.int .i64 4, .slice (some ⟨w.heap.size, 0, none⟩) 2 2, .int .i64 3, .int .i64 16] 36)) (some ⟨w.heap.size + 1, 0, none⟩) 1 [k19F w.heap.size] := by
  have hr := rowV_new (w.alloc (.cells #[.int .i64 1, .int .i64 2, .slice none 0 0, .int .i64 0, .int .i64 0, .int .i64 0, .int .i64 0, .int .i64 0, .bool false, .bool false, .int .i64 2, .int .i64 2, .slice none 0 0, .int .i64 0, .int .i64 0, .int .i64 0, .int .i64 0, .int .i64 0, .bool false, .bool false] 41)) 36 #[.int .i64 4, .slice (some ⟨w.heap.size, 0, none⟩) 2 2, .int .i64 3, .int .i64 16] 1 4 rfl (by decide)
  rw [show (w.alloc (.cells #[.int .i64 1, .int .i64 2, .slice none 0 0, .int .i64 0, .int .i64 0, .int .i64 0, .int .i64 0, .int .i64 0, .bool false, .bool false, .int .i64 2, .int .i64 2, .slice none 0 0, .int .i64 0, .int .i64 0, .int .i64 0, .int .i64 0, .int .i64 0, .bool false, .bool false] 41)).heap.size = w.heap.size + 1 by simp] at hr
  refine ⟨rfl, by decide, hr, fun x hx => ?_⟩
  rw [List.mem_singleton.1 hx]
  refine ⟨HasP.below ⟨rfl, by show 2 < 1000000; decide, rowV_new w 41 _ 2 10 rfl (by decide), fun y hy => ?_⟩ (bel_alloc (Below.refl _ _) _), fun y hy => ?_⟩
  · rcases List.mem_cons.1 hy with rfl | hy
    · exact hasE_nil rfl rfl
    · rw [List.mem_singleton.1 hy]; exact hasE_nil rfl rfl
  · rcases List.mem_cons.1 hy with rfl | hy
    · exact ⟨by show (-9223372036854775808 : Int) ≤ 1; decide, by show (1 : Int) < _; decide⟩
    · rw [List.mem_singleton.1 hy]; exact ⟨by show (-9223372036854775808 : Int) ≤ 2; decide, by show (2 : Int) < _; decide⟩
def k19C : FC := ⟨4, [core (bp 1 2, []), core (bp 2 2, [])], 3, 16⟩
def k19R : List RC := newRC 2 2 [k19C]
theorem k19_few (b : Nat) : [k19F b].length ≤ 30 ∧ ∀ f ∈ [k19F b].map fcore, fewFC f := by
  refine ⟨by simp, fun f hf => ?_⟩
  rw [List.map_singleton, List.mem_singleton] at hf
  subst hf
  refine ⟨by show 2 ≤ 6; decide, fun p hp => ?_⟩
  have hp' : p ∈ [core (bp 1 2, []), core (bp 2 2, [])] := hp
  rcases List.mem_cons.1 hp' with rfl | hp'
  · show 0 ≤ 8; decide
  · rw [List.mem_singleton.1 hp']; show 0 ≤ 8; decide
theorem k19_left : leftC k19R = 2 := by kernel_rfl
theorem k19_left1 : leftC (stepRC k19R 1) = 1 := by kernel_rfl
theorem k19_len : lenC k19R 1 = 1 := by kernel_rfl
theorem k19_len1 : lenC (stepRC k19R 1) 1 = 0 := by kernel_rfl
theorem k19_end : (k19R.map endC).map (fun A => A.length) = [1, 1] := by kernel_rfl
theorem k19_flat : (k19R.map endC).map (fun A => (flA A).length) = [1, 1] := by kernel_rfl
theorem step_same {C : List RC} {i : Nat} (h : lenC C i = 0) : stepRC C i = C := by
  unfold stepRC
  split
  · rename_i f l A hC
    unfold lenC at h
    rw [hC] at h; exact absurd h (by simp)
  · rfl
theorem k19_led {g : Nat} {W : World} {C : List RC} (h : LedOut g C W) (hC : C.map Prod.snd = k19R.map endC) (hok : okRC 30 C) : C.length = 2 ∧ ∃ e0 e1 A B T0 T1, W.cell? ⟨g, 0, none⟩ = some (.pointer (some ⟨e0, 0, none⟩)) ∧ W.cell? ⟨g, 1, none⟩ = some (.pointer (some ⟨e1, 0, none⟩)) ∧ LT W e0 A T0 ∧ LT W e1 B T1 ∧ A.length = 1 ∧ B.length = 1 ∧ (flA B).length = 1 ∧ okA 1800 B := by
  have hl : C.length = 2 := by have := congrArg List.length hC; rwa [List.length_map, List.length_map, show k19R.length = 2 by kernel_rfl] at this
  have e1 := k19_end
  have e2 := k19_flat
  rw [← hC] at e1 e2
  match C, hl with
  | [(x0, A), (x1, B)], _ =>
    obtain ⟨es, -, h3⟩ := h
    obtain ⟨a1, T0, a2⟩ := h3 0 (by show 0 < 2; decide)
    obtain ⟨b1, T1, b2⟩ := h3 1 (by show 1 < 2; decide)
    simp only [List.map_cons, List.map_nil, List.cons.injEq, and_true] at e1 e2
    exact ⟨rfl, _, _, A, B, T0, T1, a1, b1, a2, b2, e1.1, e1.2, e2.2, (hok.out (by decide) (x1, B) (by simp)).1⟩
theorem rowI8_below {k : IntKind} {w W : World} {a : Option Addr} {len : Nat} {ys : List Int} (h : RowI k w a len ys) (hB : Below w.heap.size w W) : RowI k W a len ys := ⟨h.1, h.2.1, h.2.2.1, fun h0 => by
  obtain ⟨b, off, e, hb, hx⟩ := h.2.2.2 h0
  exact ⟨b, off, e, Nat.lt_of_lt_of_le hb hB.size, fun i hi => (hB.cell (p := ⟨b, off + i, none⟩) hb).trans (hx i hi)⟩⟩
theorem rowI8_nil (w : World) : RowI .u8 w none 0 [] := ⟨rfl, by decide, fun y hy => (by cases hy), fun h => absurd h (by decide)⟩
theorem cellX_lt {W : World} {p : Addr} {v : Value} (h : W.cell? p = some v) : p.block < W.heap.size := by
  obtain ⟨o, ho, _⟩ := isCells_of_cell h; exact heap_lt ho
set_option maxRecDepth 100000 in
set_option maxHeartbeats 8000000 in
theorem known19_any (w : World) : Gives Try.prog 17 #[] w (.bool true) := by
  have HF := Lib.hid (k19_at w)
  have hBl := bel_alloc (bel_alloc (Below.refl w.heap.size w) (.cells #[.int .i64 1, .int .i64 2, .slice none 0 0, .int .i64 0, .int .i64 0, .int .i64 0, .int .i64 0, .int .i64 0, .bool false, .bool false, .int .i64 2, .int .i64 2, .slice none 0 0, .int .i64 0, .int .i64 0, .int .i64 0, .int .i64 0, .int .i64 0, .bool false, .bool false] 41)) (.cells #[.int .i64 4, .slice (some ⟨w.heap.size, 0, none⟩) 2 2, .int .i64 3, .int .i64 16] 36)
  have HB0 := Lib.hid hBl
  have GN := Lib.hid (fun W (h : FoundsAt W (some ⟨w.heap.size + 1, 0, none⟩) 1 [k19F w.heap.size]) => (show Calls Try.prog 19 #[.slice (some ⟨w.heap.size + 1, 0, none⟩) 1 1, .int .i64 2] W (fun e w' => ∃ r, e = .returned (.pointer (some ⟨r, 0, none⟩)) ∧ RpS W k19R r w') from by
    have := RpS.new 2 (some ⟨w.heap.size + 1, 0, none⟩) 1 1 _ W h (k19_few _)
    rwa [show newRC (heldI 2).toNat 2 ([k19F w.heap.size].map fcore) = k19R by kernel_rfl] at this))
  have GL1 := Lib.hid (fun (u W : World) (r : Nat) (h : RpS u k19R r W) => (show Calls Try.prog 22 #[.pointer (some ⟨r, 0, none⟩)] W (fun e w' => e = .returned (.int .i64 2) ∧ RpS u k19R r w') from by
    have := h.left'; rwa [k19_left] at this))
  have GL2 := Lib.hid (fun (u W : World) (r : Nat) (h : RpS u (stepRC k19R 1) r W) => (show Calls Try.prog 22 #[.pointer (some ⟨r, 0, none⟩)] W (fun e w' => e = .returned (.int .i64 1) ∧ RpS u (stepRC k19R 1) r w') from by
    have := h.left'; rwa [k19_left1] at this))
  have GS1 := Lib.hid (fun (u W : World) (r : Nat) (h : RpS u k19R r W) => (show Calls Try.prog 24 #[.pointer (some ⟨r, 0, none⟩), .int .i64 1] W (fun e w' => e = .returned (.bool true) ∧ RpS u (stepRC k19R 1) r w') from by
    have := h.step 1
    rwa [show decide ((0 : Int) ≤ 1 ∧ (1 : Int) < (k19R.length : Int) ∧ 0 < lenC k19R (Int.toNat 1)) = true by kernel_rfl, if_pos (by decide)] at this))
  have GS2 := Lib.hid (fun (u W : World) (r : Nat) (h : RpS u (stepRC k19R 1) r W) => (show Calls Try.prog 24 #[.pointer (some ⟨r, 0, none⟩), .int .i64 1] W (fun e w' => e = .returned (.bool false) ∧ RpS u (stepRC k19R 1) r w') from by
    have := h.step 1
    rwa [show decide ((0 : Int) ≤ 1 ∧ (1 : Int) < ((stepRC k19R 1).length : Int) ∧ 0 < lenC (stepRC k19R 1) (Int.toNat 1)) = false by kernel_rfl, if_pos (by decide), show Int.toNat 1 = 1 from rfl, step_same k19_len1] at this))
  have GS3 := Lib.hid (fun (u W : World) (r : Nat) (h : RpS u (stepRC k19R 1) r W) => (show Calls Try.prog 24 #[.pointer (some ⟨r, 0, none⟩), .int .i64 2] W (fun e w' => e = .returned (.bool false) ∧ RpS u (stepRC k19R 1) r w') from by
    have := h.step 2
    rwa [show decide ((0 : Int) ≤ 2 ∧ (2 : Int) < ((stepRC k19R 1).length : Int) ∧ 0 < lenC (stepRC k19R 1) (Int.toNat 2)) = false by kernel_rfl, if_pos (by decide), show Int.toNat 2 = 2 from rfl, step_same (show lenC (stepRC k19R 1) 2 = 0 by kernel_rfl)] at this))
  have GR := Lib.hid (fun (u W : World) (r : Nat) (h : RpS u (stepRC k19R 1) r W) => (show Calls Try.prog 20 #[.pointer (some ⟨r, 0, none⟩), .slice none 0 0] W (fun e w' => (∃ x, e = .returned x) ∧ ∃ C, C.map Prod.snd = k19R.map endC ∧ RpS u C r w' ∧ leftC C = 0) from (h.run none 0 0 [] (rowI8_nil _)).mono fun e w' ⟨h1, xs, h2, h3⟩ => ⟨h1, _, by rw [end_of_left h3, run_endC, step_endC], h2, h3⟩))
  have GL0 := Lib.hid (fun (u W : World) (r : Nat) (C : List RC) (h0 : leftC C = 0) (h : RpS u C r W) => (show Calls Try.prog 22 #[.pointer (some ⟨r, 0, none⟩)] W (fun e w' => e = .returned (.int .i64 0) ∧ Below W.heap.size W w') from by
    obtain ⟨w2, B, R, v, T, Rs, h1, h2, h3, h4, h5, h6⟩ := h
    have hl := rs_len h2
    subst h2
    have := left_any h1 (by omega) (h6.left (by decide) h5.2)
    rwa [h0] at this))
  clear hBl
  unfold Gives
  go_enter Try.func17, Try.ntmps17
  go_wp2_with (first
    | (go_at_call 19; ((with_reducible refine (GN.out _ HF.out).mono ?_); rintro e w1 ⟨r, rfl, h1⟩; have HS1 := Lib.hid h1; clear h1))
    | (go_at_call 22; ((with_reducible refine (GL0.out _ _ _ _ HZ8.out HS9.out).mono ?_); rintro e w10 ⟨rfl, hB10⟩; have hb10 := bel2 HB9.out hB10; have hl10 := HLO.out.below hB10; obtain ⟨h2l, e0, e1, A, B, T0, T1, y0, y1, hA, hB, q1, q2, q3, q4⟩ := k19_led hl10 HC8.out HOK8.out; have HLA := Lib.hid hA; have HLB := Lib.hid hB; have HQ1 := Lib.hid q1; have HQ2 := Lib.hid q2; have HQ3 := Lib.hid q3; have HQ4 := Lib.hid q4; have HBT := Lib.hid hb10; clear hl10 hA hB q1 q2 q3 q4 hb10 hB10))
    | (go_at_call 22; ((with_reducible refine (GL2.out _ _ _ HS5.out).mono ?_); rintro e w6 ⟨rfl, h6⟩; have HS6 := Lib.hid h6; clear h6))
    | (go_at_call 22; ((with_reducible refine (GL1.out _ _ _ HS1.out).mono ?_); rintro e w2 ⟨rfl, h2⟩; have HS2 := Lib.hid h2; clear h2))
    | (go_at_call 24; ((with_reducible refine (GS3.out _ _ _ HS4.out).mono ?_); rintro e w5 ⟨rfl, h5⟩; have HS5 := Lib.hid h5; clear h5))
    | (go_at_call 24; ((with_reducible refine (GS2.out _ _ _ HS3.out).mono ?_); rintro e w4 ⟨rfl, h4⟩; have HS4 := Lib.hid h4; clear h4))
    | (go_at_call 24; ((with_reducible refine (GS1.out _ _ _ HS2.out).mono ?_); rintro e w3 ⟨rfl, h3⟩; have HS3 := Lib.hid h3; clear h3))
    | (go_at_call 20; ((with_reducible refine (GR.out _ _ _ HS6.out).mono ?_); rintro e w8 ⟨⟨x8, rfl⟩, C, hC8, h8, hz8⟩; have HS8 := Lib.hid h8; have HC8 := Lib.hid hC8; have HZ8 := Lib.hid hz8; have HOK8 := Lib.hid (show okRC 30 C from by obtain ⟨_, _, _, _, _, _, _, _, _, _, _, h9⟩ := h8; exact h9); have hCl : C.length = 2 := (by have := congrArg List.length hC8; rwa [List.length_map, List.length_map, show k19R.length = 2 by kernel_rfl] at this); have GLE := Lib.hid (show Calls Try.prog 21 #[.pointer (some ⟨r, 0, none⟩)] w8 (fun e w' => ∃ g cap, e = .returned (.slice (some ⟨g, 0, none⟩) 2 cap) ∧ LedOut g C w' ∧ Below w8.heap.size w8 w') from by have := h8.ledgers; rwa [hCl] at this); have HB8 := Lib.hid (bel2 HB0.out h8.bel); clear h8 hC8 hz8 hCl))
    | (go_at_call 21; ((with_reducible refine GLE.out.mono ?_); rintro e w9 ⟨g, cap, rfl, hlo, h9⟩; have HS9 := Lib.hid (HS8.out.below h9); have HLO := Lib.hid hlo; have HB9 := Lib.hid (bel2 HB8.out h9); clear hlo h9))
    | (go_at_call 30; ((with_reducible refine (tGroups HLA.out (by rw [HQ1.out]; decide)).mono ?_); rintro e w11 ⟨a11, c11, G11, rfl, -, -, hB11⟩; have y1' := (hB11.cell (p := ⟨g, 1, none⟩) (cellX_lt y1)).trans y1; rw [HQ1.out]; have HB11 := Lib.hid hB11; clear hB11))
    | (go_at_call 32; ((with_reducible refine (tSpots (HLB.out.below HB11.out) (by rw [HQ2.out]; decide) HQ4.out (by decide)).mono ?_); rintro e w12 ⟨a12, c12, rfl, -, hB12⟩; rw [HQ3.out]; have HB12 := Lib.hid hB12; clear hB12)))
  go_ret
  exact ⟨rfl, bel2 (bel2 HBT.out HB11.out) HB12.out⟩

end Go.Proofs.Ytdncdlbhgaehmaa
