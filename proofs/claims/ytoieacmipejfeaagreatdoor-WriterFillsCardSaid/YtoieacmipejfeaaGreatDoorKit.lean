/- Words and laws of this place's own over the library: a protocol between an iterator and the loop that ranges over it, and the law of such a loop; no program is named here. -/
import Derived.RangeFuncNested
import Derived.RangeFuncBound
import Derived.RangeFuncCalls
import Derived.RangeFuncLeaves
import Derived.Shelf.Abstract
import Derived.Shelf.RegionOpen
import Derived.WalkKit
import Derived.WalkLawsBesides
import Derived.WalkSpells
import Derived.OwnWalkIn
import Derived.TacticsInMore
import Derived.LoopNIn
import Derived.LoopIn
import Derived.Lib.Hide
import Derived.Maps.AppendAt
import Derived.Lib.BufferRead
import Derived.Laws.BitsAllLaws
namespace Go.Proofs.YtoieacmipejfeaaGreatDoor
set_option linter.unusedVariables false
open Go.RowKit Go.Shelf

/-! ### What a step may turn -/

/-- All blocks but those of T, and but the ones from B on that hold no cells, are as they were. -/
structure Moves (B : Nat) (T : Nat → Prop) (w w' : World) : Prop where
  os : w'.os = w.os
  tape : w'.tape = w.tape
  output : w'.output = w.output
  size : w.heap.size ≤ w'.heap.size
  block : ∀ k o, w.heap[k]? = some o → ¬ T k → (k < B ∨ o.isCells = true) → w'.heap[k]? = some o

theorem Moves.refl (B : Nat) (T : Nat → Prop) (w : World) : Moves B T w w := ⟨rfl, rfl, rfl, Nat.le_refl _, fun _ _ h _ _ => h⟩
theorem Moves.up {B B1 : Nat} {T : Nat → Prop} {w w' : World} (h : Moves B1 T w w') (hB : B ≤ B1) : Moves B T w w' := ⟨h.os, h.tape, h.output, h.size, fun k o ho hT hc => h.block k o ho hT (hc.imp (fun x => by omega) id)⟩
theorem Moves.trans {B : Nat} {T : Nat → Prop} {a b c : World} (h : Moves B T a b) (k : Moves B T b c) : Moves B T a c :=
  ⟨k.os.trans h.os, k.tape.trans h.tape, k.output.trans h.output, Nat.le_trans h.size k.size, fun i o ho hT hc => k.block i o (h.block i o ho hT hc) hT hc⟩
theorem Moves.putObj {B : Nat} {T : Nat → Prop} (W : World) {l : Nat} {o : Obj} (o' : Obj) (hl : B ≤ l) (h : W.heap[l]? = some o) (hc : o.isCells = false) : Moves B T W (W.putObj l o') :=
  have g := grownBy_putObj' W l o'
  ⟨g.os, g.tape, g.output, g.size, fun k _ hk _ hx => by
    refine (g.block k (Array.getElem?_eq_some_iff.1 hk).1 (fun e => ?_)).trans hk
    cases e
    rw [h] at hk; cases hk
    rcases hx with hx | hx
    · omega
    · rw [hc] at hx; cases hx⟩
theorem Moves.below {B : Nat} {T : Nat → Prop} {W W' : World} (h : Below W.heap.size W W') : Moves B T W W' :=
  ⟨h.os, h.tape, h.output, h.size, fun k o ho _ _ => (h.block k (Array.getElem?_eq_some_iff.1 ho).1).trans ho⟩
theorem Moves.alloc {B : Nat} {T : Nat → Prop} (W : World) (o : Obj) : Moves B T W (W.alloc o) := .below ((Below.refl _ W).alloc (Nat.le_refl _) o)

/-- p abides such steps. -/
def Stab (B : Nat) (T : Nat → Prop) (p : World → Prop) : Prop := ∀ W W', p W → Moves B T W W' → p W'

theorem Stab.and {B : Nat} {T : Nat → Prop} {p q : World → Prop} (h : Stab B T p) (k : Stab B T q) : Stab B T (fun W => p W ∧ q W) := fun W W' hp hm => ⟨h W W' hp.1 hm, k W W' hp.2 hm⟩
theorem Stab.or {B : Nat} {T : Nat → Prop} {p q : World → Prop} (h : Stab B T p) (k : Stab B T q) : Stab B T (fun W => p W ∨ q W) := fun W W' hp hm => hp.elim (fun x => .inl (h W W' x hm)) (fun x => .inr (k W W' x hm))
theorem Stab.ex {B : Nat} {T : Nat → Prop} {β : Sort _} {p : β → World → Prop} (h : ∀ b, Stab B T (p b)) : Stab B T (fun W => ∃ b, p b W) := fun W W' ⟨b, hb⟩ hm => ⟨b, h b W W' hb hm⟩
theorem Stab.all {B : Nat} {T : Nat → Prop} {β : Sort _} {p : β → World → Prop} (h : ∀ b, Stab B T (p b)) : Stab B T (fun W => ∀ b, p b W) := fun W W' hb hm b => h b W W' (hb b) hm
theorem Stab.imp {B : Nat} {T : Nat → Prop} {q : Prop} {p : World → Prop} (h : q → Stab B T p) : Stab B T (fun W => q → p W) := fun W W' hb hm hq => h hq W W' (hb hq) hm
theorem Stab.pure {B : Nat} {T : Nat → Prop} (q : Prop) : Stab B T (fun _ => q) := fun _ _ h _ => h
theorem Stab.block {B : Nat} {T : Nat → Prop} {b : Nat} {o : Obj} (hT : ¬ T b) (hb : b < B ∨ o.isCells = true) : Stab B T (fun W => W.heap[b]? = some o) := fun _ _ h hm => hm.block b o h hT hb
theorem Stab.boxed {B : Nat} {T : Nat → Prop} {b : Nat} {t : TypeId} {v : Value} (hT : ¬ T b) : Stab B T (fun W => Boxed W b t v) := Stab.block hT (.inr rfl)
theorem Stab.below {B : Nat} {T : Nat → Prop} {n : Nat} {w : World} (hw : n ≤ w.heap.size) (hn : n ≤ B) (hT : ∀ k, T k → n ≤ k) : Stab B T (fun W => Below n w W) := fun W W' h hm =>
  h.trans ⟨hm.os, hm.tape, hm.output, hm.size, fun k hk => by
    have hlt : k < W.heap.size := by have := h.size; omega
    rw [hm.block k W.heap[k] (Array.getElem?_eq_some_iff.2 ⟨hlt, rfl⟩) (fun ht => by have := hT k ht; omega) (.inl (by omega))]
    exact (Array.getElem?_eq_some_iff.2 ⟨hlt, rfl⟩).symm⟩
theorem Stab.ownsRow {B : Nat} {T : Nat → Prop} {base : Nat} {e : TypeId} {size : Nat} {v : Value} {k : Nat} {xs : List Value} (hT : ∀ j, T j → j < base) : Stab B T (fun W => W.ownsRow base e size v k xs) := fun W W' h hm => by
  refine ⟨h.1, ?_⟩
  rcases h.2 with h2 | ⟨g, cap, cur, hv, hg, hh, r⟩
  · exact .inl h2
  · exact .inr ⟨g, cap, cur, hv, hg, hm.block g _ hh (fun ht => by have := hT g ht; omega) (.inr rfl), r⟩
theorem Stab.size {B : Nat} {T : Nat → Prop} {n : Nat} : Stab B T (fun W => n ≤ W.heap.size) := fun W W' h hm => Nat.le_trans h hm.size
theorem isCells_of_cell {W : World} {a : Addr} {v : Value} (h : W.cell? a = some v) : ∃ o : Obj, W.heap[a.block]? = some o ∧ o.isCells = true := by
  unfold World.cell? at h
  cases ho : W.heap[a.block]? with
  | none => simp [ho] at h
  | some o => exact ⟨o, rfl, by cases o <;> simp_all [Obj.isCells]⟩
theorem Stab.cell {B : Nat} {T : Nat → Prop} {a : Addr} {v : Value} (hT : ¬ T a.block) : Stab B T (fun W => W.cell? a = some v) := fun W W' h hm => by
  obtain ⟨o, ho, hc⟩ := isCells_of_cell h
  exact (World.cell?_of_block (w := W) ((hm.block _ o ho hT (.inr hc)).trans ho.symm)).trans h

/-- WHAT A ROUND KEEPS: the blocks of S (what the iterator reads), and whatever lies from B on and holds no cells (the loops' own records). -/
structure Rd (B : Nat) (S : Nat → Prop) (w w' : World) : Prop where
  os : w'.os = w.os
  tape : w'.tape = w.tape
  output : w'.output = w.output
  size : w.heap.size ≤ w'.heap.size
  block : ∀ k o, w.heap[k]? = some o → (S k ∨ (B ≤ k ∧ o.isCells = false)) → w'.heap[k]? = some o

theorem Rd.refl (B : Nat) (S : Nat → Prop) (w : World) : Rd B S w w := ⟨rfl, rfl, rfl, Nat.le_refl _, fun _ _ h _ => h⟩
theorem Rd.up {B B1 : Nat} {S : Nat → Prop} {w w' : World} (h : Rd B S w w') (hB : B ≤ B1) : Rd B1 S w w' := ⟨h.os, h.tape, h.output, h.size, fun k o ho hc => h.block k o ho (hc.imp id (fun x => ⟨by omega, x.2⟩))⟩
theorem Rd.trans {B : Nat} {S : Nat → Prop} {a b c : World} (h : Rd B S a b) (k : Rd B S b c) : Rd B S a c :=
  ⟨k.os.trans h.os, k.tape.trans h.tape, k.output.trans h.output, Nat.le_trans h.size k.size, fun i o ho hc => k.block i o (h.block i o ho hc) hc⟩
theorem Rd.below {B : Nat} {S : Nat → Prop} {W W' : World} (h : Below W.heap.size W W') : Rd B S W W' :=
  ⟨h.os, h.tape, h.output, h.size, fun k o ho _ => (h.block k (Array.getElem?_eq_some_iff.1 ho).1).trans ho⟩
theorem Rd.drew {B : Nat} {S : Nat → Prop} {a w : World} (h : Rd B S a w) : Rd B S a w.drew := ⟨h.os, h.tape, h.output, h.size, h.block⟩
theorem Rd.alloc {B : Nat} {S : Nat → Prop} {a w : World} (h : Rd B S a w) (o : Obj) : Rd B S a (w.alloc o) := h.trans (.below ((Below.refl _ w).alloc (Nat.le_refl _) o))
theorem Rd.grown {B : Nat} {S : Nat → Prop} {a w w' : World} {row : Option Nat} (h : Rd B S a w) (hg : w.grownBy w' row) (hr : ∀ k, row = some k → ¬ S k ∧ (k < B ∨ ∃ o, w.heap[k]? = some o ∧ o.isCells = true)) : Rd B S a w' :=
  h.trans ⟨hg.os, hg.tape, hg.output, hg.size, fun k _ hk hc => by
    refine (hg.block k (Array.getElem?_eq_some_iff.1 hk).1 (fun e => ?_)).trans hk
    obtain ⟨h1, h2⟩ := hr k e.symm
    rcases hc with hc | ⟨hB, hc⟩
    · exact h1 hc
    · rcases h2 with h2 | ⟨o', ho', hc'⟩
      · omega
      · rw [hk] at ho'; cases ho'; rw [hc] at hc'; cases hc'⟩
theorem Rd.setBox {B : Nat} {S : Nat → Prop} {a w : World} (h : Rd B S a w) {b : Nat} {t : TypeId} {v : Value} (hb : Boxed w b t v) (hS : ¬ S b) (u : Value) : Rd B S a (w.setCell ⟨b, 0, none⟩ u) :=
  h.grown (grownBy_setCell' w b u) (fun k e => by cases e; exact ⟨hS, .inr ⟨_, hb, rfl⟩⟩)
theorem Rd.get {B : Nat} {S : Nat → Prop} {w w' : World} (h : Rd B S w w') {k : Nat} {o : Obj} (hk : w.heap[k]? = some o) (hS : S k) : w'.heap[k]? = some o := h.block k o hk (.inl hS)
theorem Rd.cell {B : Nat} {S : Nat → Prop} {w w' : World} (h : Rd B S w w') {a : Addr} {v : Value} (hc : w.cell? a = some v) (hS : S a.block) : w'.cell? a = some v := by
  obtain ⟨o, ho, _⟩ := isCells_of_cell hc
  exact (World.cell?_of_block (w := w) ((h.block _ o ho (.inl hS)).trans ho.symm)).trans hc

/-! ### The protocol -/

/-- THE ITERATOR g WITH WHAT IT CAPTURED (lb), FROM THE WORLD w0 ON: it hands xs to yield, one behind the other, in any world in which the blocks of S are as in w0, if each round that goes on keeps them; of what lay it turns no block but those of T. -/
def Iter (P : Program) (g : Nat) (lb : Array Value) {α : Type} (encs : α → Array Value) (xs : List α) (S T : Nat → Prop) (w0 : World) : Prop :=
  ∀ (l : Nat) (J Jx : List α → World → Prop) (W : World), Rd w0.heap.size S w0 W → (∀ s, Stab W.heap.size T (J s)) → (∀ s, Stab W.heap.size T (Jx s)) →
    (∀ pre x suf W1, xs = pre ++ x :: suf → J pre W1 → YieldAt Fence.wide 9 P l (encs x) W1 fun e W' =>
      (e = .returned (.bool true) ∧ J (pre ++ [x]) W' ∧ Rd W.heap.size S W1 W') ∨ (e = .returned (.bool false) ∧ Jx (pre ++ [x]) W')) →
    J [] W →
    CallsIn Fence.wide 9 P g (#[.func (.yield l) #[] #[]] ++ lb) W fun e W' => (∃ v, e = .returned v) ∧ (J xs W' ∨ (∃ pre x suf, xs = pre ++ x :: suf ∧ Jx (pre ++ [x]) W'))

/-- How a round's body may be left. -/
def rdEnd {α : Type} (B : Nat) (S : Nat → Prop) (I : List α → World → Prop) (Ix : Code → List α → World → Prop) (xs : List α) (W : World) : Exit → Act → World → Prop
  | .normal, _, W' => Rd B S W W' ∧ I xs W'
  | .ret, _, W' => Rd B (fun _ => False) W W' ∧ Ix .ret xs W'
  | .exit id, _, W' => Rd B (fun _ => False) W W' ∧ Ix (.exit id) xs W'
  | .goto t, _, W' => Rd B (fun _ => False) W W' ∧ Ix (.goto t) xs W'
  | .panic _, _, _ => False
  | .outgrown, _, _ => False

/-- What stands behind the assignment to the loop's variables: something that abides the book-keeping, from which the body goes. -/
def rdThen {α : Type} (l : Nat) (P : Program) (B : Nat) (S : Nat → Prop) (I : List α → World → Prop) (Ix : Code → List α → World → Prop) (xs : List α) (body : Code) (W : World) (a : Act) (W1 : World) : Prop :=
  Rd B S W W1 ∧ ∃ p : World → Prop, Stab B (fun _ => False) p ∧ p W1 ∧ ∀ W2, p W2 → (∃ r, W2.heap[l]? = some (.loop r)) → body.wpIn (Fence.wide.inRound l) 9 P (rdEnd B S I Ix xs W2) a W2

theorem rdThen_mk {α : Type} {l : Nat} {P : Program} {B : Nat} {S : Nat → Prop} {I : List α → World → Prop} {Ix : Code → List α → World → Prop} {xs : List α} {body : Code} {W : World} {a : Act} {W1 : World}
    (p : World → Prop) (hp : Stab B (fun _ => False) p) (h1 : p W1) (h : Rd B S W W1) (hb : ∀ W2, p W2 → (∃ r, W2.heap[l]? = some (.loop r)) → body.wpIn (Fence.wide.inRound l) 9 P (rdEnd B S I Ix xs W2) a W2) :
    rdThen l P B S I Ix xs body W a W1 := ⟨h, p, hp, h1, hb⟩

theorem Stab.noT {B : Nat} {T : Nat → Prop} {p : World → Prop} (h : Stab B T p) : Stab B (fun _ => False) p := fun W W' hp hm =>
  h W W' hp ⟨hm.os, hm.tape, hm.output, hm.size, fun k o ho _ hc => hm.block k o ho id hc⟩

theorem callsIn_wide_n {P : Program} {f : FuncId} {args : Array Value} {w : World} {R : Ending → World → Prop} {n m : Nat} (h : CallsIn Fence.wide n P f args w R) : CallsIn Fence.wide m P f args w R :=
  callsIn_wide.2 (callsIn_wide.1 h)

theorem roundIn_wide_n {P : Program} {l : Nat} {f : FuncId} {tmps : Array Value} {assign body : Code} {w : World} {R : Ending → World → Prop} {n m : Nat} (h : RoundIn Fence.wide n P l f tmps assign body w R) : RoundIn Fence.wide m P l f tmps assign body w R :=
  ⟨h.1, fun c cs _ => h.2 c cs (room_wide _)⟩
/-- A call that only makes memory: it hands back v; nothing that lay has turned. -/
abbrev Gives (P : Program) (f : FuncId) (args : Array Value) (w : World) (v : Value) : Prop :=
  Calls P f args w fun e w' => e = .returned v ∧ Below w.heap.size w w'

theorem wide_fn : Fence.wide.fn = fun _ => True := rfl
theorem wide_round_fn (l : Nat) : (Fence.wide.inRound l).fn = fun _ => True := rfl
/-- What lies besides the record and must not be lost: the block for the rounds' deferred calls. -/
def heldD (D : Option Nat) (W : World) : Prop := ∀ d, D = some d → W.heap[d]? = some (.deferred (some []))

/-- ONE ROUND of a loop whose record lies at l, out of the walks of its assignment and its body. -/
theorem range_round {α : Type} {P : Program} {ps : Array Tmp} {assign body : Code} {tmps : Array Value} {fn : FuncId} {l dd B B1 : Nat} {D : Option Nat} (rec : LoopState → Option Code → Loop)
    (hrec : rec = fun st pe => { state := st, pending := pe, fn, tmps, params := ps, assign, body, defers := dd })
    {encs : α → Array Value} {S T : Nat → Prop} (hps : ∀ x, (encs x).size = ps.size) (hBl : B ≤ l) (hlB : l < B1) (hSl : ∀ k, S k → k < B) (hD : ∀ d, D = some d → B ≤ d ∧ d ≠ l)
    (I : List α → World → Prop) (Ix : Code → List α → World → Prop) (hI : ∀ s, Stab B T (I s)) (hIx : ∀ c s, Stab B T (Ix c s))
    (pre : List α) (x : α) (W : World)
    (hround : I pre W → (∃ r, W.heap[l]? = some (.loop r)) → assign.wpIn (Fence.wide.inRound l) 9 P (Exit.then (rdThen l P B S I Ix (pre ++ [x]) body W) (fun _ _ _ => False))
      { tmps := (ps.zip (encs x)).foldl (fun t (p, v) => t.setIfInBounds p v) tmps, defers := [] } W)
    (hi : I pre W) (hl : W.heap[l]? = some (.loop (rec .ready none))) (hXW : heldD D W) :
    YieldAt Fence.wide 9 P l (encs x) W fun e W' =>
      (e = .returned (.bool true) ∧ (I (pre ++ [x]) W' ∧ W'.heap[l]? = some (.loop (rec .ready none)) ∧ heldD D W') ∧ Rd B1 S W W') ∨
      (e = .returned (.bool false) ∧ ∃ c, Ix c (pre ++ [x]) W' ∧ W'.heap[l]? = some (.loop (rec .done (some c))) ∧ heldD D W') := by
  have hy := run_yield (P := P) (args := encs x) hl (by rw [hrec]; exact hps x)
  rw [hrec] at hy
  refine ⟨fn, _, assign, body, hy, roundIn_of_wpIn trivial (wpIn_mono (hround hi ⟨_, hl⟩) ?_)⟩
  clear hy
  rintro e a1 W1 hp
  cases e <;> try exact hp.elim
  obtain ⟨hk1, p, hpS, hp1, hb⟩ := hp
  have hl1 : W1.heap[l]? = some (.loop (rec .ready none)) := hk1.block _ _ hl (.inr ⟨hBl, rfl⟩)
  have hX1 : heldD D W1 := fun d hd => hk1.block _ _ (hXW d hd) (.inr ⟨(hD d hd).1, rfl⟩)
  have hlt1 : l < W1.heap.size := (Array.getElem?_eq_some_iff.1 hl1).1
  refine ⟨_, run_beginRound hl1 (by rw [hrec]), ?_⟩
  obtain ⟨W2, hW2⟩ : ∃ W2, W1.putObj l (.loop { rec .ready none with state := .busy }) = W2 := ⟨_, rfl⟩
  have hl2 : W2.heap[l]? = some (.loop { rec .ready none with state := .busy }) := by rw [← hW2]; exact World.putObj_heap_same hlt1
  have hX2 : heldD D W2 := fun d hd => by rw [← hW2]; exact (World.putObj_heap_other (hD d hd).2).trans (hX1 d hd)
  have hp2 : p W2 := by rw [← hW2]; exact hpS _ _ hp1 (Moves.putObj _ _ hBl hl1 rfl)
  have ho2 : ∀ k, k ≠ l → W2.heap[k]? = W1.heap[k]? := fun k hk => by rw [← hW2]; exact World.putObj_heap_other hk
  rw [hW2]
  have hg2 := hW2 ▸ grownBy_putObj' W1 l (.loop { rec .ready none with state := .busy })
  refine wpIn_mono (hb W2 hp2 ⟨_, hl2⟩) ?_
  clear hW2 hb
  have fin : ∀ (jump : Option Code) (W3 : World), Rd B (fun _ => False) W2 W3 →
      (Instr.endRound l jump).run P W3 = .ok (.bool jump.isNone) (W3.putObj l (.loop (rec (if jump.isNone then .ready else .done) jump))) ∧
      W3.heap[l]? = some (.loop { rec .ready none with state := .busy }) ∧
      (W3.putObj l (.loop (rec (if jump.isNone then .ready else .done) jump))).heap[l]? = some (.loop (rec (if jump.isNone then .ready else .done) jump)) ∧
      heldD D (W3.putObj l (.loop (rec (if jump.isNone then .ready else .done) jump))) := fun jump W3 hk3 => by
    have hl3 := hk3.block _ _ hl2 (.inr ⟨hBl, rfl⟩)
    have := run_endRound (P := P) jump hl3
    rw [hrec] at this ⊢
    exact ⟨this, by rw [hrec] at hl3; exact hl3, World.putObj_heap_same (Array.getElem?_eq_some_iff.1 hl3).1,
      fun d hd => (World.putObj_heap_other (hD d hd).2).trans (hk3.block _ _ (hX2 d hd) (.inr ⟨(hD d hd).1, rfl⟩))⟩
  have noS : ∀ {A C : World}, Rd B S A C → Rd B (fun _ => False) A C := fun h => ⟨h.os, h.tape, h.output, h.size, fun k o ho hc => h.block k o ho (hc.imp False.elim id)⟩
  rintro e a3 W3 hp
  cases e with
  | normal =>
    obtain ⟨hk3, hi3⟩ := hp
    obtain ⟨hr, hl3, hl4, hk4⟩ := fin none W3 (noS hk3)
    refine ⟨_, _, hr, .inl ⟨rfl, ⟨hI _ _ _ hi3 (Moves.putObj _ _ hBl hl3 rfl), hl4, hk4⟩, ?_⟩⟩
    have g := grownBy_putObj' W3 l (.loop (rec (if (Option.none : Option Code).isNone then .ready else .done) Option.none))
    refine ⟨g.os.trans (hk3.os.trans (hg2.os.trans hk1.os)), g.tape.trans (hk3.tape.trans (hg2.tape.trans hk1.tape)), g.output.trans (hk3.output.trans (hg2.output.trans hk1.output)),
      Nat.le_trans (Nat.le_trans (Nat.le_trans hk1.size hg2.size) hk3.size) g.size, fun k o ho hc => ?_⟩
    have hkl : k ≠ l := by
      rcases hc with hc | hc
      · have := hSl k hc; omega
      · omega
    have hc' : S k ∨ (B ≤ k ∧ o.isCells = false) := hc.imp id (fun c => ⟨by omega, c.2⟩)
    exact (World.putObj_heap_other hkl).trans (hk3.block k o ((ho2 k hkl).trans (hk1.block k o ho hc')) hc')
  | ret =>
    obtain ⟨hk3, hi3⟩ := hp
    obtain ⟨hr, hl3, hl4, hk4⟩ := fin (some .ret) W3 hk3
    exact ⟨_, _, hr, .inr ⟨rfl, .ret, hIx _ _ _ _ hi3 (Moves.putObj _ _ hBl hl3 rfl), hl4, hk4⟩⟩
  | exit id =>
    obtain ⟨hk3, hi3⟩ := hp
    obtain ⟨hr, hl3, hl4, hk4⟩ := fin (some (.exit id)) W3 hk3
    exact ⟨_, _, hr, .inr ⟨rfl, .exit id, hIx _ _ _ _ hi3 (Moves.putObj _ _ hBl hl3 rfl), hl4, hk4⟩⟩
  | goto t =>
    obtain ⟨hk3, hi3⟩ := hp
    obtain ⟨hr, hl3, hl4, hk4⟩ := fin (some (.goto t)) W3 hk3
    exact ⟨_, _, hr, .inr ⟨rfl, .goto t, hIx _ _ _ _ hi3 (Moves.putObj _ _ hBl hl3 rfl), hl4, hk4⟩⟩
  | panic ch => exact hp.elim
  | outgrown => exact hp.elim

/-- A LOOP OVER AN ITERATOR, outside every other one. -/
theorem range_outer {α : Type} {P : Program} {g : Operand} {ps : Array Tmp} {assign body : Code} {Q : Exit → Act → World → Prop} {a : Act} {w : World}
    {gf : Nat} {lb : Array Value} (hg : a.eval g = .func (.func gf) #[] lb) (eg : Enters P gf)
    {encs : α → Array Value} {xs : List α} {S T : Nat → Prop} (hseq : Iter P gf lb encs xs S T w) (hps : ∀ x, (encs x).size = ps.size) (hS : ∀ k, S k → k < w.heap.size) (hT : ∀ k, T k → k < w.heap.size)
    (I : List α → World → Prop) (Ix : Code → List α → World → Prop) (hI : ∀ s, Stab w.heap.size T (I s)) (hIx : ∀ c s, Stab w.heap.size T (Ix c s)) (h0 : I [] w)
    (hround : ∀ l pre x suf W, xs = pre ++ x :: suf → w.heap.size < l → I pre W → (∃ r, W.heap[l]? = some (.loop r)) →
      assign.wpIn (Fence.wide.inRound l) 9 P (Exit.then (rdThen l P w.heap.size S I Ix (pre ++ [x]) body W) (fun _ _ _ => False))
      { tmps := (ps.zip (encs x)).foldl (fun t (p, v) => t.setIfInBounds p v) a.tmps, defers := [] } W)
    (hdone : ∀ W, I xs W → W.heap[w.heap.size]? = some (.deferred (some [])) → Q .normal { a with defers := { target := .collected w.heap.size, args := #[] } :: a.defers } W)
    (hstop : ∀ c pre x suf W, xs = pre ++ x :: suf → Ix c (pre ++ [x]) W → W.heap[w.heap.size]? = some (.deferred (some [])) → c.wpIn Fence.wide 9 P Q { a with defers := { target := .collected w.heap.size, args := #[] } :: a.defers } W) :
    (Code.rangeFunc g ps assign body).wpIn Fence.wide 9 P Q a w := by
  refine wpIn_rangeFunc ?_
  intro fn hfn
  obtain ⟨rec, hrec⟩ : ∃ rec : LoopState → Option Code → Loop, rec = fun st pe => { state := st, pending := pe, fn, tmps := a.tmps, params := ps, assign, body, defers := w.heap.size } := ⟨_, rfl⟩
  obtain ⟨W1, hW1⟩ : ∃ W1, (w.alloc (.deferred (some []))).alloc (.loop (rec .ready none)) = W1 := ⟨_, rfl⟩
  have hL1 : W1.heap[w.heap.size + 1]? = some (.loop (rec .ready none)) := by
    rw [← hW1]; have := World.alloc_heap_new (w.alloc (.deferred (some []))) (.loop (rec .ready none)); rwa [World.size_alloc] at this
  have hK1 : W1.heap[w.heap.size]? = some (.deferred (some [])) := by
    rw [← hW1]; exact (Below.heap_alloc _ _ _ (by simp)).trans (World.alloc_heap_new w _)
  have hsz : W1.heap.size = w.heap.size + 2 := by rw [← hW1]; simp
  have hb1 : Below w.heap.size w W1 := by
    rw [← hW1]; exact ((Below.refl _ w).alloc (Nat.le_refl _) _).alloc (by simp) _
  refine ⟨w.heap.size + 1, [{ target := .collected w.heap.size, args := #[] }], W1, { target := .fn (.func gf) lb, args := #[.func (.yield (w.heap.size + 1)) #[] #[]] }, W1, gf,
    #[.func (.yield (w.heap.size + 1)) #[] #[]] ++ lb, W1, ?_, ?_, ?_, ?_, fun _ => by omega, ?_⟩
  · rw [← hW1, hrec]; exact run_enterLoop_outer _ _ _ _ _
  · simp only [resolve, hg]
    simp [go_sem]
  · intro f' hf'; exact trivial
  · simp [invoke, go_sem, eg _ _]
  · have hJS : ∀ {r : Loop} {p : World → Prop}, Stab w.heap.size T p → Stab W1.heap.size T (fun W => p W ∧ W.heap[w.heap.size + 1]? = some (.loop r) ∧ heldD (some w.heap.size) W) := fun {r p} hp W W' h hm =>
      ⟨hp W W' h.1 (hm.up (by omega)), hm.block _ _ h.2.1 (fun ht => by have := hT _ ht; omega) (.inl (by omega)),
        fun d hd => by cases hd; exact hm.block _ _ (h.2.2 _ rfl) (fun ht => by have := hT _ ht; omega) (.inl (by omega))⟩
    refine callsIn_wide_n ((hseq (w.heap.size + 1)
      (fun pre W => I pre W ∧ W.heap[w.heap.size + 1]? = some (.loop (rec .ready none)) ∧ heldD (some w.heap.size) W)
      (fun pre W => ∃ c, Ix c pre W ∧ W.heap[w.heap.size + 1]? = some (.loop (rec .done (some c))) ∧ heldD (some w.heap.size) W)
      W1 (.below hb1) (fun s => hJS (hI s)) (fun s => Stab.ex fun c => hJS (hIx c s)) ?_ ⟨hI _ _ _ h0 (.below hb1), hL1, fun d hd => by cases hd; exact hK1⟩).mono ?_)
    · rintro pre x suf W hx ⟨hi, hl, hk⟩
      exact range_round rec hrec hps (by omega) (by omega) hS (fun d hd => by cases hd; omega) I Ix hI hIx pre x W (fun hi' hl' => hround _ pre x suf W hx (by omega) hi' hl') hi hl hk
    · rintro e W2 ⟨⟨v, rfl⟩, (⟨hi, hl, hk⟩ | ⟨pre, x, suf, hx, c, hi, hl, hk⟩)⟩
      · exact ⟨none, _, by have := run_endLoop (P := P) hl (by rw [hrec]; simp); rw [hrec] at this; exact this,
          hdone _ (hI _ _ _ hi (Moves.putObj _ _ (by omega) hl rfl)) ((World.putObj_heap_other (by omega)).trans (hk _ rfl))⟩
      · exact ⟨some c, _, by have := run_endLoop (P := P) hl (by rw [hrec]; simp); rw [hrec] at this; exact this,
          hstop c pre x suf _ hx (hIx c _ _ _ hi (Moves.putObj _ _ (by omega) hl rfl)) ((World.putObj_heap_other (by omega)).trans (hk _ rfl))⟩

/-- A LOOP OVER AN ITERATOR within a round of another one, whose record lies at l0. -/
theorem range_inner {α : Type} {P : Program} {g : Operand} {ps : Array Tmp} {assign body : Code} {Q : Exit → Act → World → Prop} {a : Act} {w : World} {l0 : Nat} (hr0 : ∃ r, w.heap[l0]? = some (.loop r))
    {gf : Nat} {lb : Array Value} (hg : a.eval g = .func (.func gf) #[] lb) (eg : Enters P gf)
    {encs : α → Array Value} {xs : List α} {S T : Nat → Prop} (hseq : Iter P gf lb encs xs S T w) (hps : ∀ x, (encs x).size = ps.size) (hS : ∀ k, S k → k < w.heap.size) (hT : ∀ k, T k → k < w.heap.size)
    (I : List α → World → Prop) (Ix : Code → List α → World → Prop) (hI : ∀ s, Stab w.heap.size T (I s)) (hIx : ∀ c s, Stab w.heap.size T (Ix c s)) (h0 : I [] w)
    (hround : ∀ l pre x suf W, xs = pre ++ x :: suf → w.heap.size ≤ l → I pre W → (∃ r, W.heap[l]? = some (.loop r)) →
      assign.wpIn (Fence.wide.inRound l) 9 P (Exit.then (rdThen l P w.heap.size S I Ix (pre ++ [x]) body W) (fun _ _ _ => False))
      { tmps := (ps.zip (encs x)).foldl (fun t (p, v) => t.setIfInBounds p v) a.tmps, defers := [] } W)
    (hdone : ∀ W, I xs W → Q .normal a W)
    (hstop : ∀ c pre x suf W, xs = pre ++ x :: suf → Ix c (pre ++ [x]) W → c.wpIn (Fence.wide.inRound l0) 9 P Q a W) :
    (Code.rangeFunc g ps assign body).wpIn (Fence.wide.inRound l0) 9 P Q a w := by
  obtain ⟨r0, hr0⟩ := hr0
  refine wpIn_rangeFunc ?_
  intro fn hfn
  obtain ⟨rec, hrec⟩ : ∃ rec : LoopState → Option Code → Loop, rec = fun st pe => { state := st, pending := pe, fn, tmps := a.tmps, params := ps, assign, body, defers := r0.defers } := ⟨_, rfl⟩
  obtain ⟨W1, hW1⟩ : ∃ W1, w.alloc (.loop (rec .ready none)) = W1 := ⟨_, rfl⟩
  have hL1 : W1.heap[w.heap.size]? = some (.loop (rec .ready none)) := by
    rw [← hW1]; exact World.alloc_heap_new w _
  have hsz : W1.heap.size = w.heap.size + 1 := by rw [← hW1]; simp
  have hb1 : Below w.heap.size w W1 := by
    rw [← hW1]; exact (Below.refl _ w).alloc (Nat.le_refl _) _
  refine ⟨w.heap.size, [], W1, { target := .fn (.func gf) lb, args := #[.func (.yield w.heap.size) #[] #[]] }, W1, gf,
    #[.func (.yield w.heap.size) #[] #[]] ++ lb, W1, ?_, ?_, ?_, ?_, fun _ => by omega, ?_⟩
  · rw [← hW1, hrec]; exact run_enterLoop_inner hr0 _ _ _ _ _
  · simp only [resolve, hg]
    simp [go_sem]
  · intro f' hf'; exact trivial
  · simp [invoke, go_sem, eg _ _]
  · have hJS : ∀ {r : Loop} {p : World → Prop}, Stab w.heap.size T p → Stab W1.heap.size T (fun W => p W ∧ W.heap[w.heap.size]? = some (.loop r) ∧ heldD none W) := fun {r p} hp W W' h hm =>
      ⟨hp W W' h.1 (hm.up (by omega)), hm.block _ _ h.2.1 (fun ht => by have := hT _ ht; omega) (.inl (by omega)), fun d hd => by cases hd⟩
    have hcall := (hseq w.heap.size
      (fun pre W => I pre W ∧ W.heap[w.heap.size]? = some (.loop (rec .ready none)) ∧ heldD none W)
      (fun pre W => ∃ c, Ix c pre W ∧ W.heap[w.heap.size]? = some (.loop (rec .done (some c))) ∧ heldD none W)
      W1 (.below hb1) (fun s => hJS (hI s)) (fun s => Stab.ex fun c => hJS (hIx c s))
      (by
        rintro pre x suf W hx ⟨hi, hl, hk⟩
        exact range_round rec hrec hps (by omega) (by omega) hS (fun d hd => by cases hd) I Ix hI hIx pre x W (fun hi' hl' => hround _ pre x suf W hx (by omega) hi' hl') hi hl hk)
      ⟨hI _ _ _ h0 (.below hb1), hL1, fun d hd => by cases hd⟩).mono (R' := rangePost (Fence.wide.inRound l0) 9 P w.heap.size Q { a with defers := [] ++ a.defers }) (by
        rintro e W2 ⟨⟨v, rfl⟩, (⟨hi, hl, hk⟩ | ⟨pre, x, suf, hx, c, hi, hl, hk⟩)⟩
        · exact ⟨none, _, by have := run_endLoop (P := P) hl (by rw [hrec]; simp); rw [hrec] at this; exact this,
            hdone _ (hI _ _ _ hi (Moves.putObj _ _ (by omega) hl rfl))⟩
        · exact ⟨some c, _, by have := run_endLoop (P := P) hl (by rw [hrec]; simp); rw [hrec] at this; exact this,
            hstop c pre x suf _ hx (hIx c _ _ _ hi (Moves.putObj _ _ (by omega) hl rfl))⟩)
    exact CallsIn.inRound l0 (callsIn_wide_n hcall)

/-! ### A function that holds such loops -/

/-- The loops' blocks for the rounds' deferred calls are shut when the function returns. -/
theorem leave_one {P : Program} {fn : Func} {tmps : Array Value} {R : Ending → World → Prop} {D : Nat} {W : World} {v : Value} (hD : W.heap[D]? = some (.deferred (some [])))
    (hv : (results fn tmps).run P (W.putObj D (.deferred none)) = .ok v (W.putObj D (.deferred none))) (hR : R (.returned v) (W.putObj D (.deferred none))) :
    LeavesInM Fence.wide 9 P fn tmps R [{ target := .collected D, args := #[] }] .returning W :=
  ⟨by simp, .inl ⟨_, _, rfl, run_takeDeferred hD, ⟨v, hv, hR⟩⟩⟩

theorem leave_two {P : Program} {fn : Func} {tmps : Array Value} {R : Ending → World → Prop} {D E : Nat} {W : World} {v : Value} (hD : W.heap[D]? = some (.deferred (some []))) (hE : W.heap[E]? = some (.deferred (some []))) (hne : E ≠ D)
    (hv : (results fn tmps).run P ((W.putObj D (.deferred none)).putObj E (.deferred none)) = .ok v ((W.putObj D (.deferred none)).putObj E (.deferred none))) (hR : R (.returned v) ((W.putObj D (.deferred none)).putObj E (.deferred none))) :
    LeavesInM Fence.wide 9 P fn tmps R [{ target := .collected D, args := #[] }, { target := .collected E, args := #[] }] .returning W :=
  ⟨by simp, .inl ⟨_, _, rfl, run_takeDeferred hD, leave_one ((World.putObj_heap_other hne).trans hE) hv hR⟩⟩

theorem below_putObj {n : Nat} {w W : World} {D : Nat} (h : Below n w W) (hn : n ≤ w.heap.size) (hD : n ≤ D) (o : Obj) : Below n w (W.putObj D o) :=
  h.grown (grownBy_putObj' W D o) (Nat.le_trans hn h.size) (fun k e => by cases e; exact hD)
theorem cell_putObj {W : World} {D : Nat} {o o' : Obj} {a : Addr} {v : Value} (h : W.cell? a = some v) (hD : W.heap[D]? = some o) (hc : o.isCells = false) : (W.putObj D o').cell? a = some v := by
  obtain ⟨o2, h2, hc2⟩ := isCells_of_cell h
  have hne : a.block ≠ D := fun e => by rw [e, hD] at h2; cases h2; rw [hc] at hc2; cases hc2
  exact (World.cell?_of_block (w := W) (World.putObj_heap_other hne)).trans h

/-! ### Makers of iterators; boxes behind calls -/

theorem boxed_below {n : Nat} {W W' : World} {b : Nat} {t : TypeId} {v : Value} (h : Boxed W b t v) (hb : Below n W W') (hn : b < n) : Boxed W' b t v := (hb.block b hn).trans h
theorem ownsRow_below {n : Nat} {W W' : World} {base : Nat} {e : TypeId} {size : Nat} {v : Value} {k : Nat} {xs : List Value} (h : W.ownsRow base e size v k xs) (hb : Below W.heap.size W W') : W'.ownsRow base e size v k xs := by
  refine ⟨h.1, ?_⟩
  rcases h.2 with h2 | ⟨g, cap, cur, hv, hg, hh, r⟩
  · exact .inl h2
  · exact .inr ⟨g, cap, cur, hv, hg, (hb.block g (Array.getElem?_eq_some_iff.1 hh).1).trans hh, r⟩

theorem ownsRow_base {W : World} {base base' : Nat} {e : TypeId} {size : Nat} {v : Value} {k : Nat} {xs : List Value} (h : W.ownsRow base e size v k xs) (hb : base' ≤ base) : W.ownsRow base' e size v k xs := by
  refine ⟨h.1, ?_⟩
  rcases h.2 with h2 | ⟨g, cap, cur, hv, hg, r⟩
  · exact .inl h2
  · exact .inr ⟨g, cap, cur, hv, by omega, r⟩

/-- 'out = append(out, ..)' on a boxed slice in a round: what the walk owes behind the append and the store. -/
theorem boxed_appended {W w1 : World} {n₀ base b B0 : Nat} {S : Nat → Prop} {t e : TypeId} {size : Nat} {v v' : Value} {k m : Nat} {xs ys : List Value} {tmp : Obj}
    (hv : Boxed W b t v) (hte : t ≠ e) (hrow : W.ownsRow base e size v k xs) (hn₀ : n₀ ≤ base) (hbs : base ≤ W.heap.size) (hB : n₀ ≤ b) (hSb : ¬ S b) (hSr : ∀ j, base ≤ j → ¬ S j)
    (hown' : w1.ownsRow base e size v' m ys) (hgrow : (W.alloc tmp).grownBy w1 v.ownBlock) :
    Boxed w1 b t v ∧ Boxed (w1.setCell ⟨b, 0, none⟩ v') b t v' ∧ (w1.setCell ⟨b, 0, none⟩ v').ownsRow base e size v' m ys ∧ Rd B0 S W (w1.setCell ⟨b, 0, none⟩ v') ∧ Below n₀ W (w1.setCell ⟨b, 0, none⟩ v') := by
  obtain ⟨h1, h2, _, _, h5⟩ := hv.appended hte (ownsRow_base hrow hn₀) (by omega) hB (ownsRow_base hown' hn₀) hgrow
  refine ⟨h1, h2, hown'.kept (grownBy_setCell' w1 b v') (.inr (h1.not_row hte hown').symm), ?_, h5⟩
  rcases (hrow.alloc tmp).2 with ⟨rfl, _⟩ | ⟨g, cap, cur, rfl, hg, hgb, _⟩
  · exact (((Rd.refl B0 S W).alloc tmp).grown hgrow fun k e => by simp [Value.ownBlock] at e).setBox h1 hSb v'
  · exact (((Rd.refl B0 S W).alloc tmp).grown hgrow fun k e => by
      obtain rfl : g = k := by simpa [Value.ownBlock] using e
      exact ⟨hSr _ hg, .inr ⟨_, hgb, rfl⟩⟩).setBox h1 hSb v'

/-- What a box's slice owns lies from n₀ on; and, where that is a block ahead of b', it is none of those from b' on. -/
theorem ownBlock_ge {W : World} {base : Nat} {e : TypeId} {size : Nat} {v : Value} {k : Nat} {xs : List Value} (h : W.ownsRow base e size v k xs) {j : Nat} (hj : v.ownBlock = some j) : base ≤ j := by
  rcases h.2 with ⟨rfl, _⟩ | ⟨g, cap, cur, rfl, hb, _⟩
  · simp [Value.ownBlock] at hj
  · obtain rfl : g = j := by simpa [Value.ownBlock] using hj
    exact hb

/-- The box b holds a slice of n elements (of type e, sz cells each) that owns ys in blocks laid since w1; nothing that lay in w has turned. -/
def collI (w w1 : World) (b : Nat) (t e : TypeId) (sz n : Nat) (ys : List Value) (W : World) : Prop :=
  ∃ v, Boxed W b t v ∧ W.ownsRow w1.heap.size e sz v n ys ∧ Below w.heap.size w W ∧ w1.heap.size ≤ W.heap.size
theorem collI_stab {w w1 : World} {b : Nat} {t e : TypeId} {sz n : Nat} {ys : List Value} (h : w.heap.size ≤ w1.heap.size) : Stab w1.heap.size (fun _ => False) (collI w w1 b t e sz n ys) :=
  Stab.ex fun v => (Stab.boxed id).and ((Stab.ownsRow (fun _ h => h.elim)).and ((Stab.below (Nat.le_refl _) h (fun _ h => h.elim)).and Stab.size))

/-- A byte as a value. -/
abbrev vb (c : UInt8) : Value := .int .u8 c.toNat
/-- 'string(b)', b a slice of bytes that the call owns. -/
theorem run_string_owned {P : Program} {W : World} {src dst e : TypeId} (hs : P.underlying src = some (.slice e)) (he : P.underlying e = some (.int .u8)) (hd : P.underlying dst = some .string)
    {base n : Nat} {v : Value} {l : List UInt8} (h : W.ownsRow base e 1 v n (l.map vb)) : (convert src dst v).run P W = .ok (.string ⟨l.toArray⟩) W := by
  have hl : l.length = n := by have := h.1; simpa using this
  subst hl
  rcases h.2 with ⟨rfl, h0⟩ | ⟨g, cap, cur, rfl, _, hg, _, _, _, ht⟩
  · obtain rfl : l = [] := List.eq_nil_of_length_eq_zero h0
    exact Lib.run_convert_nil_bytes W src dst e 0 hs he hd
  · refine run_convert_bytes_back W src dst e _ cap l hs he hd fun j hj => Lib.cells_of_row hg l.length j _ ?_
    rw [Nat.mul_one] at ht
    rw [ht]; simp [hj]

/-- The blocks from a up to b. -/
def span (a b k : Nat) : Prop := a ≤ k ∧ k < b
theorem span_lt {a b : Nat} : ∀ k, span a b k → k < b := fun _ h => h.2
theorem not_span_lt {a b k : Nat} (h : k < a) : ¬ span a b k := fun x => by have := x.1; omega
theorem not_span_ge {a b : Nat} : ∀ k, b ≤ k → ¬ span a b k := fun k h x => by have := x.2; omega

/-- THE MAKER f OF AN ITERATOR: it hands back g with what it has captured, which hands out xs in any world in which what the maker has laid is kept. -/
def Makes (P : Program) (f : FuncId) (args : Array Value) (w : World) (g : Nat) {α : Type} (encs : α → Array Value) (xs : List α) : Prop :=
  Calls P f args w fun e w' => ∃ lb, e = .returned (.func (.func g) #[] lb) ∧ Below w.heap.size w w' ∧ Iter P g lb encs xs (span w.heap.size w'.heap.size) (fun _ => False) w'
/-- .. and the blocks of S0, which lay before. -/
def MakesOver (P : Program) (f : FuncId) (args : Array Value) (w : World) (g : Nat) {α : Type} (encs : α → Array Value) (xs : List α) (S0 : Nat → Prop) : Prop :=
  Calls P f args w fun e w' => ∃ lb, e = .returned (.func (.func g) #[] lb) ∧ Below w.heap.size w w' ∧ Iter P g lb encs xs (fun k => S0 k ∨ span w.heap.size w'.heap.size k) (fun _ => False) w'

/-- The box b holds v; nothing that lay in w has turned. -/
def boxI (w : World) (b : Nat) (t : TypeId) (v : Value) (W : World) : Prop := Boxed W b t v ∧ Below w.heap.size w W
theorem boxI_stab {w : World} {B b : Nat} {t : TypeId} {v : Value} (h : w.heap.size ≤ B) : Stab B (fun _ => False) (boxI w b t v) :=
  (Stab.boxed id).and (Stab.below (Nat.le_refl _) h (fun _ h => h.elim))
theorem boxI_set {w W : World} {b : Nat} {t : TypeId} {v : Value} (h : boxI w b t v W) (hb : w.heap.size ≤ b) (u : Value) : boxI w b t u (W.setCell ⟨b, 0, none⟩ u) :=
  ⟨h.1.set u, h.2.setCell (p := ⟨b, 0, none⟩) hb u⟩

theorem boxI_drew {w W : World} {b : Nat} {t : TypeId} {v : Value} (h : boxI w b t v W) : boxI w b t v W.drew := ⟨h.1, h.2.drew⟩

/-- The number that bytes make, the lowest first. -/
def leN : List UInt8 → Nat
  | [] => 0
  | c :: r => c.toNat + 256 * leN r
theorem leN_lt (l : List UInt8) : leN l < 256 ^ l.length := by
  induction l with
  | nil => simp [leN]
  | cons c r ih => have := c.toNat_lt; simp only [leN, List.length_cons, Nat.pow_succ]; omega
theorem leN_snoc (l : List UInt8) (c : UInt8) : leN (l ++ [c]) = leN l + c.toNat * 256 ^ l.length := by
  induction l with
  | nil => simp [leN]
  | cons d r ih =>
    simp only [List.cons_append, leN, ih, List.length_cons, Nat.pow_succ]
    rw [Nat.mul_add, Nat.mul_left_comm, Nat.mul_comm 256 (256 ^ r.length)]
    omega

theorem pow256 (k : Nat) : 2 ^ (8 * k) = 256 ^ k := by rw [Nat.pow_mul]
theorem pow256_4 : (256 : Nat) ^ 4 = 4294967296 := by decide
theorem pow256_le {k : Nat} (hk : k < 4) : 256 ^ k * 256 ≤ 4294967296 := by
  rw [← pow256_4, ← Nat.pow_succ]; exact Nat.pow_le_pow_right (by decide) (by omega)
/-- One byte more, by 'or': of a sum that is less. -/
theorem or_byte {N k c : Nat} (hN : N < 256 ^ k) (hc : c < 256) (hk : k < 4) : bits .or .u32 (N : Int) ((c : Int) * 2 ^ (8 * k) % 4294967296) = ((N + c * 256 ^ k : Nat) : Int) := by
  have hp := pow256_le hk
  have hm : c * 256 ^ k ≤ 255 * 256 ^ k := Nat.mul_le_mul_right _ (by omega)
  have hlt : c * 256 ^ k < 4294967296 := by omega
  have hN2 : N < 4294967296 := by omega
  have h1 : ((c : Int) * 2 ^ (8 * k) % 4294967296) = ((c * 256 ^ k : Nat) : Int) := by
    have e : ((c : Int) * 2 ^ (8 * k)) = ((c * 256 ^ k : Nat) : Int) := by rw [← pow256]; push_cast; rfl
    rw [e]
    generalize c * 256 ^ k = m at hlt
    omega
  rw [h1, u32_or_nat _ _ hN2 hlt, Nat.or_comm, nat_join (8 * k) _ _ (by rw [pow256]; exact Nat.mul_mod_left _ _) (by rw [pow256]; exact hN), Nat.add_comm]

/-- Several boxes, each with what it holds; nothing that lay in w has turned. -/
def boxesI (w : World) (l : List (Nat × TypeId × Value)) (W : World) : Prop := (∀ x ∈ l, Boxed W x.1 x.2.1 x.2.2) ∧ Below w.heap.size w W
theorem boxesI_stab {w : World} {B : Nat} {l : List (Nat × TypeId × Value)} (h : w.heap.size ≤ B) : Stab B (fun _ => False) (boxesI w l) :=
  (Stab.all fun x => Stab.imp fun _ => Stab.boxed id).and (Stab.below (Nat.le_refl _) h (fun _ h => h.elim))
theorem boxesI_at {w W : World} {l : List (Nat × TypeId × Value)} (h : boxesI w l W) (i : Nat) {x : Nat × TypeId × Value} (hi : l[i]? = some x) : Boxed W x.1 x.2.1 x.2.2 := h.1 x (List.mem_of_getElem? hi)
theorem boxesI_set {w W : World} {l : List (Nat × TypeId × Value)} (h : boxesI w l W) (i : Nat) {x : Nat × TypeId × Value} (hi : l[i]? = some x) (hx : w.heap.size ≤ x.1) (hne : ∀ j y, l[j]? = some y → j ≠ i → y.1 ≠ x.1) (u : Value) :
    boxesI w (l.set i (x.1, x.2.1, u)) (W.setCell ⟨x.1, 0, none⟩ u) := by
  refine ⟨fun y hy => ?_, h.2.setCell (p := ⟨x.1, 0, none⟩) hx u⟩
  obtain ⟨j, hj⟩ := List.getElem?_of_mem hy
  by_cases e : j = i
  · subst e
    have hlt : j < l.length := (List.getElem?_eq_some_iff.1 hi).1
    rw [List.getElem?_set_self hlt] at hj
    cases hj
    exact (h.1 x (List.mem_of_getElem? hi)).set u
  · rw [List.getElem?_set_ne (Ne.symm e)] at hj
    exact (h.1 y (List.mem_of_getElem? hj)).kept (grownBy_setCell' W x.1 u) (fun e' => hne j y hj e (Option.some.inj e'))
theorem boxesI_drew {w W : World} {l : List (Nat × TypeId × Value)} (h : boxesI w l W) : boxesI w l W.drew := ⟨h.1, h.2.drew⟩
theorem boxesI_below {w W W' : World} {l : List (Nat × TypeId × Value)} (h : boxesI w l W) (hb : Below W.heap.size W W') : boxesI w l W' :=
  ⟨fun x hx => boxed_below (h.1 x hx) hb (h.1 x hx).lt, h.2.trans (hb.mono h.2.size)⟩
theorem boxesI_nil (w : World) : boxesI w [] w := ⟨fun _ h => by simp at h, Below.refl _ _⟩
theorem boxesI_alloc {w W : World} {l : List (Nat × TypeId × Value)} (h : boxesI w l W) (t : TypeId) (v : Value) : boxesI w (l ++ [(W.heap.size, t, v)]) (W.alloc (.cells #[v] t)) := by
  refine ⟨fun x hx => ?_, h.2.alloc h.2.size _⟩
  rcases List.mem_append.1 hx with hx | hx
  · exact (h.1 x hx).alloc _
  · simp at hx; subst hx; exact Boxed.new W t v
theorem nodup_ne {l : List (Nat × TypeId × Value)} (h : (l.map (·.1)).Nodup) {i j : Nat} {x y : Nat × TypeId × Value} (hi : l[i]? = some x) (hj : l[j]? = some y) (hne : j ≠ i) : y.1 ≠ x.1 := fun e => hne (by
  have h1 : (l.map (·.1))[i]? = some x.1 := by simp [hi]
  have h2 : (l.map (·.1))[j]? = some x.1 := by simp [hj, e]
  obtain ⟨l1, e1⟩ := List.getElem?_eq_some_iff.1 h1
  obtain ⟨l2, e2⟩ := List.getElem?_eq_some_iff.1 h2
  exact (List.getElem_inj h).1 (e2.trans e1.symm))
/-- A store into one of several boxes. -/
theorem boxesI_put {w W : World} {l : List (Nat × TypeId × Value)} (h : boxesI w l W) (hnd : (l.map (·.1)).Nodup) (i : Nat) {x : Nat × TypeId × Value} (hi : l[i]? = some x) (hx : w.heap.size ≤ x.1) (u : Value) :
    boxesI w (l.set i (x.1, x.2.1, u)) (W.setCell ⟨x.1, 0, none⟩ u) := boxesI_set h i hi hx (fun _ _ hj hne => nodup_ne hnd hi hj hne) u
theorem boxesI_rd {w W a : World} {l : List (Nat × TypeId × Value)} {B : Nat} {S : Nat → Prop} (h : boxesI w l W) (hr : Rd B S a W) (i : Nat) {x : Nat × TypeId × Value} (hi : l[i]? = some x) (hS : ¬ S x.1) (u : Value) :
    Rd B S a (W.setCell ⟨x.1, 0, none⟩ u) := hr.setBox (boxesI_at h i hi) hS u
theorem boxesI_cell {w W : World} {l : List (Nat × TypeId × Value)} (h : boxesI w l W) (i : Nat) {x : Nat × TypeId × Value} (hi : l[i]? = some x) : W.cell? ⟨x.1, 0, none⟩ = some x.2.2 := (boxesI_at h i hi).cell
theorem boxesI_frozen {w W : World} {l : List (Nat × TypeId × Value)} (h : boxesI w l W) (i : Nat) {x : Nat × TypeId × Value} (hi : l[i]? = some x) : W.frozen? ⟨x.1, 0, none⟩ = false := (boxesI_at h i hi).frozen

/-- 'string([]byte{..})': the bytes of a new block. -/
theorem run_string_new {P : Program} (w : World) {src dst e : TypeId} (hs : P.underlying src = some (.slice e)) (he : P.underlying e = some (.int .u8)) (hd : P.underlying dst = some .string) (l : List UInt8) (c : Nat) :
    (convert src dst (.slice (some ⟨w.heap.size, 0, none⟩) l.length c)).run P (w.alloc (.cells (l.map vb).toArray e)) = .ok (.string ⟨l.toArray⟩) (w.alloc (.cells (l.map vb).toArray e)) :=
  run_convert_bytes_back _ src dst e _ c l hs he hd fun j hj => by
    have := Lib.cells_of_row (w := w.alloc (.cells (l.map vb).toArray e)) (g := w.heap.size) (World.alloc_heap_new w _) l.length j (vb l[j]) (by simp [hj])
    exact this

theorem ret3_eq {k1 k2 k3 : IntKind} {a a' b b' c c' : Int} (h1 : a = a') (h2 : b = b') (h3 : c = c') : Ending.returned (.tuple #[.int k1 a, .int k2 b, .int k3 c]) = Ending.returned (.tuple #[.int k1 a', .int k2 b', .int k3 c']) := by rw [h1, h2, h3]
theorem ret2_eq {k1 k2 : IntKind} {a a' b b' : Int} (h1 : a = a') (h2 : b = b') : Ending.returned (.tuple #[.int k1 a, .int k2 b]) = Ending.returned (.tuple #[.int k1 a', .int k2 b']) := by rw [h1, h2]
theorem ret1_eq {k1 : IntKind} {a a' : Int} (h1 : a = a') : Ending.returned (.int k1 a) = Ending.returned (.int k1 a') := by rw [h1]

theorem bel2 {a b c : World} (h : Below a.heap.size a b) (k : Below b.heap.size b c) : Below a.heap.size a c := h.trans (k.mono h.size)
theorem bel_alloc {a b : World} (h : Below a.heap.size a b) (o : Obj) : Below a.heap.size a (b.alloc o) := h.alloc h.size o

end Go.Proofs.YtoieacmipejfeaaGreatDoor
