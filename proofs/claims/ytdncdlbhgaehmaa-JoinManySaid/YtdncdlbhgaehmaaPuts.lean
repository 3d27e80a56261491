/- Builder, Puts, PutFwd, PartTexts: in one text. -/
import Derived.Test.YtdncdlbhgaehmaaKit
import Derived.Test.YtdncdlbhgaehmaaProg
import Derived.Shelf.Strings.Builder1
import Derived.RegionTactic
import Derived.Test.YtdncdlbhgaehmaaPartSame
import Derived.Test.YtdncdlbhgaehmaaPart
import Derived.Test.YtdncdlbhgaehmaaGet
import Derived.Stop.RegionWithIn
/- The contracts of strings.Builder's WriteString and String at this program. -/
namespace Go.Proofs.Ytdncdlbhgaehmaa
open Go.RowKit Go.Shelf
set_option linter.unusedVariables false

/-- All blocks but b are as they were, those of bytes aside. -/
structure Keeps (b : Nat) (w w' : World) : Prop where
  os : w'.os = w.os
  tape : w'.tape = w.tape
  output : w'.output = w.output
  size : w.heap.size ≤ w'.heap.size
  block : ∀ k o, w.heap[k]? = some o → k ≠ b → (∀ cs fr, o ≠ .cells cs 5 fr) → w'.heap[k]? = some o
theorem Keeps.refl (b : Nat) (w : World) : Keeps b w w := ⟨rfl, rfl, rfl, Nat.le_refl _, fun _ _ h _ _ => h⟩
theorem Keeps.trans {b : Nat} {a c d : World} (h : Keeps b a c) (k : Keeps b c d) : Keeps b a d :=
  ⟨k.os.trans h.os, k.tape.trans h.tape, k.output.trans h.output, Nat.le_trans h.size k.size, fun i o ho h1 h2 => k.block i o (h.block i o ho h1 h2) h1 h2⟩
theorem Keeps.below {b : Nat} {w w' : World} (h : Below w.heap.size w w') : Keeps b w w' :=
  ⟨h.os, h.tape, h.output, h.size, fun k o ho _ _ => (h.block k (Array.getElem?_eq_some_iff.1 ho).1).trans ho⟩
theorem Keeps.setCell (b i : Nat) (w : World) (v : Value) : Keeps b w (w.setCell ⟨b, i, none⟩ v) :=
  ⟨rfl, rfl, rfl, by simp, fun k o ho h1 _ => (heap_setCell_other _ _ _ _ h1).trans ho⟩
theorem Keeps.grown {b B n : Nat} {w w' : World} {v : Value} {xs : List Value} (hown : w.ownsRow B 5 1 v n xs) (hg : w.grownBy w' v.ownBlock) : Keeps b w w' :=
  ⟨hg.os, hg.tape, hg.output, hg.size, fun k o ho _ h2 => by
    refine (hg.block k (Array.getElem?_eq_some_iff.1 ho).1 (fun e => ?_)).trans ho
    rcases hown.2 with ⟨rfl, _⟩ | ⟨g, cap, cur, rfl, _, hh, _⟩
    · simp [Value.ownBlock] at e
    · obtain rfl : k = g := by simpa [Value.ownBlock] using e
      rw [hh] at ho; cases ho; exact h2 _ _ rfl⟩
theorem Keeps.cells {b : Nat} {w w' : World} (h : Keeps b w w') {k : Nat} {cs : Array Value} {T : TypeId} {fr : Nat × Nat} (hk : w.heap[k]? = some (.cells cs T fr)) (hb : k ≠ b) (hT : T ≠ 5) : w'.heap[k]? = some (.cells cs T fr) :=
  h.block k _ hk hb (fun _ _ e => by cases e; exact hT rfl)
/-! String, by the shelf's contract, laid at this program. -/
theorem Keeps.freeze {b g n : Nat} {w : World} {cur : Array Value} {fr : Nat × Nat} (hg : w.heap[g]? = some (.cells cur 5 fr)) : Keeps b w (w.freeze ⟨g, 0, none⟩ n) := by
  unfold World.freeze
  split
  · exact Keeps.refl b w
  · exact ⟨rfl, rfl, rfl, by simp, fun k o ho _ h2 => by
      have hk : g ≠ k := by rintro rfl; rw [hg] at ho; cases ho; exact h2 _ _ rfl
      simp only [Array.getElem?_modify]
      rw [if_neg hk]
      exact ho⟩
theorem Keeps.drew {b : Nat} {w w' : World} (h : Keeps b w.drew w') : Keeps b w w' := ⟨h.os, h.tape, h.output, h.size, h.block⟩

end Go.Proofs.Ytdncdlbhgaehmaa

/- The contracts of package part's puts, putHard, putForward. -/
namespace Go.Proofs.Ytdncdlbhgaehmaa
open Go.RowKit Go.Shelf
set_option linter.unusedVariables false
attribute [local go_sem] Oper.semAt_some wide_fn wide_round_fn

def putL (l : List Int) : List UInt8 := l.flatMap fun n => sevL n.toNat
theorem byteCells_app (l m : List UInt8) : Lib.byteCells (l ++ m) = Lib.byteCells l ++ Lib.byteCells m := by simp [Lib.byteCells]
theorem byteCells_len (l : List UInt8) : (Lib.byteCells l).length = l.length := by simp [Lib.byteCells]
theorem putL_len (l : List Int) : (putL l).length ≤ 9 * l.length := by
  induction l with
  | nil => simp [putL]
  | cons x r ih => have := sevL_len x.toNat; simp [putL] at *; omega
def intCells (l : List Int) : List Value := l.map (.int .i64)

end Go.Proofs.Ytdncdlbhgaehmaa

/- The contract of package part's putForward. -/
namespace Go.Proofs.Ytdncdlbhgaehmaa
open Go.RowKit Go.Shelf
set_option linter.unusedVariables false
attribute [local go_sem] Oper.semAt_some wide_fn wide_round_fn

theorem putL_app (l m : List Int) : putL (l ++ m) = putL l ++ putL m := by simp [putL]
def flagN (p : PartC) : Int := (if p.m then 1 else 0) + (if p.h then 2 else 0)
def fwdN (p : PartC) : List Int := [flagN p] ++ ((if p.m then [p.i, p.t] else []) ++ ((if p.h then [p.ht, p.hv, p.hc] else []) ++ [(p.len : Int)]))

end Go.Proofs.Ytdncdlbhgaehmaa

/- The contract of package part's texts. -/
namespace Go.Proofs.Ytdncdlbhgaehmaa
open Go.RowKit Go.Shelf
set_option linter.unusedVariables false
attribute [local go_sem] Oper.semAt_some wide_fn wide_round_fn

def putS (n : Int) : ByteArray := ⟨(sevL n.toNat).toArray⟩
def textS (d : ByteArray) : ByteArray := ⟨(sevL d.size).toArray⟩ ++ d
def textOf (k : Int) (e : EntryC) : ByteArray := if k = 6 then putS e.i ++ (putS e.t ++ textS e.d) else putS e.t ++ textS e.d
def entryR (e : EntryC) : Prop := e.i < 9223372036854775808 ∧ e.t < 9223372036854775808 ∧ e.d.size < 1000000000

end Go.Proofs.Ytdncdlbhgaehmaa
