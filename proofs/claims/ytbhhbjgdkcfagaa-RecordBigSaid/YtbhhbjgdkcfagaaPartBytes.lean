/- Laws for Bytes: a builder in the rounds of a range. -/
import Derived.Test.YtbhhbjgdkcfagaaPartTexts
import Derived.Test.YtbhhbjgdkcfagaaPartIs6
namespace Go.Proofs.Ytbhhbjgdkcfagaa
open Go.RowKit Go.Shelf
set_option linter.unusedVariables false
attribute [local go_sem] Oper.semAt_some wide_fn wide_round_fn

theorem BuiltAt.cells {B b : Nat} {p : Value} {bs : List Value} {w : World} (h : BuiltAt B b p bs w) : ∃ cs, w.heap[b]? = some (.cells cs 66 (0, 0)) := ⟨_, h.2.choose_spec.1⟩
theorem Builds.cells {B b : Nat} {bs : List Value} {w : World} (h : Builds B b bs w) : ∃ cs, w.heap[b]? = some (.cells cs 66 (0, 0)) := h.elim BuiltAt.cells BuiltAt.cells
theorem rd_of_keeps {B B1 b n : Nat} {bs : List Value} {S : Nat → Prop} {W W' : World} (hb : Builds B b bs W) (hK : Keeps b W W') (hB : Below n W W')
    (hS : ∀ k, S k → k < n ∨ (k ≠ b ∧ ∃ cs T fr, W.heap[k]? = some (.cells cs T fr) ∧ T ≠ 5)) : Rd B1 S W W' :=
  ⟨hK.os, hK.tape, hK.output, hK.size, fun k o ho hc => by
    rcases hc with hc | ⟨_, hc⟩
    · rcases hS k hc with h | ⟨h1, cs, T, fr, h2, h3⟩
      · exact (hB.block k h).trans ho
      · rw [h2] at ho; cases ho; exact hK.cells h2 h1 h3
    · refine hK.block k o ho ?_ ?_
      · rintro rfl; obtain ⟨cs, hcs⟩ := hb.cells; rw [hcs] at ho; cases ho; cases hc
      · rintro cs fr rfl; cases hc⟩
theorem built_stab {B b C : Nat} {p : Value} {bs : List Value} : Stab C (fun _ => False) (BuiltAt B b p bs) := fun W W' h hm => by
  obtain ⟨h1, v, h2, h3, h4⟩ := h
  exact ⟨h1, v, hm.block b _ h2 id (.inr rfl), Stab.ownsRow (fun _ h => h.elim) W W' h3 hm, h4⟩
theorem builds_stab {B b C : Nat} {bs : List Value} : Stab C (fun _ => False) (Builds B b bs) := built_stab.or built_stab

/-- What Bytes' loop holds: the builder, its pointer, the part that the iterator reads. -/
def bytI (w : World) (b q X : Nat) (arr : Array Value) (bs : List UInt8) (pre : List ByteArray) (W : World) : Prop :=
  Builds w.heap.size b (Lib.byteCells (bs ++ pre.flatMap fun s => s.data.toList)) W ∧ (W.heap[q]? = some (.cells #[.pointer (some ⟨b, 0, none⟩)] 64 (0, 0)) ∧
    (W.heap[X]? = some (.cells arr 30 (0, 0)) ∧ Below w.heap.size w W))
theorem bytI_stab {w : World} {b q X C : Nat} {arr : Array Value} {bs : List UInt8} {pre : List ByteArray} (h : w.heap.size ≤ C) : Stab C (fun _ => False) (bytI w b q X arr bs pre) :=
  builds_stab.and ((Stab.block id (.inr rfl)).and ((Stab.block id (.inr rfl)).and (Stab.below (Nat.le_refl _) h (fun _ h => h.elim))))

end Go.Proofs.Ytbhhbjgdkcfagaa
