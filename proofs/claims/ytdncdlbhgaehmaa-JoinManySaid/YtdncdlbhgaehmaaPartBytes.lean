/- PartBytes, PartBytes5, PartBytes2, PartBytes6, PartBytes1: in one text. -/
import Derived.Test.YtdncdlbhgaehmaaPuts
import Derived.Test.YtdncdlbhgaehmaaPartIs
import Derived.Test.YtdncdlbhgaehmaaPart
import Derived.Test.YtdncdlbhgaehmaaRef
import Derived.Test.YtdncdlbhgaehmaaRegion
import Derived.Deep.RegionHeld3
import Derived.Deep.RegionWith
/- Laws for Bytes: a builder in the rounds of a range. -/
namespace Go.Proofs.Ytdncdlbhgaehmaa
open Go.RowKit Go.Shelf
set_option linter.unusedVariables false
attribute [local go_sem] Oper.semAt_some wide_fn wide_round_fn

end Go.Proofs.Ytdncdlbhgaehmaa

/- The contract of package part's Bytes. -/
namespace Go.Proofs.Ytdncdlbhgaehmaa
open Go.RowKit Go.Shelf
set_option linter.unusedVariables false
attribute [local go_sem] Oper.semAt_some wide_fn wide_round_fn

theorem heap_lt {w : World} {k : Nat} {o : Obj} (h : w.heap[k]? = some o) : k < w.heap.size := (Array.getElem?_eq_some_iff.1 h).1
theorem alloc_new1 (w : World) (cs : Array Value) (T : TypeId) {k : Nat} (hk : k = w.heap.size) : (w.alloc (.cells cs T)).heap[k]? = some (.cells cs T (0, 0)) := by subst hk; exact World.alloc_heap_new w _
theorem putL_ne (x : Int) (r : List Int) : putL (x :: r) ≠ [] := by
  intro h
  have h1 := congrArg List.length h
  have h2 := sevL_pos x.toNat
  simp [putL] at h1
  rw [h1.1] at h2; simp at h2
theorem fwdN_len (p : PartC) : (fwdN p).length ≤ 7 := by
  unfold fwdN
  split <;> split <;> simp
theorem putL_nil : putL [] = [] := rfl
def headN (p : PartC) (l : List EntryC) : List Int :=
  if p.k = 1 then [(p.len : Int), (l.head?.map (·.i)).getD 0] else if p.k = 2 then [p.ht, p.hv, p.hc] else if p.k = 3 ∨ p.k = 4 then [p.i, p.t] else if p.k = 6 then fwdN p else []
def bytesL (p : PartC) (l : List EntryC) : List UInt8 := putL [p.g, p.k] ++ (putL (headN p l) ++ (l.map (textOf p.k)).flatMap fun s => s.data.toList)
def PartR (p : PartC) : Prop := p.g < 9223372036854775808 ∧ p.ht < 9223372036854775808 ∧ p.hv < 9223372036854775808 ∧ p.hc < 9223372036854775808 ∧ p.i < 9223372036854775808 ∧ p.t < 9223372036854775808 ∧ p.len < 1000000

end Go.Proofs.Ytdncdlbhgaehmaa

/- The contract of package part's Bytes: other kinds. -/
namespace Go.Proofs.Ytdncdlbhgaehmaa
open Go.RowKit Go.Shelf
set_option linter.unusedVariables false
attribute [local go_sem] Oper.semAt_some wide_fn wide_round_fn

end Go.Proofs.Ytdncdlbhgaehmaa

/- The contract of package part's Bytes: other kinds. -/
namespace Go.Proofs.Ytdncdlbhgaehmaa
open Go.RowKit Go.Shelf
set_option linter.unusedVariables false
attribute [local go_sem] Oper.semAt_some wide_fn wide_round_fn

end Go.Proofs.Ytdncdlbhgaehmaa

/- The contract of package part's Bytes: other kinds. -/
namespace Go.Proofs.Ytdncdlbhgaehmaa
open Go.RowKit Go.Shelf
set_option linter.unusedVariables false
attribute [local go_sem] Oper.semAt_some wide_fn wide_round_fn

theorem region_noPanicIn {F : Fence} {n : Nat} {P : Program} {id : Nat} {ops : Array Oper} {b : Bool} {Q : Exit → Act → World → Prop} {a : Act} {w : World} (h : (Code.region id ops b).wpIn F n P (NoPanic Q) a w) : (Code.region id ops b).wpIn F n P Q a w := wpIn_mono h NoPanic.imp
end Go.Proofs.Ytdncdlbhgaehmaa
