/- The contracts of package group's Same, Term, Entries. -/
import Derived.Test.YtfbibpnkfmgkaaaGrpIs
import Derived.Test.YtfbibpnkfmgkaaaPartSame
namespace Go.Proofs.Ytfbibpnkfmgkaaa
open Go.RowKit Go.Shelf
set_option linter.unusedVariables false
attribute [local go_sem] Oper.semAt_some wide_fn wide_round_fn

theorem eqlHard (a b c d e f : Int) (w : World) : (binOp .eql 23 (.agg #[.int .i64 a, .int .i64 b, .int .i64 c]) (.agg #[.int .i64 d, .int .i64 e, .int .i64 f])).run Try.prog w = .ok (.bool (decide (a = d ∧ b = e ∧ c = f))) w := by
  rw [run_eql_struct, eqHard]; rfl
def sameG (g h : GM) : Bool := decide (g = h)
theorem sameG_iff {g h : GM} : sameG g h = true ↔ ((g.id = h.id ∧ g.fi = h.fi ∧ g.te = h.te) ∧ (g.ht = h.ht ∧ g.hv = h.hv ∧ g.hc = h.hc)) ∧ g.l = h.l := by
  obtain ⟨_, _, _, _, _, _, _⟩ := g; obtain ⟨_, _, _, _, _, _, _⟩ := h
  simp only [sameG, decide_eq_true_eq, GM.mk.injEq]; grind

/-- The term of an index, or why there is none. -/
def termG (g : GM) (i : Int) : Int × Int := if i < g.fi - 1 then (0, 15) else if i = g.fi - 1 ∧ g.te = 0 then (0, 15) else if i = g.fi - 1 then (g.te, 0) else if lastG g < i then (0, 16) else (entT g.l i, 0)
theorem iterK_of {P : Program} {g : Nat} {lb : Array Value} {α : Type} {encs : α → Array Value} {xs : List α} {S T : Nat → Prop} {w : World} (h : Iter P g lb encs xs S (fun _ => False) w) : IterK P g lb encs xs S T (fun _ => True) w := by
  intro l J Jx W hW hJ hJx hY h0
  refine (h l J Jx W hW (fun s => (hJ s).noT) (fun s => (hJx s).noT) hY h0).mono ?_
  rintro e W' ⟨hv, h1 | h1⟩
  · exact ⟨hv, .inl ⟨h1, trivial⟩⟩
  · exact ⟨hv, .inr h1⟩
/-- Which entries, or why none. -/
def entsG (g : GM) (lo hi : Int) : List EntryC × Int := if hi < lo then ([], 11) else if lo < g.fi then ([], 15) else if lastG g + 1 < hi then ([], 16) else if lo = hi then ([], 0) else (btw g.l lo (hi - 1), 0)
def RowPost (w : World) (xs : List EntryC) (c : Int) (e : Ending) (w' : World) : Prop := ∃ a cap, e = .returned (.tuple #[.slice a xs.length cap, .int .i64 c]) ∧ RowV w' a xs.length 3 (entryCells xs) ∧ Below w.heap.size w w'

end Go.Proofs.Ytfbibpnkfmgkaaa
