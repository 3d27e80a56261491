/- The contracts of package victim's functions: Sealed, Pick, Rounds; of slices.Clone at numbers. -/
import Derived.Test.YtoieacmipejfeaaGreatDoorLive
import Derived.Lib.SliceRun
namespace Go.Proofs.YtoieacmipejfeaaGreatDoor
open Go.RowKit Go.Shelf
set_option linter.unusedVariables false
attribute [local go_sem] Oper.semAt_some wide_fn wide_round_fn

abbrev intsV (zs : List Int) : List Value := zs.map (Value.int .i64)

/-- The first n elements of a longer slice of numbers. -/
theorem rowI_cut {w : World} {a : Option Addr} {len : Nat} {zs : List Int} (h : RowI .i64 w a len zs) (n : Nat) (hn : n ≤ len) : RowI .i64 w a n (zs.take n) := by
  obtain ⟨h1, h2, h3, h4⟩ := h
  refine ⟨by rw [List.length_take]; omega, by omega, fun y hy => h3 y (List.mem_of_mem_take hy), fun h0 => ?_⟩
  obtain ⟨b, off, e, hb, hc⟩ := h4 (by omega)
  exact ⟨b, off, e, hb, fun i hi => by rw [List.getElem_take]; exact hc i (by rw [List.length_take] at hi; omega)⟩
theorem rowI_below {w w' : World} {k : IntKind} {a : Option Addr} {len : Nat} {zs : List Int} (h : RowI k w a len zs) (hb : Below w.heap.size w w') : RowI k w' a len zs :=
  ⟨h.1, h.2.1, h.2.2.1, fun h0 => by
    obtain ⟨b, off, e, hlt, hc⟩ := h.2.2.2 h0
    exact ⟨b, off, e, Nat.lt_of_lt_of_le hlt hb.size, fun j hj => (hb.cell (p := ⟨b, off + j, none⟩) hlt).trans (hc j hj)⟩⟩
/-- A row of numbers that a call has made is such a slice. -/
theorem rowI_own {w : World} {base : Nat} {e : TypeId} {n : Nat} {v : Value} {zs : List Int} (h : w.ownsRow base e 1 v n (intsV zs)) (hw : ∀ z ∈ zs, (Lit.int .i64 z).wf = true) : ∃ a cap, v = .slice a n cap ∧ n ≤ cap ∧ RowI .i64 w a n zs := by
  obtain ⟨a, cap, e, hn, h1, h2, h3⟩ := rowV_own h
  have hl : zs.length = n := by simpa using h1
  refine ⟨a, cap, e, hn, hl, h2, hw, fun h0 => ?_⟩
  obtain ⟨b, off, e2, hb, hc⟩ := h3 h0
  exact ⟨b, off, e2, hb, fun i hi => by rw [hc i (by simpa using hi), List.getElem_map]⟩

/-- How many are left, from r on downwards, when what has none goes. -/
def back (f : Nat → Nat) : Nat → Nat
  | 0 => 0
  | r + 1 => if f r = 0 then back f r else r + 1
def roundsB (zs : List Int) (l : List SpotC) : Nat := back (fun i => cnt l (zs.getD i 0)) (zs.length - 1)

/-- Rows of unlike elements lie apart. -/
theorem rows_apart {w : World} {b1 b2 : Nat} {e1 e2 : TypeId} {s1 s2 n1 n2 : Nat} {v1 v2 : Value} {xs1 xs2 : List Value} (h1 : w.ownsRow b1 e1 s1 v1 n1 xs1) (h2 : w.ownsRow b2 e2 s2 v2 n2 xs2) (hne : e1 ≠ e2) :
    v1.ownBlock = none ∨ v1.ownBlock ≠ v2.ownBlock := by
  rcases h1.2 with ⟨rfl, _⟩ | ⟨g, cap, cur, rfl, _, hg, _⟩
  · exact .inl rfl
  · refine .inr fun he => ?_
    rcases h2.2 with ⟨rfl, _⟩ | ⟨g', cap', cur', rfl, _, hg', _⟩
    · cases he
    · cases he
      rw [hg] at hg'
      injection hg' with hg'
      injection hg' with _ ht
      exact hne ht

end Go.Proofs.YtoieacmipejfeaaGreatDoor
