/- A group as plain data: whether it is one, its last index, the terms, what a part makes of it. -/
import Derived.Test.YtfbibpnkfmgkaaaPartIs
namespace Go.Proofs.Ytfbibpnkfmgkaaa
open Go.RowKit Go.Shelf
set_option linter.unusedVariables false

/-- A group, but for where its entries lie. -/
structure GM where
  id : Int
  fi : Int
  te : Int
  ht : Int
  hv : Int
  hc : Int
  l : List EntryC
  deriving DecidableEq
/-- .. as a flat value. -/
abbrev GM.val (g : GM) (a : Option Addr) (cap : Nat) : Value := .agg #[.int .i64 g.id, .int .i64 g.fi, .int .i64 g.te, .int .i64 g.ht, .int .i64 g.hv, .int .i64 g.hc, .slice a g.l.length cap]
abbrev GM.arr (g : GM) (a : Option Addr) (cap : Nat) : Array Value := #[.int .i64 g.id, .int .i64 g.fi, .int .i64 g.te, .int .i64 g.ht, .int .i64 g.hv, .int .i64 g.hc, .slice a g.l.length cap]
/-- What is in a group. -/
def HasG (w : World) (a : Option Addr) (g : GM) : Prop := g.l.length < 1000000 ∧ RowV w a g.l.length 3 (entryCells g.l)
theorem HasG.below {w W : World} {a : Option Addr} {g : GM} (h : HasG w a g) (hB : Below w.heap.size w W) : HasG W a g := ⟨h.1, h.2.below hB⟩
def denseB : List EntryC → Int → Bool
  | [], _ => true
  | e :: r, f => (entryB e && decide (e.i = f)) && denseB r (f + 1)
def isG (g : GM) : Bool := ((wB g.id 0 999 && wB g.fi 1 1099511627777) && wB g.te 0 1099511627776) && (hardB g.ht g.hv g.hc && denseB g.l g.fi)
def lastG (g : GM) : Int := g.fi - 1 + g.l.length
theorem denseB_at : ∀ {l : List EntryC} {f : Int} (h : denseB l f = true) {k : Nat} (hk : k < l.length), l[k].i = f + k ∧ entryB l[k] = true
  | e :: r, f, h, 0, _ => by
    simp only [denseB, Bool.and_eq_true, decide_eq_true_eq] at h
    exact ⟨by simp [h.1.2], h.1.1⟩
  | e :: r, f, h, k + 1, hk => by
    simp only [denseB, Bool.and_eq_true, decide_eq_true_eq] at h
    have := denseB_at h.2 (k := k) (by simpa using hk)
    exact ⟨by simp only [List.getElem_cons_succ]; rw [this.1]; push_cast; omega, this.2⟩
theorem denseB_mk : ∀ {l : List EntryC} {f : Int}, (∀ k (hk : k < l.length), l[k].i = f + k ∧ entryB l[k] = true) → denseB l f = true
  | [], _, _ => rfl
  | e :: r, f, h => by
    have h0 := h 0 (by simp)
    simp only [List.getElem_cons_zero] at h0
    simp only [denseB, Bool.and_eq_true, decide_eq_true_eq]
    refine ⟨⟨h0.2, by rw [h0.1]; simp⟩, denseB_mk fun k hk => ?_⟩
    have := h (k + 1) (by simpa using hk)
    simp only [List.getElem_cons_succ] at this
    exact ⟨by rw [this.1]; push_cast; omega, this.2⟩
theorem denseB_take (l : List EntryC) (f : Int) (k : Nat) (hk : k < l.length) : denseB (l.take (k + 1)) f = (denseB (l.take k) f && (entryB l[k] && decide (l[k].i = f + k))) := by
  induction l generalizing f k with
  | nil => simp at hk
  | cons e r ih =>
    cases k with
    | zero => simp [denseB]
    | succ k =>
      have := ih (f + 1) k (by simpa using hk)
      simp only [List.take_succ_cons, denseB, this, List.getElem_cons_succ, Bool.and_assoc]
      rw [show f + ((k + 1 : Nat) : Int) = f + 1 + (k : Int) by push_cast; omega]
theorem denseB_no {l : List EntryC} {f : Int} {k : Nat} (hk : k < l.length) (h : (entryB l[k] && decide (l[k].i = f + k)) = false) : denseB l f = false := by
  rw [Bool.eq_false_iff]; intro hd
  have := denseB_at hd hk
  rw [this.2, decide_eq_true this.1] at h; cases h
/-- Those from lo to hi. -/
def btw (l : List EntryC) (lo hi : Int) : List EntryC := l.filter fun e => decide (lo ≤ e.i) && decide (e.i ≤ hi)
/-- The term of the first one of an index. -/
def entT (l : List EntryC) (i : Int) : Int := ((btw l i i).head?.map EntryC.t).getD 0
theorem btw_take (l : List EntryC) (lo hi : Int) (k : Nat) (h : k < l.length) : btw (l.take (k + 1)) lo hi = btw (l.take k) lo hi ++ if lo ≤ l[k].i ∧ l[k].i ≤ hi then [l[k]] else [] := by
  unfold btw
  rw [List.take_succ_eq_append_getElem h, List.filter_append]
  congr 1
  by_cases hc : lo ≤ l[k].i ∧ l[k].i ≤ hi
  · rw [if_pos hc]; simp [hc.1, hc.2]
  · rw [if_neg hc]
    have : (decide (lo ≤ l[k].i) && decide (l[k].i ≤ hi)) = false := by rw [Bool.eq_false_iff]; intro h; simp only [Bool.and_eq_true, decide_eq_true_eq] at h; exact hc h
    simp [this]
theorem btw_split (l : List EntryC) (lo hi : Int) (k : Nat) (h : k < l.length) (h1 : lo ≤ l[k].i) (h2 : l[k].i ≤ hi) : btw l lo hi = btw (l.take k) lo hi ++ l[k] :: btw (l.drop (k + 1)) lo hi := by
  have e : l = l.take k ++ (l[k] :: l.drop (k + 1)) := by rw [List.getElem_cons_drop h, List.take_append_drop]
  have e2 := congrArg (fun x => btw x lo hi) e
  simp only [btw, List.filter_append, List.filter_cons] at e2 ⊢
  rw [e2]
  simp [h1, h2]
theorem btw_len (l : List EntryC) (lo hi : Int) : (btw l lo hi).length ≤ l.length := List.length_filter_le _ _
def chkA (g : GM) (f : Int) : Int := if f < g.fi then 15 else if lastG g + 1 < f then 14 else 0
def chkC (g : GM) (i t : Int) : Int := if i < g.fi then 15 else if lastG g < i then 16 else if t ≠ 0 ∧ t ≠ entT g.l i then 11 else 0
def headI (l : List EntryC) : Int := (l.head?.map EntryC.i).getD 0
/-- Why the part can't be done. -/
def chkG (g : GM) (p : PartC) (pl : List EntryC) : Int :=
  if isB p pl = false ∨ p.k = 6 ∨ p.k = 5 ∨ p.g ≠ g.id then 11
  else if p.k = 1 then chkA g (headI pl) else if p.k = 3 then chkC g p.i p.t else if p.k = 4 then (if p.i < g.fi then 15 else 0) else 0
def minI : Int := -9223372036854775808
def maxI : Int := 9223372036854775807
/-- What it makes. -/
def doG (g : GM) (p : PartC) (pl : List EntryC) : GM :=
  if chkG g p pl ≠ 0 then g
  else if p.k = 1 then { g with l := btw g.l minI (headI pl - 1) ++ pl }
  else if p.k = 2 then { g with ht := p.ht, hv := p.hv, hc := p.hc, l := btw g.l minI maxI ++ pl }
  else if p.k = 3 then { g with fi := p.i + 1, te := entT g.l p.i, l := btw g.l (p.i + 1) maxI ++ pl }
  else { g with fi := p.i + 1, te := p.t, l := btw g.l (p.i + 1) (if entT g.l p.i ≠ p.t then minI else maxI) ++ pl }

end Go.Proofs.Ytfbibpnkfmgkaaa
