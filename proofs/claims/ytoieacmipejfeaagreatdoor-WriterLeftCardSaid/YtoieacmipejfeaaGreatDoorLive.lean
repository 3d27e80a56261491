/- The contracts of package live's functions that keep a map: Counts; what a row of spots is. -/
import Derived.Test.YtoieacmipejfeaaGreatDoorRowV
import Derived.Test.YtoieacmipejfeaaGreatDoorProg
import Derived.Maps.OwnOps
import Derived.Maps.Views
namespace Go.Proofs.YtoieacmipejfeaaGreatDoor
open Go.RowKit Go.Shelf
open Go.Maps (Keyed int_keyed keyOf_int_mk IsMap atKey_put_same atKey_put_other isMap_empty)
set_option linter.unusedVariables false
attribute [local go_sem] Oper.semAt_some wide_fn wide_round_fn

/-- A call that hands back a row of its own. -/
abbrev GivesRow (P : Program) (f : FuncId) (args : Array Value) (w : World) (e : TypeId) (sz n : Nat) (xs : List Value) : Prop :=
  Calls P f args w fun en w' => ∃ v, en = .returned v ∧ w'.ownsRow w.heap.size e sz v n xs ∧ Below w.heap.size w w'

/-- Something that counts: its group, its index, its segment, the place in it. -/
structure SpotC where
  g : Int
  i : Int
  s : Int
  p : Int
def SpotC.cells (f : SpotC) : List Value := [.int .i64 f.g, .int .i64 f.i, .int .i64 f.s, .int .i64 f.p]
theorem SpotC.len (f : SpotC) : f.cells.length = 4 := rfl
def spotCells (l : List SpotC) : List Value := (l.map SpotC.cells).flatten
theorem spotCells_snoc (l : List SpotC) (f : SpotC) : spotCells (l ++ [f]) = spotCells l ++ f.cells := by simp [spotCells]
def inL (l : List SpotC) (z : Int) : List SpotC := l.filter fun f => f.s == z
def cnt (l : List SpotC) (z : Int) : Nat := (inL l z).length
theorem cnt_le (l : List SpotC) (z : Int) : cnt l z ≤ l.length := List.length_filter_le _ _
theorem inL_take (l : List SpotC) (z : Int) (k : Nat) (h : k < l.length) : inL (l.take (k + 1)) z = inL (l.take k) z ++ (if l[k].s = z then [l[k]] else []) := by
  unfold inL
  rw [List.take_succ_eq_append_getElem h, List.filter_append]
  by_cases e : l[k].s = z
  · simp [e]
  · simp [e]
theorem cnt_take (l : List SpotC) (z : Int) (k : Nat) (h : k < l.length) : cnt (l.take (k + 1)) z = cnt (l.take k) z + (if l[k].s = z then 1 else 0) := by
  unfold cnt
  rw [inL_take l z k h, List.length_append]
  split <;> rfl
theorem wf_i64 {n : Int} (h : -9223372036854775808 ≤ n ∧ n < 9223372036854775808) : (Lit.int .i64 n).wf = true := by
  simp [Lit.wf, IntKind.min, IntKind.max, IntKind.signed, IntKind.bits]; omega
/-- The cells of the k-th spot of a slice. -/
theorem spot_at {w wr : World} {b off : Nat} {l : List SpotC} (hb : b < w.heap.size) (hB : Below w.heap.size w wr) (hc : ∀ j (h : j < (spotCells l).length), w.cell? ⟨b, off + j, none⟩ = some (spotCells l)[j]) {k : Nat} (hk : k < l.length) :
    wr.cell? ⟨b, off + k * 4, none⟩ = some (.int .i64 l[k].g) ∧ wr.cell? ⟨b, off + k * 4 + 1, none⟩ = some (.int .i64 l[k].i) ∧ wr.cell? ⟨b, off + k * 4 + 2, none⟩ = some (.int .i64 l[k].s) ∧ wr.cell? ⟨b, off + k * 4 + 3, none⟩ = some (.int .i64 l[k].p) := by
  have cell : ∀ i v, i < 4 → (l[k].cells)[i]? = some v → wr.cell? ⟨b, off + (k * 4 + i), none⟩ = some v := fun i v hi hv =>
    (hB.cell (p := ⟨b, off + (k * 4 + i), none⟩) hb).trans (RowV.at_ (len := l.length) (sz := 4) hc (by rw [spotCells, flat_at SpotC.cells 4 SpotC.len l k i hk hi]; exact hv))
  exact ⟨cell 0 _ (by decide) rfl, cell 1 _ (by decide) rfl, cell 2 _ (by decide) rfl, cell 3 _ (by decide) rfl⟩

theorem lawInt : Keyed Tryz.prog 3 := int_keyed Tryz.underlying3
theorem zeroInt (w : World) : (zeroValue 3).run Tryz.prog w = .ok (.int .i64 0) w := by kernel_rfl
theorem infoInt : (Tryz.prog.info? 3).map (fun i => (i.zero, i.size, i.bytes)) = some (some (.int .i64 0), 1, 8) := by kernel_rfl
/-- What a map of numbers holds, by its keys. -/
def Holds (D : DataW Unit) (f : Int → Nat) : Prop := IsMap D ∧ ∀ z : Int, D.atKey (.int .i64 z) (.lit (.int .i64 0)) = .lit (.int .i64 (f z))
theorem holds_nil : Holds (.map []) (fun _ => 0) := ⟨isMap_empty, fun _ => rfl⟩
theorem holds_put {D : DataW Unit} {f f' : Int → Nat} (h : Holds D f) (z : Int) (m : Nat) (h1 : f' z = m) (h2 : ∀ y, y ≠ z → f' y = f y) : Holds (D.put (.int .i64 z) (.lit (.int .i64 m))) f' :=
  ⟨h.1.put _ _, fun y => by
    by_cases e : y = z
    · subst e; rw [atKey_put_same h.1 (by simp [WideAt.IsKeyLit]), h1]
    · rw [atKey_put_other (by simpa using e), h2 y e]; exact h.2 y⟩
theorem holds_at {D : DataW Unit} {f : Int → Nat} (h : Holds D f) {z c : Int} (hc : D.atKey (.int .i64 z) (.lit (.int .i64 0)) = .lit (.int .i64 c)) : c = f z := by
  rw [h.2 z] at hc
  injection hc with hc
  injection hc with _ hc
  exact hc.symm

end Go.Proofs.YtoieacmipejfeaaGreatDoor
