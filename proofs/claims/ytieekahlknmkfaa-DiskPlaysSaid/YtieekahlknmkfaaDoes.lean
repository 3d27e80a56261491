/- A step on both disks: ladelaw8.does. -/
import Derived.Test.YtieekahlknmkfaaBoth
import Derived.Deep.RegionHeld3
namespace Go.Proofs.Ytieekahlknmkfaa
open Go.RowKit Go.Shelf
set_option linter.unusedVariables false
attribute [local go_sem] Oper.semAt_some wide_fn wide_round_fn

/-- A step, as it came in. -/
structure StepC where
  what : Int
  n : Int
  name : ByteArray
  to : ByteArray
  b : ByteArray
  keep : Nat
def StepC.cells (s : StepC) : List Value := [.int .i64 s.what, .int .i64 s.n, .string s.name, .string s.to, .string s.b, .int .u64 s.keep]
def stE (D : PD) (s : StepC) : Int := if s.what ≤ 0 then createE D s.name else if s.what ≤ 3 then appendE D s.name s.b else if s.what ≤ 8 then askE D s.name else 0
def stD (D : PD) (s : StepC) : PD :=
  if s.what ≤ 0 then createD D s.name else if s.what ≤ 3 then appendD D s.name s.b else if s.what ≤ 5 then syncD D s.name else if s.what = 6 then renameD D s.name s.to
  else if s.what = 7 then removeD D s.name else if s.what = 8 then cutD D s.name s.n else if s.what = 9 then limitD D s.n else crashD D s.keep
theorem Kept.undrew {w : World} {P : Nat → Prop} {a b : World} (h : Kept w P a.drew b) : Kept w P a b := ⟨h.os, h.tape, h.output, h.size, h.block⟩
theorem step_cells6 {W : World} {X : Nat} {T : TypeId} {v0 v1 v2 v3 v4 v5 : Value} (h : W.heap[X]? = some (.cells #[v0, v1, v2, v3, v4, v5] T (0, 0))) :
    W.cell? ⟨X, 0, none⟩ = some v0 ∧ W.cell? ⟨X, 1, none⟩ = some v1 ∧ W.cell? ⟨X, 2, none⟩ = some v2 ∧ W.cell? ⟨X, 3, none⟩ = some v3 ∧ W.cell? ⟨X, 4, none⟩ = some v4 ∧ W.cell? ⟨X, 5, none⟩ = some v5 :=
  ⟨cell_of_row _ _ 0 _ _ _ h, cell_of_row _ _ 1 _ _ _ h, cell_of_row _ _ 2 _ _ _ h, cell_of_row _ _ 3 _ _ _ h, cell_of_row _ _ 4 _ _ _ h, cell_of_row _ _ 5 _ _ _ h⟩
set_option maxRecDepth 100000 in
set_option maxHeartbeats 4000000 in
theorem does_create {w W : World} {d r n : Nat} {D : PD} {P : Nat → Prop} (h : BoX w d r D D P W) (hf : Fit D n) (hn : n ≤ 1000000) (what k : Int) (nm to b : ByteArray) (keep : Nat) (hnm : nm.size ≤ maxLen) (hto : to.size ≤ maxLen) (hb : b.size ≤ 1000000) (hkp : keep < 18446744073709551616) (hw : what ≤ 0) :
    Calls Try.prog 18 #[.pointer (some ⟨d, 0, none⟩), .pointer (some ⟨r, 0, none⟩), .agg #[.int .i64 what, .int .i64 k, .string nm, .string to, .string b, .int .u64 keep]] W fun e w' => e = .returned (.tuple #[.int .i64 (createE D nm), .int .i64 (createE D nm)]) ∧ BoX w d r (createD D nm) (createD D nm) P w' ∧ Kept w P W w' := by
  have hp := h.names
  have hkb := h.kept
  obtain ⟨W0, hW0⟩ : ∃ W0, W0 = W.alloc (.cells #[.int .i64 what, .int .i64 k, .string nm, .string to, .string b, .int .u64 keep] 33) := ⟨_, rfl⟩
  have hB0 : Below W.heap.size W W0 := by rw [hW0]; exact bel_alloc (Below.refl _ _) _
  have hx0 : W0.heap[W.heap.size]? = some (.cells #[.int .i64 what, .int .i64 k, .string nm, .string to, .string b, .int .u64 keep] 33 (0, 0)) := by rw [hW0]; exact World.alloc_heap_new W _
  have h0 : BoX w d r D D (fun k => P k ∨ k = W.heap.size) W0 := h.add hB0 (Nat.le_refl _) (Array.getElem?_eq_some_iff.1 hx0).1
  have HX := Lib.hid (fun W' (hK : Kept w (fun k => P k ∨ k = W.heap.size) W0 W') => step_cells6 (hK.get hx0 (.inr rfl)))
  have HK0 := Lib.hid (fun W' (hK : Kept w (fun k => P k ∨ k = W.heap.size) W0 W') => (Kept.trans (Kept.below hB0) (hK.sub (fun k hk => .inl hk)) : Kept w P W W'))
  have HP := Lib.hid (fun W' (hh : BoX w d r (createD D nm) (createD D nm) (fun k => P k ∨ k = W.heap.size) W') => hh.sub (Q := P) (fun k hk => .inl hk))
  have GD := Lib.hid (fun W' (h1 : BoX w d r (D) (D) (fun k => P k ∨ k = W.heap.size) W') => (show Calls Try.prog 19 #[.pointer (some ⟨d, 0, none⟩), .string nm] W' fun e w' => e = .returned (.int .i64 (createE D nm)) ∧ BoX w d r (createD D nm) (D) (fun k => P k ∨ k = W.heap.size) w' ∧ Kept w (fun k => P k ∨ k = W.heap.size) W' w' from createB h1 hf hn nm hnm))
  have GR := Lib.hid (fun W' (h1 : BoX w d r (createD D nm) (D) (fun k => P k ∨ k = W.heap.size) W') => (show Calls Try.prog 50 #[.pointer (some ⟨r, 0, none⟩), .string nm] W' fun e w' => e = .returned (.int .i64 (createE D nm)) ∧ BoX w d r (createD D nm) (createD D nm) (fun k => P k ∨ k = W.heap.size) w' ∧ Kept w (fun k => P k ∨ k = W.heap.size) W' w' from createBR h1 hf hn nm))
  obtain ⟨x0, x1, x2, x3, x4, x5⟩ := HX.out W0 (Kept.below (Below.refl _ _))
  have HW0 := Lib.hid hW0
  clear hx0 h hf hp hkb hB0
  clear hW0
  go_enter Try.func18, Try.ntmps18
  go_wp2
  rw [← HW0.out]
  go_wp2
  go_region_held3 (fun W' => W'.cell? ⟨W.heap.size, 1, none⟩ = some (.int .i64 k) ∧ W'.cell? ⟨W.heap.size, 2, none⟩ = some (.string nm) ∧ W'.cell? ⟨W.heap.size, 3, none⟩ = some (.string to) ∧ W'.cell? ⟨W.heap.size, 4, none⟩ = some (.string b)) (go_keep) (first
    | (go_at_call 19; ((with_reducible refine (GD.out _ ?hh).mono ?_); (case hh => first | exact h0 | exact h0.drew); rintro e w1 ⟨rfl, h1, hK1⟩; have hK2 : Kept w (fun k => P k ∨ k = W.heap.size) W0 w1 := (by first | exact hK1 | exact hK1.undrew); obtain ⟨y0, y1, y2, y3, y4, y5⟩ := HX.out _ hK2))
    | (go_at_call 50; ((with_reducible refine (GR.out _ ?hh).mono ?_); (case hh => first | exact h1 | exact h1.drew); rintro e w2 ⟨rfl, h2, hK3⟩; have hK4 : Kept w (fun k => P k ∨ k = W.heap.size) W0 w2 := (by first | exact hK2.trans hK3 | exact hK2.trans hK3.undrew); obtain ⟨z0, z1, z2, z3, z4, z5⟩ := HX.out _ hK4)))
  all_goals
    go_wp2
    go_ret2
    first
      | exact ⟨rfl, HP.out _ h2, HK0.out _ hK4⟩
      | exact ⟨rfl, HP.out _ h2.drew, HK0.out _ hK4.drew⟩

set_option maxRecDepth 100000 in
set_option maxHeartbeats 4000000 in
theorem does_append {w W : World} {d r n : Nat} {D : PD} {P : Nat → Prop} (h : BoX w d r D D P W) (hf : Fit D n) (hn : n ≤ 1000000) (what k : Int) (nm to b : ByteArray) (keep : Nat) (hnm : nm.size ≤ maxLen) (hto : to.size ≤ maxLen) (hb : b.size ≤ 1000000) (hkp : keep < 18446744073709551616) (hw : 0 < what ∧ what ≤ 3) :
    Calls Try.prog 18 #[.pointer (some ⟨d, 0, none⟩), .pointer (some ⟨r, 0, none⟩), .agg #[.int .i64 what, .int .i64 k, .string nm, .string to, .string b, .int .u64 keep]] W fun e w' => e = .returned (.tuple #[.int .i64 (appendE D nm b), .int .i64 (appendE D nm b)]) ∧ BoX w d r (appendD D nm b) (appendD D nm b) P w' ∧ Kept w P W w' := by
  have hp := h.names
  have hkb := h.kept
  obtain ⟨W0, hW0⟩ : ∃ W0, W0 = W.alloc (.cells #[.int .i64 what, .int .i64 k, .string nm, .string to, .string b, .int .u64 keep] 33) := ⟨_, rfl⟩
  have hB0 : Below W.heap.size W W0 := by rw [hW0]; exact bel_alloc (Below.refl _ _) _
  have hx0 : W0.heap[W.heap.size]? = some (.cells #[.int .i64 what, .int .i64 k, .string nm, .string to, .string b, .int .u64 keep] 33 (0, 0)) := by rw [hW0]; exact World.alloc_heap_new W _
  have h0 : BoX w d r D D (fun k => P k ∨ k = W.heap.size) W0 := h.add hB0 (Nat.le_refl _) (Array.getElem?_eq_some_iff.1 hx0).1
  have HX := Lib.hid (fun W' (hK : Kept w (fun k => P k ∨ k = W.heap.size) W0 W') => step_cells6 (hK.get hx0 (.inr rfl)))
  have HK0 := Lib.hid (fun W' (hK : Kept w (fun k => P k ∨ k = W.heap.size) W0 W') => (Kept.trans (Kept.below hB0) (hK.sub (fun k hk => .inl hk)) : Kept w P W W'))
  have HP := Lib.hid (fun W' (hh : BoX w d r (appendD D nm b) (appendD D nm b) (fun k => P k ∨ k = W.heap.size) W') => hh.sub (Q := P) (fun k hk => .inl hk))
  have GD := Lib.hid (fun W' (h1 : BoX w d r (D) (D) (fun k => P k ∨ k = W.heap.size) W') => (show Calls Try.prog 25 #[.pointer (some ⟨d, 0, none⟩), .string nm, .string b] W' fun e w' => e = .returned (.int .i64 (appendE D nm b)) ∧ BoX w d r (appendD D nm b) (D) (fun k => P k ∨ k = W.heap.size) w' ∧ Kept w (fun k => P k ∨ k = W.heap.size) W' w' from appendB h1 hf hn nm b hnm hb))
  have GR := Lib.hid (fun W' (h1 : BoX w d r (appendD D nm b) (D) (fun k => P k ∨ k = W.heap.size) W') => (show Calls Try.prog 51 #[.pointer (some ⟨r, 0, none⟩), .string nm, .string b] W' fun e w' => e = .returned (.int .i64 (appendE D nm b)) ∧ BoX w d r (appendD D nm b) (appendD D nm b) (fun k => P k ∨ k = W.heap.size) w' ∧ Kept w (fun k => P k ∨ k = W.heap.size) W' w' from appendBR h1 hp hf hn nm b hb))
  obtain ⟨x0, x1, x2, x3, x4, x5⟩ := HX.out W0 (Kept.below (Below.refl _ _))
  have HW0 := Lib.hid hW0
  clear hx0 h hf hp hkb hB0
  clear hW0
  go_enter Try.func18, Try.ntmps18
  go_wp2
  rw [← HW0.out]
  go_wp2
  go_region_held3 (fun W' => W'.cell? ⟨W.heap.size, 1, none⟩ = some (.int .i64 k) ∧ W'.cell? ⟨W.heap.size, 2, none⟩ = some (.string nm) ∧ W'.cell? ⟨W.heap.size, 3, none⟩ = some (.string to) ∧ W'.cell? ⟨W.heap.size, 4, none⟩ = some (.string b)) (go_keep) (first
    | (go_at_call 25; ((with_reducible refine (GD.out _ ?hh).mono ?_); (case hh => first | exact h0 | exact h0.drew); rintro e w1 ⟨rfl, h1, hK1⟩; have hK2 : Kept w (fun k => P k ∨ k = W.heap.size) W0 w1 := (by first | exact hK1 | exact hK1.undrew); obtain ⟨y0, y1, y2, y3, y4, y5⟩ := HX.out _ hK2))
    | (go_at_call 51; ((with_reducible refine (GR.out _ ?hh).mono ?_); (case hh => first | exact h1 | exact h1.drew); rintro e w2 ⟨rfl, h2, hK3⟩; have hK4 : Kept w (fun k => P k ∨ k = W.heap.size) W0 w2 := (by first | exact hK2.trans hK3 | exact hK2.trans hK3.undrew); obtain ⟨z0, z1, z2, z3, z4, z5⟩ := HX.out _ hK4)))
  all_goals
    go_wp2
    go_ret2
    first
      | exact ⟨rfl, HP.out _ h2, HK0.out _ hK4⟩
      | exact ⟨rfl, HP.out _ h2.drew, HK0.out _ hK4.drew⟩

set_option maxRecDepth 100000 in
set_option maxHeartbeats 4000000 in
theorem does_sync {w W : World} {d r n : Nat} {D : PD} {P : Nat → Prop} (h : BoX w d r D D P W) (hf : Fit D n) (hn : n ≤ 1000000) (what k : Int) (nm to b : ByteArray) (keep : Nat) (hnm : nm.size ≤ maxLen) (hto : to.size ≤ maxLen) (hb : b.size ≤ 1000000) (hkp : keep < 18446744073709551616) (hw : 3 < what ∧ what ≤ 5) :
    Calls Try.prog 18 #[.pointer (some ⟨d, 0, none⟩), .pointer (some ⟨r, 0, none⟩), .agg #[.int .i64 what, .int .i64 k, .string nm, .string to, .string b, .int .u64 keep]] W fun e w' => e = .returned (.tuple #[.int .i64 (askE D nm), .int .i64 (askE D nm)]) ∧ BoX w d r (syncD D nm) (syncD D nm) P w' ∧ Kept w P W w' := by
  have hp := h.names
  have hkb := h.kept
  obtain ⟨W0, hW0⟩ : ∃ W0, W0 = W.alloc (.cells #[.int .i64 what, .int .i64 k, .string nm, .string to, .string b, .int .u64 keep] 33) := ⟨_, rfl⟩
  have hB0 : Below W.heap.size W W0 := by rw [hW0]; exact bel_alloc (Below.refl _ _) _
  have hx0 : W0.heap[W.heap.size]? = some (.cells #[.int .i64 what, .int .i64 k, .string nm, .string to, .string b, .int .u64 keep] 33 (0, 0)) := by rw [hW0]; exact World.alloc_heap_new W _
  have h0 : BoX w d r D D (fun k => P k ∨ k = W.heap.size) W0 := h.add hB0 (Nat.le_refl _) (Array.getElem?_eq_some_iff.1 hx0).1
  have HX := Lib.hid (fun W' (hK : Kept w (fun k => P k ∨ k = W.heap.size) W0 W') => step_cells6 (hK.get hx0 (.inr rfl)))
  have HK0 := Lib.hid (fun W' (hK : Kept w (fun k => P k ∨ k = W.heap.size) W0 W') => (Kept.trans (Kept.below hB0) (hK.sub (fun k hk => .inl hk)) : Kept w P W W'))
  have HP := Lib.hid (fun W' (hh : BoX w d r (syncD D nm) (syncD D nm) (fun k => P k ∨ k = W.heap.size) W') => hh.sub (Q := P) (fun k hk => .inl hk))
  have GD := Lib.hid (fun W' (h1 : BoX w d r (D) (D) (fun k => P k ∨ k = W.heap.size) W') => (show Calls Try.prog 26 #[.pointer (some ⟨d, 0, none⟩), .string nm] W' fun e w' => e = .returned (.int .i64 (askE D nm)) ∧ BoX w d r (syncD D nm) (D) (fun k => P k ∨ k = W.heap.size) w' ∧ Kept w (fun k => P k ∨ k = W.heap.size) W' w' from syncB h1 hf hn nm hnm))
  have GR := Lib.hid (fun W' (h1 : BoX w d r (syncD D nm) (D) (fun k => P k ∨ k = W.heap.size) W') => (show Calls Try.prog 52 #[.pointer (some ⟨r, 0, none⟩), .string nm] W' fun e w' => e = .returned (.int .i64 (askE D nm)) ∧ BoX w d r (syncD D nm) (syncD D nm) (fun k => P k ∨ k = W.heap.size) w' ∧ Kept w (fun k => P k ∨ k = W.heap.size) W' w' from syncBR h1 hp hf hn nm))
  obtain ⟨x0, x1, x2, x3, x4, x5⟩ := HX.out W0 (Kept.below (Below.refl _ _))
  have HW0 := Lib.hid hW0
  clear hx0 h hf hp hkb hB0
  clear hW0
  go_enter Try.func18, Try.ntmps18
  go_wp2
  rw [← HW0.out]
  go_wp2
  go_region_held3 (fun W' => W'.cell? ⟨W.heap.size, 1, none⟩ = some (.int .i64 k) ∧ W'.cell? ⟨W.heap.size, 2, none⟩ = some (.string nm) ∧ W'.cell? ⟨W.heap.size, 3, none⟩ = some (.string to) ∧ W'.cell? ⟨W.heap.size, 4, none⟩ = some (.string b)) (go_keep) (first
    | (go_at_call 26; ((with_reducible refine (GD.out _ ?hh).mono ?_); (case hh => first | exact h0 | exact h0.drew); rintro e w1 ⟨rfl, h1, hK1⟩; have hK2 : Kept w (fun k => P k ∨ k = W.heap.size) W0 w1 := (by first | exact hK1 | exact hK1.undrew); obtain ⟨y0, y1, y2, y3, y4, y5⟩ := HX.out _ hK2))
    | (go_at_call 52; ((with_reducible refine (GR.out _ ?hh).mono ?_); (case hh => first | exact h1 | exact h1.drew); rintro e w2 ⟨rfl, h2, hK3⟩; have hK4 : Kept w (fun k => P k ∨ k = W.heap.size) W0 w2 := (by first | exact hK2.trans hK3 | exact hK2.trans hK3.undrew); obtain ⟨z0, z1, z2, z3, z4, z5⟩ := HX.out _ hK4)))
  all_goals
    go_wp2
    go_ret2
    first
      | exact ⟨rfl, HP.out _ h2, HK0.out _ hK4⟩
      | exact ⟨rfl, HP.out _ h2.drew, HK0.out _ hK4.drew⟩

set_option maxRecDepth 100000 in
set_option maxHeartbeats 4000000 in
theorem does_rename {w W : World} {d r n : Nat} {D : PD} {P : Nat → Prop} (h : BoX w d r D D P W) (hf : Fit D n) (hn : n ≤ 1000000) (k : Int) (nm to b : ByteArray) (keep : Nat) (hnm : nm.size ≤ maxLen) (hto : to.size ≤ maxLen) (hb : b.size ≤ 1000000) (hkp : keep < 18446744073709551616)  :
    Calls Try.prog 18 #[.pointer (some ⟨d, 0, none⟩), .pointer (some ⟨r, 0, none⟩), .agg #[.int .i64 6, .int .i64 k, .string nm, .string to, .string b, .int .u64 keep]] W fun e w' => e = .returned (.tuple #[.int .i64 (askE D nm), .int .i64 (askE D nm)]) ∧ BoX w d r (renameD D nm to) (renameD D nm to) P w' ∧ Kept w P W w' := by
  have hp := h.names
  have hkb := h.kept
  obtain ⟨W0, hW0⟩ : ∃ W0, W0 = W.alloc (.cells #[.int .i64 6, .int .i64 k, .string nm, .string to, .string b, .int .u64 keep] 33) := ⟨_, rfl⟩
  have hB0 : Below W.heap.size W W0 := by rw [hW0]; exact bel_alloc (Below.refl _ _) _
  have hx0 : W0.heap[W.heap.size]? = some (.cells #[.int .i64 6, .int .i64 k, .string nm, .string to, .string b, .int .u64 keep] 33 (0, 0)) := by rw [hW0]; exact World.alloc_heap_new W _
  have h0 : BoX w d r D D (fun k => P k ∨ k = W.heap.size) W0 := h.add hB0 (Nat.le_refl _) (Array.getElem?_eq_some_iff.1 hx0).1
  have HX := Lib.hid (fun W' (hK : Kept w (fun k => P k ∨ k = W.heap.size) W0 W') => step_cells6 (hK.get hx0 (.inr rfl)))
  have HK0 := Lib.hid (fun W' (hK : Kept w (fun k => P k ∨ k = W.heap.size) W0 W') => (Kept.trans (Kept.below hB0) (hK.sub (fun k hk => .inl hk)) : Kept w P W W'))
  have HP := Lib.hid (fun W' (hh : BoX w d r (renameD D nm to) (renameD D nm to) (fun k => P k ∨ k = W.heap.size) W') => hh.sub (Q := P) (fun k hk => .inl hk))
  have GD := Lib.hid (fun W' (h1 : BoX w d r (D) (D) (fun k => P k ∨ k = W.heap.size) W') => (show Calls Try.prog 31 #[.pointer (some ⟨d, 0, none⟩), .string nm, .string to] W' fun e w' => e = .returned (.int .i64 (askE D nm)) ∧ BoX w d r (renameD D nm to) (D) (fun k => P k ∨ k = W.heap.size) w' ∧ Kept w (fun k => P k ∨ k = W.heap.size) W' w' from renameB h1 hf hn nm to hnm hto))
  have GR := Lib.hid (fun W' (h1 : BoX w d r (renameD D nm to) (D) (fun k => P k ∨ k = W.heap.size) W') => (show Calls Try.prog 53 #[.pointer (some ⟨r, 0, none⟩), .string nm, .string to] W' fun e w' => e = .returned (.int .i64 (askE D nm)) ∧ BoX w d r (renameD D nm to) (renameD D nm to) (fun k => P k ∨ k = W.heap.size) w' ∧ Kept w (fun k => P k ∨ k = W.heap.size) W' w' from renameBR h1 hf hn nm to))
  obtain ⟨x0, x1, x2, x3, x4, x5⟩ := HX.out W0 (Kept.below (Below.refl _ _))
  have HW0 := Lib.hid hW0
  clear hx0 h hf hp hkb hB0
  clear hW0
  go_enter Try.func18, Try.ntmps18
  go_wp2
  rw [← HW0.out]
  go_wp2
  go_region_held3 (fun W' => W'.cell? ⟨W.heap.size, 1, none⟩ = some (.int .i64 k) ∧ W'.cell? ⟨W.heap.size, 2, none⟩ = some (.string nm) ∧ W'.cell? ⟨W.heap.size, 3, none⟩ = some (.string to) ∧ W'.cell? ⟨W.heap.size, 4, none⟩ = some (.string b)) (go_keep) (first
    | (go_at_call 31; ((with_reducible refine (GD.out _ ?hh).mono ?_); (case hh => first | exact h0 | exact h0.drew); rintro e w1 ⟨rfl, h1, hK1⟩; have hK2 : Kept w (fun k => P k ∨ k = W.heap.size) W0 w1 := (by first | exact hK1 | exact hK1.undrew); obtain ⟨y0, y1, y2, y3, y4, y5⟩ := HX.out _ hK2))
    | (go_at_call 53; ((with_reducible refine (GR.out _ ?hh).mono ?_); (case hh => first | exact h1 | exact h1.drew); rintro e w2 ⟨rfl, h2, hK3⟩; have hK4 : Kept w (fun k => P k ∨ k = W.heap.size) W0 w2 := (by first | exact hK2.trans hK3 | exact hK2.trans hK3.undrew); obtain ⟨z0, z1, z2, z3, z4, z5⟩ := HX.out _ hK4)))
  all_goals
    go_wp2
    go_ret2
    first
      | exact ⟨rfl, HP.out _ h2, HK0.out _ hK4⟩
      | exact ⟨rfl, HP.out _ h2.drew, HK0.out _ hK4.drew⟩

set_option maxRecDepth 100000 in
set_option maxHeartbeats 4000000 in
theorem does_remove {w W : World} {d r n : Nat} {D : PD} {P : Nat → Prop} (h : BoX w d r D D P W) (hf : Fit D n) (hn : n ≤ 1000000) (k : Int) (nm to b : ByteArray) (keep : Nat) (hnm : nm.size ≤ maxLen) (hto : to.size ≤ maxLen) (hb : b.size ≤ 1000000) (hkp : keep < 18446744073709551616)  :
    Calls Try.prog 18 #[.pointer (some ⟨d, 0, none⟩), .pointer (some ⟨r, 0, none⟩), .agg #[.int .i64 7, .int .i64 k, .string nm, .string to, .string b, .int .u64 keep]] W fun e w' => e = .returned (.tuple #[.int .i64 (askE D nm), .int .i64 (askE D nm)]) ∧ BoX w d r (removeD D nm) (removeD D nm) P w' ∧ Kept w P W w' := by
  have hp := h.names
  have hkb := h.kept
  obtain ⟨W0, hW0⟩ : ∃ W0, W0 = W.alloc (.cells #[.int .i64 7, .int .i64 k, .string nm, .string to, .string b, .int .u64 keep] 33) := ⟨_, rfl⟩
  have hB0 : Below W.heap.size W W0 := by rw [hW0]; exact bel_alloc (Below.refl _ _) _
  have hx0 : W0.heap[W.heap.size]? = some (.cells #[.int .i64 7, .int .i64 k, .string nm, .string to, .string b, .int .u64 keep] 33 (0, 0)) := by rw [hW0]; exact World.alloc_heap_new W _
  have h0 : BoX w d r D D (fun k => P k ∨ k = W.heap.size) W0 := h.add hB0 (Nat.le_refl _) (Array.getElem?_eq_some_iff.1 hx0).1
  have HX := Lib.hid (fun W' (hK : Kept w (fun k => P k ∨ k = W.heap.size) W0 W') => step_cells6 (hK.get hx0 (.inr rfl)))
  have HK0 := Lib.hid (fun W' (hK : Kept w (fun k => P k ∨ k = W.heap.size) W0 W') => (Kept.trans (Kept.below hB0) (hK.sub (fun k hk => .inl hk)) : Kept w P W W'))
  have HP := Lib.hid (fun W' (hh : BoX w d r (removeD D nm) (removeD D nm) (fun k => P k ∨ k = W.heap.size) W') => hh.sub (Q := P) (fun k hk => .inl hk))
  have GD := Lib.hid (fun W' (h1 : BoX w d r (D) (D) (fun k => P k ∨ k = W.heap.size) W') => (show Calls Try.prog 33 #[.pointer (some ⟨d, 0, none⟩), .string nm] W' fun e w' => e = .returned (.int .i64 (askE D nm)) ∧ BoX w d r (removeD D nm) (D) (fun k => P k ∨ k = W.heap.size) w' ∧ Kept w (fun k => P k ∨ k = W.heap.size) W' w' from removeB h1 hf hn nm hnm))
  have GR := Lib.hid (fun W' (h1 : BoX w d r (removeD D nm) (D) (fun k => P k ∨ k = W.heap.size) W') => (show Calls Try.prog 54 #[.pointer (some ⟨r, 0, none⟩), .string nm] W' fun e w' => e = .returned (.int .i64 (askE D nm)) ∧ BoX w d r (removeD D nm) (removeD D nm) (fun k => P k ∨ k = W.heap.size) w' ∧ Kept w (fun k => P k ∨ k = W.heap.size) W' w' from removeBR h1 hf hn nm))
  obtain ⟨x0, x1, x2, x3, x4, x5⟩ := HX.out W0 (Kept.below (Below.refl _ _))
  have HW0 := Lib.hid hW0
  clear hx0 h hf hp hkb hB0
  clear hW0
  go_enter Try.func18, Try.ntmps18
  go_wp2
  rw [← HW0.out]
  go_wp2
  go_region_held3 (fun W' => W'.cell? ⟨W.heap.size, 1, none⟩ = some (.int .i64 k) ∧ W'.cell? ⟨W.heap.size, 2, none⟩ = some (.string nm) ∧ W'.cell? ⟨W.heap.size, 3, none⟩ = some (.string to) ∧ W'.cell? ⟨W.heap.size, 4, none⟩ = some (.string b)) (go_keep) (first
    | (go_at_call 33; ((with_reducible refine (GD.out _ ?hh).mono ?_); (case hh => first | exact h0 | exact h0.drew); rintro e w1 ⟨rfl, h1, hK1⟩; have hK2 : Kept w (fun k => P k ∨ k = W.heap.size) W0 w1 := (by first | exact hK1 | exact hK1.undrew); obtain ⟨y0, y1, y2, y3, y4, y5⟩ := HX.out _ hK2))
    | (go_at_call 54; ((with_reducible refine (GR.out _ ?hh).mono ?_); (case hh => first | exact h1 | exact h1.drew); rintro e w2 ⟨rfl, h2, hK3⟩; have hK4 : Kept w (fun k => P k ∨ k = W.heap.size) W0 w2 := (by first | exact hK2.trans hK3 | exact hK2.trans hK3.undrew); obtain ⟨z0, z1, z2, z3, z4, z5⟩ := HX.out _ hK4)))
  all_goals
    go_wp2
    go_ret2
    first
      | exact ⟨rfl, HP.out _ h2, HK0.out _ hK4⟩
      | exact ⟨rfl, HP.out _ h2.drew, HK0.out _ hK4.drew⟩

set_option maxRecDepth 100000 in
set_option maxHeartbeats 4000000 in
theorem does_cut {w W : World} {d r n : Nat} {D : PD} {P : Nat → Prop} (h : BoX w d r D D P W) (hf : Fit D n) (hn : n ≤ 1000000) (k : Int) (nm to b : ByteArray) (keep : Nat) (hnm : nm.size ≤ maxLen) (hto : to.size ≤ maxLen) (hb : b.size ≤ 1000000) (hkp : keep < 18446744073709551616)  :
    Calls Try.prog 18 #[.pointer (some ⟨d, 0, none⟩), .pointer (some ⟨r, 0, none⟩), .agg #[.int .i64 8, .int .i64 k, .string nm, .string to, .string b, .int .u64 keep]] W fun e w' => e = .returned (.tuple #[.int .i64 (askE D nm), .int .i64 (askE D nm)]) ∧ BoX w d r (cutD D nm k) (cutD D nm k) P w' ∧ Kept w P W w' := by
  have hp := h.names
  have hkb := h.kept
  obtain ⟨W0, hW0⟩ : ∃ W0, W0 = W.alloc (.cells #[.int .i64 8, .int .i64 k, .string nm, .string to, .string b, .int .u64 keep] 33) := ⟨_, rfl⟩
  have hB0 : Below W.heap.size W W0 := by rw [hW0]; exact bel_alloc (Below.refl _ _) _
  have hx0 : W0.heap[W.heap.size]? = some (.cells #[.int .i64 8, .int .i64 k, .string nm, .string to, .string b, .int .u64 keep] 33 (0, 0)) := by rw [hW0]; exact World.alloc_heap_new W _
  have h0 : BoX w d r D D (fun k => P k ∨ k = W.heap.size) W0 := h.add hB0 (Nat.le_refl _) (Array.getElem?_eq_some_iff.1 hx0).1
  have HX := Lib.hid (fun W' (hK : Kept w (fun k => P k ∨ k = W.heap.size) W0 W') => step_cells6 (hK.get hx0 (.inr rfl)))
  have HK0 := Lib.hid (fun W' (hK : Kept w (fun k => P k ∨ k = W.heap.size) W0 W') => (Kept.trans (Kept.below hB0) (hK.sub (fun k hk => .inl hk)) : Kept w P W W'))
  have HP := Lib.hid (fun W' (hh : BoX w d r (cutD D nm k) (cutD D nm k) (fun k => P k ∨ k = W.heap.size) W') => hh.sub (Q := P) (fun k hk => .inl hk))
  have GD := Lib.hid (fun W' (h1 : BoX w d r (D) (D) (fun k => P k ∨ k = W.heap.size) W') => (show Calls Try.prog 32 #[.pointer (some ⟨d, 0, none⟩), .string nm, .int .i64 k] W' fun e w' => e = .returned (.int .i64 (askE D nm)) ∧ BoX w d r (cutD D nm k) (D) (fun k => P k ∨ k = W.heap.size) w' ∧ Kept w (fun k => P k ∨ k = W.heap.size) W' w' from cutB h1 hf hn nm k hnm))
  have GR := Lib.hid (fun W' (h1 : BoX w d r (cutD D nm k) (D) (fun k => P k ∨ k = W.heap.size) W') => (show Calls Try.prog 55 #[.pointer (some ⟨r, 0, none⟩), .string nm, .int .i64 k] W' fun e w' => e = .returned (.int .i64 (askE D nm)) ∧ BoX w d r (cutD D nm k) (cutD D nm k) (fun k => P k ∨ k = W.heap.size) w' ∧ Kept w (fun k => P k ∨ k = W.heap.size) W' w' from cutBR h1 hp hf hn nm k))
  obtain ⟨x0, x1, x2, x3, x4, x5⟩ := HX.out W0 (Kept.below (Below.refl _ _))
  have HW0 := Lib.hid hW0
  clear hx0 h hf hp hkb hB0
  clear hW0
  go_enter Try.func18, Try.ntmps18
  go_wp2
  rw [← HW0.out]
  go_wp2
  go_region_held3 (fun W' => W'.cell? ⟨W.heap.size, 1, none⟩ = some (.int .i64 k) ∧ W'.cell? ⟨W.heap.size, 2, none⟩ = some (.string nm) ∧ W'.cell? ⟨W.heap.size, 3, none⟩ = some (.string to) ∧ W'.cell? ⟨W.heap.size, 4, none⟩ = some (.string b)) (go_keep) (first
    | (go_at_call 32; ((with_reducible refine (GD.out _ ?hh).mono ?_); (case hh => first | exact h0 | exact h0.drew); rintro e w1 ⟨rfl, h1, hK1⟩; have hK2 : Kept w (fun k => P k ∨ k = W.heap.size) W0 w1 := (by first | exact hK1 | exact hK1.undrew); obtain ⟨y0, y1, y2, y3, y4, y5⟩ := HX.out _ hK2))
    | (go_at_call 55; ((with_reducible refine (GR.out _ ?hh).mono ?_); (case hh => first | exact h1 | exact h1.drew); rintro e w2 ⟨rfl, h2, hK3⟩; have hK4 : Kept w (fun k => P k ∨ k = W.heap.size) W0 w2 := (by first | exact hK2.trans hK3 | exact hK2.trans hK3.undrew); obtain ⟨z0, z1, z2, z3, z4, z5⟩ := HX.out _ hK4)))
  all_goals
    go_wp2
    go_ret2
    first
      | exact ⟨rfl, HP.out _ h2, HK0.out _ hK4⟩
      | exact ⟨rfl, HP.out _ h2.drew, HK0.out _ hK4.drew⟩

set_option maxRecDepth 100000 in
set_option maxHeartbeats 4000000 in
theorem does_limit {w W : World} {d r n : Nat} {D : PD} {P : Nat → Prop} (h : BoX w d r D D P W) (hf : Fit D n) (hn : n ≤ 1000000) (k : Int) (nm to b : ByteArray) (keep : Nat) (hnm : nm.size ≤ maxLen) (hto : to.size ≤ maxLen) (hb : b.size ≤ 1000000) (hkp : keep < 18446744073709551616)  :
    Calls Try.prog 18 #[.pointer (some ⟨d, 0, none⟩), .pointer (some ⟨r, 0, none⟩), .agg #[.int .i64 9, .int .i64 k, .string nm, .string to, .string b, .int .u64 keep]] W fun e w' => e = .returned (.tuple #[.int .i64 (0), .int .i64 (0)]) ∧ BoX w d r (limitD D k) (limitD D k) P w' ∧ Kept w P W w' := by
  have hp := h.names
  have hkb := h.kept
  obtain ⟨W0, hW0⟩ : ∃ W0, W0 = W.alloc (.cells #[.int .i64 9, .int .i64 k, .string nm, .string to, .string b, .int .u64 keep] 33) := ⟨_, rfl⟩
  have hB0 : Below W.heap.size W W0 := by rw [hW0]; exact bel_alloc (Below.refl _ _) _
  have hx0 : W0.heap[W.heap.size]? = some (.cells #[.int .i64 9, .int .i64 k, .string nm, .string to, .string b, .int .u64 keep] 33 (0, 0)) := by rw [hW0]; exact World.alloc_heap_new W _
  have h0 : BoX w d r D D (fun k => P k ∨ k = W.heap.size) W0 := h.add hB0 (Nat.le_refl _) (Array.getElem?_eq_some_iff.1 hx0).1
  have HX := Lib.hid (fun W' (hK : Kept w (fun k => P k ∨ k = W.heap.size) W0 W') => step_cells6 (hK.get hx0 (.inr rfl)))
  have HK0 := Lib.hid (fun W' (hK : Kept w (fun k => P k ∨ k = W.heap.size) W0 W') => (Kept.trans (Kept.below hB0) (hK.sub (fun k hk => .inl hk)) : Kept w P W W'))
  have HP := Lib.hid (fun W' (hh : BoX w d r (limitD D k) (limitD D k) (fun k => P k ∨ k = W.heap.size) W') => hh.sub (Q := P) (fun k hk => .inl hk))
  have GD := Lib.hid (fun W' (h1 : BoX w d r (D) (D) (fun k => P k ∨ k = W.heap.size) W') => (show Calls Try.prog 30 #[.pointer (some ⟨d, 0, none⟩), .int .i64 k] W' fun e w' => (∃ x, e = .returned x) ∧ BoX w d r (limitD D k) (D) (fun k => P k ∨ k = W.heap.size) w' ∧ Kept w (fun k => P k ∨ k = W.heap.size) W' w' from limitB h1 k))
  have GR := Lib.hid (fun W' (h1 : BoX w d r (limitD D k) (D) (fun k => P k ∨ k = W.heap.size) W') => (show Calls Try.prog 56 #[.pointer (some ⟨r, 0, none⟩), .int .i64 k] W' fun e w' => (∃ x, e = .returned x) ∧ BoX w d r (limitD D k) (limitD D k) (fun k => P k ∨ k = W.heap.size) w' ∧ Kept w (fun k => P k ∨ k = W.heap.size) W' w' from limitBR h1 k))
  obtain ⟨x0, x1, x2, x3, x4, x5⟩ := HX.out W0 (Kept.below (Below.refl _ _))
  have HW0 := Lib.hid hW0
  clear hx0 h hf hp hkb hB0
  clear HW0
  subst hW0
  go_enter Try.func18, Try.ntmps18
  go_wp2_with (first
    | (go_at_call 30; ((with_reducible refine (GD.out _ h0).mono ?_); rintro e w1 ⟨⟨v1, rfl⟩, h1, hK1⟩; clear x0 x1 x2 x3 x4 x5; obtain ⟨x0, x1, x2, x3, x4, x5⟩ := HX.out _ hK1))
    | (go_at_call 56; ((with_reducible refine (GR.out _ h1).mono ?_); rintro e w2 ⟨⟨v2, rfl⟩, h2, hK3⟩; have hK4 := Kept.trans hK1 hK3)))
  go_ret2
  exact ⟨rfl, HP.out _ h2, HK0.out _ hK4⟩

set_option maxRecDepth 100000 in
set_option maxHeartbeats 4000000 in
theorem does_crash {w W : World} {d r n : Nat} {D : PD} {P : Nat → Prop} (h : BoX w d r D D P W) (hf : Fit D n) (hn : n ≤ 1000000) (what k : Int) (nm to b : ByteArray) (keep : Nat) (hnm : nm.size ≤ maxLen) (hto : to.size ≤ maxLen) (hb : b.size ≤ 1000000) (hkp : keep < 18446744073709551616) (hw : 9 < what) :
    Calls Try.prog 18 #[.pointer (some ⟨d, 0, none⟩), .pointer (some ⟨r, 0, none⟩), .agg #[.int .i64 what, .int .i64 k, .string nm, .string to, .string b, .int .u64 keep]] W fun e w' => e = .returned (.tuple #[.int .i64 (0), .int .i64 (0)]) ∧ BoX w d r (crashD D keep) (crashD D keep) P w' ∧ Kept w P W w' := by
  have hp := h.names
  have hkb := h.kept
  obtain ⟨W0, hW0⟩ : ∃ W0, W0 = W.alloc (.cells #[.int .i64 what, .int .i64 k, .string nm, .string to, .string b, .int .u64 keep] 33) := ⟨_, rfl⟩
  have hB0 : Below W.heap.size W W0 := by rw [hW0]; exact bel_alloc (Below.refl _ _) _
  have hx0 : W0.heap[W.heap.size]? = some (.cells #[.int .i64 what, .int .i64 k, .string nm, .string to, .string b, .int .u64 keep] 33 (0, 0)) := by rw [hW0]; exact World.alloc_heap_new W _
  have h0 : BoX w d r D D (fun k => P k ∨ k = W.heap.size) W0 := h.add hB0 (Nat.le_refl _) (Array.getElem?_eq_some_iff.1 hx0).1
  have HX := Lib.hid (fun W' (hK : Kept w (fun k => P k ∨ k = W.heap.size) W0 W') => step_cells6 (hK.get hx0 (.inr rfl)))
  have HK0 := Lib.hid (fun W' (hK : Kept w (fun k => P k ∨ k = W.heap.size) W0 W') => (Kept.trans (Kept.below hB0) (hK.sub (fun k hk => .inl hk)) : Kept w P W W'))
  have HP := Lib.hid (fun W' (hh : BoX w d r (crashD D keep) (crashD D keep) (fun k => P k ∨ k = W.heap.size) W') => hh.sub (Q := P) (fun k hk => .inl hk))
  have GD := Lib.hid (fun W' (h1 : BoX w d r (D) (D) (fun k => P k ∨ k = W.heap.size) W') => (show Calls Try.prog 20 #[.pointer (some ⟨d, 0, none⟩), .int .u64 keep] W' fun e w' => (∃ x, e = .returned x) ∧ BoX w d r (crashD D keep) (D) (fun k => P k ∨ k = W.heap.size) w' ∧ Kept w (fun k => P k ∨ k = W.heap.size) W' w' from crashB h1 hf keep hkp))
  have GR := Lib.hid (fun W' (h1 : BoX w d r (crashD D keep) (D) (fun k => P k ∨ k = W.heap.size) W') => (show Calls Try.prog 57 #[.pointer (some ⟨r, 0, none⟩), .int .u64 keep] W' fun e w' => (∃ x, e = .returned x) ∧ BoX w d r (crashD D keep) (crashD D keep) (fun k => P k ∨ k = W.heap.size) w' ∧ Kept w (fun k => P k ∨ k = W.heap.size) W' w' from crashBR h1 hf hkb keep hkp))
  obtain ⟨x0, x1, x2, x3, x4, x5⟩ := HX.out W0 (Kept.below (Below.refl _ _))
  have HW0 := Lib.hid hW0
  clear hx0 h hf hp hkb hB0
  clear HW0
  subst hW0
  go_enter Try.func18, Try.ntmps18
  go_wp2_with (first
    | (go_at_call 20; ((with_reducible refine (GD.out _ h0).mono ?_); rintro e w1 ⟨⟨v1, rfl⟩, h1, hK1⟩; clear x0 x1 x2 x3 x4 x5; obtain ⟨x0, x1, x2, x3, x4, x5⟩ := HX.out _ hK1))
    | (go_at_call 57; ((with_reducible refine (GR.out _ h1).mono ?_); rintro e w2 ⟨⟨v2, rfl⟩, h2, hK3⟩; have hK4 := Kept.trans hK1 hK3)))
  go_ret2
  exact ⟨rfl, HP.out _ h2, HK0.out _ hK4⟩


end Go.Proofs.Ytieekahlknmkfaa
