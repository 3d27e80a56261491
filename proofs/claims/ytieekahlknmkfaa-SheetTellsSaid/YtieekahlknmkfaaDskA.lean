/- The contracts of a disk's functions: Read, Append. -/
import Derived.Test.YtieekahlknmkfaaDskU
import Derived.Lib.AppendStr
import Derived.Deep.AppendSrc
import Derived.Lib.FrozenHead
namespace Go.Proofs.Ytieekahlknmkfaa
open Go.RowKit Go.Shelf
set_option linter.unusedVariables false
attribute [local go_sem] Oper.semAt_some wide_fn wide_round_fn

/-- Appending a string to a row of bytes: which block it then lies in. -/
theorem append_str_block {P : Program} (w : World) (base : Nat) (t u ty e : TypeId) (i : TypeInfo) (ht : P.underlying t = some (.slice e)) (hu : P.underlying u = some .string) (hi : P.info? e = some i) (hz : i.zero = some (.int .u8 0)) (hsize : i.size = 1) (hby : i.bytes = 1)
    (v : Value) (n : Nat) (xs : List Value) (hown : w.ownsRow base e 1 v n xs) (s : ByteArray) (h63 : n + s.size ≤ maxLen) (hbytes : n + s.size ≤ 140737488355328) (hbase : base ≤ w.heap.size) :
    ∃ v' w', (Builtin.append_ #[t, u] ty #[v, .string s]).run P w = .ok v' w' ∧ w'.ownsRow base e 1 v' (n + s.size) (xs ++ Lib.strCells s) ∧ w.grownBy w' v.ownBlock ∧ ∀ j, v'.ownBlock = some j → v.ownBlock = some j ∨ w.heap.size ≤ j := by
  obtain ⟨v', w', hr, r1, r2, -⟩ := Lib.run_append_own_string (P := P) w base t u ty e i ht hu hi hz hsize hby v n xs hown s h63 hbytes hbase
  refine ⟨v', w', hr, r1, r2, fun j hj => ?_⟩
  have hxl : xs.length = n := by simpa using hown.1
  rcases hown.2 with ⟨rfl, rfl⟩ | ⟨g, cap, cur, rfl, _, hg, hle, hcm, hcs, htake⟩
  · obtain rfl : xs = [] := List.eq_nil_of_length_eq_zero hxl
    obtain ⟨v2, w2, hr2, q1, -⟩ := Lib.run_append_own_string (P := P) w w.heap.size t u ty e i ht hu hi hz hsize hby (.slice none 0 0) 0 [] (World.ownsRow_nil _ _ _ _) s h63 hbytes (Nat.le_refl _)
    rw [hr] at hr2
    injection hr2 with e1 e2
    subst e1 e2
    exact .inr (q1.lt j hj).1
  · by_cases hroom : n + s.size ≤ cap
    · have hr2 := Lib.run_append_room_string (P := P) w t u ty e i ht hu hi hsize g n cap cur hg s hroom (by simp at hcs; omega)
      rw [hr] at hr2
      injection hr2 with e1 e2
      subst e1
      exact .inl hj
    · have hr2 := Lib.run_append_grow_string (P := P) w t u ty e i _ ht hu hi hz ⟨g, 0, none⟩ n cap xs (by rw [hsize]; omega) (fun j u' hu' => hown.cells (g := g) rfl j u' hu') s (by omega) (by unfold maxLen at h63; omega) (growslice_fits (by omega) (by rw [hby]; omega))
      rw [hr] at hr2
      injection hr2 with e1 e2
      subst e1
      right
      simp [Value.ownBlock] at hj
      omega
theorem below_row {a b : World} (h : Below a.heap.size a b) (row : Option Nat) : a.grownBy b row := ⟨h.os, h.tape, h.output, h.size, fun k hk _ => h.block k hk⟩
theorem heap_setCell_mark {w : World} {g o : Nat} {v : Value} {cur : Array Value} {e : TypeId} {fz : Nat × Nat} (h : w.heap[g]? = some (.cells cur e fz)) : (w.setCell ⟨g, o, none⟩ v).heap[g]? = some (.cells (cur.setIfInBounds o v) e fz) := by
  simp [World.setCell, Array.getElem?_modify, h]
theorem setCells_mark {g : Nat} {e : TypeId} {fz : Nat × Nat} : ∀ (vs : List Value) (o : Nat) (w : World) (cur : Array Value), w.heap[g]? = some (.cells cur e fz) → o + vs.length ≤ cur.size →
    ∃ cur', (w.setCells g o vs).heap[g]? = some (.cells cur' e fz) ∧ cur'.size = cur.size ∧ cur'.toList.take (o + vs.length) = cur.toList.take o ++ vs ∧ FrameT (fun k => k = g) w (w.setCells g o vs)
  | [], o, w, cur, h, _ => ⟨cur, h, rfl, by simp, FrameT.refl _ _⟩
  | v :: r, o, w, cur, h, hl => by
    rw [List.length_cons] at hl
    obtain ⟨cur', h1, h2, h3, h4⟩ := setCells_mark r (o + 1) (w.setCell ⟨g, o, none⟩ v) (cur.setIfInBounds o v) (heap_setCell_mark h) (by rw [Array.size_setIfInBounds]; omega)
    refine ⟨cur', h1, by rw [h2, Array.size_setIfInBounds], ?_, (FrameT.setCell w g o v).trans h4⟩
    have ho : o < cur.toList.length := by rw [Array.length_toList]; omega
    rw [List.length_cons, show o + (r.length + 1) = o + 1 + r.length by omega, h3, Array.toList_setIfInBounds, List.take_succ_eq_append_getElem (by rw [List.length_set]; exact ho), List.getElem_set_self, List.take_set_of_le (Nat.le_refl _)]
    simp
theorem append_G {P : Program} (w : World) (base : Nat) (t u ty e : TypeId) (i : TypeInfo) (ht : P.underlying t = some (.slice e)) (hu : P.underlying u = some .string) (hi : P.info? e = some i) (hz : i.zero = some (.int .u8 0)) (hsize : i.size = 1) (hby : i.bytes = 1)
    (v : Value) (n : Nat) (xs : List Value) (hown : ownsG w base e 1 v n xs) (s : ByteArray) (h63 : n + s.size ≤ maxLen) (hbytes : n + s.size ≤ 140737488355328) (hbase : base ≤ w.heap.size) :
    ∃ v' w', (Builtin.append_ #[t, u] ty #[v, .string s]).run P w = .ok v' w' ∧ ownsG w' base e 1 v' (n + s.size) (xs ++ Lib.strCells s) ∧ w.grownBy w' v.ownBlock ∧ ∀ j, v'.ownBlock = some j → v.ownBlock = some j ∨ w.heap.size ≤ j := by
  have hxl : xs.length = n := by simpa using hown.1
  have hlen : (xs ++ Lib.strCells s).length = (n + s.size) * 1 := by rw [List.length_append, hxl, Lib.strCells_length, Nat.mul_one]
  rcases hown.2 with ⟨rfl, rfl⟩ | ⟨g, cap, cur, fz, rfl, hb, hg, hle, hcm, hcs, htk, hfz⟩
  · obtain ⟨v', w', h1, h2, h3, h4⟩ := append_str_block w base t u ty e i ht hu hi hz hsize hby (.slice none 0 0) 0 xs ⟨hown.1, .inl ⟨rfl, rfl⟩⟩ s h63 hbytes hbase
    exact ⟨v', w', h1, ownsG_of h2, h3, h4⟩
  · rcases hfz with rfl | hfz
    · obtain ⟨v', w', h1, h2, h3, h4⟩ := append_str_block w base t u ty e i ht hu hi hz hsize hby _ n xs ⟨hown.1, .inr ⟨g, cap, cur, rfl, hb, hg, hle, hcm, hcs, htk⟩⟩ s h63 hbytes hbase
      exact ⟨v', w', h1, ownsG_of h2, h3, h4⟩
    · have hcs' : cur.size = cap := by simpa using hcs
      by_cases hroom : n + s.size ≤ cap
      · have hcell : ∀ j, j < cur.size → (w.cell? ⟨g, j, none⟩).isSome = true := fun j hj => by rw [Lib.cell_of_heap hg]; simp [hj]
        have hfr : ∀ j, j < cur.size → w.frozen? ⟨g, j, none⟩ = false := fun j hj => by
          simp [World.frozen?, hg]; omega
        have hS := Src.ofString (P := P) w hu s
        rw [← hsize] at hS
        have hl := byteCells_length s
        have hr := run_append_room_src (P := P) w t u ty e i ht hi g 0 n cap (.string s) s.size (byteCells s) hS hroom (fun j hj => hcell _ (by rw [hsize]; omega)) (fun j hj => hfr _ (by rw [hsize]; omega))
        obtain ⟨cur', q1, q2, q3, q4⟩ := setCells_mark (byteCells s) (0 + n * i.size) w cur hg (by rw [hsize]; omega)
        refine ⟨_, _, hr, ⟨hlen, .inr ⟨g, cap, cur', fz, rfl, hb, q1, hroom, hcm, by rw [q2]; exact hcs, ?_, .inr (by rw [q2]; exact hfz)⟩⟩, ⟨q4.os, q4.tape, q4.output, q4.size, fun k hk hne => q4.block k hk (fun e => hne (by rw [e]; rfl))⟩, fun j hj => .inl hj⟩
        rw [hsize, hl, Nat.zero_add, Nat.mul_one] at q3
        rw [Nat.mul_one] at htk ⊢
        rw [q3, htk]; rfl
      · have hr := Lib.run_append_grow_string (P := P) w t u ty e i (.int .u8 0) ht hu hi hz ⟨g, 0, none⟩ n cap xs (by rw [hsize]; omega) (ownsG_cells hown (g := g) rfl) s (by omega) (by unfold maxLen at h63; omega) (growslice_fits (by omega) (by rw [hby]; omega))
        have hge := grownCap_ge w (n + s.size) cap e
        refine ⟨_, _, hr, ⟨hlen, .inr ⟨w.heap.size, _, _, (0, 0), rfl, hbase, World.alloc_heap_new w.drew _, hge, grownCap_le_maxLen w (n + s.size) cap e h63, ?_, ?_, .inl rfl⟩⟩, below_row ((Below.refl w.heap.size w).drew.alloc (Nat.le_refl _) _) _, fun j hj => .inr ?_⟩
        · have hz1 : (Value.int IntKind.u8 0).cells.size = 1 := rfl
          rw [Array.size_append, Array.size_append, size_zeroCells, hz1]
          simp only [List.size_toArray, hxl, Lib.strCells_length]
          omega
        · rw [Array.toList_append, Array.toList_append, ← hlen]
          exact List.take_left
        · obtain rfl : w.heap.size = j := by simpa [Value.ownBlock] using hj
          exact Nat.le_refl _
theorem wpList_append_str {P : Program} {w : World} {ops : Array Oper} {rest : List Oper} {o : Oper} {a : Act} {Q : Exit → Act → World → Prop} (hgd : o.guard = none) (sl x : Operand) (t u : TypeId)
    (ho : o.op = .call { callee := .builtin .append, args := #[sl, x], argTypes := #[t, u] })
    (base : Nat) (e : TypeId) (i : TypeInfo) (ht : P.underlying t = some (.slice e)) (hu : P.underlying u = some .string) (hi : P.info? e = some i) (hz : i.zero = some (.int .u8 0)) (hsize : i.size = 1) (hby : i.bytes = 1)
    (v : Value) (n : Nat) (xs : List Value) (hs : a.eval sl = v) (hown : ownsG w base e 1 v n xs) (s : ByteArray) (hx : a.eval x = .string s) (h63 : n + s.size ≤ maxLen) (hbytes : n + s.size ≤ 140737488355328) (hbase : base ≤ w.heap.size)
    (h : ∀ v' w', ownsG w' base e 1 v' (n + s.size) (xs ++ Lib.strCells s) → w.grownBy w' v.ownBlock → (∀ j, v'.ownBlock = some j → v.ownBlock = some j ∨ w.heap.size ≤ j) → wpList P ops Q rest (a.put o.dst v') w') : wpList P ops Q (o :: rest) a w := by
  refine wpList_plain hgd fun K hK => ?_
  obtain ⟨v', w', hr, h2, h3, h4⟩ := append_G (P := P) w base t u o.type e i ht hu hi hz hsize hby v n xs hown s h63 hbytes hbase
  unfold Oper.wp execOp
  simp only [ho, resolve, invoke, builtin, Sem.run_bind, Sem.run_pure, Result.andThen_ok, List.map_toArray, List.map_cons, List.map_nil, hs, hx, hr]
  exact hK _ _ (h v' w' h2 h3 h4)

def readB (D : PD) (s : ByteArray) : ByteArray := if askE D s = 0 then match getK PF.n D.L s with | some f => ⟨f.b.toArray⟩ | none => ⟨#[]⟩ else ⟨#[]⟩
set_option maxRecDepth 100000 in
theorem dread_any {W : World} {B d m : Nat} {D : PD} {F : List FileC} (h : HasDisk W B d m D F) (s : ByteArray) (hs : s.size ≤ maxLen) :
    Calls Try.prog 21 #[.pointer (some ⟨d, 0, none⟩), .string s] W fun e w' => e = .returned (.tuple #[.string (readB D s), .int .i64 (askE D s)]) ∧ w' = W := by
  have GA := Lib.hid (ask_any h s hs)
  obtain ⟨c0, c1, c2, c3, c4⟩ := cells5 h.cell
  by_cases ha : askE D s = 0
  · obtain ⟨ho, f, hg, hf, hn, hgd⟩ := ask_ok h ha
    have hrun := look_run h hs hg
    obtain ⟨hc, hrow, -⟩ := h.file f hf
    obtain ⟨a, cap, hv⟩ := own_sliceG hrow
    rw [hv] at hc hrow
    obtain ⟨k0, k1, k2, k3⟩ := cells2 hc
    have hcv := run_string_G (P := Try.prog) (src := 64) (dst := 9) Try.underlying64 Try.underlying5 Try.underlying9 hrow
    have HR := Lib.hid (show readB D s = ⟨f.b.toArray⟩ by unfold readB; rw [if_pos ha, hgd]; rfl)
    have HA := Lib.hid ha
    rw [ha] at GA
    clear h ha ho hg hf hn hgd hc hrow hv
    go_enter Try.func21, Try.ntmps21
    go_wp2_with (go_at_call 62; ((with_reducible refine GA.out.mono ?_); rintro e w1 ⟨rfl, rfl⟩))
    go_ret2
    rw [HA.out, HR.out]
    exact ⟨rfl, rfl⟩
  · have HE := Lib.hid (show readB D s = ⟨#[]⟩ by unfold readB; rw [if_neg ha])
    rcases askE_ne ha with h18 | h18
    all_goals
      have H18 := Lib.hid h18
      rw [h18] at GA
      clear h ha h18
      go_enter Try.func21, Try.ntmps21
      go_wp2_with (go_at_call 62; ((with_reducible refine GA.out.mono ?_); rintro e w1 ⟨rfl, rfl⟩))
      go_ret2
      rw [H18.out, HE.out]
      exact ⟨rfl, rfl⟩

end Go.Proofs.Ytieekahlknmkfaa
