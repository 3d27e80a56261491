/- DskS, DskU, DskA, DskB, DskC, DskI: in one text. -/
import Derived.Test.YtoieacmipejfeaaGreatDoorDsk
import Derived.Maps.Ext
import Derived.Sort.KeysCollected
import Derived.Maps.RangeWalk
import Derived.StringKeys
import Derived.Lib.AppendStr
import Derived.Deep.AppendSrc
import Derived.Lib.FrozenHead
import Derived.Deep.RegionHeld3
import Derived.Deep.RegionLaw
import Derived.Test.YtoieacmipejfeaaGreatDoorIterK
import Derived.Test.YtoieacmipejfeaaGreatDoorKeys
/- A disk's names, sorted as its files stand. -/
namespace Go.Proofs.YtoieacmipejfeaaGreatDoor
open Go.RowKit Go.Shelf
set_option linter.unusedVariables false

theorem before_lt : ∀ a b : List UInt8, bytesBefore a b = true → a < b
  | [], [], h => by simp [bytesBefore] at h
  | [], b :: s, _ => by simp
  | a :: r, [], h => by simp [bytesBefore] at h
  | a :: r, b :: s, h => by
    simp only [bytesBefore, Bool.or_eq_true, decide_eq_true_eq, Bool.and_eq_true, beq_iff_eq] at h
    rw [List.cons_lt_cons_iff]
    rcases h with h | ⟨h1, h2⟩
    · exact .inl h
    · exact .inr ⟨h1, before_lt r s h2⟩
theorem HasDisk.rising {W : World} {B d m : Nat} {D : PD} {F : List FileC} (h : HasDisk W B d m D F) : (F.map fun f => f.n.data.toList).Pairwise (fun a b => leB a b = true) := by
  obtain ⟨es, he, hp, -⟩ := h.map.canon lawStr
  unfold dmap at he
  injection he with he
  subst he
  rw [List.pairwise_map] at hp ⊢
  refine hp.imp fun {f g} h => ?_
  simp only [leB, decide_eq_true_eq]
  exact List.le_of_lt (before_lt _ _ h)
theorem names_sorted {W : World} {B d m : Nat} {D : PD} {F : List FileC} (h : HasDisk W B d m D F) {ss : List (List UInt8)} (hp : ss.Perm (strKeys (dmap F))) : (ss.mergeSort (fun x y => decide (x ≤ y))).map encStr = F.map (fun f => Value.string f.n) ∧ ss.length = F.length := by
  have e : strKeys (dmap F) = F.map fun f => f.n.data.toList := by unfold dmap strKeys; dsimp only; rw [List.map_map]; rfl
  rw [e] at hp
  constructor
  · rw [show ss.mergeSort (fun x y => decide (x ≤ y)) = ss.mergeSort leB from rfl, mergeSort_of_perm hp, List.mergeSort_of_pairwise h.rising, List.map_map]
    apply List.map_congr_left
    intro f _
    show encStr f.n.data.toList = _
    simp [encStr]
  · rw [hp.length_eq, List.length_map]

end Go.Proofs.YtoieacmipejfeaaGreatDoor

/- The contracts of a disk's functions: Used, Read. -/
namespace Go.Proofs.YtoieacmipejfeaaGreatDoor
open Go.RowKit Go.Shelf
set_option linter.unusedVariables false
attribute [local go_sem] Oper.semAt_some wide_fn wide_round_fn

abbrev keyL (s : ByteArray) : Lit := .string s.data.toList
/-- One step of a loop over the files. -/
theorem next_files {W : World} {m r n cnt : Nat} {left : Lit → Bool} {F : List FileC} (h : W.ranges Tryz.prog 9 ptrElem m r n (dmap F) left cnt) (ty : TypeId) :
    (cnt = 0 ∧ (∀ kl, left kl = false) ∧ (Instr.next (.pointer (some ⟨r, 0, none⟩)) false ty).run Tryz.prog W = .ok (.tuple #[.bool false]) W) ∨
    ∃ f w' cnt', f ∈ F ∧ f.n.size ≤ maxLen ∧ left (keyL f.n) = true ∧ (Instr.next (.pointer (some ⟨r, 0, none⟩)) false ty).run Tryz.prog W = .ok (.tuple #[.bool true, .string f.n, .pointer (some ⟨f.fb, 0, none⟩)]) w' ∧
      w'.ranges Tryz.prog 9 ptrElem m r n (dmap F) (fun z => left z && !z.sameKey (keyL f.n)) cnt' ∧ cnt' < cnt ∧ W.grownBy w' (some r) ∧ w'.heap.size = W.heap.size ∧ (Instr.entry (.pointer (some ⟨r, 0, none⟩))).run Tryz.prog w' = .ok (.tuple #[.string f.n, .pointer (some ⟨f.fb, 0, none⟩)]) w' := by
  rcases h.next lawStr ty with h0 | ⟨key, v, kl, y, w', cnt', hkey, hlk, hv, hat, hrun, hrg, hlt, hgr, hsz, hen⟩
  · exact .inl h0
  · right
    obtain ⟨s, rfl, rfl, hs⟩ := Go.WideMaps.string_of_keyOf Tryz.underlying9 hkey
    have hg : ∃ f, getK FileC.n F s = some f := by
      cases e : getK FileC.n F s with
      | some f => exact ⟨f, rfl⟩
      | none =>
        have a1 := hat .nil
        have a2 := hat (.lit (.int .i64 0))
        rw [dmap_at, e] at a1 a2
        rw [← a1] at a2; cases a2
    obtain ⟨f, hg⟩ := hg
    obtain ⟨hf, rfl⟩ := getK_some hg
    have a1 : (DataW.lit (.int .i64 f.fb) : DataW Unit) = y.1 := by have := hat .nil; rw [dmap_at, hg] at this; exact this
    clear hat
    have hp : v = .pointer (some ⟨f.fb, 0, none⟩) := ptrElem_some (ps := y.2) (hv.trans (congrArg some (show y = (DataW.lit (.int .i64 f.fb), y.2) by rw [a1])))
    subst hp
    exact ⟨f, w', cnt', hf, hs, hlk, hrun, hrg, hlt, hgr, hsz, hen⟩
set_option maxRecDepth 100000 in
theorem wpList_next_files {w : World} {ops : Array Oper} {rest : List Oper} {o : Oper} {a : Act} {Q : Exit → Act → World → Prop} (hg : o.guard = none) (it : Operand) (hop : o.op = Op.next it false) {m r n cnt : Nat} {left : Lit → Bool} {F : List FileC}
    (hit : a.eval it = .pointer (some ⟨r, 0, none⟩)) (h : w.ranges Tryz.prog 9 ptrElem m r n (dmap F) left cnt)
    (hDone : cnt = 0 → (∀ kl, left kl = false) → wpList Tryz.prog ops Q rest (a.put o.dst (.tuple #[.bool false])) w)
    (hMore : ∀ (f : FileC) (w' : World) (cnt' : Nat), f ∈ F → f.n.size ≤ maxLen → left (keyL f.n) = true → w'.ranges Tryz.prog 9 ptrElem m r n (dmap F) (fun z => left z && !z.sameKey (keyL f.n)) cnt' → cnt' < cnt → w.grownBy w' (some r) → w'.heap.size = w.heap.size →
      (Instr.entry (.pointer (some ⟨r, 0, none⟩))).run Tryz.prog w' = .ok (.tuple #[.string f.n, .pointer (some ⟨f.fb, 0, none⟩)]) w' → wpList Tryz.prog ops Q rest (a.put o.dst (.tuple #[.bool true, .string f.n, .pointer (some ⟨f.fb, 0, none⟩)])) w') :
    wpList Tryz.prog ops Q (o :: rest) a w := by
  refine wpList_plain hg fun K' hK' => ?_
  unfold Oper.wp
  rcases next_files h o.type with ⟨h0, hl, hrun⟩ | ⟨f, w', cnt', hf, hs, hl, hrun, hrg, hlt, hgr, hsz, hen⟩
  · simp [execOp, hop, hit, hrun, Result.andThen]
    exact hK' _ _ (hDone h0 hl)
  · simp [execOp, hop, hit, hrun, Result.andThen]
    exact hK' _ _ (hMore f w' cnt' hf hs hl hrg hlt hgr hsz hen)
/-- How many bytes are still to come. -/
def leftSum (left : Lit → Bool) (F : List FileC) : Nat := ((F.filter fun f => left (keyL f.n)).map fun f => f.b.length).sum
theorem leftSum_all (F : List FileC) : leftSum (Maps.has (dmap F)) F = usedL (F.map FileC.core) := by
  unfold leftSum usedL
  rw [List.filter_eq_self.2 (fun f hf => by
    rw [dmap_has]
    cases e : getK FileC.n F f.n with
    | some _ => rfl
    | none => exact absurd rfl (getK_none e f hf)), List.map_map]
  rfl
theorem leftSum_none {left : Lit → Bool} {F : List FileC} (h : ∀ kl, left kl = false) : leftSum left F = 0 := by
  unfold leftSum
  rw [List.filter_eq_nil_iff.2 (fun f hf => by rw [h]; simp)]
  rfl
theorem leftSum_step {left : Lit → Bool} : ∀ {F : List FileC} {f : FileC}, F.Pairwise (fun f g => f.n ≠ g.n) → f ∈ F → left (keyL f.n) = true → leftSum left F = f.b.length + leftSum (fun z => left z && !z.sameKey (keyL f.n)) F
  | [], _, _, hf, _ => by cases hf
  | x :: r, f, hp, hf, hl => by
    obtain ⟨h1, h2⟩ := List.pairwise_cons.1 hp
    have hs : ∀ g : FileC, (left (keyL g.n) && !(keyL g.n).sameKey (keyL f.n)) = (left (keyL g.n) && !decide (g.n = f.n)) := fun g => by rw [same_name]
    have cons : ∀ (lf : Lit → Bool), leftSum lf (x :: r) = (if lf (keyL x.n) = true then x.b.length else 0) + leftSum lf r := fun lf => by
      unfold leftSum
      rw [List.filter_cons]
      split <;> simp
    rw [cons, cons]
    rw [hs x]
    rcases List.mem_cons.1 hf with rfl | hf
    · have e : leftSum (fun z => left z && !z.sameKey (keyL f.n)) r = leftSum left r := by
        unfold leftSum
        congr 2
        apply List.filter_congr
        intro g hg
        dsimp only
        rw [hs g, decide_eq_false (fun e => h1 g hg e.symm)]; simp
      rw [e, hl]
      simp
    · have hne : x.n ≠ f.n := h1 f hf
      rw [leftSum_step h2 hf hl, decide_eq_false hne]
      simp only [Bool.not_false, Bool.and_true]
      omega
set_option maxRecDepth 100000 in
set_option maxHeartbeats 1000000 in
theorem used_any {W : World} {B d m : Nat} {D : PD} {F : List FileC} (h : HasDisk W B d m D F) (hu : usedL D.L < 4611686018427387904) : Calls Tryz.prog 28 #[.pointer (some ⟨d, 0, none⟩)] W fun e w' => e = .returned (.int .i64 (usedL D.L)) ∧ Below W.heap.size W w' := by
  obtain ⟨c0, c1, c2, c3, c4⟩ := cells5 h.cell
  have hmap := h.map
  have HD := Lib.hid h
  have HU := Lib.hid hu
  have HL := Lib.hid (leftSum_all F)
  rw [h.core] at HL
  clear h hu
  go_enter Tryz.func28, Tryz.ntmps28
  go_wp2_with (at_range; refine wpList_range_own _ rfl _ 69 rfl 9 95 lawStr Tryz.underlying69 ptrElem m F.length (dmap F) rfl hmap ?_; intro w0 hrg0 hg0 hs0)
  go_frame
  go_loopw [3] (fun v wr => ∃ (left : Lit → Bool) (cnt acc : Nat), wr.ranges Tryz.prog 9 ptrElem m W.heap.size F.length (dmap F) left cnt ∧ v = .int .i64 acc ∧ acc + leftSum left F = usedL D.L ∧ Below W.heap.size W wr)
    (fun _ wr => wr.rangeLeft m W.heap.size)
  case atStart => exact ⟨_, _, 0, hrg0, rfl, by rw [HL.out]; omega, (Below.refl _ _).grown hg0 (by simp) (fun j hj => by cases hj)⟩
  case round =>
    obtain ⟨left, cnt, acc, hrg, rfl, ha, hB⟩ := hrel
    have HA := Lib.hid ha
    have HB := Lib.hid hB
    clear ha hB
    go_wp2_with (at_next; refine wpList_next_files rfl _ rfl rfl hrg ?_ ?_)
    · intro hc0 hl0
      have hz := leftSum_none (F := F) hl0
      have HE := Lib.hid (show acc = usedL D.L by have := HA.out; omega)
      clear hc0 hl0 hz
      go_wp2
      go_ret
      exact ⟨by rw [HE.out]; rfl, HB.out⟩
    · intro f w1 cnt1 hf hs hl hrg1 hlt hg1 hs1 hen
      have hB1 : Below W.heap.size W w1 := HB.out.grown hg1 HB.out.size (fun j hj => by cases hj; exact Nat.le_refl _)
      have hD1 := HD.out.below hB1
      have hst := leftSum_step HD.out.nms hf hl
      obtain ⟨hc, hrow, -⟩ := hD1.file f hf
      obtain ⟨a, cap, hv⟩ := own_sliceG hrow
      rw [hv] at hc
      obtain ⟨k0, k1, k2, k3⟩ := cells2 hc
      have HS := Lib.hid (show acc + f.b.length + leftSum (fun z => left z && !z.sameKey (keyL f.n)) F = usedL D.L by have := HA.out; omega)
      have hsum : (acc : Int) + (f.b.length : Int) < 4611686018427387904 := by have := HS.out; have := HU.out; omega
      have HR := Lib.hid hrg1
      have HM := Lib.hid (show w1.rangeLeft m W.heap.size < wr.rangeLeft m W.heap.size by rw [hrg1.left_eq, hrg.left_eq]; exact hlt)
      have HB1 := Lib.hid hB1
      clear hc hrow hst hD1 hB1 hg1 hs1 hrg1 hrg hlt hl hf hs
      go_wp2
      go_roundw
      case rel => exact ⟨_, cnt1, acc + f.b.length, HR.out, by push_cast; rfl, HS.out, HB1.out⟩
      case measure => exact HM.out

end Go.Proofs.YtoieacmipejfeaaGreatDoor

/- The contracts of a disk's functions: Read, Append. -/
namespace Go.Proofs.YtoieacmipejfeaaGreatDoor
open Go.RowKit Go.Shelf
set_option linter.unusedVariables false
attribute [local go_sem] Oper.semAt_some wide_fn wide_round_fn

/-- Appending a string to a row of bytes: which block it then lies in. -/
theorem append_str_block {P : Program} (w : World) (base : Nat) (t u ty e : TypeId) (i : TypeInfo) (ht : P.underlying t = some (.slice e)) (hu : P.underlying u = some .string) (hi : P.info? e = some i) (hz : i.zero = some (.int .u8 0)) (hsize : i.size = 1) (hby : i.bytes = 1)
    (v : Value) (n : Nat) (xs : List Value) (hown : w.ownsRow base e 1 v n xs) (s : ByteArray) (h63 : n + s.size ≤ maxLen) (hbytes : n + s.size ≤ 140737488355328) (hbase : base ≤ w.heap.size) :
    ∃ v' w', (Builtin.append_ #[t, u] ty #[v, .string s]).run P w = .ok v' w' ∧ w'.ownsRow base e 1 v' (n + s.size) (xs ++ Lib.strCells s) ∧ w.grownBy w' v.ownBlock ∧ ∀ j, v'.ownBlock = some j → v.ownBlock = some j ∨ w.heap.size ≤ j := by
  obtain ⟨v', w', hr, r1, r2, -⟩ := Lib.run_append_own_string (P := P) w base t u ty e i ht hu hi hz hsize hby v n xs hown s h63 hbytes hbase
  refine ⟨v', w', hr, r1, r2, fun j hj => ?_⟩
  have hxl : xs.length = n := by simpa using hown.1
  rcases hown.2 with ⟨rfl, rfl⟩ | ⟨g, cap, cur, rfl, _, hg, hle, hcm, hcs, htake⟩
  · obtain rfl : xs = [] := List.eq_nil_of_length_eq_zero hxl
    obtain ⟨v2, w2, hr2, q1, -⟩ := Lib.run_append_own_string (P := P) w w.heap.size t u ty e i ht hu hi hz hsize hby (.slice none 0 0) 0 [] (World.ownsRow_nil _ _ _ _) s h63 hbytes (Nat.le_refl _)
    rw [hr] at hr2
    injection hr2 with e1 e2
    subst e1 e2
    exact .inr (q1.lt j hj).1
  · by_cases hroom : n + s.size ≤ cap
    · have hr2 := Lib.run_append_room_string (P := P) w t u ty e i ht hu hi hsize g n cap cur hg s hroom (by simp at hcs; omega)
      rw [hr] at hr2
      injection hr2 with e1 e2
      subst e1
      exact .inl hj
    · have hr2 := Lib.run_append_grow_string (P := P) w t u ty e i _ ht hu hi hz ⟨g, 0, none⟩ n cap xs (by rw [hsize]; omega) (fun j u' hu' => hown.cells (g := g) rfl j u' hu') s (by omega) (by unfold maxLen at h63; omega) (growslice_fits (by omega) (by rw [hby]; omega))
      rw [hr] at hr2
      injection hr2 with e1 e2
      subst e1
      right
      simp [Value.ownBlock] at hj
      omega
theorem below_row {a b : World} (h : Below a.heap.size a b) (row : Option Nat) : a.grownBy b row := ⟨h.os, h.tape, h.output, h.size, fun k hk _ => h.block k hk⟩
theorem heap_setCell_mark {w : World} {g o : Nat} {v : Value} {cur : Array Value} {e : TypeId} {fz : Nat × Nat} (h : w.heap[g]? = some (.cells cur e fz)) : (w.setCell ⟨g, o, none⟩ v).heap[g]? = some (.cells (cur.setIfInBounds o v) e fz) := by
  simp [World.setCell, Array.getElem?_modify, h]
theorem setCells_mark {g : Nat} {e : TypeId} {fz : Nat × Nat} : ∀ (vs : List Value) (o : Nat) (w : World) (cur : Array Value), w.heap[g]? = some (.cells cur e fz) → o + vs.length ≤ cur.size →
    ∃ cur', (w.setCells g o vs).heap[g]? = some (.cells cur' e fz) ∧ cur'.size = cur.size ∧ cur'.toList.take (o + vs.length) = cur.toList.take o ++ vs ∧ FrameT (fun k => k = g) w (w.setCells g o vs)
  | [], o, w, cur, h, _ => ⟨cur, h, rfl, by simp, FrameT.refl _ _⟩
  | v :: r, o, w, cur, h, hl => by
    rw [List.length_cons] at hl
    obtain ⟨cur', h1, h2, h3, h4⟩ := setCells_mark r (o + 1) (w.setCell ⟨g, o, none⟩ v) (cur.setIfInBounds o v) (heap_setCell_mark h) (by rw [Array.size_setIfInBounds]; omega)
    refine ⟨cur', h1, by rw [h2, Array.size_setIfInBounds], ?_, (FrameT.setCell w g o v).trans h4⟩
    have ho : o < cur.toList.length := by rw [Array.length_toList]; omega
    rw [List.length_cons, show o + (r.length + 1) = o + 1 + r.length by omega, h3, Array.toList_setIfInBounds, List.take_succ_eq_append_getElem (by rw [List.length_set]; exact ho), List.getElem_set_self, List.take_set_of_le (Nat.le_refl _)]
    simp
theorem append_G {P : Program} (w : World) (base : Nat) (t u ty e : TypeId) (i : TypeInfo) (ht : P.underlying t = some (.slice e)) (hu : P.underlying u = some .string) (hi : P.info? e = some i) (hz : i.zero = some (.int .u8 0)) (hsize : i.size = 1) (hby : i.bytes = 1)
    (v : Value) (n : Nat) (xs : List Value) (hown : ownsG w base e 1 v n xs) (s : ByteArray) (h63 : n + s.size ≤ maxLen) (hbytes : n + s.size ≤ 140737488355328) (hbase : base ≤ w.heap.size) :
    ∃ v' w', (Builtin.append_ #[t, u] ty #[v, .string s]).run P w = .ok v' w' ∧ ownsG w' base e 1 v' (n + s.size) (xs ++ Lib.strCells s) ∧ w.grownBy w' v.ownBlock ∧ ∀ j, v'.ownBlock = some j → v.ownBlock = some j ∨ w.heap.size ≤ j := by
  have hxl : xs.length = n := by simpa using hown.1
  have hlen : (xs ++ Lib.strCells s).length = (n + s.size) * 1 := by rw [List.length_append, hxl, Lib.strCells_length, Nat.mul_one]
  rcases hown.2 with ⟨rfl, rfl⟩ | ⟨g, cap, cur, fz, rfl, hb, hg, hle, hcm, hcs, htk, hfz⟩
  · obtain ⟨v', w', h1, h2, h3, h4⟩ := append_str_block w base t u ty e i ht hu hi hz hsize hby (.slice none 0 0) 0 xs ⟨hown.1, .inl ⟨rfl, rfl⟩⟩ s h63 hbytes hbase
    exact ⟨v', w', h1, ownsG_of h2, h3, h4⟩
  · rcases hfz with rfl | hfz
    · obtain ⟨v', w', h1, h2, h3, h4⟩ := append_str_block w base t u ty e i ht hu hi hz hsize hby _ n xs ⟨hown.1, .inr ⟨g, cap, cur, rfl, hb, hg, hle, hcm, hcs, htk⟩⟩ s h63 hbytes hbase
      exact ⟨v', w', h1, ownsG_of h2, h3, h4⟩
    · have hcs' : cur.size = cap := by simpa using hcs
      by_cases hroom : n + s.size ≤ cap
      · have hcell : ∀ j, j < cur.size → (w.cell? ⟨g, j, none⟩).isSome = true := fun j hj => by rw [Lib.cell_of_heap hg]; simp [hj]
        have hfr : ∀ j, j < cur.size → w.frozen? ⟨g, j, none⟩ = false := fun j hj => by
          simp [World.frozen?, hg]; omega
        have hS := Src.ofString (P := P) w hu s
        rw [← hsize] at hS
        have hl := byteCells_length s
        have hr := run_append_room_src (P := P) w t u ty e i ht hi g 0 n cap (.string s) s.size (byteCells s) hS hroom (fun j hj => hcell _ (by rw [hsize]; omega)) (fun j hj => hfr _ (by rw [hsize]; omega))
        obtain ⟨cur', q1, q2, q3, q4⟩ := setCells_mark (byteCells s) (0 + n * i.size) w cur hg (by rw [hsize]; omega)
        refine ⟨_, _, hr, ⟨hlen, .inr ⟨g, cap, cur', fz, rfl, hb, q1, hroom, hcm, by rw [q2]; exact hcs, ?_, .inr (by rw [q2]; exact hfz)⟩⟩, ⟨q4.os, q4.tape, q4.output, q4.size, fun k hk hne => q4.block k hk (fun e => hne (by rw [e]; rfl))⟩, fun j hj => .inl hj⟩
        rw [hsize, hl, Nat.zero_add, Nat.mul_one] at q3
        rw [Nat.mul_one] at htk ⊢
        rw [q3, htk]; rfl
      · have hr := Lib.run_append_grow_string (P := P) w t u ty e i (.int .u8 0) ht hu hi hz ⟨g, 0, none⟩ n cap xs (by rw [hsize]; omega) (ownsG_cells hown (g := g) rfl) s (by omega) (by unfold maxLen at h63; omega) (growslice_fits (by omega) (by rw [hby]; omega))
        have hge := grownCap_ge w (n + s.size) cap e
        refine ⟨_, _, hr, ⟨hlen, .inr ⟨w.heap.size, _, _, (0, 0), rfl, hbase, World.alloc_heap_new w.drew _, hge, grownCap_le_maxLen w (n + s.size) cap e h63, ?_, ?_, .inl rfl⟩⟩, below_row ((Below.refl w.heap.size w).drew.alloc (Nat.le_refl _) _) _, fun j hj => .inr ?_⟩
        · have hz1 : (Value.int IntKind.u8 0).cells.size = 1 := rfl
          rw [Array.size_append, Array.size_append, size_zeroCells, hz1]
          simp only [List.size_toArray, hxl, Lib.strCells_length]
          omega
        · rw [Array.toList_append, Array.toList_append, ← hlen]
          exact List.take_left
        · obtain rfl : w.heap.size = j := by simpa [Value.ownBlock] using hj
          exact Nat.le_refl _
theorem wpList_append_str {P : Program} {w : World} {ops : Array Oper} {rest : List Oper} {o : Oper} {a : Act} {Q : Exit → Act → World → Prop} (hgd : o.guard = none) (sl x : Operand) (t u : TypeId)
    (ho : o.op = .call { callee := .builtin .append, args := #[sl, x], argTypes := #[t, u] })
    (base : Nat) (e : TypeId) (i : TypeInfo) (ht : P.underlying t = some (.slice e)) (hu : P.underlying u = some .string) (hi : P.info? e = some i) (hz : i.zero = some (.int .u8 0)) (hsize : i.size = 1) (hby : i.bytes = 1)
    (v : Value) (n : Nat) (xs : List Value) (hs : a.eval sl = v) (hown : ownsG w base e 1 v n xs) (s : ByteArray) (hx : a.eval x = .string s) (h63 : n + s.size ≤ maxLen) (hbytes : n + s.size ≤ 140737488355328) (hbase : base ≤ w.heap.size)
    (h : ∀ v' w', ownsG w' base e 1 v' (n + s.size) (xs ++ Lib.strCells s) → w.grownBy w' v.ownBlock → (∀ j, v'.ownBlock = some j → v.ownBlock = some j ∨ w.heap.size ≤ j) → wpList P ops Q rest (a.put o.dst v') w') : wpList P ops Q (o :: rest) a w := by
  refine wpList_plain hgd fun K hK => ?_
  obtain ⟨v', w', hr, h2, h3, h4⟩ := append_G (P := P) w base t u o.type e i ht hu hi hz hsize hby v n xs hown s h63 hbytes hbase
  unfold Oper.wp execOp
  simp only [ho, resolve, invoke, builtin, Sem.run_bind, Sem.run_pure, Result.andThen_ok, List.map_toArray, List.map_cons, List.map_nil, hs, hx, hr]
  exact hK _ _ (h v' w' h2 h3 h4)

def readB (D : PD) (s : ByteArray) : ByteArray := if askE D s = 0 then match getK PF.n D.L s with | some f => ⟨f.b.toArray⟩ | none => ⟨#[]⟩ else ⟨#[]⟩
set_option maxRecDepth 100000 in
theorem dread_any {W : World} {B d m : Nat} {D : PD} {F : List FileC} (h : HasDisk W B d m D F) (s : ByteArray) (hs : s.size ≤ maxLen) :
    Calls Tryz.prog 25 #[.pointer (some ⟨d, 0, none⟩), .string s] W fun e w' => e = .returned (.tuple #[.string (readB D s), .int .i64 (askE D s)]) ∧ w' = W := by
  have GA := Lib.hid (ask_any h s hs)
  obtain ⟨c0, c1, c2, c3, c4⟩ := cells5 h.cell
  by_cases ha : askE D s = 0
  · obtain ⟨ho, f, hg, hf, hn, hgd⟩ := ask_ok h ha
    have hrun := look_run h hs hg
    obtain ⟨hc, hrow, -⟩ := h.file f hf
    obtain ⟨a, cap, hv⟩ := own_sliceG hrow
    rw [hv] at hc hrow
    obtain ⟨k0, k1, k2, k3⟩ := cells2 hc
    have hcv := run_string_G (P := Tryz.prog) (src := 55) (dst := 9) Tryz.underlying55 Tryz.underlying5 Tryz.underlying9 hrow
    have HR := Lib.hid (show readB D s = ⟨f.b.toArray⟩ by unfold readB; rw [if_pos ha, hgd]; rfl)
    have HA := Lib.hid ha
    rw [ha] at GA
    clear h ha ho hg hf hn hgd hc hrow hv
    go_enter Tryz.func25, Tryz.ntmps25
    go_wp2_with (go_at_call 51; ((with_reducible refine GA.out.mono ?_); rintro e w1 ⟨rfl, rfl⟩))
    go_ret2
    rw [HA.out, HR.out]
    exact ⟨rfl, rfl⟩
  · have HE := Lib.hid (show readB D s = ⟨#[]⟩ by unfold readB; rw [if_neg ha])
    rcases askE_ne ha with h18 | h18
    all_goals
      have H18 := Lib.hid h18
      rw [h18] at GA
      clear h ha h18
      go_enter Tryz.func25, Tryz.ntmps25
      go_wp2_with (go_at_call 51; ((with_reducible refine GA.out.mono ?_); rintro e w1 ⟨rfl, rfl⟩))
      go_ret2
      rw [H18.out, HE.out]
      exact ⟨rfl, rfl⟩

end Go.Proofs.YtoieacmipejfeaaGreatDoor

/- The contract of a disk's Append. -/
namespace Go.Proofs.YtoieacmipejfeaaGreatDoor
open Go.RowKit Go.Shelf
set_option linter.unusedVariables false
attribute [local go_sem] Oper.semAt_some wide_fn wide_round_fn

def appP (s : ByteArray) (x : PF) : PF := ⟨x.n, x.b ++ s.data.toList, x.k⟩
def appendE (D : PD) (s b : ByteArray) : Int := if askE D s ≠ 0 then askE D s else if D.room < usedL D.L + b.size then 17 else 0
def appendD (D : PD) (s b : ByteArray) : PD := if appendE D s b = 0 then doneD { D with L := turnL (appP b) D.L s } else D
theorem appC {W w1 : World} {B d m : Nat} {D : PD} {F : List FileC} (h : HasDisk W B d m D F) {s : ByteArray} {f : FileC} (hf : f ∈ F) (v' : Value) (hown : ownsG w1 B 5 1 v' (f.b.length + s.size) (f.b.map vb ++ Lib.strCells s)) (hG : W.grownBy w1 f.v.ownBlock) (hb : ∀ j, v'.ownBlock = some j → f.v.ownBlock = some j ∨ W.heap.size ≤ j) :
    HasDisk (w1.setCell ⟨f.fb, 0, none⟩ v') B d m { D with L := turnL (appP s) D.L f.n } (setK FileC.n ⟨f.n, f.fb, v', f.b ++ s.data.toList, f.k⟩ F) ∧ FrameT (fun k => k = f.fb ∨ f.v.ownBlock = some k) W (w1.setCell ⟨f.fb, 0, none⟩ v') := by
  obtain ⟨h1, h2, h3⟩ := h.file f hf
  have hlt := h.lt (k := f.fb) (.inr (.inr ⟨f, hf, .inl rfl⟩))
  have hne := h.apart.2.2 f hf f hf
  have h1' : w1.heap[f.fb]? = some (.cells #[f.v, .int .i64 f.k] 97 (0, 0)) := (hG.block _ hlt (fun e => hne e.symm)).trans h1
  have hF : FrameT (fun k => k = f.fb ∨ f.v.ownBlock = some k) W (w1.setCell ⟨f.fb, 0, none⟩ v') := ((frame_grown hG).mono fun k hk => .inr hk.symm).trans ((FrameT.setCell w1 f.fb 0 v').mono fun k hk => .inl hk)
  have hlen : (f.b ++ s.data.toList).length = f.b.length + s.size := by rw [List.length_append, Array.length_toList]; rfl
  have hmap : (f.b ++ s.data.toList).map vb = f.b.map vb ++ Lib.strCells s := by rw [List.map_append]; rfl
  have hnb : ∀ j, v'.ownBlock = some j → j ≠ f.fb := fun j hj e => by
    rcases hb j hj with e1 | e1
    · exact hne (e1.trans (by rw [e]))
    · omega
  have := h.set hf ⟨f.n, f.fb, v', f.b ++ s.data.toList, f.k⟩ rfl rfl ⟨by dsimp only; rw [heap_setCell_same _ _ _ _ _ _ h1']; rfl, by dsimp only; rw [hlen, hmap]; exact ownsG_frame hown (FrameT.setCell w1 f.fb 0 v') hnb, by dsimp only; rw [hlen]; omega⟩ hb hF
  have e := set_turn h hf (appP s) rfl
  refine ⟨?_, hF⟩
  rw [← e]
  exact this
theorem opD_from {W W1 W2 : World} {B d m : Nat} {F : List FileC} {D' : PD} (hB : Below W.heap.size W W1) (h : OpD W1 B d m F D' W2) : OpD W B d m F D' W2 := by
  obtain ⟨F', h1, h2, h3⟩ := h
  refine ⟨F', h1, ((FrameT.below (T := fun _ => False) hB).mono (fun _ h => False.elim h)).trans h2, fun k hk => ?_⟩
  rcases h3 k hk with h4 | h4
  · exact .inl h4
  · exact .inr (Nat.le_trans hB.size h4)
theorem app_file {W w1 : World} {B d m : Nat} {D : PD} {F : List FileC} (h : HasDisk W B d m D F) {f : FileC} (hf : f ∈ F) (hG : W.grownBy w1 f.v.ownBlock) : w1.heap[f.fb]? = some (.cells #[f.v, .int .i64 f.k] 97 (0, 0)) :=
  (hG.block _ (h.lt (k := f.fb) (.inr (.inr ⟨f, hf, .inl rfl⟩))) (fun e => h.apart.2.2 f hf f hf e.symm)).trans (h.file f hf).1
set_option maxRecDepth 100000 in
set_option maxHeartbeats 1000000 in
theorem append_any {W : World} {B d m : Nat} {D : PD} {F : List FileC} (h : HasDisk W B d m D F) (s b : ByteArray) (hs : s.size ≤ maxLen) (hb : b.size ≤ 1000000) (hu : usedL D.L ≤ 1000000000) (hro : D.room ≤ 1000000) (hst : D.steps < 4611686018427387904) (hle : D.left < 9223372036854775808) (hBW : B ≤ W.heap.size) :
    Calls Tryz.prog 30 #[.pointer (some ⟨d, 0, none⟩), .string s, .string b] W fun e w' => e = .returned (.int .i64 (appendE D s b)) ∧ OpD W B d m F (appendD D s b) w' := by
  have GA := Lib.hid (ask_any h s hs)
  obtain ⟨c0, c1, c2, c3, c4⟩ := cells5 h.cell
  have HD := Lib.hid h
  have hbd : Below W.heap.size W W.drew := (Below.refl _ _).drew
  have GU := Lib.hid (used_any (h.below hbd) (by omega))
  have hu1 : (usedL D.L : Int) ≤ 1000000000 := by omega
  have hb1 : (b.size : Int) ≤ 1000000 := by omega
  have hw : IntKind.i64.wrap ((usedL D.L : Int) + (b.size : Int)) = (usedL D.L : Int) + (b.size : Int) := IntWalk.i64_in _ (by omega)
  obtain ⟨i0, hi, hz0, hz1, hz2⟩ := info_parts (show (Tryz.prog.info? 5).map (fun i => (i.zero, i.size, i.bytes)) = some (some (.int .u8 0), 1, 1) by kernel_rfl)
  by_cases ha : askE D s = 0
  · by_cases hr : D.room < usedL D.L + b.size
    · have HE := Lib.hid (show appendE D s b = 17 by unfold appendE; rw [if_neg (by rw [ha]; decide), if_pos hr])
      have hri : (D.room : Int) < (usedL D.L : Int) + (b.size : Int) := by omega
      rw [ha] at GA
      clear h ha hr hu hro hb hbd
      go_enter Tryz.func30, Tryz.ntmps30
      go_wp2_with (go_at_call 51; ((with_reducible refine GA.out.mono ?_); rintro e w1 ⟨rfl, rfl⟩))
      go_region_held3 (fun W' => W'.cell? ⟨d, 1, none⟩ = some (.int .i64 D.room)) (go_keep) (first
        | (go_at_call 28; (with_reducible refine GU.out.mono ?_); rintro e w4 ⟨rfl, hX⟩; have c1' : w4.cell? ⟨d, 1, none⟩ = some (.int .i64 D.room) := (cells5 ((HD.out.below (Below.refl _ _).drew).below hX).cell).2.1))
      have HX := Lib.hid (show Below w1.heap.size w1 w4 from bel2 (Below.refl _ _).drew hX)
      clear hX c0 c1 c2 c3 c4 c1'
      go_wp2
      go_ret
      unfold appendD
      rw [HE.out, if_neg (by decide)]
      exact ⟨rfl, F, HD.out.below HX.out, (FrameT.below (T := fun _ => False) HX.out).mono (fun _ h => False.elim h), fun k hk => .inl hk⟩
    · obtain ⟨ho, f, hg, hf, hn, hgd⟩ := ask_ok h ha
      have HE := Lib.hid (show appendE D s b = 0 by unfold appendE; rw [if_neg (by rw [ha]; decide), if_neg hr])
      have hri : (usedL D.L : Int) + (b.size : Int) ≤ (D.room : Int) := by omega
      have hfl : f.b.length ≤ usedL D.L := by rw [← h.core]; exact used_mem (f := f.core) (List.mem_map.2 ⟨f, hf, rfl⟩)
      have HB := Lib.hid (show f.b.length + b.size ≤ maxLen ∧ f.b.length + b.size ≤ 140737488355328 by unfold maxLen; omega)
      have HG := Lib.hid hg
      have HF := Lib.hid hf
      have HN := Lib.hid hn
      have GD := Lib.hid (fun (w1 : World) (F' : List FileC) (hH : HasDisk w1 B d m { D with L := turnL (appP b) D.L f.n } F') => done_any hH (show offB { D with L := turnL (appP b) D.L f.n } = false from ho) hst hle)
      rw [ha] at GA
      clear h ha hr hu hro hb hbd ho hg hf hn hgd hfl
      go_enter Tryz.func30, Tryz.ntmps30
      go_wp2_with (go_at_call 51; ((with_reducible refine GA.out.mono ?_); rintro e w1 ⟨rfl, rfl⟩))
      go_region_held3 (fun W' => W'.cell? ⟨d, 1, none⟩ = some (.int .i64 D.room)) (go_keep) (first
        | (go_at_call 28; (with_reducible refine GU.out.mono ?_); rintro e w4 ⟨rfl, hX⟩; have c1' : w4.cell? ⟨d, 1, none⟩ = some (.int .i64 D.room) := (cells5 ((HD.out.below (Below.refl _ _).drew).below hX).cell).2.1))
      have HX := Lib.hid (show Below w1.heap.size w1 w4 from bel2 (Below.refl _ _).drew hX)
      have hD4 := HD.out.below HX.out
      have HD4 := Lib.hid hD4
      clear hX c0 c1 c2 c3 c4 c1'
      obtain ⟨c0, c1, c2, c3, c4⟩ := cells5 hD4.cell
      have hrun := look_run hD4 hs HG.out
      obtain ⟨hc, hrow, hk⟩ := hD4.file f HF.out
      obtain ⟨a, cap, hv⟩ := own_sliceG hrow
      have HV := Lib.hid hv
      rw [hv] at hc
      obtain ⟨k0, k1, k2, k3⟩ := cells2 hc
      have HR := Lib.hid hrow
      have hBW4 : B ≤ w4.heap.size := Nat.le_trans hBW HX.out.size
      have HBW := Lib.hid hBW4
      clear hc hrow hv hk hD4 hBW4
      go_wp2_with (at_builtin; refine wpList_append_str rfl _ _ 55 9 rfl B 5 i0 Tryz.underlying55 Tryz.underlying9 hi hz0 hz1 hz2 (.slice a f.b.length cap) f.b.length (f.b.map vb) rfl (by rw [← HV.out]; exact HR.out) b rfl HB.out.1 HB.out.2 HBW.out ?_; intro v' w5 hown5 hgrow5 hblk5; rw [← HV.out] at hgrow5 hblk5; have HC := Lib.hid (appC HD4.out HF.out v' hown5 hgrow5 hblk5); have h5 := app_file HD4.out HF.out hgrow5; rw [HV.out] at h5; obtain ⟨a5, cap5, rfl⟩ := own_sliceG hown5; obtain ⟨q0, q1, q2, q3⟩ := cells2 h5; clear h5 k0 k1 k2 k3)
      go_wp2_with (go_at_call 56; ((with_reducible refine (GD.out _ _ HC.out.1).mono ?_); rintro e w6 ⟨rfl, hD6, hF6⟩))
      go_ret
      have hcd : appendD D s b = doneD { D with L := turnL (appP b) D.L f.n } := by unfold appendD; rw [HE.out, if_pos rfl, HN.out]
      rw [HE.out, hcd]
      refine ⟨rfl, opD_from HX.out ?_⟩
      exact opD_set (x := ⟨f.n, f.fb, _, f.b ++ b.data.toList, f.k⟩) HF.out rfl hblk5 HC.out.2 hF6 _ hD6
  · have HE := Lib.hid (show appendE D s b = askE D s by unfold appendE; rw [if_pos ha])
    have HC := Lib.hid (show appendD D s b = D by unfold appendD; rw [HE.out, if_neg ha])
    rcases askE_ne ha with h18 | h18
    all_goals
      have H18 := Lib.hid h18
      rw [h18] at GA
      clear h ha h18
      go_enter Tryz.func30, Tryz.ntmps30
      go_wp2_with (go_at_call 51; ((with_reducible refine GA.out.mono ?_); rintro e w1 ⟨rfl, rfl⟩))
      go_ret
      rw [HE.out, H18.out, HC.out]
      exact ⟨rfl, OpD.refl HD.out⟩

end Go.Proofs.YtoieacmipejfeaaGreatDoor

/- The contract of a disk's Cut. -/
namespace Go.Proofs.YtoieacmipejfeaaGreatDoor
open Go.RowKit Go.Shelf
set_option linter.unusedVariables false
attribute [local go_sem] Oper.semAt_some wide_fn wide_round_fn

theorem ownsG_cut {W : World} {B : Nat} {e : TypeId} {a : Option Addr} {n cap : Nat} {b : List UInt8} (h : ownsG W B e 1 (.slice a n cap) n (b.map vb)) {k : Nat} (hk : k ≤ n) : ownsG W B e 1 (.slice a k cap) k ((b.take k).map vb) := by
  have hl : b.length = n := by have := h.1; simpa using this
  refine ⟨by simp; omega, ?_⟩
  rcases h.2 with ⟨hv, h0⟩ | ⟨g, cap', cur, fz, hv, hb, hg, hle, hcm, hcs, ht, hfz⟩
  · left
    cases hv
    obtain rfl : k = 0 := by omega
    exact ⟨rfl, rfl⟩
  · right
    cases hv
    refine ⟨g, cap, cur, fz, rfl, hb, hg, by omega, hcm, hcs, ?_, hfz⟩
    rw [List.map_take, ← ht, List.take_take]; congr 1; omega
theorem ownBlock_len {a : Option Addr} {n k cap cap' : Nat} : (Value.slice a k cap).ownBlock = (Value.slice a n cap').ownBlock := by cases a <;> rfl
def cutK (n : Int) (l : Nat) : Nat := (min (max n 0) (l : Int)).toNat
def cutP (n : Int) (x : PF) : PF := ⟨x.n, x.b.take (cutK n x.b.length), cutK n x.b.length⟩
def cut1 (n : Int) (x : PF) : PF := ⟨x.n, x.b.take (cutK n x.b.length), min x.k (cutK n x.b.length)⟩
theorem cutK_le (n : Int) (l : Nat) : cutK n l ≤ l := by unfold cutK; omega
def cutD (D : PD) (s : ByteArray) (n : Int) : PD := if askE D s = 0 then doneD { D with L := turnL (cutP n) D.L s } else D
def cutW (W : World) (fb : Nat) (a : Option Addr) (k cap : Nat) : World := (W.setCell ⟨fb, 0, none⟩ (.slice a k cap)).drew.setCell ⟨fb, 1, none⟩ (.int .i64 k)
theorem cutKeep {W : World} {fb : Nat} {a : Option Addr} {len cap q k : Nat} (hc : W.heap[fb]? = some (.cells #[.slice a len cap, .int .i64 q] 97 (0, 0))) : Calls Tryz.prog 50 #[.pointer (some ⟨fb, 0, none⟩)] (W.setCell ⟨fb, 0, none⟩ (.slice a k cap)).drew fun e w' => (∃ v, e = .returned v) ∧ w' = cutW W fb a k cap :=
  keep_any (k := q) (show (W.setCell ⟨fb, 0, none⟩ (.slice a k cap)).heap[fb]? = _ by rw [heap_setCell_same _ _ _ _ _ _ hc]; rfl)
theorem cutC {W : World} {B d m : Nat} {D : PD} {F : List FileC} (h : HasDisk W B d m D F) {f : FileC} (hf : f ∈ F) {a : Option Addr} {cap : Nat} (hv : f.v = .slice a f.b.length cap) {n : Int} {k : Nat} (hk : k = cutK n f.b.length) :
    HasDisk (cutW W f.fb a k cap) B d m { D with L := turnL (cutP n) D.L f.n } (setK FileC.n ⟨f.n, f.fb, .slice a k cap, f.b.take k, k⟩ F) ∧ FrameT (fun k => k = f.fb ∨ f.v.ownBlock = some k) W (cutW W f.fb a k cap) := by
  obtain ⟨h1, h2, h3⟩ := h.file f hf
  have hne := h.apart.2.2 f hf f hf
  have hkl : k ≤ f.b.length := by rw [hk]; exact cutK_le _ _
  have hF1 : FrameT (fun k => k = f.fb) W (cutW W f.fb a k cap) := (FrameT.setCell W f.fb 0 (.slice a k cap)).drew.trans (FrameT.setCell _ f.fb 1 (.int .i64 k))
  have hF := hF1.mono (U := fun k => k = f.fb ∨ f.v.ownBlock = some k) fun k hk => .inl hk
  have hg : (cutW W f.fb a k cap).heap[f.fb]? = some (.cells #[.slice a k cap, .int .i64 k] 97 (0, 0)) := by
    unfold cutW
    rw [heap_setCell_same (W.setCell ⟨f.fb, 0, none⟩ (.slice a k cap)).drew _ _ _ _ _ (show (W.setCell ⟨f.fb, 0, none⟩ (.slice a k cap)).heap[f.fb]? = _ from heap_setCell_same _ _ _ _ _ _ h1)]
    rfl
  rw [hv] at h2
  have hr := ownsG_frame (ownsG_cut h2 hkl) hF1 (fun j hj e => hne (by rw [hv, ← e]; exact ownBlock_len.trans hj))
  have hl : (f.b.take k).length = k := by rw [List.length_take]; omega
  have := h.set hf ⟨f.n, f.fb, .slice a k cap, f.b.take k, k⟩ rfl rfl ⟨hg, by dsimp only; rw [hl]; exact hr, by dsimp only; rw [hl]; exact Nat.le_refl _⟩ (fun j hj => .inl (by rw [hv]; exact ownBlock_len.trans hj)) hF
  have e := set_turn h hf (cutP n) rfl
  refine ⟨?_, hF⟩
  rw [← e, show cutP n f.core = FileC.core ⟨f.n, f.fb, .slice a k cap, f.b.take k, k⟩ by subst hk; rfl]
  exact this
end Go.Proofs.YtoieacmipejfeaaGreatDoor

/- The files of a disk, handed out in the order of their names. -/
namespace Go.Proofs.YtoieacmipejfeaaGreatDoor
open Go.RowKit Go.Shelf
set_option linter.unusedVariables false
attribute [local go_sem] Oper.semAt_some wide_fn wide_round_fn

def FileC.val (f : FileC) : Array Value := #[.string f.n, .pointer (some ⟨f.fb, 0, none⟩)]
theorem ownsMap_rd {B : Nat} {S : Nat → Prop} {W W' : World} {P : Program} {k : TypeId} {R : Value → Option (DataW Unit × List MemPlace)} {b n : Nat} {D : DataW Unit} (h : W.ownsMap P k R b n D) (hR : Rd B S W W') (hS : S b) : W'.ownsMap P k R b n D := by
  obtain ⟨es, clock, h1, r⟩ := h
  exact ⟨es, clock, hR.block _ _ h1 (.inl hS), r⟩
theorem look_map {W : World} {m n : Nat} {F : List FileC} (h : W.ownsMap Tryz.prog 9 ptrElem m n (dmap F)) {s : ByteArray} (hs : s.size ≤ maxLen) {f : FileC} (hf : getK FileC.n F s = some f) :
    (Instr.lookup 69 (.map (some m)) (.string s) false).run Tryz.prog W = .ok (.pointer (some ⟨f.fb, 0, none⟩)) W := by
  obtain ⟨v, ps, hrun, hv⟩ := h.lookup lawStr Tryz.underlying69 (zeroPtr W) (zd := .nil) (zp := []) rfl (Go.WideMaps.keyOf_string_mk Tryz.underlying9 hs)
  rw [dmap_at, hf] at hv
  rw [ptrElem_some hv] at hrun
  exact hrun
theorem getK_self {F : List FileC} (hp : F.Pairwise fun f g => f.n ≠ g.n) {f : FileC} (hf : f ∈ F) : getK FileC.n F f.n = some f := by
  cases e : getK FileC.n F f.n with
  | none => exact absurd rfl (getK_none e f hf)
  | some g =>
    obtain ⟨hg, hn⟩ := getK_some e
    rcases pairwise_get (fun e => Ne.symm e) hp hg hf with e1 | e1
    · rw [e1]
    · exact absurd hn e1
theorem HasDisk.names {W : World} {B d m : Nat} {D : PD} {F : List FileC} (h : HasDisk W B d m D F) {f : FileC} (hf : f ∈ F) : f.n.size ≤ maxLen := by
  obtain ⟨es, he, hk⟩ := h.map.keysOf
  unfold dmap at he
  injection he with he
  subst he
  obtain ⟨v, hv⟩ := hk (fent f) (List.mem_map.2 ⟨f, hf, rfl⟩)
  obtain ⟨x, rfl, e, hx⟩ := Maps.keyOf_str Tryz.underlying9 hv
  have e2 : f.n.data.toList = x := by have e' : Lit.string f.n.data.toList = Lit.string x := e; injection e'
  rw [← e2, Array.length_toList] at hx
  exact hx
theorem row_str {W : World} {B : Nat} {e : TypeId} {n : Nat} {v : Value} {F : List FileC} (h : W.ownsRow B e 1 v n (F.map fun f => Value.string f.n)) {k : Nat} (hk : k < F.length) : ∃ g cap, v = .slice (some ⟨g, 0, none⟩) n cap ∧ B ≤ g ∧ g < W.heap.size ∧ W.cell? ⟨g, k, none⟩ = some (.string F[k].n) := by
  have hl : F.length = n := by have := h.1; simpa using this
  rcases h.2 with ⟨hv, h0⟩ | ⟨g, cap, cur, hv, hb, hg, hle, hcm, hcs, ht⟩
  · omega
  · refine ⟨g, cap, hv, hb, (Array.getElem?_eq_some_iff.1 hg).1, ?_⟩
    rw [Lib.cell_of_heap hg]
    have : (cur.toList.take (n * 1))[k]? = some (.string F[k].n) := by rw [ht]; simp [hk]
    rw [List.getElem?_take] at this
    split at this
    · simpa [Array.getElem?_toList] using this
    · cases this
set_option maxRecDepth 100000 in
set_option maxHeartbeats 1000000 in
theorem order_iter {W0 : World} {B d m : Nat} {D : PD} {F : List FileC} (h : HasDisk W0 B d m D F) (hF : F.length ≤ 1000000) (Bd : Nat) (S V : Nat → Prop) (w0 : World) (hw : Below W0.heap.size W0 w0)
    (hb : w0.cell? ⟨Bd, 0, none⟩ = some (.pointer (some ⟨d, 0, none⟩))) (hS : S Bd ∧ S d ∧ S m) (hV : ¬ V Bd ∧ ¬ V d ∧ ¬ V m) (hVl : ∀ k, V k → k < w0.heap.size) (hbl : Bd < w0.heap.size) :
    IterV Tryz.prog 66 #[.pointer (some ⟨Bd, 0, none⟩)] FileC.val F S V w0 := by
  intro l J Jx W hW hlw hlW hJs _ hY h0
  have hmW := ownsMap_rd (ownsMap_frame h.map (FrameT.below (T := fun _ => False) hw) id) hW hS.2.2
  have hdW := hW.block _ _ ((FrameT.below (T := fun _ => False) hw).get h.cell id) (.inl hS.2.1)
  have c0 : W.cell? ⟨d, 0, none⟩ = some (.map (some m)) := (cells5 hdW).1
  have cb := hW.cell hb hS.1
  have hsize : Maps.size (dmap F) ≤ maxLen ∧ Maps.size (dmap F) * 16 ≤ 140737488355328 := by rw [dmap_size]; unfold maxLen; omega
  have HSz := Lib.hid hsize
  have HN := Lib.hid (fun ss hp => names_sorted h (ss := ss) hp)
  have HMW := Lib.hid hmW
  have hdl := h.lt (k := d) (.inl rfl)
  have hml := h.lt (k := m) (.inr (.inl rfl))
  have hw0 := hw.size
  have hWs := hW.size
  have HL := Lib.hid (And.intro hdl (And.intro hml (And.intro hbl (And.intro hw0 (And.intro hWs (And.intro hlw hlW))))))
  have HSelf := Lib.hid (fun f (hf : f ∈ F) => (And.intro (getK_self h.nms hf) (h.names hf)))
  have HC0 := Lib.hid c0
  have HCB := Lib.hid cb
  clear hsize hmW hdW hdl hml hbl hw0 hWs
  have hfK : Fence.wide.fn 68 := trivial
  have hfS : Fence.wide.fn 67 := trivial
  refine callsIn_of_wp Tryz.func66 rfl trivial ?_ rfl
  simp only [Tryz.ntmps66, List.size_toArray, List.length_cons, List.length_nil, Nat.reduceAdd, Nat.reduceSub, Array.replicate_succ, Array.replicate_zero, List.push_toArray, List.append_toArray, List.nil_append, List.cons_append]
  gi_wp2_with (first
    | (gi_at_call 68; refine (callsIn_wide_n (Tryz.maps_Keys_68 _ _)).mono ?_; rintro e w' ⟨rfl, rfl⟩)
    | (gi_at_call 67; refine (callsIn_wide_n (Tryz.slices_Sorted_keys_67_68 m F.length (dmap F) ptrElem W HMW.out HSz.out.1 HSz.out.2)).mono ?_; rintro e w5 ⟨v, ss, rfl, hSs, hrow, -, hb5⟩; rw [(HN.out ss hSs).1, (HN.out ss hSs).2] at hrow; obtain ⟨a5, cap5, rfl⟩ := own_slice hrow))
  have hz5 := hb5.size
  rw [World.size_alloc] at hz5
  have hbW5 : Below W.heap.size W w5 := bel2 (bel_alloc (Below.refl _ _) _) hb5
  have H0 := Lib.hid (h0 w5 hbW5)
  have HB5 := Lib.hid hbW5
  have HZ := Lib.hid hz5
  have HR := Lib.hid hrow
  clear hrow hb5 hbW5 hz5 c0 cb h0 hSs
  gi_loopw [12] (fun q wr => ∃ k : Nat, k ≤ F.length ∧ q = .int .i64 k ∧ J w5.heap.size (F.take k) wr ∧ Rd W.heap.size (fun k => (k < w5.heap.size ∧ ¬ V k) ∧ k ≠ l) w5 wr) (fun q _ => F.length - (intOf q).toNat)
  case atStart => exact ⟨0, by omega, rfl, H0.out, Rd.refl _ _ _⟩
  case round =>
    obtain ⟨k, hk, rfl, hJ, hR⟩ := hrel
    obtain ⟨l1, l2, l3, l4, l5, l6, l7⟩ := HL.out
    have z5 := HZ.out
    have old : ∀ x, x < w0.heap.size → ¬ V x → ((x < w5.heap.size ∧ ¬ V x) ∧ x ≠ l) := fun x hx hv => ⟨⟨by omega, hv⟩, by omega⟩
    have hm := ownsMap_rd (ownsMap_frame HMW.out (FrameT.below (T := fun _ => False) HB5.out) id) hR (old m (by omega) hV.2.2)
    have c0 : wr.cell? ⟨d, 0, none⟩ = some (.map (some m)) := hR.cell ((FrameT.below (T := fun _ => False) HB5.out).cell HC0.out id) (old d (by omega) hV.2.1)
    have cb : wr.cell? ⟨Bd, 0, none⟩ = some (.pointer (some ⟨d, 0, none⟩)) := hR.cell ((FrameT.below (T := fun _ => False) HB5.out).cell HCB.out id) (old Bd (by omega) hV.1)
    by_cases hlt : k < F.length
    · obtain ⟨g, cap, hv, hg1, hg2, hcg⟩ := row_str HR.out hlt
      rw [World.size_alloc] at hg1
      cases hv
      have hcg' := hR.cell hcg ⟨⟨hg2, fun hv => by have := hVl g hv; omega⟩, (show g ≠ l by omega)⟩
      obtain ⟨hs1, hs2⟩ := HSelf.out F[k] (List.getElem_mem hlt)
      have hrun := look_map hm hs2 hs1
      have HX := Lib.hid (show F = F.take k ++ F[k] :: F.drop (k + 1) by rw [List.getElem_cons_drop hlt, List.take_append_drop])
      have HT := Lib.hid (show F.take (k + 1) = F.take k ++ [F[k]] from List.take_succ_eq_append_getElem hlt)
      have hlti : (k : Int) < (F.length : Int) := by omega
      obtain ⟨fn, tmps, assign, body, hy, hR1⟩ := hY w5.heap.size (F.take k) F[k] (F.drop (k + 1)) wr (by omega) HX.out hJ
      dsimp only [FileC.val] at hy
      generalize F[k] = f at *
      clear hm hs1 hs2 old hg1 hg2 hcg
      gi_wp2
      refine (roundIn_wide_n hR1).mono ?_
      rintro e W3 (⟨rfl, hJ3, hk3⟩ | ⟨rfl, hJx3⟩)
      · clear hrun c0 cb hcg' hy hR1
        gi_wp2
        go_roundw
        case rel => exact ⟨k + 1, by omega, by go_num, by rw [HT.out]; exact hJ3, hR.trans hk3⟩
        case measure => simp [intOf]; omega
      · clear hrun c0 cb hcg' hy hR1
        gi_wp2
        refine bodyPost_ret (results_none rfl _ _ _) rfl ?_
        exact ⟨⟨_, rfl⟩, .inr ⟨_, _, _, HX.out, hJx3⟩⟩
    · obtain rfl : k = F.length := by omega
      rw [List.take_of_length_le (by omega)] at hJ
      clear hm c0 cb old
      gi_wp2
      refine bodyPost_end (results_none rfl _ _ _) rfl ?_
      exact ⟨⟨_, rfl⟩, .inl ⟨_, by omega, hJ⟩⟩

end Go.Proofs.YtoieacmipejfeaaGreatDoor
