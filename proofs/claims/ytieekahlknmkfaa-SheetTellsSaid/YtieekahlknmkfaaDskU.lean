/- The contracts of a disk's functions: Used, Read. -/
import Derived.Test.YtieekahlknmkfaaDskH
import Derived.Maps.RangeWalk
import Derived.StringKeys
namespace Go.Proofs.Ytieekahlknmkfaa
open Go.RowKit Go.Shelf
set_option linter.unusedVariables false
attribute [local go_sem] Oper.semAt_some wide_fn wide_round_fn

abbrev keyL (s : ByteArray) : Lit := .string s.data.toList
/-- One step of a loop over the files. -/
theorem next_files {W : World} {m r n cnt : Nat} {left : Lit → Bool} {F : List FileC} (h : W.ranges Try.prog 9 ptrElem m r n (dmap F) left cnt) (ty : TypeId) :
    (cnt = 0 ∧ (∀ kl, left kl = false) ∧ (Instr.next (.pointer (some ⟨r, 0, none⟩)) false ty).run Try.prog W = .ok (.tuple #[.bool false]) W) ∨
    ∃ f w' cnt', f ∈ F ∧ f.n.size ≤ maxLen ∧ left (keyL f.n) = true ∧ (Instr.next (.pointer (some ⟨r, 0, none⟩)) false ty).run Try.prog W = .ok (.tuple #[.bool true, .string f.n, .pointer (some ⟨f.fb, 0, none⟩)]) w' ∧
      w'.ranges Try.prog 9 ptrElem m r n (dmap F) (fun z => left z && !z.sameKey (keyL f.n)) cnt' ∧ cnt' < cnt ∧ W.grownBy w' (some r) ∧ w'.heap.size = W.heap.size ∧ (Instr.entry (.pointer (some ⟨r, 0, none⟩))).run Try.prog w' = .ok (.tuple #[.string f.n, .pointer (some ⟨f.fb, 0, none⟩)]) w' := by
  rcases h.next lawStr ty with h0 | ⟨key, v, kl, y, w', cnt', hkey, hlk, hv, hat, hrun, hrg, hlt, hgr, hsz, hen⟩
  · exact .inl h0
  · right
    obtain ⟨s, rfl, rfl, hs⟩ := Go.WideMaps.string_of_keyOf Try.underlying9 hkey
    have hg : ∃ f, getK FileC.n F s = some f := by
      cases e : getK FileC.n F s with
      | some f => exact ⟨f, rfl⟩
      | none =>
        have a1 := hat .nil
        have a2 := hat (.lit (.int .i64 0))
        rw [dmap_at, e] at a1 a2
        rw [← a1] at a2; cases a2
    obtain ⟨f, hg⟩ := hg
    obtain ⟨hf, rfl⟩ := getK_some hg
    have a1 : (DataW.lit (.int .i64 f.fb) : DataW Unit) = y.1 := by have := hat .nil; rw [dmap_at, hg] at this; exact this
    clear hat
    have hp : v = .pointer (some ⟨f.fb, 0, none⟩) := ptrElem_some (ps := y.2) (hv.trans (congrArg some (show y = (DataW.lit (.int .i64 f.fb), y.2) by rw [a1])))
    subst hp
    exact ⟨f, w', cnt', hf, hs, hlk, hrun, hrg, hlt, hgr, hsz, hen⟩
set_option maxRecDepth 100000 in
theorem wpList_next_files {w : World} {ops : Array Oper} {rest : List Oper} {o : Oper} {a : Act} {Q : Exit → Act → World → Prop} (hg : o.guard = none) (it : Operand) (hop : o.op = Op.next it false) {m r n cnt : Nat} {left : Lit → Bool} {F : List FileC}
    (hit : a.eval it = .pointer (some ⟨r, 0, none⟩)) (h : w.ranges Try.prog 9 ptrElem m r n (dmap F) left cnt)
    (hDone : cnt = 0 → (∀ kl, left kl = false) → wpList Try.prog ops Q rest (a.put o.dst (.tuple #[.bool false])) w)
    (hMore : ∀ (f : FileC) (w' : World) (cnt' : Nat), f ∈ F → f.n.size ≤ maxLen → left (keyL f.n) = true → w'.ranges Try.prog 9 ptrElem m r n (dmap F) (fun z => left z && !z.sameKey (keyL f.n)) cnt' → cnt' < cnt → w.grownBy w' (some r) → w'.heap.size = w.heap.size →
      (Instr.entry (.pointer (some ⟨r, 0, none⟩))).run Try.prog w' = .ok (.tuple #[.string f.n, .pointer (some ⟨f.fb, 0, none⟩)]) w' → wpList Try.prog ops Q rest (a.put o.dst (.tuple #[.bool true, .string f.n, .pointer (some ⟨f.fb, 0, none⟩)])) w') :
    wpList Try.prog ops Q (o :: rest) a w := by
  refine wpList_plain hg fun K' hK' => ?_
  unfold Oper.wp
  rcases next_files h o.type with ⟨h0, hl, hrun⟩ | ⟨f, w', cnt', hf, hs, hl, hrun, hrg, hlt, hgr, hsz, hen⟩
  · simp [execOp, hop, hit, hrun, Result.andThen]
    exact hK' _ _ (hDone h0 hl)
  · simp [execOp, hop, hit, hrun, Result.andThen]
    exact hK' _ _ (hMore f w' cnt' hf hs hl hrg hlt hgr hsz hen)
/-- How many bytes are still to come. -/
def leftSum (left : Lit → Bool) (F : List FileC) : Nat := ((F.filter fun f => left (keyL f.n)).map fun f => f.b.length).sum
theorem leftSum_all (F : List FileC) : leftSum (Maps.has (dmap F)) F = usedL (F.map FileC.core) := by
  unfold leftSum usedL
  rw [List.filter_eq_self.2 (fun f hf => by
    rw [dmap_has]
    cases e : getK FileC.n F f.n with
    | some _ => rfl
    | none => exact absurd rfl (getK_none e f hf)), List.map_map]
  rfl
theorem leftSum_none {left : Lit → Bool} {F : List FileC} (h : ∀ kl, left kl = false) : leftSum left F = 0 := by
  unfold leftSum
  rw [List.filter_eq_nil_iff.2 (fun f hf => by rw [h]; simp)]
  rfl
theorem leftSum_step {left : Lit → Bool} : ∀ {F : List FileC} {f : FileC}, F.Pairwise (fun f g => f.n ≠ g.n) → f ∈ F → left (keyL f.n) = true → leftSum left F = f.b.length + leftSum (fun z => left z && !z.sameKey (keyL f.n)) F
  | [], _, _, hf, _ => by cases hf
  | x :: r, f, hp, hf, hl => by
    obtain ⟨h1, h2⟩ := List.pairwise_cons.1 hp
    have hs : ∀ g : FileC, (left (keyL g.n) && !(keyL g.n).sameKey (keyL f.n)) = (left (keyL g.n) && !decide (g.n = f.n)) := fun g => by rw [same_name]
    have cons : ∀ (lf : Lit → Bool), leftSum lf (x :: r) = (if lf (keyL x.n) = true then x.b.length else 0) + leftSum lf r := fun lf => by
      unfold leftSum
      rw [List.filter_cons]
      split <;> simp
    rw [cons, cons]
    rw [hs x]
    rcases List.mem_cons.1 hf with rfl | hf
    · have e : leftSum (fun z => left z && !z.sameKey (keyL f.n)) r = leftSum left r := by
        unfold leftSum
        congr 2
        apply List.filter_congr
        intro g hg
        dsimp only
        rw [hs g, decide_eq_false (fun e => h1 g hg e.symm)]; simp
      rw [e, hl]
      simp
    · have hne : x.n ≠ f.n := h1 f hf
      rw [leftSum_step h2 hf hl, decide_eq_false hne]
      simp only [Bool.not_false, Bool.and_true]
      omega
set_option maxRecDepth 100000 in
set_option maxHeartbeats 1000000 in
theorem used_any {W : World} {B d m : Nat} {D : PD} {F : List FileC} (h : HasDisk W B d m D F) (hu : usedL D.L < 4611686018427387904) : Calls Try.prog 28 #[.pointer (some ⟨d, 0, none⟩)] W fun e w' => e = .returned (.int .i64 (usedL D.L)) ∧ Below W.heap.size W w' := by
  obtain ⟨c0, c1, c2, c3, c4⟩ := cells5 h.cell
  have hmap := h.map
  have HD := Lib.hid h
  have HU := Lib.hid hu
  have HL := Lib.hid (leftSum_all F)
  rw [h.core] at HL
  clear h hu
  go_enter Try.func28, Try.ntmps28
  go_wp2_with (at_range; refine wpList_range_own _ rfl _ 79 rfl 9 82 lawStr Try.underlying79 ptrElem m F.length (dmap F) rfl hmap ?_; intro w0 hrg0 hg0 hs0)
  go_frame
  go_loopw [3] (fun v wr => ∃ (left : Lit → Bool) (cnt acc : Nat), wr.ranges Try.prog 9 ptrElem m W.heap.size F.length (dmap F) left cnt ∧ v = .int .i64 acc ∧ acc + leftSum left F = usedL D.L ∧ Below W.heap.size W wr)
    (fun _ wr => wr.rangeLeft m W.heap.size)
  case atStart => exact ⟨_, _, 0, hrg0, rfl, by rw [HL.out]; omega, (Below.refl _ _).grown hg0 (by simp) (fun j hj => by cases hj)⟩
  case round =>
    obtain ⟨left, cnt, acc, hrg, rfl, ha, hB⟩ := hrel
    have HA := Lib.hid ha
    have HB := Lib.hid hB
    clear ha hB
    go_wp2_with (at_next; refine wpList_next_files rfl _ rfl rfl hrg ?_ ?_)
    · intro hc0 hl0
      have hz := leftSum_none (F := F) hl0
      have HE := Lib.hid (show acc = usedL D.L by have := HA.out; omega)
      clear hc0 hl0 hz
      go_wp2
      go_ret
      exact ⟨by rw [HE.out]; rfl, HB.out⟩
    · intro f w1 cnt1 hf hs hl hrg1 hlt hg1 hs1 hen
      have hB1 : Below W.heap.size W w1 := HB.out.grown hg1 HB.out.size (fun j hj => by cases hj; exact Nat.le_refl _)
      have hD1 := HD.out.below hB1
      have hst := leftSum_step HD.out.nms hf hl
      obtain ⟨hc, hrow, -⟩ := hD1.file f hf
      obtain ⟨a, cap, hv⟩ := own_sliceG hrow
      rw [hv] at hc
      obtain ⟨k0, k1, k2, k3⟩ := cells2 hc
      have HS := Lib.hid (show acc + f.b.length + leftSum (fun z => left z && !z.sameKey (keyL f.n)) F = usedL D.L by have := HA.out; omega)
      have hsum : (acc : Int) + (f.b.length : Int) < 4611686018427387904 := by have := HS.out; have := HU.out; omega
      have HR := Lib.hid hrg1
      have HM := Lib.hid (show w1.rangeLeft m W.heap.size < wr.rangeLeft m W.heap.size by rw [hrg1.left_eq, hrg.left_eq]; exact hlt)
      have HB1 := Lib.hid hB1
      clear hc hrow hst hD1 hB1 hg1 hs1 hrg1 hrg hlt hl hf hs
      go_wp2
      go_roundw
      case rel => exact ⟨_, cnt1, acc + f.b.length, HR.out, by push_cast; rfl, HS.out, HB1.out⟩
      case measure => exact HM.out

end Go.Proofs.Ytieekahlknmkfaa
