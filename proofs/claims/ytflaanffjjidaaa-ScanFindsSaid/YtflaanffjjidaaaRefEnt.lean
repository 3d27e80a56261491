/- The mathematics of the document's entries: what each entry has to be; it comes to the same as areEntries. -/
import Derived.Test.YtflaanffjjidaaaRefPart
import Derived.Test.YtflaanffjjidaaaPartFacts
namespace Go.Proofs.Ytflaanffjjidaaa
open Go.RowKit Go.Shelf
set_option linter.unusedVariables false
attribute [local go_sem] Oper.semAt_some wide_fn wide_round_fn

theorem steps_get : ∀ (l : List EntryC) (p : Option Int) (j : Nat), (stepsOf p l)[j]? = (l[j]?).map fun e => (e, match (if j = 0 then p else (l[j - 1]?).map (·.i)) with | none => (1 : Int) | some q => wrap64 (e.i - q))
  | [], p, j => by cases p <;> simp [stepsOf]
  | x :: r, p, 0 => by cases p <;> simp [stepsOf]
  | x :: r, p, j + 1 => by
    have h := steps_get r (some x.i) j
    have e1 : (stepsOf p (x :: r))[j + 1]? = (stepsOf (some x.i) r)[j]? := by cases p <;> simp [stepsOf]
    rw [e1, h, List.getElem?_cons_succ]
    cases j with
    | zero => simp
    | succ j => simp
/-- What the k-th entry has to be. -/
def okAt (m : Int) (l : List EntryC) (k : Nat) : Prop := ∀ e, l[k]? = some e → entryB e = true ∧ ∀ k' y, k = k' + 1 → l[k']? = some y → 1 ≤ wrap64 (e.i - y.i) ∧ wrap64 (e.i - y.i) ≤ m
theorem areB_ok {m : Int} (hm : 1 ≤ m) {l : List EntryC} : areB m l = true ↔ l.length ≤ 6 ∧ ∀ k, okAt m l k := by
  simp only [areB, Bool.and_eq_true, decide_eq_true_eq, List.all_eq_true]
  refine and_congr_right fun _ => ⟨fun h k e he => ?_, fun h x hx => ?_⟩
  · have hg := steps_get l none k
    rw [he] at hg
    have := h _ (List.mem_of_getElem? hg)
    simp only [stepB, Bool.and_eq_true] at this
    refine ⟨this.1, fun k' y hk hy => ?_⟩
    subst hk
    have h2 := this.2
    simp [hy] at h2
    exact wB_bd h2
  · obtain ⟨k, hk⟩ := List.getElem?_of_mem hx
    rw [steps_get] at hk
    cases he : l[k]? with
    | none => rw [he] at hk; cases hk
    | some e =>
      rw [he] at hk
      simp only [Option.map_some, Option.some.injEq] at hk
      subst hk
      obtain ⟨h1, h2⟩ := h k e he
      simp only [stepB, Bool.and_eq_true]
      refine ⟨h1, ?_⟩
      cases k with
      | zero => exact wB_iff.2 ⟨by simp, by simpa using hm⟩
      | succ k =>
        have hlt := (List.getElem?_eq_some_iff.1 he).1
        have hy : l[k]? = some l[k] := List.getElem?_eq_getElem (by omega)
        simp only [Nat.add_one_ne_zero, if_false, Nat.add_sub_cancel, hy, Option.map_some]
        exact wB_iff.2 (h2 k _ rfl hy)
def mostOf (close : Bool) : Int := if close then 1 else 1099511627776
theorem ok_step {close : Bool} {l : List EntryC} {k : Nat} (hk : k + 1 < l.length) (hx : entryB l[k + 1] = true) (hy : entryB l[k] = true) (h1 : l[k].i < l[k + 1].i) (h2 : close = true → l[k + 1].i = l[k].i + 1) : okAt (mostOf close) l (k + 1) := by
  intro e he
  obtain ⟨_, rfl⟩ := List.getElem?_eq_some_iff.1 he
  refine ⟨hx, fun k' y hkk hy' => ?_⟩
  obtain rfl : k = k' := by omega
  obtain ⟨_, rfl⟩ := List.getElem?_eq_some_iff.1 hy'
  have b1 := entryB_bd hx; have b2 := entryB_bd hy
  rw [IntWalk.wrap64_in _ (by omega)]
  unfold mostOf
  split
  · rename_i hc; have := h2 hc; omega
  · omega
theorem not_ok {close : Bool} {l : List EntryC} {k : Nat} (hk : k + 1 < l.length) (hx : entryB l[k + 1] = true) (hy : entryB l[k] = true) (h : l[k + 1].i ≤ l[k].i ∨ (close = true ∧ l[k + 1].i ≠ l[k].i + 1)) : ¬ okAt (mostOf close) l (k + 1) := by
  intro ho
  have h2 := (ho _ (List.getElem?_eq_getElem hk)).2 k _ rfl (List.getElem?_eq_getElem (by omega))
  have b1 := entryB_bd hx; have b2 := entryB_bd hy
  rw [IntWalk.wrap64_in _ (by omega)] at h2
  unfold mostOf at h2
  rcases h with h | ⟨rfl, h⟩
  · omega
  · rw [if_pos rfl] at h2; omega

end Go.Proofs.Ytflaanffjjidaaa
