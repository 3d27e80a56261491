/- What the sixteenth layer's laws hold by themselves: the examples. -/
import Derived.Test.YtpdpdohkhiplpaaVictim
namespace Go.Proofs.Ytpdpdohkhiplpaa
open Go.RowKit Go.Shelf
set_option linter.unusedVariables false

theorem rowI_new (w : World) (zs : List Int) (n : Nat) (hn : zs.length = n) (hm : n ≤ maxLen) (hw : ∀ z ∈ zs, (Lit.int .i64 z).wf = true) (e : TypeId) (cs : Array Value) (hcs : cs.toList = intsV zs) : RowI .i64 (w.alloc (.cells cs e)) (some ⟨w.heap.size, 0, none⟩) n zs := by
  obtain ⟨h1, h2, h3⟩ := rowV_new w e cs n 1 (by rw [← hn, Nat.mul_one]; have := congrArg List.length hcs; simpa using this) hm
  refine ⟨hn, hm, hw, fun h0 => ?_⟩
  obtain ⟨b, off, e2, hb, hc⟩ := h3 h0
  refine ⟨b, off, e2, hb, fun i hi => ?_⟩
  have hl : i < cs.toList.length := by rw [hcs]; simpa using hi
  rw [hc i hl]
  simp only [hcs, List.getElem_map]

set_option maxRecDepth 100000 in
set_option maxHeartbeats 2000000 in
theorem victim_known (w : World) : Gives Try.prog 19 #[] w (.bool true) := by
  have P1 := Lib.hid (show ∀ W : World, Gives Try.prog 20 #[.slice (some ⟨W.heap.size, 0, none⟩) 2 2] (W.alloc (.cells #[.int .i64 3, .int .i64 4] 3)) (.tuple #[.int .i64 3, .bool true]) from fun W =>
    pick_some _ 2 2 3 [4] (by decide) (by decide) (by decide) _ (rowI_new W [3, 4] 2 rfl (by unfold maxLen; omega) (by decide) 3 _ rfl))
  have P2 := Lib.hid (show ∀ W : World, Gives Try.prog 20 #[.slice (some ⟨W.heap.size, 0, none⟩) 1 1] (W.alloc (.cells #[.int .i64 3] 3)) (.tuple #[.int .i64 0, .bool false]) from fun W =>
    pick_none _ 1 1 [3] (by decide) (by decide) _ (rowI_new W [3] 1 rfl (by unfold maxLen; omega) (by decide) 3 _ rfl))
  have S1 := Lib.hid (show ∀ W : World, GivesRow Try.prog 21 #[.slice (some ⟨W.heap.size, 0, none⟩) 2 2] (W.alloc (.cells #[.int .i64 3, .int .i64 4] 3)) 3 1 1 (intsV [3]) from fun W =>
    sealed_any _ 2 2 [3, 4] (by decide) (by decide) _ (rowI_new W [3, 4] 2 rfl (by unfold maxLen; omega) (by decide) 3 _ rfl))
  have R1 := Lib.hid (show ∀ W : World, Gives Try.prog 22 #[.slice (some ⟨W.heap.size, 0, none⟩) 3 3, .slice (some ⟨W.heap.size + 1, 0, none⟩) 1 1] ((W.alloc (.cells #[.int .i64 3, .int .i64 4, .int .i64 5] 3)).alloc (.cells #[.int .i64 0, .int .i64 0, .int .i64 4, .int .i64 0] 33)) (.int .i64 2) from fun W => by
    have h1 := rowI_new W [3, 4, 5] 3 rfl (by unfold maxLen; omega) (by decide) 3 #[.int .i64 3, .int .i64 4, .int .i64 5] rfl
    have h2 := rowV_new (W.alloc (.cells #[.int .i64 3, .int .i64 4, .int .i64 5] 3)) 33 #[.int .i64 0, .int .i64 0, .int .i64 4, .int .i64 0] 1 4 rfl (by unfold maxLen; omega)
    rw [World.size_alloc] at h2
    exact rounds_any [⟨0, 0, 4, 0⟩] [3, 4, 5] (by simp) _ _ 1 1 3 3 rfl (by decide) (by decide) (by decide) _ h2 (rowI_below h1 ((Below.refl _ _).alloc (Nat.le_refl _) _)))
  unfold Gives
  go_enter Try.func19, Try.ntmps19
  go_wp2_with (first
    | (go_at_call 20; ((with_reducible refine (P1.out _).mono ?_); rintro e w1 ⟨rfl, hB1⟩))
    | (go_at_call 20; ((with_reducible refine (P2.out _).mono ?_); rintro e w2 ⟨rfl, hB2⟩))
    | (go_at_call 21; ((with_reducible refine (S1.out _).mono ?_); rintro e w3 ⟨v, rfl, hown, hB3⟩; obtain ⟨a', c', rfl, hn', hrow⟩ := rowV_own hown))
    | (go_at_call 22; ((with_reducible refine (R1.out _).mono ?_); rintro e w4 ⟨rfl, hB4⟩)))
  go_ret
  exact ⟨rfl, bel2 (bel_alloc (bel_alloc (bel2 (bel_alloc (bel2 (bel_alloc (bel2 (bel_alloc (Below.refl _ _) _) hB1) _) hB2) _) hB3) _) _) hB4⟩

end Go.Proofs.Ytpdpdohkhiplpaa
