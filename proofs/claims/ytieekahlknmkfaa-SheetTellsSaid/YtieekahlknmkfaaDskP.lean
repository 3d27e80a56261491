/- The contract of slices.Clone at bytes that are owned. -/
import Derived.Test.YtieekahlknmkfaaDskL
import Derived.WalkSpells
namespace Go.Proofs.Ytieekahlknmkfaa
open Go.RowKit Go.Shelf
set_option linter.unusedVariables false
attribute [local go_sem] Oper.semAt_some wide_fn wide_round_fn

set_option maxRecDepth 100000 in
set_option maxHeartbeats 1000000 in
theorem clone_any {W : World} {B n : Nat} {v : Value} {b : List UInt8} (h : ownsG W B 5 1 v n (b.map vb)) (hn : n ≤ 1000000000) :
    Calls Try.prog 49 #[v] W fun e w' => ∃ v', e = .returned v' ∧ w'.ownsRow W.heap.size 5 1 v' n (b.map vb) ∧ Below W.heap.size W w' := by
  obtain ⟨i0, hi, hz0, hz1, hz2⟩ := info_parts (show (Try.prog.info? 5).map (fun i => (i.zero, i.size, i.bytes)) = some (some (.int .u8 0), 1, 1) by kernel_rfl)
  have hl : b.length = n := by have := h.1; simpa using this
  rcases h.2 with ⟨rfl, rfl⟩ | ⟨g, cap, cur, fz, rfl, hb, hg, hle, hcm, hcs, ht, hfz⟩
  · obtain rfl : b = [] := List.eq_nil_of_length_eq_zero hl
    have heq := fun (a : Option Addr) (k c : Nat) => Lib.run_eql_slice_nil W 64 5 a k c 0 0 Try.underlying64
    go_enter Try.func49, Try.ntmps49
    go_wp2
    exact bodyPost_ret (results_tmp rfl _ _ _) rfl ⟨_, rfl, World.ownsRow_nil _ _ _ _, Below.refl _ _⟩
  · have hcell : ∀ j u, (b.map vb)[j]? = some u → W.cell? ((⟨g, 0, none⟩ : Addr).add j) = some u := fun j u hu => ownsG_cells h (g := g) rfl j u hu
    have hA := bel_alloc (Below.refl W.heap.size W) (.cells #[] 5)
    have hcellA : ∀ j u, (b.map vb)[j]? = some u → (W.alloc (.cells #[] 5)).cell? ((⟨g, 0, none⟩ : Addr).add j) = some u := fun j u hu => ((hA.cell (p := (⟨g, 0, none⟩ : Addr).add j) (by rw [Addr.add_lit]; exact (Array.getElem?_eq_some_iff.1 hg).1)).trans (hcell j u hu))
    have hone : ∀ u ∈ b.map vb, u.oneCell' = true := fun u hu => by
      obtain ⟨c, _, rfl⟩ := List.mem_map.1 hu
      rfl
    have HA := Lib.hid hA
    have HEmp := Lib.hid (show (W.alloc (.cells #[] 5)).ownsRow W.heap.size 5 1 (.slice (some ⟨W.heap.size, 0, none⟩) 0 0) 0 [] from ⟨rfl, .inr ⟨W.heap.size, 0, #[], rfl, Nat.le_refl _, World.alloc_heap_new W _, Nat.le_refl _, Nat.zero_le _, rfl, rfl⟩⟩)
    have hml : (b.map vb).length = n * 1 := by simp; omega
    clear h hg ht hcs hcell hA hfz
    have heq := fun (a : Option Addr) (k c : Nat) => Lib.run_eql_slice_nil W 64 5 a k c 0 0 Try.underlying64
    go_enter Try.func49, Try.ntmps49
    go_wp2_with (at_builtin; refine wpList_append_own _ rfl _ _ 64 rfl W.heap.size 5 i0 (.int .u8 0) 1 1 Try.underlying64 hi hz0 hz1 hz2 rfl (by decide) _ _ _ rfl HEmp.out ⟨g, 0, none⟩ n cap (b.map vb) rfl hml hcellA hone (by unfold maxLen; omega) (by omega) (by simp) ?_; intro v' w2 hown' hgrow _)
    refine bodyPost_ret (results_tmp rfl _ _ _) rfl ⟨v', rfl, ?_, ?_⟩
    · rw [Nat.zero_add, List.nil_append] at hown'; exact hown'
    · exact HA.out.grown hgrow HA.out.size (fun j hj => by cases hj; exact Nat.le_refl _)

end Go.Proofs.Ytieekahlknmkfaa
