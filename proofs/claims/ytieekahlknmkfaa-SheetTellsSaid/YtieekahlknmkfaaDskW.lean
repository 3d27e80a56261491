/- How many files and bytes a disk has behind each operation (plain lists). -/
import Derived.Test.YtieekahlknmkfaaDskV
namespace Go.Proofs.Ytieekahlknmkfaa
set_option linter.unusedVariables false

theorem del_len {α : Type} (nm : α → ByteArray) (F : List α) (s : ByteArray) : (delK nm F s).length ≤ F.length := List.length_filter_le _ _
theorem put_len {α : Type} (nm : α → ByteArray) (x : α) (F : List α) : (putK nm x F).length ≤ F.length + 1 := by
  unfold putK
  rw [insK_len]
  have := del_len nm F (nm x)
  omega
theorem turn_len (g : PF → PF) (L : List PF) (s : ByteArray) : (turnL g L s).length = L.length := by unfold turnL; simp
theorem used_cons (f : PF) (L : List PF) : usedL (f :: L) = f.b.length + usedL L := by simp [usedL]
theorem used_del : ∀ (L : List PF) (s : ByteArray), usedL (delK PF.n L s) ≤ usedL L
  | [], _ => Nat.le_refl _
  | f :: r, s => by
    have ih := used_del r s
    rw [used_cons]
    unfold delK at ih ⊢
    rw [List.filter_cons]
    split
    · rw [used_cons]; omega
    · omega
theorem used_ins (x : PF) : ∀ L : List PF, usedL (insK PF.n x L) = x.b.length + usedL L
  | [] => by simp [insK, usedL]
  | f :: r => by
    unfold insK
    split
    · rw [used_cons]
    · rw [used_cons, used_ins x r, used_cons]; omega
theorem used_put (x : PF) (L : List PF) : usedL (putK PF.n x L) ≤ usedL L + x.b.length := by
  unfold putK
  rw [used_ins]
  have := used_del L x.n
  omega
theorem used_turn {g : PF → PF} (hg : ∀ x, (g x).b.length ≤ x.b.length) : ∀ (L : List PF) (s : ByteArray), usedL (turnL g L s) ≤ usedL L
  | [], _ => Nat.le_refl _
  | f :: r, s => by
    have ih := used_turn hg r s
    show usedL ((if f.n = s then g f else f) :: turnL g r s) ≤ _
    rw [used_cons, used_cons]
    have := hg f
    split <;> omega
theorem turn_none {g : PF → PF} {L : List PF} {s : ByteArray} (h : ∀ f ∈ L, f.n ≠ s) : turnL g L s = L := by
  unfold turnL
  conv => rhs; rw [← List.map_id L]
  apply List.map_congr_left
  intro f hf
  rw [if_neg (h f hf)]; rfl
/-- Where names differ, one file alone turns. -/
theorem used_app {L : List PF} (h : L.Pairwise fun f g => f.n ≠ g.n) (s b : ByteArray) : usedL (turnL (appP b) L s) ≤ usedL L + b.size := by
  induction L with
  | nil => exact Nat.zero_le _
  | cons f r ih =>
    obtain ⟨h1, h2⟩ := List.pairwise_cons.1 h
    show usedL ((if f.n = s then appP b f else f) :: turnL (appP b) r s) ≤ _
    rw [used_cons, used_cons]
    by_cases e : f.n = s
    · rw [if_pos e, turn_none (fun g hg e2 => h1 g hg (e.trans e2.symm))]
      have : (appP b f).b.length = f.b.length + b.size := by
        show (f.b ++ b.data.toList).length = _
        rw [List.length_append, Array.length_toList]; rfl
      omega
    · rw [if_neg e]
      have := ih h2
      omega
theorem ris_names {L : List PF} (h : risN L) : L.Pairwise fun f g => f.n ≠ g.n := h.imp fun h => before_ne h

end Go.Proofs.Ytieekahlknmkfaa
