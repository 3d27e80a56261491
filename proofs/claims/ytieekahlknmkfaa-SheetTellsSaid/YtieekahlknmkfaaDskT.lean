/- What '[]byte(s)' lays, as a row that may be a file's. -/
import Derived.Test.YtieekahlknmkfaaDskQ
import Derived.Laws.IdiomStrings
namespace Go.Proofs.Ytieekahlknmkfaa
open Go.RowKit Go.Shelf
set_option linter.unusedVariables false

theorem bytes_G (W : World) (s : ByteArray) (hs : s.size ≤ maxLen) : ∃ cap w4, (convert 9 64 (.string s)).run Try.prog W = .ok (.slice (some ⟨W.heap.size, 0, none⟩) s.size cap) w4 ∧ Below W.heap.size W w4 ∧ ownsG w4 W.heap.size 5 1 (.slice (some ⟨W.heap.size, 0, none⟩) s.size cap) s.size (s.data.toList.map vb) := by
  refine ⟨_, _, run_bytes_of_string W 9 64 5 s Try.underlying9 Try.underlying64 Try.underlying5, (Below.refl _ W).drew.alloc (Nat.le_refl _) _, ?_⟩
  have hge := grownCap_ge W s.size 0 5
  have hle := grownCap_le_maxLen W s.size 0 5 hs
  have hsz : s.data.size = s.size := rfl
  have hb : (bytesRow s (grownCap W s.size 0 5)).size = grownCap W s.size 0 5 := by
    unfold bytesRow
    rw [Array.size_append, Array.size_map, Array.size_replicate]; omega
  refine ⟨by simp [hsz], .inr ⟨W.heap.size, _, bytesRow s (grownCap W s.size 0 5), ((bytesRow s (grownCap W s.size 0 5)).size, (bytesRow s (grownCap W s.size 0 5)).size + 1), rfl, Nat.le_refl _, ?_, hge, hle, by rw [hb, Nat.mul_one], ?_, .inr (Nat.le_refl _)⟩⟩
  · show (W.heap.push _)[W.heap.size]? = _
    simp
  · unfold bytesRow
    rw [Array.toList_append, Array.toList_map, Nat.mul_one]
    have e : (s.data.toList.map fun b => Value.int .u8 b.toNat).length = s.size := by simp [hsz]
    rw [← e]
    exact List.take_left

end Go.Proofs.Ytieekahlknmkfaa
