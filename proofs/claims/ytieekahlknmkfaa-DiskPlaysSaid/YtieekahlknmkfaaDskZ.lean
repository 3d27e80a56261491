/- A disk in a world, and a row that lies elsewhere and stays. -/
import Derived.Test.YtieekahlknmkfaaKnown8
namespace Go.Proofs.Ytieekahlknmkfaa
open Go.RowKit Go.Shelf
set_option linter.unusedVariables false

theorem len_id8 (a : ByteArray) : a.data.toList.length = a.size := by rw [Array.length_toList]; rfl
theorem used1 (n : ByteArray) (b : List UInt8) (k : Nat) : usedL [⟨n, b, k⟩] = b.length := by simp [usedL]
def OneG (w : World) (d : Nat) (D : PD) (g : Nat) (W : World) : Prop := ∃ T, DkT W w.heap.size d D T ∧ Below w.heap.size w W ∧ ¬ T g ∧ g < W.heap.size
theorem OneG.of {w W W' : World} {d g : Nat} {D : PD} (h : One w d D W) (hB : Below W.heap.size W W') (hg : W.heap.size ≤ g) (hl : g < W'.heap.size) : OneG w d D g W' := by
  obtain ⟨T, h, hB0⟩ := h
  exact ⟨T, h.below hB, bel2 hB0 hB, fun ht => absurd (h.lt ht) (by omega), hl⟩
theorem OneG.below {w W W' : World} {d g : Nat} {D : PD} (h : OneG w d D g W) (hB : Below W.heap.size W W') : OneG w d D g W' ∧ W'.heap[g]? = W.heap[g]? := by
  obtain ⟨T, h, hB0, hT, hl⟩ := h
  exact ⟨⟨T, h.below hB, bel2 hB0 hB, hT, Nat.lt_of_lt_of_le hl hB.size⟩, hB.block g hl⟩
theorem OneG.one {w W : World} {d g : Nat} {D : PD} (h : OneG w d D g W) : One w d D W := by
  obtain ⟨T, h, hB, -, -⟩ := h; exact ⟨T, h, hB⟩
theorem OneG.op {w W W' : World} {d g : Nat} {D D' : PD} {T : Nat → Prop} (h : DkT W w.heap.size d D T) (hB : Below w.heap.size w W) (hT : ¬ T g) (hl : g < W.heap.size) (ho : OpT W w.heap.size d T D' W') : OneG w d D' g W' ∧ W'.heap[g]? = W.heap[g]? := by
  obtain ⟨T', h1, h2, h3⟩ := ho
  exact ⟨⟨T', h1, hB.trans (h2.toBelow hB.size fun k hk => h.ge hk), fun ht => (h3 g ht).elim hT (fun h => by omega), Nat.lt_of_lt_of_le hl h2.size⟩, h2.block g hl hT⟩
theorem appendG {w W : World} {d g n : Nat} {D : PD} (h : OneG w d D g W) (hf : Fit D n) (hn : n ≤ 1000000) (s b : ByteArray) (hs : s.size ≤ maxLen) (hb : b.size ≤ 1000000) :
    Calls Try.prog 25 #[.pointer (some ⟨d, 0, none⟩), .string s, .string b] W fun e w' => e = .returned (.int .i64 (appendE D s b)) ∧ OneG w d (appendD D s b) g w' ∧ w'.heap[g]? = W.heap[g]? := by
  obtain ⟨T, h, hB, hT, hl⟩ := h
  refine (appendT h hf hn s b hs hb).mono ?_
  rintro e w' ⟨rfl, ho⟩; exact ⟨rfl, OneG.op h hB hT hl ho⟩
theorem crashG {w W : World} {d g n : Nat} {D : PD} (h : OneG w d D g W) (hf : Fit D n) (keep : Nat) (hk : keep < 18446744073709551616) :
    Calls Try.prog 20 #[.pointer (some ⟨d, 0, none⟩), .int .u64 keep] W fun e w' => (∃ v, e = .returned v) ∧ OneG w d (crashD D keep) g w' ∧ w'.heap[g]? = W.heap[g]? := by
  obtain ⟨T, h, hB, hT, hl⟩ := h
  refine (crashT h hf keep hk).mono ?_
  rintro e w' ⟨he, ho⟩; exact ⟨he, OneG.op h hB hT hl ho⟩
theorem file_at {W : World} {g : Nat} {cur : Array Value} {f : PF} (h : W.heap[g]? = some (.cells cur 26 (0, 0))) (ht : cur.toList.take 3 = f.cells) : W.cell? ⟨g, 0, none⟩ = some (.string f.n) ∧ W.cell? ⟨g, 1, none⟩ = some (.string ⟨f.b.toArray⟩) ∧ W.cell? ⟨g, 2, none⟩ = some (.int .i64 f.k) := by
  have hc : ∀ i v, i < 3 → (cur.toList.take 3)[i]? = some v → W.cell? ⟨g, i, none⟩ = some v := fun i v hi hv => by
    refine (cell_of_row _ _ i _ _ _ h).trans ?_
    rw [List.getElem?_take_of_lt hi] at hv
    simpa using hv
  exact ⟨hc 0 _ (by omega) (by rw [ht]; rfl), hc 1 _ (by omega) (by rw [ht]; rfl), hc 2 _ (by omega) (by rw [ht]; rfl)⟩

end Go.Proofs.Ytieekahlknmkfaa
