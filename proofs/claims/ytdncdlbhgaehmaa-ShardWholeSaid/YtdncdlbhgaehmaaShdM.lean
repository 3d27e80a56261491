/- What all shards have, counted; in what order. -/
import Derived.Test.YtdncdlbhgaehmaaShd
namespace Go.Proofs.Ytdncdlbhgaehmaa
open Go.RowKit Go.Shelf
set_option linter.unusedVariables false

def cntC (l : List FC) : Nat := (l.map fun x => x.ps.length).sum
def shSum (f : Nat → Nat) : Nat → Nat
  | 0 => 0
  | K + 1 => shSum f K + f K
theorem shSum_congr {f g : Nat → Nat} : ∀ {K : Nat}, (∀ i, i < K → f i = g i) → shSum f K = shSum g K
  | 0, _ => rfl
  | K + 1, h => by rw [shSum, shSum, shSum_congr (fun i hi => h i (by omega)), h K (by omega)]
theorem shSum_add (f g : Nat → Nat) : ∀ K, shSum (fun i => f i + g i) K = shSum f K + shSum g K
  | 0 => rfl
  | K + 1 => by simp only [shSum, shSum_add f g K]; omega
theorem shSum_zero : ∀ K, shSum (fun _ => 0) K = 0
  | 0 => rfl
  | K + 1 => by rw [shSum, shSum_zero K]
theorem shSum_one {j : Nat} : ∀ {K : Nat}, j < K → shSum (fun i => if i = j then 1 else 0) K = 1
  | 0, h => absurd h (Nat.not_lt_zero _)
  | K + 1, h => by
    rw [shSum]
    by_cases e : K = j
    · subst e
      rw [shSum_congr (g := fun _ => 0) (fun i hi => if_neg (by omega)), shSum_zero, if_pos rfl]
    · rw [shSum_one (by omega), if_neg e]
theorem own_sum {n : Int} {K : Nat} (hK : heldI n = (K : Int)) : ∀ ps : List ReadC, shSum (fun s => (ownC (s : Int) n ps).length) K = ps.length
  | [] => (shSum_congr (g := fun _ => 0) (fun i _ => rfl)).trans (shSum_zero K)
  | p :: ps => by
    have hb := shOf_bd p.g n
    obtain ⟨j, hj⟩ : ∃ j : Nat, shOf p.g n = (j : Int) := ⟨(shOf p.g n).toNat, by omega⟩
    have e : ∀ i, i < K → (ownC (i : Int) n (p :: ps)).length = (if i = j then 1 else 0) + (ownC (i : Int) n ps).length := fun i _ => by
      unfold ownC
      by_cases h : i = j
      · subst h
        rw [List.filter_cons_of_pos (by simpa using hj), if_pos rfl, List.length_cons]; omega
      · rw [List.filter_cons_of_neg (by simp only [decide_eq_true_eq]; rw [hj]; omega), if_neg h, Nat.zero_add]
    rw [shSum_congr e, shSum_add, shSum_one (by omega), own_sum hK ps, List.length_cons]
    omega
theorem cnt_split_cons (s n : Int) (x : FC) (l : List FC) : cntC (splitC s n (x :: l)) = (ownC s n x.ps).length + cntC (splitC s n l) := by
  unfold splitC cntC
  rw [List.map_cons]
  by_cases h : (ownC s n x.ps).isEmpty = true
  · rw [List.filter_cons_of_neg (by show ¬ (!(ownC s n x.ps).isEmpty) = true; rw [h]; simp)]
    have : (ownC s n x.ps).length = 0 := by rw [List.isEmpty_iff] at h; rw [h]; rfl
    omega
  · rw [List.filter_cons_of_pos (by show (!(ownC s n x.ps).isEmpty) = true; simpa using h), List.map_cons, List.sum_cons]
    rfl
theorem split_sum {n : Int} {K : Nat} (hK : heldI n = (K : Int)) : ∀ l : List FC, shSum (fun s => cntC (splitC (s : Int) n l)) K = cntC l
  | [] => (shSum_congr (g := fun _ => 0) (fun i _ => rfl)).trans (shSum_zero K)
  | x :: l => by
    rw [shSum_congr (fun i _ => cnt_split_cons (i : Int) n x l), shSum_add, own_sum hK, split_sum hK l]
    rfl
theorem shSum_le {f : Nat → Nat} : ∀ {K k : Nat}, k ≤ K → shSum f k ≤ shSum f K
  | 0, k, h => by rw [Nat.le_zero.1 h]; exact Nat.le_refl _
  | K + 1, k, h => by
    by_cases e : k = K + 1
    · rw [e]; exact Nat.le_refl _
    · exact Nat.le_trans (shSum_le (K := K) (by omega)) (by rw [shSum]; omega)
theorem cnt_take_le (l : List FC) : ∀ j, cntC (l.take j) ≤ cntC l := fun j => by
  have h : cntC l = cntC (l.take j) + cntC (l.drop j) := by
    unfold cntC
    rw [← List.sum_append, ← List.map_append, List.take_append_drop]
  omega
theorem split_rises {s n : Int} {l : List FC} (h : l.Pairwise fun a b => a.q < b.q) : (splitC s n l).Pairwise fun a b => a.q < b.q := by
  unfold splitC
  have h2 : (l.map (ownF s n)).Pairwise fun a b => a.q < b.q := List.pairwise_map.2 h
  exact h2.filter _
theorem split_mem {s n : Int} {l : List FC} {x : FC} (h : x ∈ splitC s n l) : ∃ y ∈ l, x.q = y.q ∧ x.t = y.t ∧ x.s = y.s ∧ x.ps = ownC s n y.ps ∧ x.ps ≠ [] := by
  unfold splitC at h
  obtain ⟨h1, h2⟩ := List.mem_filter.1 h
  obtain ⟨y, hy, rfl⟩ := List.mem_map.1 h1
  exact ⟨y, hy, rfl, rfl, rfl, rfl, fun e => by rw [e] at h2; simp at h2⟩

end Go.Proofs.Ytdncdlbhgaehmaa
