/- Entries one behind the other, all with the same data: whether a part of them is well-formed. -/
import Derived.Test.YtpogklceaoiacaaPartFacts
import Derived.Test.YtpogklceaoiacaaCollect
namespace Go.Proofs.Ytpogklceaoiacaa
open Go.RowKit Go.Shelf
set_option linter.unusedVariables false

def consL (z : ByteArray) : Int → Nat → List EntryC
  | _, 0 => []
  | i, n + 1 => ⟨i, 7, z⟩ :: consL z (i + 1) n
theorem consL_len (z : ByteArray) : ∀ (n : Nat) (i : Int), (consL z i n).length = n
  | 0, _ => rfl
  | n + 1, i => by simp [consL, consL_len z n]
theorem consL_snoc (z : ByteArray) : ∀ (n : Nat) (i : Int), consL z i (n + 1) = consL z i n ++ [⟨i + n, 7, z⟩]
  | 0, i => by simp [consL]
  | n + 1, i => by
    have h := consL_snoc z n (i + 1)
    rw [consL, h, consL, List.cons_append]
    congr 4
    push_cast; omega
theorem wrap64_one (i : Int) : wrap64 (i - (i - 1)) = 1 := by
  rw [show i - (i - 1) = 1 by omega]; exact IntWalk.wrap64_in 1 (by decide)
theorem cons_steps (z : ByteArray) : ∀ (n : Nat) (i : Int) (p : Option Int), (p = none ∨ p = some (i - 1)) → stepsOf p (consL z i n) = (consL z i n).map fun e => (e, 1)
  | 0, _, p, _ => by cases p <;> rfl
  | n + 1, i, p, hp => by
    have h := cons_steps z n (i + 1) (some i) (.inr (by congr 1; omega))
    rcases hp with rfl | rfl
    · simp only [consL, stepsOf, h, List.map_cons]
    · simp only [consL, stepsOf, h, List.map_cons, wrap64_one]
theorem cons_all (z : ByteArray) (m : Int) (hm : 1 ≤ m) : ∀ (n : Nat) (i : Int), 1 ≤ i → i + n ≤ 1099511627776 → ((consL z i n).map fun e => (e, (1 : Int))).all (stepB m) = (decide (n = 0) || decide (z.size ≤ 40))
  | 0, i, _, _ => by simp [consL]
  | n + 1, i, h1, h2 => by
    have h := cons_all z m hm n (i + 1) (by omega) (by push_cast at h2; omega)
    simp only [consL, List.map_cons, List.all_cons, h]
    have e : stepB m (⟨i, 7, z⟩, 1) = decide (z.size ≤ 40) := by
      have a1 : wB i 1 1099511627776 = true := wB_iff.2 ⟨h1, by push_cast at h2; omega⟩
      have a2 : wB 7 1 1099511627776 = true := by decide
      have a3 : wB 1 1 m = true := wB_iff.2 ⟨by decide, hm⟩
      simp [stepB, entryB, a1, a2, a3]
    rw [e]
    cases decide (z.size ≤ 40) <;> simp
theorem cons_are (z : ByteArray) (m : Int) (hm : 1 ≤ m) (n : Nat) (i : Int) (hn : 0 < n) (h1 : 1 ≤ i) (h2 : i + n ≤ 1099511627776) : areB m (consL z i n) = (decide (n ≤ 6) && decide (z.size ≤ 40)) := by
  unfold areB
  rw [consL_len, cons_steps z n i none (.inl rfl), cons_all z m hm n i h1 h2]
  simp [show ¬ n = 0 by omega]
theorem cons_is1 (z : ByteArray) (n : Nat) (i : Int) (a : Option Addr) (cap : Nat) (hn : 0 < n) (h1 : 1 ≤ i) (h2 : i + n ≤ 1099511627776) : isB ⟨1, 1, a, n, cap, 0, 0, 0, 0, 0, false, false⟩ (consL z i n) = (decide (n ≤ 6) && decide (z.size ≤ 40)) := by
  have hA := cons_are z 1 (by decide) n i hn h1 h2
  rw [Bool.eq_iff_iff, isB_iff, ← hA]
  constructor
  · rintro ⟨_, h⟩
    rcases h with h | h | h | h | h | h
    · exact h.2.2.1
    all_goals exact absurd h.1 (by dsimp only; decide)
  · intro h
    exact ⟨by dsimp only; decide, .inl ⟨rfl, by dsimp only; omega, h, rfl, rfl, rfl, rfl, rfl, rfl, rfl⟩⟩
theorem cons_is6 (z : ByteArray) (n : Nat) (i : Int) (a : Option Addr) (cap : Nat) (hn : 0 < n) (h1 : 1 ≤ i) (h2 : i + n ≤ 1099511627776) : isB ⟨1, 6, a, n, cap, 0, 0, 0, 0, 0, false, false⟩ (consL z i n) = (decide (n ≤ 6) && decide (z.size ≤ 40)) := by
  have hA := cons_are z 1099511627776 (by decide) n i hn h1 h2
  have hf : isFwdB ⟨1, 6, a, n, cap, 0, 0, 0, 0, 0, false, false⟩ (consL z i n) = (decide (n ≤ 6) && decide (z.size ≤ 40)) := by
    simp only [isFwdB, hA]
    simp [show ¬ n = 0 by omega]
  rw [Bool.eq_iff_iff, isB_iff, ← hf]
  constructor
  · rintro ⟨_, h⟩
    rcases h with h | h | h | h | h | h
    · exact absurd h.1 (by dsimp only; decide)
    · exact absurd h.1 (by dsimp only; decide)
    · exact absurd h.1 (by dsimp only; decide)
    · exact absurd h.1 (by dsimp only; decide)
    · exact absurd h.1 (by dsimp only; decide)
    · exact h.2.1
  · intro h
    exact ⟨by dsimp only; decide, .inr (.inr (.inr (.inr (.inr ⟨rfl, h, fun _ => ⟨rfl, rfl⟩, fun _ => ⟨rfl, rfl, rfl⟩⟩))))⟩

end Go.Proofs.Ytpogklceaoiacaa
