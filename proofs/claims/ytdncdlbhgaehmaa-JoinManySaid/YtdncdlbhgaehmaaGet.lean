/- Get, Read: in one text. -/
import Derived.Test.YtdncdlbhgaehmaaKit
import Derived.Test.YtdncdlbhgaehmaaCode
import Derived.Test.YtdncdlbhgaehmaaRegion
/- The contracts of package code's functions that read: Get. -/
namespace Go.Proofs.Ytdncdlbhgaehmaa
open Go.RowKit Go.Shelf
set_option linter.unusedVariables false
attribute [local go_sem] Oper.semAt_some wide_fn wide_round_fn

/-- The number at the beginning of bytes, how many bytes it has, what is wrong; N: what k bytes ahead made. -/
def getA (k N : Nat) : List UInt8 → Nat × Nat × Nat
  | [] => (0, 0, 10)
  | c :: r => if c.toNat < 128 then (if c.toNat = 0 ∧ 0 < k then (0, 0, 11) else (N + c.toNat * 128 ^ k, k + 1, 0)) else if k = 8 then (0, 0, 11) else getA (k + 1) (N + c.toNat % 128 * 128 ^ k) r
def getL (s : List UInt8) : Nat × Nat × Nat := getA 0 0 s

theorem getA_bound (l : List UInt8) : ∀ (k N : Nat), k ≤ 8 → N < 128 ^ k → (getA k N l).1 < 9223372036854775808 ∧ (getA k N l).2.1 ≤ 9 ∧ (getA k N l).2.1 ≤ k + l.length ∧ (getA k N l).2.2 ≤ 11 := by
  induction l with
  | nil => intro k N hk hN; simp [getA]
  | cons c r ih =>
    intro k N hk hN
    simp only [getA]
    split
    · rename_i hc
      split
      · simp
      · have hp := pow128_le hk
        have : c.toNat * 128 ^ k ≤ 127 * 128 ^ k := Nat.mul_le_mul_right _ (by omega)
        simp; omega
    · split
      · simp
      · rename_i hc hk8
        have hc2 : c.toNat % 128 < 128 := Nat.mod_lt _ (by decide)
        have : c.toNat % 128 * 128 ^ k ≤ 127 * 128 ^ k := Nat.mul_le_mul_right _ (by omega)
        obtain ⟨h1, h2, h3, h4⟩ := ih (k + 1) (N + c.toNat % 128 * 128 ^ k) (by omega) (by rw [Nat.pow_succ]; omega)
        refine ⟨h1, h2, ?_, h4⟩
        simp only [List.length_cons]; omega
theorem getL_bound (l : List UInt8) : (getL l).1 < 9223372036854775808 ∧ (getL l).2.1 ≤ 9 ∧ (getL l).2.1 ≤ l.length ∧ (getL l).2.2 ≤ 11 := by
  have := getA_bound l 0 0 (by decide) (by decide)
  simpa [getL] using this

end Go.Proofs.Ytdncdlbhgaehmaa

/- The contracts of package code's functions that read: Fix, Get, Texts; and Text. -/
namespace Go.Proofs.Ytdncdlbhgaehmaa
open Go.RowKit Go.Shelf
set_option linter.unusedVariables false
attribute [local go_sem] Oper.semAt_some wide_fn wide_round_fn

/-- The text at the beginning of bytes, how many bytes it takes with its number, what is wrong. -/
def textsB (s : ByteArray) (most : Int) : ByteArray × Nat × Nat :=
  if (getL s.data.toList).2.2 ≠ 0 then (⟨#[]⟩, 0, (getL s.data.toList).2.2)
  else if max most 0 < (getL s.data.toList).1 then (⟨#[]⟩, 0, 12)
  else if s.size < (getL s.data.toList).1 + (getL s.data.toList).2.1 then (⟨#[]⟩, 0, 10)
  else (s.extract (getL s.data.toList).2.1 ((getL s.data.toList).2.1 + (getL s.data.toList).1), (getL s.data.toList).2.1 + (getL s.data.toList).1, 0)

end Go.Proofs.Ytdncdlbhgaehmaa
