/- Get, Read: in one text. -/
import Derived.Test.YtoieacmipejfeaaGreatDoorKit
import Derived.Test.YtoieacmipejfeaaGreatDoorCode
import Derived.Test.YtoieacmipejfeaaGreatDoorRegion
/- The contracts of package code's functions that read: Get. -/
namespace Go.Proofs.YtoieacmipejfeaaGreatDoor
open Go.RowKit Go.Shelf
set_option linter.unusedVariables false
attribute [local go_sem] Oper.semAt_some wide_fn wide_round_fn

/-- The number at the beginning of bytes, how many bytes it has, what is wrong; N: what k bytes ahead made. -/
def getA (k N : Nat) : List UInt8 → Nat × Nat × Nat
  | [] => (0, 0, 10)
  | c :: r => if c.toNat < 128 then (if c.toNat = 0 ∧ 0 < k then (0, 0, 11) else (N + c.toNat * 128 ^ k, k + 1, 0)) else if k = 8 then (0, 0, 11) else getA (k + 1) (N + c.toNat % 128 * 128 ^ k) r
def getL (s : List UInt8) : Nat × Nat × Nat := getA 0 0 s

abbrev getB (w : World) (a b c : Int) (N : Nat) : List (Nat × TypeId × Value) :=
  [(w.heap.size, 3, .int .i64 a), (w.heap.size + 1, 3, .int .i64 b), (w.heap.size + 1 + 1, 28, .int .i64 c), (w.heap.size + 1 + 1 + 1, 3, .int .i64 N)]

theorem getB_store {w W : World} {x y z : Int} {N : Nat} (h : boxesI w (getB w x y z N) W) (B : Nat) (a b c : Int) :
    Rd B (fun _ => False) W (((W.setCell ⟨w.heap.size, 0, none⟩ (.int .i64 a)).setCell ⟨w.heap.size + 1, 0, none⟩ (.int .i64 b)).setCell ⟨w.heap.size + 1 + 1, 0, none⟩ (.int .i64 c)) ∧
    boxesI w (getB w a b c N) (((W.setCell ⟨w.heap.size, 0, none⟩ (.int .i64 a)).setCell ⟨w.heap.size + 1, 0, none⟩ (.int .i64 b)).setCell ⟨w.heap.size + 1 + 1, 0, none⟩ (.int .i64 c)) := by
  have hb1 := boxesI_put h (by simp; omega) 0 rfl (by simp) (.int .i64 a)
  have hb2 := boxesI_put hb1 (by simp; omega) 1 rfl (by simp) (.int .i64 b)
  have hb3 := boxesI_put hb2 (by simp; omega) 2 rfl (by simp; omega) (.int .i64 c)
  exact ⟨boxesI_rd hb2 (boxesI_rd hb1 (boxesI_rd h (Rd.refl _ _ _) 0 rfl id _) 1 rfl id _) 2 rfl id _, hb3⟩
theorem getB_num {w W : World} {x y z : Int} {N : Nat} (h : boxesI w (getB w x y z N) W) (M : Nat) : boxesI w (getB w x y z M) (W.setCell ⟨w.heap.size + 1 + 1 + 1, 0, none⟩ (.int .i64 M)) :=
  boxesI_put h (by simp; omega) 3 rfl (by simp; omega) (.int .i64 M)

def getI (w : World) (s : List UInt8) (pre : List (Nat × UInt8)) (W : World) : Prop :=
  ∃ N, getL s = getA pre.length N (s.drop pre.length) ∧ N < 128 ^ pre.length ∧ pre.length ≤ 8 ∧ boxesI w (getB w 0 0 0 N) W
def getX (w : World) (s : List UInt8) (c : Code) (W : World) : Prop :=
  ∃ N, c = .ret ∧ boxesI w (getB w (getL s).1 (getL s).2.1 (getL s).2.2 N) W

theorem getA_bound (l : List UInt8) : ∀ (k N : Nat), k ≤ 8 → N < 128 ^ k → (getA k N l).1 < 9223372036854775808 ∧ (getA k N l).2.1 ≤ 9 ∧ (getA k N l).2.1 ≤ k + l.length ∧ (getA k N l).2.2 ≤ 11 := by
  induction l with
  | nil => intro k N hk hN; simp [getA]
  | cons c r ih =>
    intro k N hk hN
    simp only [getA]
    split
    · rename_i hc
      split
      · simp
      · have hp := pow128_le hk
        have : c.toNat * 128 ^ k ≤ 127 * 128 ^ k := Nat.mul_le_mul_right _ (by omega)
        simp; omega
    · split
      · simp
      · rename_i hc hk8
        have hc2 : c.toNat % 128 < 128 := Nat.mod_lt _ (by decide)
        have : c.toNat % 128 * 128 ^ k ≤ 127 * 128 ^ k := Nat.mul_le_mul_right _ (by omega)
        obtain ⟨h1, h2, h3, h4⟩ := ih (k + 1) (N + c.toNat % 128 * 128 ^ k) (by omega) (by rw [Nat.pow_succ]; omega)
        refine ⟨h1, h2, ?_, h4⟩
        simp only [List.length_cons]; omega
theorem getL_bound (l : List UInt8) : (getL l).1 < 9223372036854775808 ∧ (getL l).2.1 ≤ 9 ∧ (getL l).2.1 ≤ l.length ∧ (getL l).2.2 ≤ 11 := by
  have := getA_bound l 0 0 (by decide) (by decide)
  simpa [getL] using this

end Go.Proofs.YtoieacmipejfeaaGreatDoor

/- The contracts of package code's functions that read: Fix, Get, Texts; and Text. -/
namespace Go.Proofs.YtoieacmipejfeaaGreatDoor
open Go.RowKit Go.Shelf
set_option linter.unusedVariables false
attribute [local go_sem] Oper.semAt_some wide_fn wide_round_fn

/-- The text at the beginning of bytes, how many bytes it takes with its number, what is wrong. -/
def textsB (s : ByteArray) (most : Int) : ByteArray × Nat × Nat :=
  if (getL s.data.toList).2.2 ≠ 0 then (⟨#[]⟩, 0, (getL s.data.toList).2.2)
  else if max most 0 < (getL s.data.toList).1 then (⟨#[]⟩, 0, 12)
  else if s.size < (getL s.data.toList).1 + (getL s.data.toList).2.1 then (⟨#[]⟩, 0, 10)
  else (s.extract (getL s.data.toList).2.1 ((getL s.data.toList).2.1 + (getL s.data.toList).1), (getL s.data.toList).2.1 + (getL s.data.toList).1, 0)

end Go.Proofs.YtoieacmipejfeaaGreatDoor
