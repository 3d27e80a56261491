/- The contracts of package code's functions: Put, Get, Text, Texts, Fixed, Fix and the iterators that they range over. -/
import Derived.Test.YtdncdlbhgaehmaaKit
import Derived.Test.YtdncdlbhgaehmaaProg
namespace Go.Proofs.Ytdncdlbhgaehmaa
open Go.RowKit Go.Shelf
set_option linter.unusedVariables false
attribute [local go_sem] Oper.semAt_some wide_fn wide_round_fn

/-- The bytes of a number, seven bits a byte, the lowest first; at most f and one. -/
def sevF : Nat → Nat → List UInt8
  | 0, n => [UInt8.ofNat n]
  | f + 1, n => if n < 128 then [UInt8.ofNat n] else UInt8.ofNat (n % 128 + 128) :: sevF f (n / 128)
def sevL (n : Nat) : List UInt8 := sevF 8 n
theorem sevF_len (f n : Nat) : (sevF f n).length ≤ f + 1 := by
  induction f generalizing n with
  | zero => simp [sevF]
  | succ f ih => simp only [sevF]; split <;> simp [ih]
theorem sevL_len (n : Nat) : (sevL n).length ≤ 9 := sevF_len 8 n

theorem Try.infoU8 : (Try.prog.info? 5).map (fun i => (i.zero, i.size, i.bytes)) = some (some (.int .u8 0), 1, 1) := by kernel_rfl

/-! ### Four bytes, the lowest first -/
def eigL (n : Nat) : List UInt8 := [UInt8.ofNat n, UInt8.ofNat (n / 256), UInt8.ofNat (n / 65536), UInt8.ofNat (n / 16777216)]

/-- The first bytes of s, at most most of them, each with where it stands. -/
def frontL (s : List UInt8) (most : Nat) : List (Nat × UInt8) := (s.take most).zipIdx.map fun x => (x.2, x.1)

theorem frontL_at {l : List UInt8} {m : Nat} {pre suf : List (Nat × UInt8)} {x : Nat × UInt8} (h : frontL l m = pre ++ x :: suf) : x.1 = pre.length ∧ pre.length < m ∧ l[pre.length]? = some x.2 ∧ pre.map (·.2) = l.take pre.length := by
  have h1 : (frontL l m)[pre.length]? = some x := by rw [h]; simp
  have h2 := List.getElem?_eq_some_iff.1 h1
  obtain ⟨h3, h4⟩ := h2
  have hlen : (frontL l m).length = min m l.length := by simp [frontL]
  rw [hlen] at h3
  have hx : x = (pre.length, l[pre.length]'(by omega)) := by rw [← h4]; simp [frontL]
  refine ⟨by rw [hx], by omega, by rw [hx]; simp, ?_⟩
  have h5 : (frontL l m).map (·.2) = l.take m := by simp [frontL, List.map_map, Function.comp_def]
  have h6 := congrArg (fun z => (z.map (·.2)).take pre.length) h
  simp only [h5, List.map_append, List.take_take] at h6
  rw [List.take_append_of_le_length (by simp), Nat.min_eq_left (by omega)] at h6
  rw [h6, List.take_of_length_le (by simp)]

end Go.Proofs.Ytdncdlbhgaehmaa
