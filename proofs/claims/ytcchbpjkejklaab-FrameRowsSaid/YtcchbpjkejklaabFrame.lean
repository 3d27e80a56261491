/- The contracts of package frame's functions: Size, number, Wrap; the document's Wrap. -/
import Derived.Test.YtcchbpjkejklaabKnown2
import Derived.Test.YtcchbpjkejklaabRef
import Derived.Deep.RegionHeld3
namespace Go.Proofs.Ytcchbpjkejklaab
open Go.RowKit Go.Shelf
set_option linter.unusedVariables false
attribute [local go_sem] Oper.semAt_some wide_fn wide_round_fn

/-- The number that the four bytes from k on make. -/
def wordB (s : ByteArray) (k : Nat) : Nat := leN ((s.data.toList.drop k).take 4)
theorem wordB_lt (s : ByteArray) (k : Nat) : wordB s k < 4294967296 := by
  have h := leN_lt ((s.data.toList.drop k).take 4)
  have h2 : 256 ^ ((s.data.toList.drop k).take 4).length ≤ 256 ^ 4 := Nat.pow_le_pow_right (by decide) (by simp; omega)
  rw [pow256_4] at h2
  exact Nat.lt_of_lt_of_le h h2
theorem eigL_len (n : Nat) : (eigL n).length = 4 := rfl
theorem comp_nat (n : Nat) (hn : n < 4294967296) : bits .xor .u32 IntKind.u32.max (n : Int) = ((4294967295 - n : Nat) : Int) := by
  have h := comp_max (BitVec.ofNat 32 n)
  rw [BitVec.toNat_not, BitVec.toNat_ofNat, Nat.mod_eq_of_lt (show n < 2 ^ 32 from hn)] at h
  exact h

def wrapB (b : ByteArray) : ByteArray := ⟨(eigL b.size).toArray⟩ ++ ⟨(eigL (4294967295 - b.size)).toArray⟩ ++ b ++ ⟨(eigL (moreN 0 b)).toArray⟩
theorem wrapB_size (b : ByteArray) : (wrapB b).size = b.size + 12 := by
  unfold wrapB
  rw [ByteArray.size_append, ByteArray.size_append, ByteArray.size_append]
  show 4 + 4 + b.size + 4 = _
  omega

theorem size_at (n : Int) (h0 : -9223372036854775808 ≤ n) (hn : n < 9223372036854775796) (w : World) : Gives Try.prog 11 #[.int .i64 n] w (.int .i64 (n + 12)) := by
  unfold Gives
  go_enter Try.func11, Try.ntmps11
  go_wp2
  go_ret
  exact ⟨ret1_eq (by omega), Below.refl _ _⟩

theorem number_at (s : ByteArray) (n : Nat) (hs : 4 ≤ s.size) (hm : s.size < 9223372036854775808) (h : leN (s.data.toList.take 4) = n) (w : World) : Gives Try.prog 15 #[.string s] w (.int .u32 n) := by
  have G := Lib.hid (show ∀ w, Gives Try.prog 18 #[.string s] w (.tuple #[.int .u32 n, .int .i64 0]) from fun w => by have := fix_ok s hs hm w; rwa [h] at this)
  unfold Gives
  go_enter Try.func15, Try.ntmps15
  go_wp2_with (go_at_call 18; ((with_reducible refine (G.out _).mono ?_); rintro e w1 ⟨rfl, hB1⟩))
  go_ret
  exact ⟨rfl, hB1⟩

theorem notEmpty (b : ByteArray) (h : 0 < b.size) : b.toList.isEmpty = false := by
  rw [ByteArray.toList_eq, List.isEmpty_eq_false_iff, ← List.length_pos_iff]
  simpa using h

set_option maxRecDepth 100000 in
set_option maxHeartbeats 1000000 in
theorem wrap_empty (w : World) : Gives Try.prog 9 #[.string ⟨#[]⟩] w (.tuple #[.string ⟨#[]⟩, .int .i64 11]) := by
  unfold Gives
  go_enter Try.func9, Try.ntmps9
  go_wp2
  go_ret2
  exact ⟨rfl, Below.refl _ _⟩
set_option maxRecDepth 100000 in
set_option maxHeartbeats 1000000 in
theorem wrap_large (b : ByteArray) (hb : 2000 < b.size) (hm : b.size < 9223372036854775808) (w : World) : Gives Try.prog 9 #[.string b] w (.tuple #[.string ⟨#[]⟩, .int .i64 12]) := by
  have hne := notEmpty b (by omega)
  unfold Gives
  go_enter Try.func9, Try.ntmps9
  go_wp2
  go_ret2
  exact ⟨rfl, Below.refl _ _⟩
set_option maxRecDepth 100000 in
set_option maxHeartbeats 1000000 in
theorem wrap_ok (b : ByteArray) (h0 : 0 < b.size) (hb : b.size ≤ 2000) (w : World) : Gives Try.prog 9 #[.string b] w (.tuple #[.string (wrapB b), .int .i64 0]) := by
  have g1 := fixed_any b.size (by omega); have g2 := fixed_any (4294967295 - b.size) (by omega)
  have g4 := fixed_any (moreN 0 b) (moreN_lt _ _)
  have hcn := comp_nat b.size (by omega)
  have hne := notEmpty b h0
  unfold wrapB
  obtain ⟨x1, hx1, hz1⟩ : ∃ x : ByteArray, x = ⟨(eigL b.size).toArray⟩ ∧ x.size = 4 := ⟨_, rfl, rfl⟩
  obtain ⟨x2, hx2, hz2⟩ : ∃ x : ByteArray, x = ⟨(eigL (4294967295 - b.size)).toArray⟩ ∧ x.size = 4 := ⟨_, rfl, rfl⟩
  obtain ⟨x4, hx4, hz4⟩ : ∃ x : ByteArray, x = ⟨(eigL (moreN 0 b)).toArray⟩ ∧ x.size = 4 := ⟨_, rfl, rfl⟩
  rw [← hx1] at g1 ⊢
  rw [← hx2] at g2 ⊢
  rw [← hx4] at g4 ⊢
  have hs1 : (x1 ++ x2).size = 8 := by rw [ByteArray.size_append]; omega
  have hs2 : (x1 ++ x2 ++ b).size ≤ 2008 := by rw [ByteArray.size_append]; omega
  have G1 := Lib.hid g1; have G2 := Lib.hid g2; have G4 := Lib.hid g4
  have G3 := Lib.hid (of_at b (by omega))
  clear hx1 hx2 hx4 g1 g2 g4
  unfold Gives
  go_enter Try.func9, Try.ntmps9
  go_wp2_with (first
    | (go_at_call 13; ((with_reducible refine (G1.out _).mono ?_); rintro e w1 ⟨rfl, hB1⟩))
    | (go_at_call 13; ((with_reducible refine (G2.out _).mono ?_); rintro e w2 ⟨rfl, hB2⟩))
    | (go_at_call 14; ((with_reducible refine (G3.out _).mono ?_); rintro e w3 ⟨rfl, hB3⟩))
    | (go_at_call 13; ((with_reducible refine (G4.out _).mono ?_); rintro e w4 ⟨rfl, hB4⟩)))
  go_ret2
  exact ⟨rfl, bel2 (bel2 (bel2 hB1 hB2) hB3) hB4⟩
end Go.Proofs.Ytcchbpjkejklaab
