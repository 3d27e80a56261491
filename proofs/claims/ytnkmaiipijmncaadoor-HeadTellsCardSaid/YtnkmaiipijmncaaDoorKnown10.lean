/- What the statements of layer 10 begin with. -/
import Derived.Test.YtnkmaiipijmncaaDoorHeadRef
namespace Go.Proofs.YtnkmaiipijmncaaDoor
open Go.RowKit Go.Shelf
set_option linter.unusedVariables false
attribute [local go_sem] Oper.semAt_some wide_fn wide_round_fn

theorem hchk_app (h t : List UInt8) : chkM (h ++ t) h = 1 := by
  unfold chkM; rw [if_pos]; exact List.isPrefixOf_iff_prefix.2 (List.prefix_append _ _)
theorem hchk_cut (h : List UInt8) (k : Nat) (hk : k < h.length) : chkM (h.take k) h = 3 := by
  refine hchk_torn ?_ (by rw [List.length_take]; omega)
  rw [List.length_take, Nat.min_assoc, Nat.min_self, List.take_take]
  congr 1; omega
theorem hchk_eq {s t h : List UInt8} (hl : s.length = h.length) : chkM (s ++ t) h = 1 ↔ s = h := by
  constructor
  · intro e
    by_cases hp : Lib.hasPrefix (s ++ t) h = true
    · obtain ⟨u, hu⟩ := List.isPrefixOf_iff_prefix.1 hp
      exact (List.append_inj_left hu hl.symm).symm
    · unfold chkM at e
      rw [if_neg hp] at e
      split at e <;> cases e
  · rintro rfl; exact hchk_app _ _
theorem xorB (x y : UInt8) : bits .xor .u8 (x.toNat : Int) (y.toNat : Int) = ((x ^^^ y).toNat : Int) := by
  have hx := x.toNat_lt
  have hy := y.toNat_lt
  show IntKind.u8.wrap ((BitVec.ofInt 8 (x.toNat : Int) ^^^ BitVec.ofInt 8 (y.toNat : Int)).toNat : Int) = _
  have h1 : (BitVec.ofInt 8 (x.toNat : Int)).toNat = x.toNat := by rw [BitVec.toNat_ofInt]; omega
  have h2 : (BitVec.ofInt 8 (y.toNat : Int)).toNat = y.toNat := by rw [BitVec.toNat_ofInt]; omega
  have hxy : x.toNat ^^^ y.toNat < 256 := Nat.xor_lt_two_pow (n := 8) hx hy
  rw [BitVec.toNat_xor, h1, h2, UInt8.toNat_xor]
  simp [IntKind.wrap, IntKind.bits, IntKind.signed]; omega
theorem xor_ne {x y : UInt8} (h : y ≠ 0) : x ^^^ y ≠ x := by
  intro e
  apply h
  have := congrArg (x ^^^ ·) e
  simpa [← UInt8.xor_assoc] using this
/-- A head with a byte turned, whatever stands behind it, is none. -/
theorem hchk_turned {h t : List UInt8} {k : Nat} (hk : k < h.length) {z : UInt8} (hz : z ≠ h[k]) : chkM (h.set k z ++ t) h = 4 := by
  refine hchk_bad fun e => hz ?_
  rw [List.length_append, List.length_set, Nat.min_eq_right (by omega), List.take_length, List.take_append_of_le_length (by simp), List.take_of_length_le (by simp)] at e
  have := congrArg (·[k]?) e
  simpa [hk] using this
theorem hchk_set_cut {h : List UInt8} {k : Nat} (hk : k < h.length) (z : UInt8) : chkM ((h.set k z).take k) h = 3 := by
  rw [show (h.set k z).take k = h.take k by rw [List.take_set_of_le (Nat.le_refl _)]]
  exact hchk_cut h k hk
set_option maxRecDepth 100000 in
set_option maxHeartbeats 1000000 in
theorem head_known (w : World) : Gives Tryd.prog 7 #[] w (.bool true) := by
  have hz := headS_size 7
  have hl := headS_list 7
  have hll : (headS 7).data.toList.length = 16 := by simpa using hz
  have h7 : heldN 7 = 7 := rfl
  have I1 : ∀ w, Gives Tryd.prog 8 #[.string ⟨#[115, 101, 103, 45, 48, 48, 48, 48, 48, 48, 48, 55]⟩] w (.tuple #[.int .i64 7, .bool true]) := fun w => id_name (n := 7) (by decide) (by decide) w
  have I2 : ∀ w, Gives Tryd.prog 8 #[.string ⟨#[115, 101, 103, 45, 48, 48, 48, 48, 48, 48, 55]⟩] w (.tuple #[.int .i64 0, .bool false]) := fun w => id_good ⟨#[115, 101, 103, 45, 48, 48, 48, 48, 48, 48, 55]⟩ (by decide) 7 (by decide) w
  have N1 : ∀ w, Gives Tryd.prog 11 #[.int .i64 7] w (.string ⟨#[115, 101, 103, 45, 48, 48, 48, 48, 48, 48, 48, 55]⟩) := fun w => name_any 7 w
  have B1 := fun w => headBytes_any 7 w
  have C1 := fun w => headCheck_any (headS 7 ++ ⟨#[120]⟩) (by rw [ByteArray.size_append, hz]; decide) 7 w
  have C2 := fun w => headCheck_any ⟨#[]⟩ (by decide) 7 w
  have C3 := fun w => headCheck_any ⟨#[120]⟩ (by decide) 7 w
  rw [h7] at B1 C1 C2 C3
  rw [show chkM (headS 7 ++ ⟨#[120]⟩).data.toList (headS 7).data.toList = 1 by rw [ba_toList]; exact hchk_app _ _] at C1
  rw [show chkM (⟨#[]⟩ : ByteArray).data.toList (headS 7).data.toList = 3 from hchk_cut _ 0 (by rw [hll]; decide)] at C2
  rw [show chkM (⟨#[120]⟩ : ByteArray).data.toList (headS 7).data.toList = 4 by rw [hl]; rfl] at C3
  generalize headS 7 = h at *
  have I1 := Lib.hid I1; have I2 := Lib.hid I2; have N1 := Lib.hid N1; have B1 := Lib.hid B1; have C1 := Lib.hid C1; have C2 := Lib.hid C2; have C3 := Lib.hid C3
  have hzi : (h.size : Int) = 16 := by omega
  clear hl hll h7 hz
  unfold Gives
  go_enter Tryd.func7, Tryd.ntmps7
  go_wp2_with (first
    | (go_at_call 8; ((with_reducible refine (I1.out _).mono ?_); rintro e w1 ⟨rfl, hX⟩; have hB := hX))
    | (go_at_call 8; ((with_reducible refine (I2.out _).mono ?_); rintro e w1 ⟨rfl, hX⟩; replace hB := bel2 hB hX))
    | (go_at_call 11; ((with_reducible refine (N1.out _).mono ?_); rintro e w1 ⟨rfl, hX⟩; replace hB := bel2 hB hX))
    | (go_at_call 10; ((with_reducible refine (B1.out _).mono ?_); rintro e w1 ⟨rfl, hX⟩; replace hB := bel2 hB hX))
    | (go_at_call 14; ((with_reducible refine (C1.out _).mono ?_); rintro e w1 ⟨rfl, hX⟩; replace hB := bel2 hB hX))
    | (go_at_call 14; ((with_reducible refine (C2.out _).mono ?_); rintro e w1 ⟨rfl, hX⟩; replace hB := bel2 hB hX))
    | (go_at_call 14; ((with_reducible refine (C3.out _).mono ?_); rintro e w1 ⟨rfl, hX⟩; replace hB := bel2 hB hX)))
  go_ret
  exact ⟨rfl, hB⟩

end Go.Proofs.YtnkmaiipijmncaaDoor
