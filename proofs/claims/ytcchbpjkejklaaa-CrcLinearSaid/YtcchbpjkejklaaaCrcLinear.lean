/- Law CrcLinear: for every input the call answers true; its arguments read as they did. No condition. -/
import Derived.Deep.RegionHeld3
import Derived.Test.YtcchbpjkejklaaaLaw
import Derived.Test.YtcchbpjkejklaaaKnown2
import Derived.Test.YtcchbpjkejklaaaBytes
namespace Go.Proofs.Ytcchbpjkejklaaa.crcLinear
open Go.ChangeShapes Go.WideShapes Go.ChangeAt Go.RowKit Go.Shelf
open Go.ChangeMaps (open_string shut_string)
set_option linter.unusedVariables false
attribute [local go_sem] Oper.semAt_some wide_fn wide_round_fn


theorem run_min4 {P : Program} (w : World) (ts : Array TypeId) (t : TypeId) (x y z v : Nat) (n : Nat) (hn : n = min (min (min x y) z) v) :
    (Builtin.min_ ts t #[.int .i64 x, .int .i64 y, .int .i64 z, .int .i64 v]).run P w = .ok (.int .i64 n) w := by
  subst hn
  have e1 : (if (y : Int) < (x : Int) then (y : Int) else x) = ((min x y : Nat) : Int) := by split <;> omega
  have e2 : (if (z : Int) < ((min x y : Nat) : Int) then (z : Int) else ((min x y : Nat) : Int)) = ((min (min x y) z : Nat) : Int) := by split <;> omega
  have e3 : (if (v : Int) < ((min (min x y) z : Nat) : Int) then (v : Int) else ((min (min x y) z : Nat) : Int)) = ((min (min (min x y) z) v : Nat) : Int) := by split <;> omega
  simp only [Builtin.min_, Builtin.min2, List.foldlM_cons, List.foldlM_nil, bind_pure, pure_bind, e1, e2, e3]
  rfl
theorem xor_u8 (x y : UInt8) : bits .xor .u8 (x.toNat : Int) (y.toNat : Int) = ((x ^^^ y).toNat : Int) := by
  have hx := x.toNat_lt
  have hy := y.toNat_lt
  show IntKind.u8.wrap ((BitVec.ofInt 8 (x.toNat : Int) ^^^ BitVec.ofInt 8 (y.toNat : Int)).toNat : Int) = _
  have h1 : (BitVec.ofInt 8 (x.toNat : Int)).toNat = x.toNat := by rw [BitVec.toNat_ofInt]; omega
  have h2 : (BitVec.ofInt 8 (y.toNat : Int)).toNat = y.toNat := by rw [BitVec.toNat_ofInt]; omega
  have hxy : x.toNat ^^^ y.toNat < 256 := Nat.xor_lt_two_pow (n := 8) hx hy
  rw [BitVec.toNat_xor, h1, h2, UInt8.toNat_xor]
  simp [IntKind.wrap, IntKind.bits, IntKind.signed]; omega
theorem bitB_set (l : List UInt8) (k : Nat) (x : UInt8) (hk : k < l.length) (j : Nat) : bitB (l.set k x) j = if j / 8 = k then x.toNat.testBit (j % 8) else bitB l j := by
  unfold bitB
  split
  · rename_i h
    rw [h, List.getD_eq_getElem?_getD, List.getElem?_set_self hk]; rfl
  · rename_i h
    rw [List.getD_eq_getElem?_getD, List.getElem?_set_ne (Ne.symm h), ← List.getD_eq_getElem?_getD]
theorem bitB_extract (s : ByteArray) (k j : Nat) (h : j < 8 * k) : bitB s.data.toList j = bitB (s.extract 0 k).data.toList j := by
  unfold bitB
  have e : (s.extract 0 k).data.toList = s.data.toList.take k := by simp
  rw [e, List.getD_eq_getElem?_getD, List.getD_eq_getElem?_getD, List.getElem?_take, if_pos (by omega)]
theorem bitB_at (s : ByteArray) (j : Nat) (h : j / 8 < s.size) : bitB s.data.toList j = (s[j / 8]).toNat.testBit (j % 8) := by
  unfold bitB
  rw [List.getD_eq_getElem?_getD, List.getElem?_eq_getElem (by simpa using h)]; rfl

set_option maxRecDepth 100000 in
set_option maxHeartbeats 2000000 in
theorem walk (a : ByteArray) (ha : a.size ≤ maxLen) (b : ByteArray) (hb : b.size ≤ maxLen) (c : ByteArray) (hc : c.size ≤ maxLen) (w : World) :
    Calls Try.prog 12 #[.string a, .string b, .string c] w fun e w' => e = .returned (.bool true) ∧ Below w.heap.size w w' := by
  unfold maxLen at ha hb hc
  obtain ⟨i0, hi, hz0, hz1, hz2⟩ := info_parts Try.infoU8
  obtain ⟨n, hn⟩ : ∃ n : Nat, n = min (min (min a.size b.size) c.size) 100 := ⟨_, rfl⟩
  have hmin : ∀ w, (Builtin.min_ #[3, 3, 3, 3] 3 #[.int .i64 a.size, .int .i64 b.size, .int .i64 c.size, .int .i64 100]).run Try.prog w = .ok (.int .i64 n) w := fun w => run_min4 w _ _ _ _ _ 100 n hn
  have hna : n ≤ a.size := by omega
  have hnb : n ≤ b.size := by omega
  have hnc : n ≤ c.size := by omega
  have hn1 : n ≤ 100 := by omega
  have hn0 : 0 ≤ n := by omega
  have G1 := Lib.hid (of_at (a.extract 0 n) (by rw [ByteArray.size_extract]; omega))
  have G2 := Lib.hid (of_at (b.extract 0 n) (by rw [ByteArray.size_extract]; omega))
  have G3 := Lib.hid (of_at (c.extract 0 n) (by rw [ByteArray.size_extract]; omega))
  clear hn
  go_enter Try.func12, Try.ntmps12
  go_wp2_with (go_at_call 28; refine (crc_known _).mono ?_; rintro e w1 ⟨rfl, hB1⟩; obtain ⟨w2, hmk, hB2, hby⟩ := bytes_made (P := Try.prog) (t := 46) (e := 5) i0 Try.underlying46 hi hz0 hz1 hz2 n (by omega) w1)
  go_loopw [9] (fun i wr => ∃ (k : Nat) (l : List UInt8), k ≤ n ∧ i = .int .i64 k ∧ l.length = n ∧ BytesAt wr w1.heap.size l ∧ Below w.heap.size w wr ∧ (∀ j, j < 8 * k → bitB l j = ((bitB a.data.toList j ^^ bitB b.data.toList j) ^^ bitB c.data.toList j)))
    (fun i _ => n - (intOf i).toNat)
  case atStart => exact ⟨0, _, by omega, rfl, by simp, hby, bel2 hB1 hB2, fun j hj => by omega⟩
  case round =>
    obtain ⟨k, l, hk, rfl, hl, hby2, hB, hbits⟩ := hrel
    by_cases hlt : k < n
    · have hka : k < a.size := by omega
      have hkb : k < b.size := by omega
      have hkc : k < c.size := by omega
      have hv1 := xor_u8 a[k] b[k]
      have hv2 := xor_u8 (a[k] ^^^ b[k]) c[k]
      have HX := Lib.hid (show (a[k] ^^^ b[k]) ^^^ c[k] = (a[k] ^^^ b[k]) ^^^ c[k] from rfl)
      generalize hx1 : a[k] ^^^ b[k] = x1 at *
      generalize hx2 : x1 ^^^ c[k] = x2 at *
      have HX1 := Lib.hid hx1
      have HX2 := Lib.hid hx2
      have hkl : k < l.length := by omega
      have HC := hby2.cell k hkl
      have HF := hby2.frozen k hkl
      have HS := Lib.hid (hby2.set k hkl x2)
      have HB := Lib.hid hbits
      have HL := Lib.hid hl
      clear hx1 hx2 hbits HX hl
      go_wp2
      go_region
      go_wp2
      have hl2 := HL.out
      refine ⟨⟨k + 1, _, by omega, by go_num, by rw [List.length_set]; exact hl2, HS.out.drew, (hB.setCell (p := ⟨w1.heap.size, k, none⟩) hB1.size _).drew, fun j hj => ?_⟩, by simp [intOf]; omega⟩
      rw [bitB_set _ _ _ hkl]
      split
      · rename_i h
        rw [bitB_at a j (by omega), bitB_at b j (by omega), bitB_at c j (by omega)]
        simp only [h]
        rw [← HX2.out, ← HX1.out, UInt8.toNat_xor, UInt8.toNat_xor, Nat.testBit_xor, Nat.testBit_xor]
      · exact HB.out j (by omega)
    · obtain rfl : k = n := by omega
      have hx3 := crcM_xor3 (a.extract 0 k).data.toList (b.extract 0 k).data.toList (c.extract 0 k).data.toList l (by simp; omega) (by simp; omega) (by simp; omega) (fun j hj => by
        have hj8 : j < 8 * k := by simp at hj; omega
        rw [hbits j hj8, bitB_extract a k j hj8, bitB_extract b k j hj8, bitB_extract c k j hj8])
      have G4 := Lib.hid (of_at ⟨l.toArray⟩ (by show l.length < _; omega))
      have hN : moreN 0 ⟨l.toArray⟩ = (moreN 0 (a.extract 0 k) ^^^ moreN 0 (b.extract 0 k)) ^^^ moreN 0 (c.extract 0 k) := by
        unfold moreN
        show (crcM (BitVec.ofNat 32 0) l).toNat = _
        rw [← BitVec.toNat_xor, ← BitVec.toNat_xor, hx3]
      have hv1 := u32_xor_nat (moreN 0 (a.extract 0 k)) (moreN 0 (b.extract 0 k)) (moreN_lt _ _) (moreN_lt _ _)
      have hv2 := u32_xor_nat (moreN 0 (a.extract 0 k) ^^^ moreN 0 (b.extract 0 k)) (moreN 0 (c.extract 0 k)) (Nat.xor_lt_two_pow (n := 32) (moreN_lt _ _) (moreN_lt _ _)) (moreN_lt _ _)
      rw [← hN] at hv2
      clear hN hx3 hbits
      generalize moreN 0 ⟨l.toArray⟩ = v4 at *
      generalize moreN 0 (a.extract 0 k) ^^^ moreN 0 (b.extract 0 k) = v5 at *
      generalize moreN 0 (a.extract 0 k) = v1 at *
      generalize moreN 0 (b.extract 0 k) = v2 at *
      generalize moreN 0 (c.extract 0 k) = v3 at *
      have hcv := string_of (P := Try.prog) (src := 46) (dst := 9) Try.underlying46 Try.underlying5 Try.underlying9 hby2 k k hl
      have hkeep : ∀ W W', (BytesAt W w1.heap.size l ∧ (convert 46 9 (.slice (some ⟨w1.heap.size, 0, none⟩) k k)).run Try.prog W = .ok (.string ⟨l.toArray⟩) W ∧ Below w.heap.size w W) → Below W.heap.size W W' →
          (BytesAt W' w1.heap.size l ∧ (convert 46 9 (.slice (some ⟨w1.heap.size, 0, none⟩) k k)).run Try.prog W' = .ok (.string ⟨l.toArray⟩) W' ∧ Below w.heap.size w W') := fun W W' h hb =>
        ⟨h.1.below hb, string_of Try.underlying46 Try.underlying5 Try.underlying9 (h.1.below hb) k k hl, bel2 h.2.2 hb⟩
      go_wp2
      go_region_held3 (fun W' => BytesAt W' w1.heap.size l ∧ (convert 46 9 (.slice (some ⟨w1.heap.size, 0, none⟩) k k)).run Try.prog W' = .ok (.string ⟨l.toArray⟩) W' ∧ Below w.heap.size w W')
        (first
          | exact ⟨hby2.drew, string_of Try.underlying46 Try.underlying5 Try.underlying9 hby2.drew k k hl, hB.drew⟩
          | exact hkeep _ _ ⟨by assumption, by assumption, by assumption⟩ (by assumption)
          | exact hkeep _ _ (by assumption) (by assumption)
          | assumption)
        (first
          | (go_at_call 29; ((with_reducible refine (G4.out _).mono ?_); rintro e w4 ⟨rfl, hB4⟩))
          | (go_at_call 29; ((with_reducible refine (G1.out _).mono ?_); rintro e w5 ⟨rfl, hB5⟩))
          | (go_at_call 29; ((with_reducible refine (G2.out _).mono ?_); rintro e w6 ⟨rfl, hB6⟩))
          | (go_at_call 29; ((with_reducible refine (G3.out _).mono ?_); rintro e w7 ⟨rfl, hB7⟩)))
      go_wp2
      go_ret
      exact ⟨rfl, by first | assumption | exact (And.right (And.right (by assumption)))⟩

set_option maxRecDepth 100000 in
theorem lifted (os : Os) (started : os.Started) (H : Type) (enc : TypeId × Value → H) :
    ReturnsInHanded {} Try.checked os 12 .any (Rows.crcLinearSpec.pre6 enc Try.prog Try.f12 Rows.crcLinearRow.domain false) (Rows.crcLinearSpec.post enc Try.prog Try.f12 false true false false) := by
  refine returnsInHanded_of_change (C := Try.checked) Try.own started (by kernel_rfl) Try.func12
    (ChangeSpec.witness6 (enc := enc) (C := Try.checked) false ⟨#[], #[.string ⟨#[]⟩, .string ⟨#[]⟩, .string ⟨#[]⟩], []⟩ 8 (by kernel_rfl) (by kernel_rfl) (by kernel_rfl) (by kernel_rfl)) ?_
  intro W base args ds gs before hval hW _ _
  refine law_contract (T := 4) (n := 3) Try.laid Try.underlying4 rfl rfl ⟨rfl, fun H ds h => by match ds, h with | [_, _, _], _ => rfl⟩ (of_all (by kernel_rfl)) hW ?_
  intro ps hA
  rw [Try.params12] at hA hval
  obtain ⟨v0, vs0, d0, ds0, p0, q0, hargs, rfl, rfl, h0, r0⟩ := trodAll_cons hA
  obtain ⟨v1, vs1, d1, ds1, p1, q1, rfl, rfl, rfl, h1, r1⟩ := trodAll_cons r0
  obtain ⟨v2, vs2, d2, ds2, p2, q2, rfl, rfl, rfl, h2, r2⟩ := trodAll_cons r1
  obtain ⟨rfl, rfl, rfl⟩ := trodAll_nil r2
  obtain rfl : args = #[v0, v1, v2] := by cases args; simp_all
  obtain ⟨a0, rfl, rfl, rfl, w0⟩ := open_string Try.underlying9 (hval 0 9 v0 rfl rfl) h0
  obtain ⟨a1, rfl, rfl, rfl, w1⟩ := open_string Try.underlying9 (hval 1 9 v1 rfl rfl) h1
  obtain ⟨a2, rfl, rfl, rfl, w2⟩ := open_string Try.underlying9 (hval 2 9 v2 rfl rfl) h2
  exact walk a0 w0 a1 w1 a2 w2 W

theorem holds : Rows.CrcLinearSaid :=
  OpenClaim.holds_of_wide 12 Try.f12 rfl rfl rfl rfl rfl rfl rfl ⟨rfl, rfl, rfl, rfl, rfl⟩ rfl rfl rfl rfl rfl (by kernel_rfl) Try.func12 (by kernel_rfl)
    (of_decide_eq_true (by kernel_rfl)) (by unfold Func.isWrapper; first | (rw [if_pos (by decide +kernel)]; kernel_rfl) | (rw [if_neg (by decide +kernel)]; exact ⟨rfl, rfl⟩))
    (fun os started H enc _ => lifted os started H enc)
end Go.Proofs.Ytcchbpjkejklaaa.crcLinear
