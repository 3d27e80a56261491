/- The document's bytes of a sheet. -/
import Derived.Test.YtieekahlknmkfaaKnown9
namespace Go.Proofs.Ytieekahlknmkfaa
open Go.RowKit Go.Shelf
set_option linter.unusedVariables false
attribute [local go_sem] Oper.semAt_some wide_fn wide_round_fn

theorem list_app (l m : List UInt8) : (⟨l.toArray⟩ : ByteArray) ++ ⟨m.toArray⟩ = ⟨(l ++ m).toArray⟩ := by
  apply ByteArray.ext
  rw [ByteArray.data_append]; simp
theorem list_size (l : List UInt8) : (⟨l.toArray⟩ : ByteArray).size = l.length := by show l.toArray.size = _; simp
set_option maxRecDepth 100000 in
set_option maxHeartbeats 2000000 in
theorem refShB_any (a : Option Addr) (len cap : Nat) (zs : List Int) (w : World) (h : RowI .i64 w a len zs) (h250 : len ≤ 250) (hz : ∀ x ∈ zs, x < 9223372036854775808) : Gives Try.prog 39 #[.slice a len cap] w (.string ⟨(shS zs).toArray⟩) := by
  obtain ⟨hl, hm, -, hc⟩ := h
  have hli : (len : Int) < 9223372036854775808 := by omega
  have GP := Lib.hid (fun (n : Int) (hn : n < 9223372036854775808) W => refPut_any n hn W)
  have hend : shL zs = sevL len ++ (zs.take len).flatMap fun x => sevL x.toNat := by unfold shL; rw [hl, List.take_of_length_le (by omega)]
  have HT := Lib.hid (fun (k : Nat) (h : k < zs.length) => shL_take h)
  have HFl := Lib.hid (fun k => Nat.le_trans (flat_lenS (zs.take k)) (Nat.mul_le_mul_left 9 (List.length_take_le k zs)))
  have hll := shL_len (l := zs)
  have GO := Lib.hid (fun W => (show Gives Try.prog 71 #[.int .u32 0, .string ⟨(shL zs).toArray⟩] W (.int .u32 (crcM 0#32 (shL zs)).toNat) from refmore_any 0#32 ⟨(shL zs).toArray⟩ (by rw [list_size]; omega) W))
  have GF := Lib.hid (fun W => refFixed_any (crcM 0#32 (shL zs)).toNat (crcM 0#32 (shL zs)).isLt W)
  have hcat : (⟨(eigL (crcM 0#32 (shL zs)).toNat).toArray⟩ : ByteArray) ++ ⟨(shL zs).toArray⟩ = ⟨(shS zs).toArray⟩ := list_app _ _
  have hsz : (⟨(eigL (crcM 0#32 (shL zs)).toNat).toArray⟩ : ByteArray).size + (⟨(shL zs).toArray⟩ : ByteArray).size ≤ 4000 := by
    rw [list_size, list_size]
    have : (eigL (crcM 0#32 (shL zs)).toNat).length = 4 := rfl
    omega
  have hsv := sevL_len len
  have HL := Lib.hid hl
  have HZ := Lib.hid hz
  have HEnd := Lib.hid hend
  generalize shL zs = SL at *
  generalize shS zs = SS at *
  generalize (crcM 0#32 SL).toNat = cr at *
  unfold Gives at *
  clear hl hz hll hend
  go_enter Try.func39, Try.ntmps39
  go_wp2_with (go_at_call 69; ((with_reducible refine (GP.out _ hli _).mono ?_); rintro e w2 ⟨rfl, hB2⟩))
  go_loopw [3, 4] (fun ss si wr => ∃ (k : Nat), k ≤ len ∧ si = .int .i64 k ∧ ss = .string ⟨(sevL len ++ (zs.take k).flatMap fun x => sevL x.toNat).toArray⟩ ∧ Below w.heap.size w wr) (fun _ si _ => len - (intOf si).toNat)
  case atStart => exact ⟨0, by omega, rfl, by simp, hB2⟩
  case round =>
    obtain ⟨k, hk, rfl, rfl, hB⟩ := hrel
    by_cases hlt : k < len
    · obtain ⟨bb, off, rfl, hbb, hcc⟩ := hc (by omega)
      have hkl : k < zs.length := by rw [HL.out]; exact hlt
      have c := (hB.cell (p := ⟨bb, off + k, none⟩) hbb).trans (hcc k hkl)
      have hki : (k : Int) < (len : Int) := by omega
      have HTk := Lib.hid (show (⟨(sevL len ++ (zs.take (k + 1)).flatMap fun x => sevL x.toNat).toArray⟩ : ByteArray) = ⟨(sevL len ++ (zs.take k).flatMap fun x => sevL x.toNat).toArray⟩ ++ ⟨(sevL zs[k].toNat).toArray⟩ by rw [HT.out k hkl, ← List.append_assoc, list_app])
      have hx9 := HZ.out zs[k] (List.getElem_mem _)
      have hfl := HFl.out k
      have hsx := sevL_len zs[k].toNat
      have hps : (⟨(sevL len ++ (zs.take k).flatMap fun x => sevL x.toNat).toArray⟩ : ByteArray).size + (⟨(sevL zs[k].toNat).toArray⟩ : ByteArray).size ≤ 5000 := by rw [list_size, list_size, List.length_append]; omega
      generalize zs[k] = x at *
      generalize (⟨(sevL len ++ (zs.take k).flatMap fun x => sevL x.toNat).toArray⟩ : ByteArray) = P at *
      clear hcc hc hfl
      go_wp2_with (go_at_call 69; ((with_reducible refine (GP.out _ hx9 _).mono ?_); rintro e w4 ⟨rfl, hB4⟩))
      go_roundw
      case rel => exact ⟨k + 1, by omega, by go_num, by rw [HTk.out], bel2 hB hB4⟩
      case measure => simp [intOf]; omega
    · obtain rfl : k = len := by omega
      rw [← HEnd.out]
      clear hlt hk hc
      go_wp2_with (first
        | (go_at_call 71; ((with_reducible refine (GO.out _).mono ?_); rintro e w7 ⟨rfl, hB7⟩))
        | (go_at_call 70; ((with_reducible refine (GF.out _).mono ?_); rintro e w8 ⟨rfl, hB8⟩)))
      go_ret
      exact ⟨rfl, bel2 (bel2 hB hB7) hB8⟩

end Go.Proofs.Ytieekahlknmkfaa
