/- Law CrcPieces: for every input the call answers true; its arguments read as they did. No condition. -/
import Derived.Test.YtcchbpjkejklaaaLaw
import Derived.Test.YtcchbpjkejklaaaKnown2
import Derived.Test.YtcchbpjkejklaaaReads
namespace Go.Proofs.Ytcchbpjkejklaaa.crcPieces
open Go.ChangeShapes Go.WideShapes Go.ChangeAt Go.RowKit Go.Shelf
open Go.ChangeMaps (open_string shut_string)
set_option linter.unusedVariables false
attribute [local go_sem] Oper.semAt_some wide_fn wide_round_fn


theorem extract_nil (b : ByteArray) : b.extract 0 0 = ⟨#[]⟩ := by
  apply ByteArray.ext; simp
theorem extract_all (b : ByteArray) : b.extract 0 b.size = b := by simp
theorem extract_join (b : ByteArray) (m n : Nat) (h : m ≤ n) : b.extract 0 m ++ b.extract m n = b.extract 0 n := by
  apply ByteArray.ext; simp [Nat.max_eq_right h]

set_option maxRecDepth 100000 in
set_option maxHeartbeats 2000000 in
theorem walk (w : World) (b : ByteArray) (hb : b.size ≤ maxLen) (a : Option Addr) (len cap : Nat) (zs : List Int) (hz : RowI .u8 w a len zs) :
    Calls Try.prog 13 #[.string b, .slice a len cap] w fun e w' => e = .returned (.bool true) ∧ Below w.heap.size w w' := by
  obtain ⟨rfl, hml, hwz, hcz⟩ := hz
  unfold maxLen at hb hml
  by_cases hbig : b.size ≤ 300 ∧ zs.length ≤ 20
  · obtain ⟨h300, h20⟩ := hbig
    have G0 := Lib.hid (of_at b (by omega))
    go_enter Try.func13, Try.ntmps13
    go_wp2_with (go_at_call 28; refine (crc_known _).mono ?_; rintro e w1 ⟨rfl, hB1⟩)
    go_loopw [5, 6, 7] (fun c at_ i wr => ∃ k m : Nat, k ≤ zs.length ∧ m ≤ b.size ∧ i = .int .i64 k ∧ at_ = .int .i64 m ∧ c = .int .u32 (moreN 0 (b.extract 0 m)) ∧ Below w.heap.size w wr) (fun _ _ i _ => zs.length - (intOf i).toNat)
    case atStart => exact ⟨0, 0, by omega, by omega, rfl, rfl, by rw [extract_nil, moreN_empty 0 (by decide)]; rfl, hB1⟩
    case round =>
      obtain ⟨k, m, hk, hm, rfl, rfl, rfl, hB⟩ := hrel
      by_cases hlt : k < zs.length
      · by_cases hlm : m < b.size
        · obtain ⟨bb, off, rfl, hbb, hc⟩ := hcz (by omega)
          have hck := (hB.cell (p := ⟨bb, off + k, none⟩) hbb).trans (hc k hlt)
          obtain ⟨q, hq, hq2⟩ := nat_of_u8 (hwz zs[k] (List.getElem_mem _))
          rw [hq] at hck
          clear hq
          obtain ⟨n, hn, hif⟩ : ∃ n : Nat, m + n ≤ b.size ∧ (if (b.size : Int) - (m : Int) < (q : Int) % 40 then (b.size : Int) - (m : Int) else (q : Int) % 40) = (n : Int) := by
            by_cases h : (b.size : Int) - (m : Int) < (q : Int) % 40
            · exact ⟨b.size - m, by omega, by rw [if_pos h]; omega⟩
            · exact ⟨q % 40, by omega, by rw [if_neg h]; omega⟩
          have hap := Lib.hid (moreN_append 0 (b.extract 0 m) (b.extract m (m + n)))
          rw [extract_join b m (m + n) (by omega)] at hap
          have hes : (b.extract m (m + n)).size < 9223372036854775808 := by rw [ByteArray.size_extract]; omega
          have G := Lib.hid (more_at (moreN 0 (b.extract 0 m)) (moreN_lt _ _) (b.extract m (m + n)) hes)
          rw [← hap.out] at G
          clear hes
          go_wp2_with (go_at_call 31; ((with_reducible refine (G.out _).mono ?_); rintro e w2 ⟨rfl, hB2⟩))
          exact ⟨⟨k + 1, m + n, by omega, by omega, by go_num, by go_num, rfl, hB.trans (hB2.mono hB.size)⟩, by simp [intOf]; omega⟩
        · obtain rfl : m = b.size := by omega
          have G := Lib.hid (show ∀ w, Gives Try.prog 31 #[.int .u32 (moreN 0 b), .string ByteArray.empty] w (.int .u32 (moreN 0 b)) from fun w => by
            have := more_at (moreN 0 b) (moreN_lt _ _) ByteArray.empty (by decide) w
            rwa [show ByteArray.empty = ⟨#[]⟩ from rfl, moreN_empty _ (moreN_lt _ _)] at this)
          go_wp2_with (first
            | (go_at_call 31; ((with_reducible refine (G.out _).mono ?_); rintro e w2 ⟨rfl, hB2⟩))
            | (go_at_call 29; ((with_reducible refine (G0.out _).mono ?_); rintro e w3 ⟨rfl, hB3⟩)))
          go_ret
          exact ⟨rfl, bel2 (bel2 hB hB2) hB3⟩
      · obtain rfl : k = zs.length := by omega
        have G := Lib.hid (more_at (moreN 0 (b.extract 0 m)) (moreN_lt _ _) (b.extract m b.size) (by rw [ByteArray.size_extract]; omega))
        rw [← moreN_append, extract_join b m b.size (by omega), extract_all] at G
        go_wp2_with (first
          | (go_at_call 31; ((with_reducible refine (G.out _).mono ?_); rintro e w2 ⟨rfl, hB2⟩))
          | (go_at_call 29; ((with_reducible refine (G0.out _).mono ?_); rintro e w3 ⟨rfl, hB3⟩)))
        go_ret
        exact ⟨rfl, bel2 (bel2 hB hB2) hB3⟩
  · by_cases h1 : b.size ≤ 300
    · have h2 : 20 < zs.length := by omega
      go_enter Try.func13, Try.ntmps13
      go_wp2_with (go_at_call 28; refine (crc_known _).mono ?_; rintro e w1 ⟨rfl, hB1⟩)
      go_ret
      exact ⟨rfl, hB1⟩
    · have h2 : 300 < b.size := by omega
      go_enter Try.func13, Try.ntmps13
      go_wp2_with (go_at_call 28; refine (crc_known _).mono ?_; rintro e w1 ⟨rfl, hB1⟩)
      go_ret
      exact ⟨rfl, hB1⟩

set_option maxRecDepth 100000 in
theorem lifted (os : Os) (started : os.Started) (H : Type) (enc : TypeId × Value → H) :
    ReturnsInHanded {} Try.checked os 13 .any (Rows.crcPiecesSpec.pre6 enc Try.prog Try.f13 Rows.crcPiecesRow.domain false) (Rows.crcPiecesSpec.post enc Try.prog Try.f13 false true false false) := by
  refine returnsInHanded_of_change (C := Try.checked) Try.own started (by kernel_rfl) Try.func13
    (ChangeSpec.witness6 (enc := enc) (C := Try.checked) false ⟨#[], #[.string ⟨#[]⟩, .slice none 0 0], []⟩ 8 (by kernel_rfl) (by kernel_rfl) (by kernel_rfl) (by kernel_rfl)) ?_
  intro W base args ds gs before hval hW _ _
  refine law_contract (T := 4) (n := 2) Try.laid Try.underlying4 rfl rfl ⟨rfl, fun H ds h => by match ds, h with | [_, _], _ => rfl⟩ (of_all (by kernel_rfl)) hW ?_
  intro ps hA
  rw [Try.params13] at hA hval
  obtain ⟨v0, vs0, d0, ds0, p0, q0, hargs, rfl, rfl, h0, r0⟩ := trodAll_cons hA
  obtain ⟨v1, vs1, d1, ds1, p1, q1, rfl, rfl, rfl, h1, r1⟩ := trodAll_cons r0
  obtain ⟨rfl, rfl, rfl⟩ := trodAll_nil r1
  obtain rfl : args = #[v0, v1] := by cases args; simp_all
  obtain ⟨a0, rfl, rfl, rfl, w0⟩ := open_string Try.underlying9 (hval 0 9 v0 rfl rfl) h0
  obtain ⟨s1, l1, c1, rfl⟩ := okWide_slice Try.underlying46 (hval 1 46 v1 rfl rfl)
  obtain ⟨zs1, w1⟩ := isInts_of (k := .u8) Try.underlying46 Try.underlying5 (by kernel_rfl) h1
  exact walk W a0 w0 s1 l1 c1 _ (rowI_of w1)

theorem holds : Rows.CrcPiecesSaid :=
  OpenClaim.holds_of_wide 13 Try.f13 rfl rfl rfl rfl rfl rfl rfl ⟨rfl, rfl, rfl, rfl, rfl⟩ rfl rfl rfl rfl rfl (by kernel_rfl) Try.func13 (by kernel_rfl)
    (of_decide_eq_true (by kernel_rfl)) (by unfold Func.isWrapper; first | (rw [if_pos (by decide +kernel)]; kernel_rfl) | (rw [if_neg (by decide +kernel)]; exact ⟨rfl, rfl⟩))
    (fun os started H enc _ => lifted os started H enc)
end Go.Proofs.Ytcchbpjkejklaaa.crcPieces
