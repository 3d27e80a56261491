/- Law CodeLong: for every input the call answers true; its arguments read as they did. No condition. -/
import Derived.Test.YtcchbpjkejklaaaLaw
import Derived.Test.YtcchbpjkejklaaaKnown1
import Derived.Test.YtcchbpjkejklaaaCodeMath
namespace Go.Proofs.Ytcchbpjkejklaaa.codeLong
open Go.ChangeShapes Go.WideShapes Go.ChangeAt Go.RowKit Go.Shelf
open Go.ChangeMaps (open_string shut_string)
set_option linter.unusedVariables false
attribute [local go_sem] Oper.semAt_some wide_fn wide_round_fn


theorem getA_full : ∀ (j k N : Nat) (c : UInt8), k ≤ 8 → c.toNat < 128 → (getA k N (List.replicate j 255 ++ [c])).2 =
    if 8 < k + j then (0, 11) else if 0 < k + j ∧ c.toNat = 0 then (0, 11) else (k + j + 1, 0) := by
  intro j
  induction j with
  | zero =>
    intro k N c hk hc
    simp only [List.replicate_zero, List.nil_append, getA, Nat.add_zero, hc, if_true]
    rw [if_neg (show ¬ 8 < k by omega)]
    by_cases h : c.toNat = 0 ∧ 0 < k
    · rw [if_pos h, if_pos (show 0 < k ∧ c.toNat = 0 from ⟨h.2, h.1⟩)]
    · rw [if_neg h, if_neg (show ¬ (0 < k ∧ c.toNat = 0) from fun x => h ⟨x.2, x.1⟩)]
  | succ j ih =>
    intro k N c hk hc
    simp only [List.replicate_succ, List.cons_append, getA]
    rw [if_neg (by decide)]
    by_cases h8 : k = 8
    · rw [if_pos h8, if_pos (by omega)]
    · rw [if_neg h8, ih (k + 1) _ c (by omega) hc]
      have e : k + 1 + j = k + (j + 1) := by omega
      rw [e]

set_option maxRecDepth 100000 in
set_option maxHeartbeats 2000000 in
theorem walk (a : Nat) (ha : a < 256) (n : Nat) (hn : n < 256) (w : World) :
    Calls Try.prog 7 #[.int .u8 a, .int .u8 n] w fun e w' => e = .returned (.bool true) ∧ Below w.heap.size w w' := by
  obtain ⟨i0, hi, hz0, hz1, hz2⟩ := info_parts Try.infoU8
  have hmk : ∀ w, (Instr.makeSlice 46 (.int .i64 0) (.int .i64 16)).run Try.prog w = .ok (.slice (some ⟨w.heap.size, 0, none⟩) 0 16) (w.alloc (.cells (Array.replicate 16 (.int .u8 0)) 5)) := fun _ => by kernel_rfl
  have hla : bits .and .u8 (a : Int) 127 = (a : Int) % 128 := by
    rw [show (127 : Int) = ((127 : Nat) : Int) from rfl, u8_and_nat a 127 ha (by decide), nat_mask7]; rfl
  go_enter Try.func7, Try.ntmps7
  go_wp2_with (go_at_call 15; refine (code_known _).mono ?_; rintro e w1 ⟨rfl, hB1⟩)
  have hk : n % 11 ≤ 10 := by omega
  have hkc : ((n % 11 : Nat) : Int) = (n : Int) % 11 := by omega
  rw [← hkc]
  generalize n % 11 = k at *
  clear hkc hmk
  have row0 : (w1.alloc (.cells (Array.replicate 16 (.int .u8 0)) 5)).ownsRow w1.heap.size 5 1 (.slice (some ⟨w1.heap.size, 0, none⟩) 0 16) 0 [] :=
    ⟨rfl, .inr ⟨w1.heap.size, 16, _, rfl, Nat.le_refl _, World.alloc_heap_new _ _, by omega, by decide, by simp, by simp⟩⟩
  have hB2 := hB1.trans ((Below.refl w1.heap.size w1).alloc (Nat.le_refl _) (.cells (Array.replicate 16 (.int .u8 0)) 5) |>.mono hB1.size)
  have hsz : w1.heap.size ≤ (w1.alloc (.cells (Array.replicate 16 (.int .u8 0)) 5)).heap.size := by simp
  generalize w1.alloc (.cells (Array.replicate 16 (.int .u8 0)) 5) = W0 at *
  go_loopw [6, 7] (fun v i wr => ∃ j : Nat, j ≤ k ∧ i = .int .i64 j ∧ wr.ownsRow w1.heap.size 5 1 v j (List.replicate j (.int .u8 255)) ∧ Below w.heap.size w wr ∧ w1.heap.size ≤ wr.heap.size)
    (fun _ i _ => k - (intOf i).toNat)
  case atStart => exact ⟨0, by omega, rfl, row0, hB2, hsz⟩
  case round =>
    obtain ⟨j, hj, rfl, hown, hB, hs⟩ := hrel
    clear row0 hB2 hsz
    have hb1 := hB1.size
    by_cases hlt : j < k
    · go_wp2_with (at_builtin; refine wpList_append_own _ rfl _ _ 46 rfl w1.heap.size 5 i0 (.int .u8 0) 1 1 Try.underlying46 hi hz0 hz1 hz2 rfl (by decide) _ _ _ rfl (hown.alloc _) ⟨wr.heap.size, 0, none⟩ 1 1 [.int .u8 255] rfl rfl (cell_one_new _ _ _) (by simp [Value.oneCell']) (by unfold maxLen; omega) (by omega) (by simp; omega) ?_; intro v' w2 hown' hgrow _)
      go_roundw
      case rel =>
        refine ⟨j + 1, by omega, by go_num, by simpa [List.replicate_succ'] using hown', ?_, ?_⟩
        · exact (hB.alloc hB.size _).grown hgrow (by simp; omega) fun q hq => by have := ownBlock_ge hown hq; omega
        · have := hgrow.size; simp at this; omega
      case measure => simp [intOf]; omega
    · obtain rfl : j = k := by omega
      obtain ⟨L, hL⟩ : ∃ L, L = List.replicate j 255 ++ [UInt8.ofNat (a % 128)] := ⟨_, rfl⟩
      have hLr : ∀ (v' : Value) (w2 : World), w2.ownsRow w1.heap.size 5 1 v' (j + 1) (List.replicate j (.int .u8 255) ++ [.int .u8 ((a : Int) % 128)]) → w2.ownsRow w1.heap.size 5 1 v' (j + 1) (L.map vb) := by
        intro v' w2 h
        have e : L.map vb = List.replicate j (.int .u8 255) ++ [.int .u8 ((a : Int) % 128)] := by
          rw [hL, List.map_append, List.map_replicate]
          have : ((UInt8.ofNat (a % 128)).toNat : Int) = (a : Int) % 128 := by rw [toNat_ofNat_lt (by omega)]; rfl
          rw [List.map_cons, List.map_nil, show vb (UInt8.ofNat (a % 128)) = .int .u8 ((a : Int) % 128) from by show Value.int _ _ = _; rw [this]]
          rfl
        rw [e]; exact h
      have hll : L.length = j + 1 := by rw [hL]; simp
      have hGv : (getL L).2 = if 8 < 0 + j then (0, 11) else if 0 < 0 + j ∧ a % 128 = 0 then (0, 11) else (0 + j + 1, 0) := by
        rw [hL]
        have := getA_full j 0 0 (UInt8.ofNat (a % 128)) (by omega) (by rw [toNat_ofNat_lt (by omega)]; omega)
        rwa [toNat_ofNat_lt (by omega)] at this
      clear hL
      have GV := Lib.hid hGv
      clear hGv
      obtain ⟨x, hx⟩ : ∃ x, x = (getL L).1 := ⟨_, rfl⟩
      have hz : (⟨L.toArray⟩ : ByteArray).size = L.length := rfl
      by_cases h8 : 8 < j
      · have GG := Lib.hid (get_at ⟨L.toArray⟩ x 0 11 (by omega) (by have := GV.out; rw [if_pos (by omega)] at this; rw [hx]; exact Prod.ext rfl this))
        clear hx
        go_wp2_with (first
          | (at_builtin; refine wpList_append_own _ rfl _ _ 46 rfl w1.heap.size 5 i0 (.int .u8 0) 1 1 Try.underlying46 hi hz0 hz1 hz2 rfl (by decide) _ _ _ rfl (hown.alloc _) ⟨wr.heap.size, 0, none⟩ 1 1 [.int .u8 ((a : Int) % 128)] rfl rfl (cell_one_new _ _ _) (by simp [Value.oneCell']) (by unfold maxLen; omega) (by omega) (by simp; omega) ?_; intro v' w2 hown' hgrow _; have hcv := run_string_owned (l := L) (P := Try.prog) (src := 46) (dst := 9) Try.underlying46 Try.underlying5 Try.underlying9 (hLr _ _ hown'))
          | (go_at_call 16; refine (GG.out _).mono ?_; rintro e w3 ⟨rfl, hB3⟩))
        go_ret
        exact ⟨rfl, ((hB.alloc hB.size _).grown hgrow (by simp; omega) fun q hq => by have := ownBlock_ge hown hq; omega).trans (hB3.mono (by have := hgrow.size; simp at this; omega))⟩

      · by_cases h0 : 0 < j ∧ a % 128 = 0
        · have GG := Lib.hid (get_at ⟨L.toArray⟩ x 0 11 (by omega) (by have := GV.out; rw [if_neg (by omega), if_pos (by omega)] at this; rw [hx]; exact Prod.ext rfl this))
          clear hx
          obtain ⟨h1, h2⟩ := h0
          have h3 : ((a : Int) % 128 == 0) = true := beq_iff_eq.2 (by omega)
          clear h2
          go_wp2_with (first
            | (at_builtin; refine wpList_append_own _ rfl _ _ 46 rfl w1.heap.size 5 i0 (.int .u8 0) 1 1 Try.underlying46 hi hz0 hz1 hz2 rfl (by decide) _ _ _ rfl (hown.alloc _) ⟨wr.heap.size, 0, none⟩ 1 1 [.int .u8 ((a : Int) % 128)] rfl rfl (cell_one_new _ _ _) (by simp [Value.oneCell']) (by unfold maxLen; omega) (by omega) (by simp; omega) ?_; intro v' w2 hown' hgrow _; have hcv := run_string_owned (l := L) (P := Try.prog) (src := 46) (dst := 9) Try.underlying46 Try.underlying5 Try.underlying9 (hLr _ _ hown'))
            | (go_at_call 16; refine (GG.out _).mono ?_; rintro e w3 ⟨rfl, hB3⟩))
          go_ret
          exact ⟨rfl, ((hB.alloc hB.size _).grown hgrow (by simp; omega) fun q hq => by have := ownBlock_ge hown hq; omega).trans (hB3.mono (by have := hgrow.size; simp at this; omega))⟩

        · have GG := Lib.hid (get_at ⟨L.toArray⟩ x (j + 1) 0 (by omega) (by have := GV.out; rw [if_neg (by omega), if_neg (by omega), Nat.zero_add] at this; rw [hx]; exact Prod.ext rfl this))
          clear hx
          by_cases h1 : 0 < j
          · have h3 : ((a : Int) % 128 == 0) = false := beq_eq_false_iff_ne.2 (by omega)
            clear h0
            go_wp2_with (first
              | (at_builtin; refine wpList_append_own _ rfl _ _ 46 rfl w1.heap.size 5 i0 (.int .u8 0) 1 1 Try.underlying46 hi hz0 hz1 hz2 rfl (by decide) _ _ _ rfl (hown.alloc _) ⟨wr.heap.size, 0, none⟩ 1 1 [.int .u8 ((a : Int) % 128)] rfl rfl (cell_one_new _ _ _) (by simp [Value.oneCell']) (by unfold maxLen; omega) (by omega) (by simp; omega) ?_; intro v' w2 hown' hgrow _; have hcv := run_string_owned (l := L) (P := Try.prog) (src := 46) (dst := 9) Try.underlying46 Try.underlying5 Try.underlying9 (hLr _ _ hown'))
              | (go_at_call 16; refine (GG.out _).mono ?_; rintro e w3 ⟨rfl, hB3⟩))
            go_ret
            exact ⟨rfl, ((hB.alloc hB.size _).grown hgrow (by simp; omega) fun q hq => by have := ownBlock_ge hown hq; omega).trans (hB3.mono (by have := hgrow.size; simp at this; omega))⟩

          · have h3 : j ≤ 0 := by omega
            clear h0 h1
            go_wp2_with (first
              | (at_builtin; refine wpList_append_own _ rfl _ _ 46 rfl w1.heap.size 5 i0 (.int .u8 0) 1 1 Try.underlying46 hi hz0 hz1 hz2 rfl (by decide) _ _ _ rfl (hown.alloc _) ⟨wr.heap.size, 0, none⟩ 1 1 [.int .u8 ((a : Int) % 128)] rfl rfl (cell_one_new _ _ _) (by simp [Value.oneCell']) (by unfold maxLen; omega) (by omega) (by simp; omega) ?_; intro v' w2 hown' hgrow _; have hcv := run_string_owned (l := L) (P := Try.prog) (src := 46) (dst := 9) Try.underlying46 Try.underlying5 Try.underlying9 (hLr _ _ hown'))
              | (go_at_call 16; refine (GG.out _).mono ?_; rintro e w3 ⟨rfl, hB3⟩))
            go_ret
            exact ⟨rfl, ((hB.alloc hB.size _).grown hgrow (by simp; omega) fun q hq => by have := ownBlock_ge hown hq; omega).trans (hB3.mono (by have := hgrow.size; simp at this; omega))⟩


set_option maxRecDepth 100000 in
theorem lifted (os : Os) (started : os.Started) (H : Type) (enc : TypeId × Value → H) :
    ReturnsInHanded {} Try.checked os 7 .any (Rows.codeLongSpec.pre6 enc Try.prog Try.f7 Rows.codeLongRow.domain false) (Rows.codeLongSpec.post enc Try.prog Try.f7 false true false false) := by
  refine returnsInHanded_of_change (C := Try.checked) Try.own started (by kernel_rfl) Try.func7
    (ChangeSpec.witness6 (enc := enc) (C := Try.checked) false ⟨#[], #[.int .u8 0, .int .u8 0], []⟩ 8 (by kernel_rfl) (by kernel_rfl) (by kernel_rfl) (by kernel_rfl)) ?_
  intro W base args ds gs before hval hW _ _
  refine law_contract (T := 4) (n := 2) Try.laid Try.underlying4 rfl rfl ⟨rfl, fun H ds h => by match ds, h with | [_, _], _ => rfl⟩ (of_all (by kernel_rfl)) hW ?_
  intro ps hA
  rw [Try.params7] at hA hval
  obtain ⟨v0, vs0, d0, ds0, p0, q0, hargs, rfl, rfl, h0, r0⟩ := trodAll_cons hA
  obtain ⟨v1, vs1, d1, ds1, p1, q1, rfl, rfl, rfl, h1, r1⟩ := trodAll_cons r0
  obtain ⟨rfl, rfl, rfl⟩ := trodAll_nil r1
  obtain rfl : args = #[v0, v1] := by cases args; simp_all
  obtain ⟨a0, rfl, rfl, rfl, w0⟩ := open_int Try.underlying5 (hval 0 5 v0 rfl rfl) h0
  obtain ⟨a1, rfl, rfl, rfl, w1⟩ := open_int Try.underlying5 (hval 1 5 v1 rfl rfl) h1
  obtain ⟨n0, rfl, b0⟩ := nat_of_u8 w0
  obtain ⟨n1, rfl, b1⟩ := nat_of_u8 w1
  exact walk n0 b0 n1 b1 W

theorem holds : Rows.CodeLongSaid :=
  OpenClaim.holds_of_wide 7 Try.f7 rfl rfl rfl rfl rfl rfl rfl ⟨rfl, rfl, rfl, rfl, rfl⟩ rfl rfl rfl rfl rfl (by kernel_rfl) Try.func7 (by kernel_rfl)
    (of_decide_eq_true (by kernel_rfl)) (by unfold Func.isWrapper; first | (rw [if_pos (by decide +kernel)]; kernel_rfl) | (rw [if_neg (by decide +kernel)]; exact ⟨rfl, rfl⟩))
    (fun os started H enc _ => lifted os started H enc)
end Go.Proofs.Ytcchbpjkejklaaa.codeLong
