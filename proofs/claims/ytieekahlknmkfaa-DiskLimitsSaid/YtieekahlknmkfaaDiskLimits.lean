/- Law DiskLimits: for every input the call answers true; its arguments read as they did. No condition. -/
import Derived.Test.YtieekahlknmkfaaLaw
import Derived.Test.YtieekahlknmkfaaDskZ
namespace Go.Proofs.Ytieekahlknmkfaa.diskLimits
open Go.ChangeShapes Go.WideShapes Go.ChangeAt Go.RowKit Go.Shelf
open Go.ChangeMaps (open_string shut_string)
set_option linter.unusedVariables false
attribute [local go_sem] Oper.semAt_some wide_fn wide_round_fn

def limS (k i : Nat) : PD := ⟨[⟨⟨#[102]⟩, List.replicate (min i k) 120, 0⟩], 1000, 1 + min i k, true, k - min i k⟩
theorem fitS (k i : Nat) (hk : k ≤ 20) : Fit (limS k i) 40 := fits (by show (1000 : Nat) ≤ _; decide) (by show usedL [_] ≤ _; rw [used1, List.length_replicate]; omega) (by show 1 ≤ 1000; decide) (by show 1 + min i k ≤ 40; omega) (by show k - min i k < _; omega)
theorem askF (b : List UInt8) (j st : Nat) (lim : Bool) (left : Nat) : askE ⟨[⟨⟨#[102]⟩, b, j⟩], 1000, st, lim, left⟩ ⟨#[102]⟩ = if (lim && decide (left = 0)) = true then 18 else 0 := by
  unfold askE
  rw [show (getK PF.n [(⟨⟨#[102]⟩, b, j⟩ : PF)] ⟨#[102]⟩).isSome = true by kernel_rfl]
  rfl
theorem limS_do (k i : Nat) (hk : k ≤ 20) (h : i < k) : appendE (limS k i) ⟨#[102]⟩ ⟨#[120]⟩ = 0 ∧ appendD (limS k i) ⟨#[102]⟩ ⟨#[120]⟩ = limS k (i + 1) := by
  have h0 : appendE (limS k i) ⟨#[102]⟩ ⟨#[120]⟩ = 0 := by
    have ha : askE (limS k i) ⟨#[102]⟩ = 0 := by unfold limS; rw [askF, if_neg (by simp; omega)]
    unfold appendE
    rw [if_neg (by rw [ha]; simp), if_neg (by show ¬ 1000 < usedL [_] + 1; rw [used1, List.length_replicate]; omega)]
  refine ⟨h0, ?_⟩
  unfold appendD
  rw [if_pos h0]
  show (⟨[⟨⟨#[102]⟩, List.replicate (min i k) 120 ++ [120], 0⟩], 1000, 1 + min i k + 1, true, k - min i k - 1⟩ : PD) = limS k (i + 1)
  unfold limS
  rw [Nat.min_eq_left (Nat.le_of_lt h), Nat.min_eq_left (by omega : i + 1 ≤ k), ← List.replicate_succ']
  congr 1
theorem limS_no (k i : Nat) (h : k ≤ i) : appendE (limS k i) ⟨#[102]⟩ ⟨#[120]⟩ = 18 ∧ appendD (limS k i) ⟨#[102]⟩ ⟨#[120]⟩ = limS k (i + 1) := by
  have hm : min i k = k := by omega
  have h0 : appendE (limS k i) ⟨#[102]⟩ ⟨#[120]⟩ = 18 := by
    have ha : askE (limS k i) ⟨#[102]⟩ = 18 := by unfold limS; rw [askF, hm, Nat.sub_self]; rfl
    unfold appendE
    rw [ha]; rfl
  refine ⟨h0, ?_⟩
  unfold appendD
  rw [if_neg (by rw [h0]; decide)]
  unfold limS
  rw [hm, show min (i + 1) k = k by omega]
theorem limS_end (k : Nat) (hk : k ≤ 20) : limS k 22 = ⟨[⟨⟨#[102]⟩, List.replicate k 120, 0⟩], 1000, 1 + k, true, 0⟩ := by
  unfold limS; rw [show min 22 k = k by omega, Nat.sub_self]
theorem limS_zero (k : Nat) (n : Int) (h : n = k) : limitD ⟨[⟨⟨#[102]⟩, [], 0⟩], 1000, 1, false, 0⟩ n = limS k 0 := by
  subst h
  unfold limitD limS
  rw [Nat.zero_min]
  simp
theorem limS_read (k : Nat) (hk : k ≤ 20) : readB (limS k 22) ⟨#[102]⟩ = ⟨#[]⟩ ∧ askE (limS k 22) ⟨#[102]⟩ = 18 := by
  have h : askE (limS k 22) ⟨#[102]⟩ = 18 := by rw [limS_end k hk, askF]; rfl
  exact ⟨by unfold readB; rw [if_neg (by rw [h]; decide)], h⟩
def limC (k keep : Nat) : PD := crashD (limS k 22) keep
theorem limC_is (k keep : Nat) (hk : k ≤ 20) : ∃ b j, limC k keep = ⟨[⟨⟨#[102]⟩, b, j⟩], 1000, 1 + k, false, 0⟩ ∧ b.length ≤ 20 := by
  unfold limC
  rw [limS_end k hk]
  exact ⟨_, _, rfl, by show ((List.replicate k (120 : UInt8)).take _).length ≤ 20; rw [List.length_take, List.length_replicate]; omega⟩
theorem limC_fit (k keep : Nat) (hk : k ≤ 20) : Fit (limC k keep) 40 := (fitS k 22 hk).crash keep
theorem limC_app (k keep : Nat) (hk : k ≤ 20) : appendE (limC k keep) ⟨#[102]⟩ ⟨#[121]⟩ = 0 ∧ (appendD (limC k keep) ⟨#[102]⟩ ⟨#[121]⟩).steps = k + 2 := by
  obtain ⟨b, j, h, hb⟩ := limC_is k keep hk
  rw [h]
  have h0 : appendE ⟨[⟨⟨#[102]⟩, b, j⟩], 1000, 1 + k, false, 0⟩ ⟨#[102]⟩ ⟨#[121]⟩ = 0 := by
    unfold appendE
    rw [if_neg (by rw [askF]; simp), if_neg (by rw [used1]; show ¬ 1000 < b.length + 1; omega)]
  refine ⟨h0, ?_⟩
  unfold appendD
  rw [if_pos h0]
  show 1 + k + 1 = k + 2
  omega

set_option maxRecDepth 100000 in
set_option maxHeartbeats 4000000 in
theorem limits (n : Nat) (hn : n < 256) (keep : Nat) (hkp : keep < 18446744073709551616) (w : World) : Calls Try.prog 8 #[.int .u8 n, .int .u64 keep] w fun e w' => e = .returned (.bool true) ∧ Below w.heap.size w w' := by
  obtain ⟨k, hkk⟩ : ∃ k : Nat, ((n : Int) % 20) = k := ⟨((n : Int) % 20).toNat, by omega⟩
  have hk20 : k ≤ 20 := by omega
  have GK := Lib.hid disk_known
  have GN := Lib.hid (fun w1 => (show Calls Try.prog 24 #[.int .i64 1000] w1 fun e w' => e = .returned (.pointer (some ⟨(w1.heap.size + 1), 0, none⟩)) ∧ One w1 (w1.heap.size + 1) (⟨[], 1000, 0, false, 0⟩ : PD) w' from newO 1000 w1))
  have GC0 := Lib.hid (fun w1 W (h : One w1 (w1.heap.size + 1) ((⟨[], 1000, 0, false, 0⟩ : PD)) W) => (show Calls Try.prog 19 #[.pointer (some ⟨(w1.heap.size + 1), 0, none⟩), .string ⟨#[102]⟩] W fun e w' => e = .returned (.int .i64 0) ∧ One w1 (w1.heap.size + 1) ((⟨[⟨⟨#[102]⟩, [], 0⟩], 1000, 1, false, 0⟩ : PD)) w' from by have := createO (n := 5) h (fits (by decide) (by decide) (by decide) (by decide) (by decide)) (by decide) ⟨#[102]⟩ (by decide); rwa [show createE (⟨[], 1000, 0, false, 0⟩ : PD) ⟨#[102]⟩ = 0 by kernel_rfl, show createD (⟨[], 1000, 0, false, 0⟩ : PD) ⟨#[102]⟩ = (⟨[⟨⟨#[102]⟩, [], 0⟩], 1000, 1, false, 0⟩ : PD) by kernel_rfl] at this))
  have GL := Lib.hid (fun w1 W (h : One w1 (w1.heap.size + 1) ((⟨[⟨⟨#[102]⟩, [], 0⟩], 1000, 1, false, 0⟩ : PD)) W) => (show Calls Try.prog 30 #[.pointer (some ⟨(w1.heap.size + 1), 0, none⟩), .int .i64 ((n : Int) % 20)] W fun e w' => (∃ v, e = .returned v) ∧ One w1 (w1.heap.size + 1) (limS k 0) w' from by have := limitO h ((n : Int) % 20); rwa [limS_zero k _ hkk] at this))
  have GAy := Lib.hid (fun w1 i (hi : i < k) W (h : One w1 (w1.heap.size + 1) (limS k i) W) => (show Calls Try.prog 25 #[.pointer (some ⟨(w1.heap.size + 1), 0, none⟩), .string ⟨#[102]⟩, .string ⟨#[120]⟩] W fun e w' => e = .returned (.int .i64 0) ∧ One w1 (w1.heap.size + 1) (limS k (i + 1)) w' from by have := appendO h (fitS k i hk20) (by decide) ⟨#[102]⟩ ⟨#[120]⟩ (by decide) (by decide); rwa [(limS_do k i hk20 hi).1, (limS_do k i hk20 hi).2] at this))
  have GAn := Lib.hid (fun w1 i (hi : k ≤ i) W (h : One w1 (w1.heap.size + 1) (limS k i) W) => (show Calls Try.prog 25 #[.pointer (some ⟨(w1.heap.size + 1), 0, none⟩), .string ⟨#[102]⟩, .string ⟨#[120]⟩] W fun e w' => e = .returned (.int .i64 18) ∧ One w1 (w1.heap.size + 1) (limS k (i + 1)) w' from by have := appendO h (fitS k i hk20) (by decide) ⟨#[102]⟩ ⟨#[120]⟩ (by decide) (by decide); rwa [(limS_no k i hi).1, (limS_no k i hi).2] at this))
  have GR := Lib.hid (fun w1 W (h : One w1 (w1.heap.size + 1) (limS k 22) W) => (show Calls Try.prog 21 #[.pointer (some ⟨(w1.heap.size + 1), 0, none⟩), .string ⟨#[102]⟩] W fun e w' => e = .returned (.tuple #[.string ⟨#[]⟩, .int .i64 18]) ∧ w' = W from by have := dreadO h ⟨#[102]⟩ (by decide); rwa [(limS_read k hk20).1, (limS_read k hk20).2] at this))
  obtain ⟨S, hSd⟩ : ∃ S : ByteArray, S = ⟨(List.replicate k 120).toArray⟩ := ⟨_, rfl⟩
  have hSk : ((S.size : Nat) : Int) = ((n : Int) % 20) := by rw [hkk, hSd]; show (((List.replicate k (120 : UInt8)).toArray.size : Nat) : Int) = k; simp
  have HSK := Lib.hid hSk
  have GAl := Lib.hid (fun w1 W (h : One w1 (w1.heap.size + 1) (limS k 22) W) => (show Calls Try.prog 29 #[.pointer (some ⟨(w1.heap.size + 1), 0, none⟩)] W fun e w' => ∃ g cap cur, e = .returned (.slice (some ⟨g, 0, none⟩) 1 cap) ∧ w'.heap[g]? = some (.cells cur 26 (0, 0)) ∧ cur.toList.take 3 = PF.cells ⟨⟨#[102]⟩, List.replicate k 120, 0⟩ ∧ OneG w1 (w1.heap.size + 1) (limS k 22) g w' from by
    refine (allO h (fitS k 22 hk20)).mono ?_
    rintro e w' ⟨v, rfl, hrow, hB⟩
    rw [limS_end k hk20] at hrow
    obtain ⟨g, cap, cur, rfl, hg1, hg2, hg3⟩ := row1 hrow
    exact ⟨g, cap, cur, rfl, hg2, by rw [hg3]; simp [pfCells], OneG.of h hB hg1 (heap_lt8 hg2)⟩))
  have GU := Lib.hid (fun w1 g W (h : OneG w1 (w1.heap.size + 1) (limS k 22) g W) => (show Calls Try.prog 28 #[.pointer (some ⟨(w1.heap.size + 1), 0, none⟩)] W fun e w' => e = .returned (.int .i64 ((n : Int) % 20)) ∧ OneG w1 (w1.heap.size + 1) (limS k 22) g w' ∧ w'.heap[g]? = W.heap[g]? from by
    refine (usedO h.one (fitS k 22 hk20)).mono ?_
    rintro e w' ⟨rfl, hB⟩
    refine ⟨?_, h.below hB⟩
    rw [limS_end k hk20, used1, List.length_replicate, hkk]))
  have GX := Lib.hid (fun w1 g W (h : OneG w1 (w1.heap.size + 1) (limS k 22) g W) => (show Calls Try.prog 20 #[.pointer (some ⟨(w1.heap.size + 1), 0, none⟩), .int .u64 keep] W fun e w' => (∃ v, e = .returned v) ∧ OneG w1 (w1.heap.size + 1) (limC k keep) g w' ∧ w'.heap[g]? = W.heap[g]? from crashG h (fitS k 22 hk20) keep hkp))
  have GA2 := Lib.hid (fun w1 g W (h : OneG w1 (w1.heap.size + 1) (limC k keep) g W) => (show Calls Try.prog 25 #[.pointer (some ⟨(w1.heap.size + 1), 0, none⟩), .string ⟨#[102]⟩, .string ⟨#[121]⟩] W fun e w' => e = .returned (.int .i64 0) ∧ OneG w1 (w1.heap.size + 1) (appendD (limC k keep) ⟨#[102]⟩ ⟨#[121]⟩) g w' ∧ w'.heap[g]? = W.heap[g]? from by have := appendG h (limC_fit k keep hk20) (by decide) ⟨#[102]⟩ ⟨#[121]⟩ (by decide) (by decide); rwa [(limC_app k keep hk20).1] at this))
  have GS := Lib.hid (fun w1 g W (h : OneG w1 (w1.heap.size + 1) (appendD (limC k keep) ⟨#[102]⟩ ⟨#[121]⟩) g W) => (show Calls Try.prog 34 #[.pointer (some ⟨(w1.heap.size + 1), 0, none⟩)] W fun e w' => e = .returned (.int .i64 (((n : Int) % 20) + 2)) ∧ w' = W from by have := stepsO h.one; rw [(limC_app k keep hk20).2] at this; rw [hkk]; exact this))
  have HSd := Lib.hid hSd
  have HKK := Lib.hid hkk
  have hn0 : (0 : Int) ≤ ((n : Int) % 20) := by omega
  have hn19 : ((n : Int) % 20) ≤ 19 := by omega
  clear hSd hSk hkk
  go_enter Try.func8, Try.ntmps8
  go_wp2_with (first
    | (go_at_call 14; ((with_reducible refine (GK.out _).mono ?_); rintro e w1 ⟨rfl, hB1⟩))
    | (go_at_call 24; ((with_reducible refine (GN.out _).mono ?_); rintro e w2 ⟨rfl, hO0⟩))
    | (go_at_call 19; ((with_reducible refine (GC0.out _ _ hO0).mono ?_); rintro e w3 ⟨rfl, hO1⟩; clear hO0))
    | (go_at_call 30; ((with_reducible refine (GL.out _ _ hO1).mono ?_); rintro e w4 ⟨⟨vl, rfl⟩, hO2⟩; clear hO1)))
  go_loopw [7] (fun si wr => ∃ i : Nat, i ≤ 22 ∧ si = .int .i64 i ∧ One w1 (w1.heap.size + 1) (limS k i) wr) (fun si _ => 22 - (intOf si).toNat)
  case atStart => exact ⟨0, by omega, rfl, hO2⟩
  case round =>
    obtain ⟨i, hi, rfl, hO⟩ := hrel
    by_cases hlt : i < 22
    · by_cases hik : i < k
      · have hiz : (i : Int) < ((n : Int) % 20) := by rw [HKK.out]; omega
        have HI := Lib.hid hik
        have hi22 : (i : Int) < 22 := by omega
        clear hik hlt hi
        go_wp2_with (first
          | (go_at_call 25; ((with_reducible refine (GAy.out _ _ HI.out _ hO).mono ?_); rintro e w5 ⟨rfl, hO3⟩; clear hO)))
        go_roundw
        case rel => exact ⟨i + 1, by omega, by go_num, hO3⟩
        case measure => simp [intOf]; omega
      · have hiz : ((n : Int) % 20) ≤ (i : Int) := by rw [HKK.out]; omega
        have HI := Lib.hid (show k ≤ i by omega)
        have hi22 : (i : Int) < 22 := by omega
        clear hik hlt hi
        go_wp2_with (first
          | (go_at_call 25; ((with_reducible refine (GAn.out _ _ HI.out _ hO).mono ?_); rintro e w5 ⟨rfl, hO3⟩; clear hO)))
        go_roundw
        case rel => exact ⟨i + 1, by omega, by go_num, hO3⟩
        case measure => simp [intOf]; omega
    · obtain rfl : i = 22 := by omega
      clear hlt hi
      go_wp2_with (first
    | (go_at_call 21; ((with_reducible refine (GR.out _ _ hO).mono ?_); rintro e w5 ⟨rfl, rfl⟩))
    | (go_at_call 29; ((with_reducible refine (GAl.out _ _ hO).mono ?_); rintro e w6 ⟨g, cap, cur, rfl, hg1, hgt, hG1⟩; clear hO))
    | (go_at_call 28; ((with_reducible refine (GU.out _ _ _ hG1).mono ?_); rintro e w7 ⟨rfl, hG2, hg2⟩; clear hG1; replace hg2 := hg2.trans hg1; clear hg1))
    | (go_at_call 20; ((with_reducible refine (GX.out _ _ _ hG2).mono ?_); rintro e w8 ⟨⟨vx, rfl⟩, hG3, hg3⟩; clear hG2; replace hg3 := hg3.trans hg2; clear hg2))
    | (go_at_call 25; ((with_reducible refine (GA2.out _ _ _ hG3).mono ?_); rintro e w9 ⟨rfl, hG4, hg4⟩; clear hG3; replace hg4 := hg4.trans hg3; clear hg3; obtain ⟨z0, z1, z2⟩ := file_at hg4 hgt; dsimp only at z1; rw [← HSd.out] at z1; have hSk := HSK.out))
    | (go_at_call 34; ((with_reducible refine (GS.out _ _ _ hG4).mono ?_); rintro e w10 ⟨rfl, rfl⟩)))
      go_ret
      exact ⟨by simp, bel2 hB1 hG4.one.bel⟩

theorem walk (n : Nat) (hn : n < 256) (keep : Nat) (hk : keep < 18446744073709551616) (w : World) : Calls Try.prog 8 #[.int .u8 n, .int .u64 keep] w fun e w' => e = .returned (.bool true) ∧ Below w.heap.size w w' := limits n hn keep hk w

set_option maxRecDepth 100000 in
theorem lifted (os : Os) (started : os.Started) (H : Type) (enc : TypeId × Value → H) :
    ReturnsInHanded {} Try.checked os 8 .any (Rows.diskLimitsSpec.pre6 enc Try.prog Try.f8 Rows.diskLimitsRow.domain false) (Rows.diskLimitsSpec.post enc Try.prog Try.f8 false true false false) := by
  refine returnsInHanded_of_change (C := Try.checked) Try.own started (by kernel_rfl) Try.func8
    (ChangeSpec.witness6 (enc := enc) (C := Try.checked) false ⟨#[], #[.int .u8 0, .int .u64 0], []⟩ 8 (by kernel_rfl) (by kernel_rfl) (by kernel_rfl) (by kernel_rfl)) ?_
  intro W base args ds gs before hval hW _ _
  refine law_contract (T := 4) (n := 2) Try.laid Try.underlying4 rfl rfl ⟨rfl, fun H ds h => by match ds, h with | [_, _], _ => rfl⟩ (of_all (by kernel_rfl)) hW ?_
  intro ps hA
  rw [Try.params8] at hA hval
  obtain ⟨v0, vs0, d0, ds0, p0, q0, hargs, rfl, rfl, h0, r0⟩ := trodAll_cons hA
  obtain ⟨v1, vs1, d1, ds1, p1, q1, rfl, rfl, rfl, h1, r1⟩ := trodAll_cons r0
  obtain ⟨rfl, rfl, rfl⟩ := trodAll_nil r1
  obtain rfl : args = #[v0, v1] := by cases args; simp_all
  obtain ⟨a0, rfl, rfl, rfl, w0⟩ := open_int Try.underlying5 (hval 0 5 v0 rfl rfl) h0
  obtain ⟨a1, rfl, rfl, rfl, w1⟩ := open_int Try.underlying31 (hval 1 31 v1 rfl rfl) h1
  obtain ⟨n0, rfl, b0⟩ := nat_of_u8 w0
  obtain ⟨n1, rfl, b1⟩ := nat_of_u64 w1
  exact walk n0 b0 n1 b1 W

theorem holds : Rows.DiskLimitsSaid :=
  OpenClaim.holds_of_wide 8 Try.f8 rfl rfl rfl rfl rfl rfl rfl ⟨rfl, rfl, rfl, rfl, rfl⟩ rfl rfl rfl rfl rfl (by kernel_rfl) Try.func8 (by kernel_rfl)
    (of_decide_eq_true (by kernel_rfl)) (by unfold Func.isWrapper; first | (rw [if_pos (by decide +kernel)]; kernel_rfl) | (rw [if_neg (by decide +kernel)]; exact ⟨rfl, rfl⟩))
    (fun os started H enc _ => lifted os started H enc)
end Go.Proofs.Ytieekahlknmkfaa.diskLimits
