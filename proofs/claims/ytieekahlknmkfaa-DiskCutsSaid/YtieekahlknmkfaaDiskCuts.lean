/- Law DiskCuts: for every input the call answers true; its arguments read as they did. No condition. -/
import Derived.Test.YtieekahlknmkfaaLaw
import Derived.Test.YtieekahlknmkfaaKnown8
namespace Go.Proofs.Ytieekahlknmkfaa.diskCuts
open Go.ChangeShapes Go.WideShapes Go.ChangeAt Go.RowKit Go.Shelf
open Go.ChangeMaps (open_string shut_string)
set_option linter.unusedVariables false
attribute [local go_sem] Oper.semAt_some wide_fn wide_round_fn

theorem len_id (a : ByteArray) : a.data.toList.length = a.size := by rw [Array.length_toList]; rfl
theorem used1 (n : ByteArray) (b : List UInt8) (k : Nat) : usedL [⟨n, b, k⟩] = b.length := by simp [usedL]
theorem fit1 (L : List PF) (n : Nat) (h : usedL L ≤ 1000 ∧ L.length ≤ 2) (hn : n ≤ 7) : Fit ⟨L, 1000, n, false, 0⟩ 7 := fits (by show (1000 : Nat) ≤ _; decide) (by show usedL L ≤ _; omega) (by show L.length ≤ _; omega) hn (by show (0 : Nat) < _; decide)
theorem fitC (a : ByteArray) (ha : a.size ≤ 100) (k : Nat) : Fit (⟨[⟨⟨#[102]⟩, (a.data.toList.take k), k⟩], 1000, 3, false, 0⟩ : PD) 7 := fit1 _ _ ⟨by rw [used1, List.length_take, len_id]; omega, by simp⟩ (by decide)
theorem cC0 : createE (⟨[], 1000, 0, false, 0⟩ : PD) ⟨#[102]⟩ = 0 ∧ createD (⟨[], 1000, 0, false, 0⟩ : PD) ⟨#[102]⟩ = (⟨[⟨⟨#[102]⟩, [], 0⟩], 1000, 1, false, 0⟩ : PD) := ⟨by kernel_rfl, by kernel_rfl⟩
theorem cA1 (a : ByteArray) (ha : a.size ≤ 100) : appendE (⟨[⟨⟨#[102]⟩, [], 0⟩], 1000, 1, false, 0⟩ : PD) ⟨#[102]⟩ a = 0 ∧ appendD (⟨[⟨⟨#[102]⟩, [], 0⟩], 1000, 1, false, 0⟩ : PD) ⟨#[102]⟩ a = (⟨[⟨⟨#[102]⟩, a.data.toList, 0⟩], 1000, 2, false, 0⟩ : PD) := by
  have h : appendE (⟨[⟨⟨#[102]⟩, [], 0⟩], 1000, 1, false, 0⟩ : PD) ⟨#[102]⟩ a = 0 := by
    unfold appendE
    rw [if_neg (by rw [show askE (⟨[⟨⟨#[102]⟩, [], 0⟩], 1000, 1, false, 0⟩ : PD) ⟨#[102]⟩ = 0 by kernel_rfl]; simp), if_neg (by rw [used1]; simp; omega)]
  refine ⟨h, ?_⟩
  unfold appendD
  rw [if_pos h]; kernel_rfl
theorem cT2 (a : ByteArray) (n : Int) (k : Nat) (hk : cutK n a.size = k) : askE (⟨[⟨⟨#[102]⟩, a.data.toList, 0⟩], 1000, 2, false, 0⟩ : PD) ⟨#[102]⟩ = 0 ∧ cutD (⟨[⟨⟨#[102]⟩, a.data.toList, 0⟩], 1000, 2, false, 0⟩ : PD) ⟨#[102]⟩ n = (⟨[⟨⟨#[102]⟩, (a.data.toList.take k), k⟩], 1000, 3, false, 0⟩ : PD) := by
  have h : askE (⟨[⟨⟨#[102]⟩, a.data.toList, 0⟩], 1000, 2, false, 0⟩ : PD) ⟨#[102]⟩ = 0 := by kernel_rfl
  refine ⟨h, ?_⟩
  unfold cutD
  rw [if_pos h]
  rw [show doneD { (⟨[⟨⟨#[102]⟩, a.data.toList, 0⟩], 1000, 2, false, 0⟩ : PD) with L := turnL (cutP n) (⟨[⟨⟨#[102]⟩, a.data.toList, 0⟩], 1000, 2, false, 0⟩ : PD).L ⟨#[102]⟩ } = (⟨[⟨⟨#[102]⟩, a.data.toList.take (cutK n a.data.toList.length), cutK n a.data.toList.length⟩], 1000, 3, false, 0⟩ : PD) by kernel_rfl, len_id, hk]
theorem cX3 (a : ByteArray) (k : Nat) (hk : k ≤ a.size) (keep : Nat) : crashD (⟨[⟨⟨#[102]⟩, (a.data.toList.take k), k⟩], 1000, 3, false, 0⟩ : PD) keep = (⟨[⟨⟨#[102]⟩, (a.data.toList.take k), k⟩], 1000, 3, false, 0⟩ : PD) := by
  have hl : (a.data.toList.take k).length = k := by rw [List.length_take, len_id]; omega
  have h : crP keep 0 ⟨⟨#[102]⟩, a.data.toList.take k, k⟩ = ⟨⟨#[102]⟩, a.data.toList.take k, k⟩ := by
    unfold crP
    dsimp only
    rw [hl, Nat.sub_self, Nat.zero_mul, Nat.zero_div, Nat.add_zero, List.take_take, Nat.min_self]
  show (⟨[crP keep 0 _], 1000, 3, false, 0⟩ : PD) = _
  rw [h]
theorem cR3 (a : ByteArray) (k : Nat) : readB (⟨[⟨⟨#[102]⟩, (a.data.toList.take k), k⟩], 1000, 3, false, 0⟩ : PD) ⟨#[102]⟩ = a.extract 0 k ∧ askE (⟨[⟨⟨#[102]⟩, (a.data.toList.take k), k⟩], 1000, 3, false, 0⟩ : PD) ⟨#[102]⟩ = 0 := by
  refine ⟨?_, by kernel_rfl⟩
  rw [show readB (⟨[⟨⟨#[102]⟩, (a.data.toList.take k), k⟩], 1000, 3, false, 0⟩ : PD) ⟨#[102]⟩ = ⟨(a.data.toList.take k).toArray⟩ by kernel_rfl]
  apply ByteArray.ext
  apply Array.toList_inj.mp
  simp [ByteArray.data_extract, List.extract_eq_take_drop]
theorem cG3 (a : ByteArray) (k : Nat) : askE (⟨[⟨⟨#[102]⟩, (a.data.toList.take k), k⟩], 1000, 3, false, 0⟩ : PD) ⟨#[103]⟩ = 19 ∧ cutD (⟨[⟨⟨#[102]⟩, (a.data.toList.take k), k⟩], 1000, 3, false, 0⟩ : PD) ⟨#[103]⟩ 0 = (⟨[⟨⟨#[102]⟩, (a.data.toList.take k), k⟩], 1000, 3, false, 0⟩ : PD) ∧ removeD (⟨[⟨⟨#[102]⟩, (a.data.toList.take k), k⟩], 1000, 3, false, 0⟩ : PD) ⟨#[103]⟩ = (⟨[⟨⟨#[102]⟩, (a.data.toList.take k), k⟩], 1000, 3, false, 0⟩ : PD) ∧ renameD (⟨[⟨⟨#[102]⟩, (a.data.toList.take k), k⟩], 1000, 3, false, 0⟩ : PD) ⟨#[103]⟩ ⟨#[104]⟩ = (⟨[⟨⟨#[102]⟩, (a.data.toList.take k), k⟩], 1000, 3, false, 0⟩ : PD) ∧ syncD (⟨[⟨⟨#[102]⟩, (a.data.toList.take k), k⟩], 1000, 3, false, 0⟩ : PD) ⟨#[103]⟩ = (⟨[⟨⟨#[102]⟩, (a.data.toList.take k), k⟩], 1000, 3, false, 0⟩ : PD) := ⟨by kernel_rfl, by kernel_rfl, by kernel_rfl, by kernel_rfl, by kernel_rfl⟩

set_option maxRecDepth 100000 in
set_option maxHeartbeats 4000000 in
theorem cut_neg (a : ByteArray) (ha : a.size ≤ 100) (n : Int) (hn : n < 0) (hn8 : -128 ≤ n) (keep : Nat) (hkp : keep < 18446744073709551616) (w : World) : Calls Try.prog 7 #[.string a, .int .i8 n, .int .u64 keep] w fun e w' => e = .returned (.bool true) ∧ Below w.heap.size w w' := by
  obtain ⟨k, hkk⟩ : ∃ k, k = 0 := ⟨_, rfl⟩
  have hcut : cutK n a.size = k := by rw [hkk]; unfold cutK; omega
  have hka : k ≤ a.size := by omega
  have GK := Lib.hid disk_known
  have GN := Lib.hid (fun w1 => (show Calls Try.prog 24 #[.int .i64 1000] w1 fun e w' => e = .returned (.pointer (some ⟨(w1.heap.size + 1), 0, none⟩)) ∧ One w1 (w1.heap.size + 1) (⟨[], 1000, 0, false, 0⟩ : PD) w' from newO 1000 w1))
  have GC0 := Lib.hid (fun w1 W (h : One w1 (w1.heap.size + 1) ((⟨[], 1000, 0, false, 0⟩ : PD)) W) => (show Calls Try.prog 19 #[.pointer (some ⟨(w1.heap.size + 1), 0, none⟩), .string ⟨#[102]⟩] W fun e w' => e = .returned (.int .i64 0) ∧ One w1 (w1.heap.size + 1) ((⟨[⟨⟨#[102]⟩, [], 0⟩], 1000, 1, false, 0⟩ : PD)) w' from by have := createO h (fit1 _ _ ⟨by simp [usedL], by simp⟩ (by decide)) (by decide) ⟨#[102]⟩ (by decide); rwa [cC0.1, cC0.2] at this))
  have GA1 := Lib.hid (fun w1 W (h : One w1 (w1.heap.size + 1) ((⟨[⟨⟨#[102]⟩, [], 0⟩], 1000, 1, false, 0⟩ : PD)) W) => (show Calls Try.prog 25 #[.pointer (some ⟨(w1.heap.size + 1), 0, none⟩), .string ⟨#[102]⟩, .string a] W fun e w' => e = .returned (.int .i64 0) ∧ One w1 (w1.heap.size + 1) ((⟨[⟨⟨#[102]⟩, a.data.toList, 0⟩], 1000, 2, false, 0⟩ : PD)) w' from by have := appendO h (fit1 _ _ ⟨by simp [usedL], by simp⟩ (by decide)) (by decide) ⟨#[102]⟩ a (by decide) (by omega); rwa [(cA1 a ha).1, (cA1 a ha).2] at this))
  have GT2 := Lib.hid (fun w1 W (h : One w1 (w1.heap.size + 1) ((⟨[⟨⟨#[102]⟩, a.data.toList, 0⟩], 1000, 2, false, 0⟩ : PD)) W) => (show Calls Try.prog 32 #[.pointer (some ⟨(w1.heap.size + 1), 0, none⟩), .string ⟨#[102]⟩, .int .i64 n] W fun e w' => e = .returned (.int .i64 0) ∧ One w1 (w1.heap.size + 1) ((⟨[⟨⟨#[102]⟩, (a.data.toList.take k), k⟩], 1000, 3, false, 0⟩ : PD)) w' from by have := cutO h (fit1 _ _ ⟨by rw [used1, len_id]; omega, by simp⟩ (by decide)) (by decide) ⟨#[102]⟩ n (by decide); rwa [(cT2 a n k hcut).1, (cT2 a n k hcut).2] at this))
  have GX3 := Lib.hid (fun w1 W (h : One w1 (w1.heap.size + 1) ((⟨[⟨⟨#[102]⟩, (a.data.toList.take k), k⟩], 1000, 3, false, 0⟩ : PD)) W) => (show Calls Try.prog 20 #[.pointer (some ⟨(w1.heap.size + 1), 0, none⟩), .int .u64 keep] W fun e w' => (∃ v, e = .returned v) ∧ One w1 (w1.heap.size + 1) ((⟨[⟨⟨#[102]⟩, (a.data.toList.take k), k⟩], 1000, 3, false, 0⟩ : PD)) w' from by have := crashO h (fitC a ha k) keep hkp; rwa [cX3 a k hka keep] at this))
  have GR3 := Lib.hid (fun w1 W (h : One w1 (w1.heap.size + 1) ((⟨[⟨⟨#[102]⟩, (a.data.toList.take k), k⟩], 1000, 3, false, 0⟩ : PD)) W) => (show Calls Try.prog 21 #[.pointer (some ⟨(w1.heap.size + 1), 0, none⟩), .string ⟨#[102]⟩] W fun e w' => e = .returned (.tuple #[.string (a.extract 0 0), .int .i64 0]) ∧ w' = W from by have := dreadO h ⟨#[102]⟩ (by decide); rwa [(cR3 a k).1, (cR3 a k).2, show a.extract 0 k = a.extract 0 0 from congrArg _ hkk] at this))
  have GT3 := Lib.hid (fun w1 W (h : One w1 (w1.heap.size + 1) ((⟨[⟨⟨#[102]⟩, (a.data.toList.take k), k⟩], 1000, 3, false, 0⟩ : PD)) W) => (show Calls Try.prog 32 #[.pointer (some ⟨(w1.heap.size + 1), 0, none⟩), .string ⟨#[103]⟩, .int .i64 0] W fun e w' => e = .returned (.int .i64 19) ∧ One w1 (w1.heap.size + 1) ((⟨[⟨⟨#[102]⟩, (a.data.toList.take k), k⟩], 1000, 3, false, 0⟩ : PD)) w' from by have := cutO h (fitC a ha k) (by decide) ⟨#[103]⟩ 0 (by decide); rwa [(cG3 a k).1, (cG3 a k).2.1] at this))
  have GV3 := Lib.hid (fun w1 W (h : One w1 (w1.heap.size + 1) ((⟨[⟨⟨#[102]⟩, (a.data.toList.take k), k⟩], 1000, 3, false, 0⟩ : PD)) W) => (show Calls Try.prog 33 #[.pointer (some ⟨(w1.heap.size + 1), 0, none⟩), .string ⟨#[103]⟩] W fun e w' => e = .returned (.int .i64 19) ∧ One w1 (w1.heap.size + 1) ((⟨[⟨⟨#[102]⟩, (a.data.toList.take k), k⟩], 1000, 3, false, 0⟩ : PD)) w' from by have := removeO h (fitC a ha k) (by decide) ⟨#[103]⟩ (by decide); rwa [(cG3 a k).1, (cG3 a k).2.2.1] at this))
  have GM3 := Lib.hid (fun w1 W (h : One w1 (w1.heap.size + 1) ((⟨[⟨⟨#[102]⟩, (a.data.toList.take k), k⟩], 1000, 3, false, 0⟩ : PD)) W) => (show Calls Try.prog 31 #[.pointer (some ⟨(w1.heap.size + 1), 0, none⟩), .string ⟨#[103]⟩, .string ⟨#[104]⟩] W fun e w' => e = .returned (.int .i64 19) ∧ One w1 (w1.heap.size + 1) ((⟨[⟨⟨#[102]⟩, (a.data.toList.take k), k⟩], 1000, 3, false, 0⟩ : PD)) w' from by have := renameO h (fitC a ha k) (by decide) ⟨#[103]⟩ ⟨#[104]⟩ (by decide) (by decide); rwa [(cG3 a k).1, (cG3 a k).2.2.2.1] at this))
  have GS3 := Lib.hid (fun w1 W (h : One w1 (w1.heap.size + 1) ((⟨[⟨⟨#[102]⟩, (a.data.toList.take k), k⟩], 1000, 3, false, 0⟩ : PD)) W) => (show Calls Try.prog 26 #[.pointer (some ⟨(w1.heap.size + 1), 0, none⟩), .string ⟨#[103]⟩] W fun e w' => e = .returned (.int .i64 19) ∧ One w1 (w1.heap.size + 1) ((⟨[⟨⟨#[102]⟩, (a.data.toList.take k), k⟩], 1000, 3, false, 0⟩ : PD)) w' from by have := syncO h (fitC a ha k) (by decide) ⟨#[103]⟩ (by decide); rwa [(cG3 a k).1, (cG3 a k).2.2.2.2] at this))
  have hmn : min n (a.size : Int) = n := by omega
  have hmx : max 0 n = 0 := by omega
  have ha1 : ((a.size : Nat) : Int) ≤ 100 := by omega
  clear ha hcut hka hkk
  go_enter Try.func7, Try.ntmps7
  go_wp2_with (first
    | (go_at_call 14; ((with_reducible refine (GK.out _).mono ?_); rintro e w1 ⟨rfl, hB1⟩))
    | (go_at_call 24; ((with_reducible refine (GN.out _).mono ?_); rintro e w2 ⟨rfl, hO0⟩))
    | (go_at_call 19; ((with_reducible refine (GC0.out _ _ hO0).mono ?_); rintro e w3 ⟨rfl, hO1⟩; clear hO0))
    | (go_at_call 25; ((with_reducible refine (GA1.out _ _ hO1).mono ?_); rintro e w4 ⟨rfl, hO2⟩; clear hO1))
    | (go_at_call 32; ((with_reducible refine (GT2.out _ _ hO2).mono ?_); rintro e w5 ⟨rfl, hO3⟩; clear hO2))
    | (go_at_call 20; ((with_reducible refine (GX3.out _ _ hO3).mono ?_); rintro e w6 ⟨⟨vx, rfl⟩, hO4⟩; clear hO3))
    | (go_at_call 21; ((with_reducible refine (GR3.out _ _ hO4).mono ?_); rintro e w7 ⟨rfl, rfl⟩))
    | (go_at_call 32; ((with_reducible refine (GT3.out _ _ hO4).mono ?_); rintro e w8 ⟨rfl, hO5⟩; clear hO4))
    | (go_at_call 33; ((with_reducible refine (GV3.out _ _ hO5).mono ?_); rintro e w9 ⟨rfl, hO6⟩; clear hO5))
    | (go_at_call 31; ((with_reducible refine (GM3.out _ _ hO6).mono ?_); rintro e w10 ⟨rfl, hO7⟩; clear hO6))
    | (go_at_call 26; ((with_reducible refine (GS3.out _ _ hO7).mono ?_); rintro e w11 ⟨rfl, hO8⟩; clear hO7)))
  go_ret
  exact ⟨by simp, bel2 hB1 hO8.bel⟩

set_option maxRecDepth 100000 in
set_option maxHeartbeats 4000000 in
theorem cut_mid (a : ByteArray) (ha : a.size ≤ 100) (m : Nat) (hn : m ≤ a.size) (hm8 : m < 128) (keep : Nat) (hkp : keep < 18446744073709551616) (w : World) : Calls Try.prog 7 #[.string a, .int .i8 (m : Int), .int .u64 keep] w fun e w' => e = .returned (.bool true) ∧ Below w.heap.size w w' := by
  obtain ⟨k, hkk⟩ : ∃ k, k = m := ⟨_, rfl⟩
  have hcut : cutK (m : Int) a.size = k := by rw [hkk]; unfold cutK; omega
  have hka : k ≤ a.size := by omega
  have GK := Lib.hid disk_known
  have GN := Lib.hid (fun w1 => (show Calls Try.prog 24 #[.int .i64 1000] w1 fun e w' => e = .returned (.pointer (some ⟨(w1.heap.size + 1), 0, none⟩)) ∧ One w1 (w1.heap.size + 1) (⟨[], 1000, 0, false, 0⟩ : PD) w' from newO 1000 w1))
  have GC0 := Lib.hid (fun w1 W (h : One w1 (w1.heap.size + 1) ((⟨[], 1000, 0, false, 0⟩ : PD)) W) => (show Calls Try.prog 19 #[.pointer (some ⟨(w1.heap.size + 1), 0, none⟩), .string ⟨#[102]⟩] W fun e w' => e = .returned (.int .i64 0) ∧ One w1 (w1.heap.size + 1) ((⟨[⟨⟨#[102]⟩, [], 0⟩], 1000, 1, false, 0⟩ : PD)) w' from by have := createO h (fit1 _ _ ⟨by simp [usedL], by simp⟩ (by decide)) (by decide) ⟨#[102]⟩ (by decide); rwa [cC0.1, cC0.2] at this))
  have GA1 := Lib.hid (fun w1 W (h : One w1 (w1.heap.size + 1) ((⟨[⟨⟨#[102]⟩, [], 0⟩], 1000, 1, false, 0⟩ : PD)) W) => (show Calls Try.prog 25 #[.pointer (some ⟨(w1.heap.size + 1), 0, none⟩), .string ⟨#[102]⟩, .string a] W fun e w' => e = .returned (.int .i64 0) ∧ One w1 (w1.heap.size + 1) ((⟨[⟨⟨#[102]⟩, a.data.toList, 0⟩], 1000, 2, false, 0⟩ : PD)) w' from by have := appendO h (fit1 _ _ ⟨by simp [usedL], by simp⟩ (by decide)) (by decide) ⟨#[102]⟩ a (by decide) (by omega); rwa [(cA1 a ha).1, (cA1 a ha).2] at this))
  have GT2 := Lib.hid (fun w1 W (h : One w1 (w1.heap.size + 1) ((⟨[⟨⟨#[102]⟩, a.data.toList, 0⟩], 1000, 2, false, 0⟩ : PD)) W) => (show Calls Try.prog 32 #[.pointer (some ⟨(w1.heap.size + 1), 0, none⟩), .string ⟨#[102]⟩, .int .i64 (m : Int)] W fun e w' => e = .returned (.int .i64 0) ∧ One w1 (w1.heap.size + 1) ((⟨[⟨⟨#[102]⟩, (a.data.toList.take k), k⟩], 1000, 3, false, 0⟩ : PD)) w' from by have := cutO h (fit1 _ _ ⟨by rw [used1, len_id]; omega, by simp⟩ (by decide)) (by decide) ⟨#[102]⟩ (m : Int) (by decide); rwa [(cT2 a (m : Int) k hcut).1, (cT2 a (m : Int) k hcut).2] at this))
  have GX3 := Lib.hid (fun w1 W (h : One w1 (w1.heap.size + 1) ((⟨[⟨⟨#[102]⟩, (a.data.toList.take k), k⟩], 1000, 3, false, 0⟩ : PD)) W) => (show Calls Try.prog 20 #[.pointer (some ⟨(w1.heap.size + 1), 0, none⟩), .int .u64 keep] W fun e w' => (∃ v, e = .returned v) ∧ One w1 (w1.heap.size + 1) ((⟨[⟨⟨#[102]⟩, (a.data.toList.take k), k⟩], 1000, 3, false, 0⟩ : PD)) w' from by have := crashO h (fitC a ha k) keep hkp; rwa [cX3 a k hka keep] at this))
  have GR3 := Lib.hid (fun w1 W (h : One w1 (w1.heap.size + 1) ((⟨[⟨⟨#[102]⟩, (a.data.toList.take k), k⟩], 1000, 3, false, 0⟩ : PD)) W) => (show Calls Try.prog 21 #[.pointer (some ⟨(w1.heap.size + 1), 0, none⟩), .string ⟨#[102]⟩] W fun e w' => e = .returned (.tuple #[.string (a.extract 0 m), .int .i64 0]) ∧ w' = W from by have := dreadO h ⟨#[102]⟩ (by decide); rwa [(cR3 a k).1, (cR3 a k).2, show a.extract 0 k = a.extract 0 m from congrArg _ hkk] at this))
  have GT3 := Lib.hid (fun w1 W (h : One w1 (w1.heap.size + 1) ((⟨[⟨⟨#[102]⟩, (a.data.toList.take k), k⟩], 1000, 3, false, 0⟩ : PD)) W) => (show Calls Try.prog 32 #[.pointer (some ⟨(w1.heap.size + 1), 0, none⟩), .string ⟨#[103]⟩, .int .i64 0] W fun e w' => e = .returned (.int .i64 19) ∧ One w1 (w1.heap.size + 1) ((⟨[⟨⟨#[102]⟩, (a.data.toList.take k), k⟩], 1000, 3, false, 0⟩ : PD)) w' from by have := cutO h (fitC a ha k) (by decide) ⟨#[103]⟩ 0 (by decide); rwa [(cG3 a k).1, (cG3 a k).2.1] at this))
  have GV3 := Lib.hid (fun w1 W (h : One w1 (w1.heap.size + 1) ((⟨[⟨⟨#[102]⟩, (a.data.toList.take k), k⟩], 1000, 3, false, 0⟩ : PD)) W) => (show Calls Try.prog 33 #[.pointer (some ⟨(w1.heap.size + 1), 0, none⟩), .string ⟨#[103]⟩] W fun e w' => e = .returned (.int .i64 19) ∧ One w1 (w1.heap.size + 1) ((⟨[⟨⟨#[102]⟩, (a.data.toList.take k), k⟩], 1000, 3, false, 0⟩ : PD)) w' from by have := removeO h (fitC a ha k) (by decide) ⟨#[103]⟩ (by decide); rwa [(cG3 a k).1, (cG3 a k).2.2.1] at this))
  have GM3 := Lib.hid (fun w1 W (h : One w1 (w1.heap.size + 1) ((⟨[⟨⟨#[102]⟩, (a.data.toList.take k), k⟩], 1000, 3, false, 0⟩ : PD)) W) => (show Calls Try.prog 31 #[.pointer (some ⟨(w1.heap.size + 1), 0, none⟩), .string ⟨#[103]⟩, .string ⟨#[104]⟩] W fun e w' => e = .returned (.int .i64 19) ∧ One w1 (w1.heap.size + 1) ((⟨[⟨⟨#[102]⟩, (a.data.toList.take k), k⟩], 1000, 3, false, 0⟩ : PD)) w' from by have := renameO h (fitC a ha k) (by decide) ⟨#[103]⟩ ⟨#[104]⟩ (by decide) (by decide); rwa [(cG3 a k).1, (cG3 a k).2.2.2.1] at this))
  have GS3 := Lib.hid (fun w1 W (h : One w1 (w1.heap.size + 1) ((⟨[⟨⟨#[102]⟩, (a.data.toList.take k), k⟩], 1000, 3, false, 0⟩ : PD)) W) => (show Calls Try.prog 26 #[.pointer (some ⟨(w1.heap.size + 1), 0, none⟩), .string ⟨#[103]⟩] W fun e w' => e = .returned (.int .i64 19) ∧ One w1 (w1.heap.size + 1) ((⟨[⟨⟨#[102]⟩, (a.data.toList.take k), k⟩], 1000, 3, false, 0⟩ : PD)) w' from by have := syncO h (fitC a ha k) (by decide) ⟨#[103]⟩ (by decide); rwa [(cG3 a k).1, (cG3 a k).2.2.2.2] at this))
  have hmn : min (m : Int) (a.size : Int) = m := by omega
  have hmx : max 0 (m : Int) = m := by omega
  have hle : (m : Int) ≤ (a.size : Int) := by omega
  have ha1 : ((a.size : Nat) : Int) ≤ 100 := by omega
  clear ha hcut hka hkk
  go_enter Try.func7, Try.ntmps7
  go_wp2_with (first
    | (go_at_call 14; ((with_reducible refine (GK.out _).mono ?_); rintro e w1 ⟨rfl, hB1⟩))
    | (go_at_call 24; ((with_reducible refine (GN.out _).mono ?_); rintro e w2 ⟨rfl, hO0⟩))
    | (go_at_call 19; ((with_reducible refine (GC0.out _ _ hO0).mono ?_); rintro e w3 ⟨rfl, hO1⟩; clear hO0))
    | (go_at_call 25; ((with_reducible refine (GA1.out _ _ hO1).mono ?_); rintro e w4 ⟨rfl, hO2⟩; clear hO1))
    | (go_at_call 32; ((with_reducible refine (GT2.out _ _ hO2).mono ?_); rintro e w5 ⟨rfl, hO3⟩; clear hO2))
    | (go_at_call 20; ((with_reducible refine (GX3.out _ _ hO3).mono ?_); rintro e w6 ⟨⟨vx, rfl⟩, hO4⟩; clear hO3))
    | (go_at_call 21; ((with_reducible refine (GR3.out _ _ hO4).mono ?_); rintro e w7 ⟨rfl, rfl⟩))
    | (go_at_call 32; ((with_reducible refine (GT3.out _ _ hO4).mono ?_); rintro e w8 ⟨rfl, hO5⟩; clear hO4))
    | (go_at_call 33; ((with_reducible refine (GV3.out _ _ hO5).mono ?_); rintro e w9 ⟨rfl, hO6⟩; clear hO5))
    | (go_at_call 31; ((with_reducible refine (GM3.out _ _ hO6).mono ?_); rintro e w10 ⟨rfl, hO7⟩; clear hO6))
    | (go_at_call 26; ((with_reducible refine (GS3.out _ _ hO7).mono ?_); rintro e w11 ⟨rfl, hO8⟩; clear hO7)))
  go_ret
  exact ⟨by simp, bel2 hB1 hO8.bel⟩

set_option maxRecDepth 100000 in
set_option maxHeartbeats 4000000 in
theorem cut_big (a : ByteArray) (ha : a.size ≤ 100) (n : Int) (hn : (a.size : Int) < n) (hn8 : n < 128) (keep : Nat) (hkp : keep < 18446744073709551616) (w : World) : Calls Try.prog 7 #[.string a, .int .i8 n, .int .u64 keep] w fun e w' => e = .returned (.bool true) ∧ Below w.heap.size w w' := by
  obtain ⟨k, hkk⟩ : ∃ k, k = a.size := ⟨_, rfl⟩
  have hcut : cutK n a.size = k := by rw [hkk]; unfold cutK; omega
  have hka : k ≤ a.size := by omega
  have GK := Lib.hid disk_known
  have GN := Lib.hid (fun w1 => (show Calls Try.prog 24 #[.int .i64 1000] w1 fun e w' => e = .returned (.pointer (some ⟨(w1.heap.size + 1), 0, none⟩)) ∧ One w1 (w1.heap.size + 1) (⟨[], 1000, 0, false, 0⟩ : PD) w' from newO 1000 w1))
  have GC0 := Lib.hid (fun w1 W (h : One w1 (w1.heap.size + 1) ((⟨[], 1000, 0, false, 0⟩ : PD)) W) => (show Calls Try.prog 19 #[.pointer (some ⟨(w1.heap.size + 1), 0, none⟩), .string ⟨#[102]⟩] W fun e w' => e = .returned (.int .i64 0) ∧ One w1 (w1.heap.size + 1) ((⟨[⟨⟨#[102]⟩, [], 0⟩], 1000, 1, false, 0⟩ : PD)) w' from by have := createO h (fit1 _ _ ⟨by simp [usedL], by simp⟩ (by decide)) (by decide) ⟨#[102]⟩ (by decide); rwa [cC0.1, cC0.2] at this))
  have GA1 := Lib.hid (fun w1 W (h : One w1 (w1.heap.size + 1) ((⟨[⟨⟨#[102]⟩, [], 0⟩], 1000, 1, false, 0⟩ : PD)) W) => (show Calls Try.prog 25 #[.pointer (some ⟨(w1.heap.size + 1), 0, none⟩), .string ⟨#[102]⟩, .string a] W fun e w' => e = .returned (.int .i64 0) ∧ One w1 (w1.heap.size + 1) ((⟨[⟨⟨#[102]⟩, a.data.toList, 0⟩], 1000, 2, false, 0⟩ : PD)) w' from by have := appendO h (fit1 _ _ ⟨by simp [usedL], by simp⟩ (by decide)) (by decide) ⟨#[102]⟩ a (by decide) (by omega); rwa [(cA1 a ha).1, (cA1 a ha).2] at this))
  have GT2 := Lib.hid (fun w1 W (h : One w1 (w1.heap.size + 1) ((⟨[⟨⟨#[102]⟩, a.data.toList, 0⟩], 1000, 2, false, 0⟩ : PD)) W) => (show Calls Try.prog 32 #[.pointer (some ⟨(w1.heap.size + 1), 0, none⟩), .string ⟨#[102]⟩, .int .i64 n] W fun e w' => e = .returned (.int .i64 0) ∧ One w1 (w1.heap.size + 1) ((⟨[⟨⟨#[102]⟩, (a.data.toList.take k), k⟩], 1000, 3, false, 0⟩ : PD)) w' from by have := cutO h (fit1 _ _ ⟨by rw [used1, len_id]; omega, by simp⟩ (by decide)) (by decide) ⟨#[102]⟩ n (by decide); rwa [(cT2 a n k hcut).1, (cT2 a n k hcut).2] at this))
  have GX3 := Lib.hid (fun w1 W (h : One w1 (w1.heap.size + 1) ((⟨[⟨⟨#[102]⟩, (a.data.toList.take k), k⟩], 1000, 3, false, 0⟩ : PD)) W) => (show Calls Try.prog 20 #[.pointer (some ⟨(w1.heap.size + 1), 0, none⟩), .int .u64 keep] W fun e w' => (∃ v, e = .returned v) ∧ One w1 (w1.heap.size + 1) ((⟨[⟨⟨#[102]⟩, (a.data.toList.take k), k⟩], 1000, 3, false, 0⟩ : PD)) w' from by have := crashO h (fitC a ha k) keep hkp; rwa [cX3 a k hka keep] at this))
  have GR3 := Lib.hid (fun w1 W (h : One w1 (w1.heap.size + 1) ((⟨[⟨⟨#[102]⟩, (a.data.toList.take k), k⟩], 1000, 3, false, 0⟩ : PD)) W) => (show Calls Try.prog 21 #[.pointer (some ⟨(w1.heap.size + 1), 0, none⟩), .string ⟨#[102]⟩] W fun e w' => e = .returned (.tuple #[.string (a.extract 0 a.size), .int .i64 0]) ∧ w' = W from by have := dreadO h ⟨#[102]⟩ (by decide); rwa [(cR3 a k).1, (cR3 a k).2, show a.extract 0 k = a.extract 0 a.size from congrArg _ hkk] at this))
  have GT3 := Lib.hid (fun w1 W (h : One w1 (w1.heap.size + 1) ((⟨[⟨⟨#[102]⟩, (a.data.toList.take k), k⟩], 1000, 3, false, 0⟩ : PD)) W) => (show Calls Try.prog 32 #[.pointer (some ⟨(w1.heap.size + 1), 0, none⟩), .string ⟨#[103]⟩, .int .i64 0] W fun e w' => e = .returned (.int .i64 19) ∧ One w1 (w1.heap.size + 1) ((⟨[⟨⟨#[102]⟩, (a.data.toList.take k), k⟩], 1000, 3, false, 0⟩ : PD)) w' from by have := cutO h (fitC a ha k) (by decide) ⟨#[103]⟩ 0 (by decide); rwa [(cG3 a k).1, (cG3 a k).2.1] at this))
  have GV3 := Lib.hid (fun w1 W (h : One w1 (w1.heap.size + 1) ((⟨[⟨⟨#[102]⟩, (a.data.toList.take k), k⟩], 1000, 3, false, 0⟩ : PD)) W) => (show Calls Try.prog 33 #[.pointer (some ⟨(w1.heap.size + 1), 0, none⟩), .string ⟨#[103]⟩] W fun e w' => e = .returned (.int .i64 19) ∧ One w1 (w1.heap.size + 1) ((⟨[⟨⟨#[102]⟩, (a.data.toList.take k), k⟩], 1000, 3, false, 0⟩ : PD)) w' from by have := removeO h (fitC a ha k) (by decide) ⟨#[103]⟩ (by decide); rwa [(cG3 a k).1, (cG3 a k).2.2.1] at this))
  have GM3 := Lib.hid (fun w1 W (h : One w1 (w1.heap.size + 1) ((⟨[⟨⟨#[102]⟩, (a.data.toList.take k), k⟩], 1000, 3, false, 0⟩ : PD)) W) => (show Calls Try.prog 31 #[.pointer (some ⟨(w1.heap.size + 1), 0, none⟩), .string ⟨#[103]⟩, .string ⟨#[104]⟩] W fun e w' => e = .returned (.int .i64 19) ∧ One w1 (w1.heap.size + 1) ((⟨[⟨⟨#[102]⟩, (a.data.toList.take k), k⟩], 1000, 3, false, 0⟩ : PD)) w' from by have := renameO h (fitC a ha k) (by decide) ⟨#[103]⟩ ⟨#[104]⟩ (by decide) (by decide); rwa [(cG3 a k).1, (cG3 a k).2.2.2.1] at this))
  have GS3 := Lib.hid (fun w1 W (h : One w1 (w1.heap.size + 1) ((⟨[⟨⟨#[102]⟩, (a.data.toList.take k), k⟩], 1000, 3, false, 0⟩ : PD)) W) => (show Calls Try.prog 26 #[.pointer (some ⟨(w1.heap.size + 1), 0, none⟩), .string ⟨#[103]⟩] W fun e w' => e = .returned (.int .i64 19) ∧ One w1 (w1.heap.size + 1) ((⟨[⟨⟨#[102]⟩, (a.data.toList.take k), k⟩], 1000, 3, false, 0⟩ : PD)) w' from by have := syncO h (fitC a ha k) (by decide) ⟨#[103]⟩ (by decide); rwa [(cG3 a k).1, (cG3 a k).2.2.2.2] at this))
  have hmn : min n (a.size : Int) = a.size := by omega
  have hmx : max 0 (a.size : Int) = a.size := by omega
  have ha1 : ((a.size : Nat) : Int) ≤ 100 := by omega
  clear ha hcut hka hkk
  go_enter Try.func7, Try.ntmps7
  go_wp2_with (first
    | (go_at_call 14; ((with_reducible refine (GK.out _).mono ?_); rintro e w1 ⟨rfl, hB1⟩))
    | (go_at_call 24; ((with_reducible refine (GN.out _).mono ?_); rintro e w2 ⟨rfl, hO0⟩))
    | (go_at_call 19; ((with_reducible refine (GC0.out _ _ hO0).mono ?_); rintro e w3 ⟨rfl, hO1⟩; clear hO0))
    | (go_at_call 25; ((with_reducible refine (GA1.out _ _ hO1).mono ?_); rintro e w4 ⟨rfl, hO2⟩; clear hO1))
    | (go_at_call 32; ((with_reducible refine (GT2.out _ _ hO2).mono ?_); rintro e w5 ⟨rfl, hO3⟩; clear hO2))
    | (go_at_call 20; ((with_reducible refine (GX3.out _ _ hO3).mono ?_); rintro e w6 ⟨⟨vx, rfl⟩, hO4⟩; clear hO3))
    | (go_at_call 21; ((with_reducible refine (GR3.out _ _ hO4).mono ?_); rintro e w7 ⟨rfl, rfl⟩))
    | (go_at_call 32; ((with_reducible refine (GT3.out _ _ hO4).mono ?_); rintro e w8 ⟨rfl, hO5⟩; clear hO4))
    | (go_at_call 33; ((with_reducible refine (GV3.out _ _ hO5).mono ?_); rintro e w9 ⟨rfl, hO6⟩; clear hO5))
    | (go_at_call 31; ((with_reducible refine (GM3.out _ _ hO6).mono ?_); rintro e w10 ⟨rfl, hO7⟩; clear hO6))
    | (go_at_call 26; ((with_reducible refine (GS3.out _ _ hO7).mono ?_); rintro e w11 ⟨rfl, hO8⟩; clear hO7)))
  go_ret
  exact ⟨by simp, bel2 hB1 hO8.bel⟩

set_option maxRecDepth 100000 in
set_option maxHeartbeats 4000000 in
theorem cut_long (a : ByteArray) (ha : 100 < a.size) (n : Int) (keep : Nat) (w : World) : Calls Try.prog 7 #[.string a, .int .i8 n, .int .u64 keep] w fun e w' => e = .returned (.bool true) ∧ Below w.heap.size w w' := by
  have GK := Lib.hid disk_known
  have ha1 : (100 : Int) < (a.size : Int) := by omega
  clear ha
  go_enter Try.func7, Try.ntmps7
  go_wp2_with (first
    | (go_at_call 14; ((with_reducible refine (GK.out _).mono ?_); rintro e w1 ⟨rfl, hB1⟩)))
  go_ret
  exact ⟨by simp, hB1⟩

theorem walk (a : ByteArray) (ha : a.size ≤ maxLen) (n : Int) (hn : -128 ≤ n ∧ n < 128) (keep : Nat) (hk : keep < 18446744073709551616) (w : World) : Calls Try.prog 7 #[.string a, .int .i8 n, .int .u64 keep] w fun e w' => e = .returned (.bool true) ∧ Below w.heap.size w w' := by
  by_cases h1 : 100 < a.size
  · exact cut_long a h1 n keep w
  rcases (by omega : n < 0 ∨ (a.size : Int) < n ∨ (0 ≤ n ∧ n ≤ (a.size : Int))) with h | h | ⟨h0, h⟩
  · exact cut_neg a (by omega) n h hn.1 keep hk w
  · exact cut_big a (by omega) n h hn.2 keep hk w
  · obtain ⟨m, rfl⟩ : ∃ m : Nat, n = (m : Int) := ⟨n.toNat, by omega⟩
    exact cut_mid a (by omega) m (by omega) (by omega) keep hk w

set_option maxRecDepth 100000 in
theorem lifted (os : Os) (started : os.Started) (H : Type) (enc : TypeId × Value → H) :
    ReturnsInHanded {} Try.checked os 7 .any (Rows.diskCutsSpec.pre6 enc Try.prog Try.f7 Rows.diskCutsRow.domain false) (Rows.diskCutsSpec.post enc Try.prog Try.f7 false true false false) := by
  refine returnsInHanded_of_change (C := Try.checked) Try.own started (by kernel_rfl) Try.func7
    (ChangeSpec.witness6 (enc := enc) (C := Try.checked) false ⟨#[], #[.string ⟨#[]⟩, .int .i8 0, .int .u64 0], []⟩ 8 (by kernel_rfl) (by kernel_rfl) (by kernel_rfl) (by kernel_rfl)) ?_
  intro W base args ds gs before hval hW _ _
  refine law_contract (T := 4) (n := 3) Try.laid Try.underlying4 rfl rfl ⟨rfl, fun H ds h => by match ds, h with | [_, _, _], _ => rfl⟩ (of_all (by kernel_rfl)) hW ?_
  intro ps hA
  rw [Try.params7] at hA hval
  obtain ⟨v0, vs0, d0, ds0, p0, q0, hargs, rfl, rfl, h0, r0⟩ := trodAll_cons hA
  obtain ⟨v1, vs1, d1, ds1, p1, q1, rfl, rfl, rfl, h1, r1⟩ := trodAll_cons r0
  obtain ⟨v2, vs2, d2, ds2, p2, q2, rfl, rfl, rfl, h2, r2⟩ := trodAll_cons r1
  obtain ⟨rfl, rfl, rfl⟩ := trodAll_nil r2
  obtain rfl : args = #[v0, v1, v2] := by cases args; simp_all
  obtain ⟨a0, rfl, rfl, rfl, w0⟩ := open_string Try.underlying9 (hval 0 9 v0 rfl rfl) h0
  obtain ⟨a1, rfl, rfl, rfl, w1⟩ := open_int Try.underlying57 (hval 1 57 v1 rfl rfl) h1
  obtain ⟨a2, rfl, rfl, rfl, w2⟩ := open_int Try.underlying31 (hval 2 31 v2 rfl rfl) h2
  obtain ⟨n2, rfl, b2⟩ := nat_of_u64 w2
  exact walk a0 w0 a1 (bounds_i8 w1) n2 b2 W

theorem holds : Rows.DiskCutsSaid :=
  OpenClaim.holds_of_wide 7 Try.f7 rfl rfl rfl rfl rfl rfl rfl ⟨rfl, rfl, rfl, rfl, rfl⟩ rfl rfl rfl rfl rfl (by kernel_rfl) Try.func7 (by kernel_rfl)
    (of_decide_eq_true (by kernel_rfl)) (by unfold Func.isWrapper; first | (rw [if_pos (by decide +kernel)]; kernel_rfl) | (rw [if_neg (by decide +kernel)]; exact ⟨rfl, rfl⟩))
    (fun os started H enc _ => lifted os started H enc)
end Go.Proofs.Ytieekahlknmkfaa.diskCuts
