/- Law DiskRenames: for every input the call answers true; its arguments read as they did. No condition. -/
import Derived.Test.YtieekahlknmkfaaLaw
import Derived.Test.YtieekahlknmkfaaKnown8
namespace Go.Proofs.Ytieekahlknmkfaa.diskRenames
open Go.ChangeShapes Go.WideShapes Go.ChangeAt Go.RowKit Go.Shelf
open Go.ChangeMaps (open_string shut_string)
set_option linter.unusedVariables false
attribute [local go_sem] Oper.semAt_some wide_fn wide_round_fn

theorem ba_id (a : ByteArray) : (⟨a.data.toList.toArray⟩ : ByteArray) = a := by simp
theorem len_id (a : ByteArray) : a.data.toList.length = a.size := by rw [Array.length_toList]; rfl
theorem fit2 (L : List PF) (n : Nat) (lim : Bool) (h : usedL L ≤ 1000 ∧ L.length ≤ 2) (hn : n ≤ 7) : Fit ⟨L, 1000, n, lim, 0⟩ 7 := fits (by show (1000 : Nat) ≤ _; decide) (by show usedL L ≤ _; omega) (by show L.length ≤ _; omega) hn (by show (0 : Nat) < _; decide)
theorem used1 (n : ByteArray) (b : List UInt8) (k : Nat) : usedL [⟨n, b, k⟩] = b.length := by simp [usedL]
theorem used2 (n m : ByteArray) (b c : List UInt8) (k j : Nat) : usedL [⟨n, b, k⟩, ⟨m, c, j⟩] = b.length + c.length := by simp [usedL]
theorem share_all (b : List UInt8) (i : Nat) (n : ByteArray) (keep : Nat) : crP keep i ⟨n, b, b.length⟩ = ⟨n, b, b.length⟩ := by
  unfold crP
  dsimp only
  rw [Nat.sub_self, Nat.zero_mul, Nat.zero_div, Nat.add_zero, List.take_length]
theorem rC0 : createE (⟨[], 1000, 0, false, 0⟩ : PD) ⟨#[111, 108, 100]⟩ = 0 ∧ createD (⟨[], 1000, 0, false, 0⟩ : PD) ⟨#[111, 108, 100]⟩ = (⟨[⟨⟨#[111, 108, 100]⟩, [], 0⟩], 1000, 1, false, 0⟩ : PD) := ⟨by kernel_rfl, by kernel_rfl⟩
theorem rA1 (a : ByteArray) (ha : a.size ≤ 100) : appendE (⟨[⟨⟨#[111, 108, 100]⟩, [], 0⟩], 1000, 1, false, 0⟩ : PD) ⟨#[111, 108, 100]⟩ a = 0 ∧ appendD (⟨[⟨⟨#[111, 108, 100]⟩, [], 0⟩], 1000, 1, false, 0⟩ : PD) ⟨#[111, 108, 100]⟩ a = (⟨[⟨⟨#[111, 108, 100]⟩, a.data.toList, 0⟩], 1000, 2, false, 0⟩ : PD) := by
  have h : appendE (⟨[⟨⟨#[111, 108, 100]⟩, [], 0⟩], 1000, 1, false, 0⟩ : PD) ⟨#[111, 108, 100]⟩ a = 0 := by
    unfold appendE
    rw [if_neg (by rw [show askE (⟨[⟨⟨#[111, 108, 100]⟩, [], 0⟩], 1000, 1, false, 0⟩ : PD) ⟨#[111, 108, 100]⟩ = 0 by kernel_rfl]; simp), if_neg (by rw [used1]; simp; omega)]
  refine ⟨h, ?_⟩
  unfold appendD
  rw [if_pos h]; kernel_rfl
theorem rS2 (a : ByteArray) : askE (⟨[⟨⟨#[111, 108, 100]⟩, a.data.toList, 0⟩], 1000, 2, false, 0⟩ : PD) ⟨#[111, 108, 100]⟩ = 0 ∧ syncD (⟨[⟨⟨#[111, 108, 100]⟩, a.data.toList, 0⟩], 1000, 2, false, 0⟩ : PD) ⟨#[111, 108, 100]⟩ = (⟨[⟨⟨#[111, 108, 100]⟩, a.data.toList, a.data.toList.length⟩], 1000, 3, false, 0⟩ : PD) := ⟨by kernel_rfl, by kernel_rfl⟩
theorem rC3 (a : ByteArray) : createE (⟨[⟨⟨#[111, 108, 100]⟩, a.data.toList, a.data.toList.length⟩], 1000, 3, false, 0⟩ : PD) ⟨#[110, 101, 119]⟩ = 0 ∧ createD (⟨[⟨⟨#[111, 108, 100]⟩, a.data.toList, a.data.toList.length⟩], 1000, 3, false, 0⟩ : PD) ⟨#[110, 101, 119]⟩ = (⟨[⟨⟨#[110, 101, 119]⟩, [], 0⟩, ⟨⟨#[111, 108, 100]⟩, a.data.toList, a.data.toList.length⟩], 1000, 4, false, 0⟩ : PD) := ⟨by kernel_rfl, by kernel_rfl⟩
theorem rA4 (a b : ByteArray) (ha : a.size ≤ 100) (hb : b.size ≤ 100) : appendE (⟨[⟨⟨#[110, 101, 119]⟩, [], 0⟩, ⟨⟨#[111, 108, 100]⟩, a.data.toList, a.data.toList.length⟩], 1000, 4, false, 0⟩ : PD) ⟨#[110, 101, 119]⟩ b = 0 ∧ appendD (⟨[⟨⟨#[110, 101, 119]⟩, [], 0⟩, ⟨⟨#[111, 108, 100]⟩, a.data.toList, a.data.toList.length⟩], 1000, 4, false, 0⟩ : PD) ⟨#[110, 101, 119]⟩ b = (⟨[⟨⟨#[110, 101, 119]⟩, b.data.toList, 0⟩, ⟨⟨#[111, 108, 100]⟩, a.data.toList, a.data.toList.length⟩], 1000, 5, false, 0⟩ : PD) := by
  have h : appendE (⟨[⟨⟨#[110, 101, 119]⟩, [], 0⟩, ⟨⟨#[111, 108, 100]⟩, a.data.toList, a.data.toList.length⟩], 1000, 4, false, 0⟩ : PD) ⟨#[110, 101, 119]⟩ b = 0 := by
    unfold appendE
    rw [if_neg (by rw [show askE (⟨[⟨⟨#[110, 101, 119]⟩, [], 0⟩, ⟨⟨#[111, 108, 100]⟩, a.data.toList, a.data.toList.length⟩], 1000, 4, false, 0⟩ : PD) ⟨#[110, 101, 119]⟩ = 0 by kernel_rfl]; simp), if_neg (by rw [used2, len_id]; simp; omega)]
  refine ⟨h, ?_⟩
  unfold appendD
  rw [if_pos h]; kernel_rfl
theorem rS5 (a b : ByteArray) : askE (⟨[⟨⟨#[110, 101, 119]⟩, b.data.toList, 0⟩, ⟨⟨#[111, 108, 100]⟩, a.data.toList, a.data.toList.length⟩], 1000, 5, false, 0⟩ : PD) ⟨#[110, 101, 119]⟩ = 0 ∧ syncD (⟨[⟨⟨#[110, 101, 119]⟩, b.data.toList, 0⟩, ⟨⟨#[111, 108, 100]⟩, a.data.toList, a.data.toList.length⟩], 1000, 5, false, 0⟩ : PD) ⟨#[110, 101, 119]⟩ = (⟨[⟨⟨#[110, 101, 119]⟩, b.data.toList, b.data.toList.length⟩, ⟨⟨#[111, 108, 100]⟩, a.data.toList, a.data.toList.length⟩], 1000, 6, false, 0⟩ : PD) := ⟨by kernel_rfl, by kernel_rfl⟩
theorem rL6 (a b : ByteArray) : limitD (⟨[⟨⟨#[110, 101, 119]⟩, b.data.toList, b.data.toList.length⟩, ⟨⟨#[111, 108, 100]⟩, a.data.toList, a.data.toList.length⟩], 1000, 6, false, 0⟩ : PD) 0 = (⟨[⟨⟨#[110, 101, 119]⟩, b.data.toList, b.data.toList.length⟩, ⟨⟨#[111, 108, 100]⟩, a.data.toList, a.data.toList.length⟩], 1000, 6, true, 0⟩ : PD) := by kernel_rfl
theorem rML (a b : ByteArray) : askE (⟨[⟨⟨#[110, 101, 119]⟩, b.data.toList, b.data.toList.length⟩, ⟨⟨#[111, 108, 100]⟩, a.data.toList, a.data.toList.length⟩], 1000, 6, true, 0⟩ : PD) ⟨#[110, 101, 119]⟩ = 18 ∧ renameD (⟨[⟨⟨#[110, 101, 119]⟩, b.data.toList, b.data.toList.length⟩, ⟨⟨#[111, 108, 100]⟩, a.data.toList, a.data.toList.length⟩], 1000, 6, true, 0⟩ : PD) ⟨#[110, 101, 119]⟩ ⟨#[111, 108, 100]⟩ = (⟨[⟨⟨#[110, 101, 119]⟩, b.data.toList, b.data.toList.length⟩, ⟨⟨#[111, 108, 100]⟩, a.data.toList, a.data.toList.length⟩], 1000, 6, true, 0⟩ : PD) := ⟨by kernel_rfl, by kernel_rfl⟩
theorem rM6 (a b : ByteArray) : askE (⟨[⟨⟨#[110, 101, 119]⟩, b.data.toList, b.data.toList.length⟩, ⟨⟨#[111, 108, 100]⟩, a.data.toList, a.data.toList.length⟩], 1000, 6, false, 0⟩ : PD) ⟨#[110, 101, 119]⟩ = 0 ∧ renameD (⟨[⟨⟨#[110, 101, 119]⟩, b.data.toList, b.data.toList.length⟩, ⟨⟨#[111, 108, 100]⟩, a.data.toList, a.data.toList.length⟩], 1000, 6, false, 0⟩ : PD) ⟨#[110, 101, 119]⟩ ⟨#[111, 108, 100]⟩ = (⟨[⟨⟨#[111, 108, 100]⟩, b.data.toList, b.data.toList.length⟩], 1000, 7, false, 0⟩ : PD) := ⟨by kernel_rfl, by kernel_rfl⟩
theorem rXL (a b : ByteArray) (keep : Nat) : crashD (⟨[⟨⟨#[110, 101, 119]⟩, b.data.toList, b.data.toList.length⟩, ⟨⟨#[111, 108, 100]⟩, a.data.toList, a.data.toList.length⟩], 1000, 6, true, 0⟩ : PD) keep = (⟨[⟨⟨#[110, 101, 119]⟩, b.data.toList, b.data.toList.length⟩, ⟨⟨#[111, 108, 100]⟩, a.data.toList, a.data.toList.length⟩], 1000, 6, false, 0⟩ : PD) := by
  show (⟨[crP keep 0 _, crP keep 1 _], 1000, 6, false, 0⟩ : PD) = _
  rw [share_all, share_all]
theorem rXM (a b : ByteArray) (keep : Nat) : crashD (⟨[⟨⟨#[111, 108, 100]⟩, b.data.toList, b.data.toList.length⟩], 1000, 7, false, 0⟩ : PD) keep = (⟨[⟨⟨#[111, 108, 100]⟩, b.data.toList, b.data.toList.length⟩], 1000, 7, false, 0⟩ : PD) := by
  show (⟨[crP keep 0 _], 1000, 7, false, 0⟩ : PD) = _
  rw [share_all]
theorem rR6 (a b : ByteArray) : readB (⟨[⟨⟨#[110, 101, 119]⟩, b.data.toList, b.data.toList.length⟩, ⟨⟨#[111, 108, 100]⟩, a.data.toList, a.data.toList.length⟩], 1000, 6, false, 0⟩ : PD) ⟨#[111, 108, 100]⟩ = a ∧ askE (⟨[⟨⟨#[110, 101, 119]⟩, b.data.toList, b.data.toList.length⟩, ⟨⟨#[111, 108, 100]⟩, a.data.toList, a.data.toList.length⟩], 1000, 6, false, 0⟩ : PD) ⟨#[111, 108, 100]⟩ = 0 ∧ readB (⟨[⟨⟨#[110, 101, 119]⟩, b.data.toList, b.data.toList.length⟩, ⟨⟨#[111, 108, 100]⟩, a.data.toList, a.data.toList.length⟩], 1000, 6, false, 0⟩ : PD) ⟨#[110, 101, 119]⟩ = b ∧ askE (⟨[⟨⟨#[110, 101, 119]⟩, b.data.toList, b.data.toList.length⟩, ⟨⟨#[111, 108, 100]⟩, a.data.toList, a.data.toList.length⟩], 1000, 6, false, 0⟩ : PD) ⟨#[110, 101, 119]⟩ = 0 :=
  ⟨(show readB (⟨[⟨⟨#[110, 101, 119]⟩, b.data.toList, b.data.toList.length⟩, ⟨⟨#[111, 108, 100]⟩, a.data.toList, a.data.toList.length⟩], 1000, 6, false, 0⟩ : PD) ⟨#[111, 108, 100]⟩ = ⟨a.data.toList.toArray⟩ by kernel_rfl).trans (ba_id a), by kernel_rfl, (show readB (⟨[⟨⟨#[110, 101, 119]⟩, b.data.toList, b.data.toList.length⟩, ⟨⟨#[111, 108, 100]⟩, a.data.toList, a.data.toList.length⟩], 1000, 6, false, 0⟩ : PD) ⟨#[110, 101, 119]⟩ = ⟨b.data.toList.toArray⟩ by kernel_rfl).trans (ba_id b), by kernel_rfl⟩
theorem rRM (a b : ByteArray) : readB (⟨[⟨⟨#[111, 108, 100]⟩, b.data.toList, b.data.toList.length⟩], 1000, 7, false, 0⟩ : PD) ⟨#[111, 108, 100]⟩ = b ∧ askE (⟨[⟨⟨#[111, 108, 100]⟩, b.data.toList, b.data.toList.length⟩], 1000, 7, false, 0⟩ : PD) ⟨#[111, 108, 100]⟩ = 0 ∧ readB (⟨[⟨⟨#[111, 108, 100]⟩, b.data.toList, b.data.toList.length⟩], 1000, 7, false, 0⟩ : PD) ⟨#[110, 101, 119]⟩ = ⟨#[]⟩ ∧ askE (⟨[⟨⟨#[111, 108, 100]⟩, b.data.toList, b.data.toList.length⟩], 1000, 7, false, 0⟩ : PD) ⟨#[110, 101, 119]⟩ = 19 :=
  ⟨(show readB (⟨[⟨⟨#[111, 108, 100]⟩, b.data.toList, b.data.toList.length⟩], 1000, 7, false, 0⟩ : PD) ⟨#[111, 108, 100]⟩ = ⟨b.data.toList.toArray⟩ by kernel_rfl).trans (ba_id b), by kernel_rfl, by kernel_rfl, by kernel_rfl⟩

set_option maxRecDepth 100000 in
set_option maxHeartbeats 4000000 in
theorem ren_true (a b : ByteArray) (ha : a.size ≤ 100) (hb : b.size ≤ 100) (keep : Nat) (hk : keep < 18446744073709551616) (w : World) : Calls Try.prog 6 #[.string a, .string b, .int .u64 keep, .bool true] w fun e w' => e = .returned (.bool true) ∧ Below w.heap.size w w' := by
  have GK := Lib.hid disk_known
  have GN := Lib.hid (fun w1 => (show Calls Try.prog 24 #[.int .i64 1000] w1 fun e w' => e = .returned (.pointer (some ⟨(w1.heap.size + 1), 0, none⟩)) ∧ One w1 (w1.heap.size + 1) (⟨[], 1000, 0, false, 0⟩ : PD) w' from newO 1000 w1))
  have GC0 := Lib.hid (fun w1 W (h : One w1 (w1.heap.size + 1) ((⟨[], 1000, 0, false, 0⟩ : PD)) W) => (show Calls Try.prog 19 #[.pointer (some ⟨(w1.heap.size + 1), 0, none⟩), .string ⟨#[111, 108, 100]⟩] W fun e w' => e = .returned (.int .i64 0) ∧ One w1 (w1.heap.size + 1) ((⟨[⟨⟨#[111, 108, 100]⟩, [], 0⟩], 1000, 1, false, 0⟩ : PD)) w' from by have := createO h (fit2 _ _ _ ⟨by simp [usedL], by simp⟩ (by decide)) (by decide) ⟨#[111, 108, 100]⟩ (by decide); rwa [rC0.1, rC0.2] at this))
  have GA1 := Lib.hid (fun w1 W (h : One w1 (w1.heap.size + 1) ((⟨[⟨⟨#[111, 108, 100]⟩, [], 0⟩], 1000, 1, false, 0⟩ : PD)) W) => (show Calls Try.prog 25 #[.pointer (some ⟨(w1.heap.size + 1), 0, none⟩), .string ⟨#[111, 108, 100]⟩, .string a] W fun e w' => e = .returned (.int .i64 0) ∧ One w1 (w1.heap.size + 1) ((⟨[⟨⟨#[111, 108, 100]⟩, a.data.toList, 0⟩], 1000, 2, false, 0⟩ : PD)) w' from by have := appendO h (fit2 _ _ _ ⟨by simp [usedL], by simp⟩ (by decide)) (by decide) ⟨#[111, 108, 100]⟩ a (by decide) (by omega); rwa [(rA1 a ha).1, (rA1 a ha).2] at this))
  have GS2 := Lib.hid (fun w1 W (h : One w1 (w1.heap.size + 1) ((⟨[⟨⟨#[111, 108, 100]⟩, a.data.toList, 0⟩], 1000, 2, false, 0⟩ : PD)) W) => (show Calls Try.prog 26 #[.pointer (some ⟨(w1.heap.size + 1), 0, none⟩), .string ⟨#[111, 108, 100]⟩] W fun e w' => e = .returned (.int .i64 0) ∧ One w1 (w1.heap.size + 1) ((⟨[⟨⟨#[111, 108, 100]⟩, a.data.toList, a.data.toList.length⟩], 1000, 3, false, 0⟩ : PD)) w' from by have := syncO h (fit2 _ _ _ ⟨by (first | rw [used1] | rw [used2]); (repeat rw [len_id]); (try simp only [List.length_nil]); omega, by simp⟩ (by decide)) (by decide) ⟨#[111, 108, 100]⟩ (by decide); rwa [(rS2 a).1, (rS2 a).2] at this))
  have GC3 := Lib.hid (fun w1 W (h : One w1 (w1.heap.size + 1) ((⟨[⟨⟨#[111, 108, 100]⟩, a.data.toList, a.data.toList.length⟩], 1000, 3, false, 0⟩ : PD)) W) => (show Calls Try.prog 19 #[.pointer (some ⟨(w1.heap.size + 1), 0, none⟩), .string ⟨#[110, 101, 119]⟩] W fun e w' => e = .returned (.int .i64 0) ∧ One w1 (w1.heap.size + 1) ((⟨[⟨⟨#[110, 101, 119]⟩, [], 0⟩, ⟨⟨#[111, 108, 100]⟩, a.data.toList, a.data.toList.length⟩], 1000, 4, false, 0⟩ : PD)) w' from by have := createO h (fit2 _ _ _ ⟨by (first | rw [used1] | rw [used2]); (repeat rw [len_id]); (try simp only [List.length_nil]); omega, by simp⟩ (by decide)) (by decide) ⟨#[110, 101, 119]⟩ (by decide); rwa [(rC3 a).1, (rC3 a).2] at this))
  have GA4 := Lib.hid (fun w1 W (h : One w1 (w1.heap.size + 1) ((⟨[⟨⟨#[110, 101, 119]⟩, [], 0⟩, ⟨⟨#[111, 108, 100]⟩, a.data.toList, a.data.toList.length⟩], 1000, 4, false, 0⟩ : PD)) W) => (show Calls Try.prog 25 #[.pointer (some ⟨(w1.heap.size + 1), 0, none⟩), .string ⟨#[110, 101, 119]⟩, .string b] W fun e w' => e = .returned (.int .i64 0) ∧ One w1 (w1.heap.size + 1) ((⟨[⟨⟨#[110, 101, 119]⟩, b.data.toList, 0⟩, ⟨⟨#[111, 108, 100]⟩, a.data.toList, a.data.toList.length⟩], 1000, 5, false, 0⟩ : PD)) w' from by have := appendO h (fit2 _ _ _ ⟨by (first | rw [used1] | rw [used2]); (repeat rw [len_id]); (try simp only [List.length_nil]); omega, by simp⟩ (by decide)) (by decide) ⟨#[110, 101, 119]⟩ b (by decide) (by omega); rwa [(rA4 a b ha hb).1, (rA4 a b ha hb).2] at this))
  have GS5 := Lib.hid (fun w1 W (h : One w1 (w1.heap.size + 1) ((⟨[⟨⟨#[110, 101, 119]⟩, b.data.toList, 0⟩, ⟨⟨#[111, 108, 100]⟩, a.data.toList, a.data.toList.length⟩], 1000, 5, false, 0⟩ : PD)) W) => (show Calls Try.prog 26 #[.pointer (some ⟨(w1.heap.size + 1), 0, none⟩), .string ⟨#[110, 101, 119]⟩] W fun e w' => e = .returned (.int .i64 0) ∧ One w1 (w1.heap.size + 1) ((⟨[⟨⟨#[110, 101, 119]⟩, b.data.toList, b.data.toList.length⟩, ⟨⟨#[111, 108, 100]⟩, a.data.toList, a.data.toList.length⟩], 1000, 6, false, 0⟩ : PD)) w' from by have := syncO h (fit2 _ _ _ ⟨by (first | rw [used1] | rw [used2]); (repeat rw [len_id]); (try simp only [List.length_nil]); omega, by simp⟩ (by decide)) (by decide) ⟨#[110, 101, 119]⟩ (by decide); rwa [(rS5 a b).1, (rS5 a b).2] at this))
  have GL6 := Lib.hid (fun w1 W (h : One w1 (w1.heap.size + 1) ((⟨[⟨⟨#[110, 101, 119]⟩, b.data.toList, b.data.toList.length⟩, ⟨⟨#[111, 108, 100]⟩, a.data.toList, a.data.toList.length⟩], 1000, 6, false, 0⟩ : PD)) W) => (show Calls Try.prog 30 #[.pointer (some ⟨(w1.heap.size + 1), 0, none⟩), .int .i64 0] W fun e w' => (∃ v, e = .returned v) ∧ One w1 (w1.heap.size + 1) ((⟨[⟨⟨#[110, 101, 119]⟩, b.data.toList, b.data.toList.length⟩, ⟨⟨#[111, 108, 100]⟩, a.data.toList, a.data.toList.length⟩], 1000, 6, true, 0⟩ : PD)) w' from by have := limitO h 0; rwa [rL6] at this))
  have GM := Lib.hid (fun w1 W (h : One w1 (w1.heap.size + 1) ((⟨[⟨⟨#[110, 101, 119]⟩, b.data.toList, b.data.toList.length⟩, ⟨⟨#[111, 108, 100]⟩, a.data.toList, a.data.toList.length⟩], 1000, 6, true, 0⟩ : PD)) W) => (show Calls Try.prog 31 #[.pointer (some ⟨(w1.heap.size + 1), 0, none⟩), .string ⟨#[110, 101, 119]⟩, .string ⟨#[111, 108, 100]⟩] W fun e w' => e = .returned (.int .i64 18) ∧ One w1 (w1.heap.size + 1) ((⟨[⟨⟨#[110, 101, 119]⟩, b.data.toList, b.data.toList.length⟩, ⟨⟨#[111, 108, 100]⟩, a.data.toList, a.data.toList.length⟩], 1000, 6, true, 0⟩ : PD)) w' from by have := renameO h (fit2 _ _ _ ⟨by (first | rw [used1] | rw [used2]); (repeat rw [len_id]); (try simp only [List.length_nil]); omega, by simp⟩ (by decide)) (by decide) ⟨#[110, 101, 119]⟩ ⟨#[111, 108, 100]⟩ (by decide) (by decide); rwa [(rML a b).1, (rML a b).2] at this))
  have GX := Lib.hid (fun w1 W (h : One w1 (w1.heap.size + 1) ((⟨[⟨⟨#[110, 101, 119]⟩, b.data.toList, b.data.toList.length⟩, ⟨⟨#[111, 108, 100]⟩, a.data.toList, a.data.toList.length⟩], 1000, 6, true, 0⟩ : PD)) W) => (show Calls Try.prog 20 #[.pointer (some ⟨(w1.heap.size + 1), 0, none⟩), .int .u64 keep] W fun e w' => (∃ v, e = .returned v) ∧ One w1 (w1.heap.size + 1) ((⟨[⟨⟨#[110, 101, 119]⟩, b.data.toList, b.data.toList.length⟩, ⟨⟨#[111, 108, 100]⟩, a.data.toList, a.data.toList.length⟩], 1000, 6, false, 0⟩ : PD)) w' from by have := crashO h (fit2 _ _ _ ⟨by (first | rw [used1] | rw [used2]); (repeat rw [len_id]); (try simp only [List.length_nil]); omega, by simp⟩ (by decide)) keep hk; rwa [rXL a b keep] at this))
  have GR := Lib.hid (fun w1 W (h : One w1 (w1.heap.size + 1) ((⟨[⟨⟨#[110, 101, 119]⟩, b.data.toList, b.data.toList.length⟩, ⟨⟨#[111, 108, 100]⟩, a.data.toList, a.data.toList.length⟩], 1000, 6, false, 0⟩ : PD)) W) => (show Calls Try.prog 21 #[.pointer (some ⟨(w1.heap.size + 1), 0, none⟩), .string ⟨#[111, 108, 100]⟩] W fun e w' => e = .returned (.tuple #[.string a, .int .i64 0]) ∧ w' = W from by have := dreadO h ⟨#[111, 108, 100]⟩ (by decide); rwa [(rR6 a b).1, (rR6 a b).2.1] at this))
  have GQ := Lib.hid (fun w1 W (h : One w1 (w1.heap.size + 1) ((⟨[⟨⟨#[110, 101, 119]⟩, b.data.toList, b.data.toList.length⟩, ⟨⟨#[111, 108, 100]⟩, a.data.toList, a.data.toList.length⟩], 1000, 6, false, 0⟩ : PD)) W) => (show Calls Try.prog 21 #[.pointer (some ⟨(w1.heap.size + 1), 0, none⟩), .string ⟨#[110, 101, 119]⟩] W fun e w' => e = .returned (.tuple #[.string b, .int .i64 0]) ∧ w' = W from by have := dreadO h ⟨#[110, 101, 119]⟩ (by decide); rwa [(rR6 a b).2.2.1, (rR6 a b).2.2.2] at this))
  have ha1 : ((a.size : Nat) : Int) ≤ 100 := by omega
  have hb1 : ((b.size : Nat) : Int) ≤ 100 := by omega
  clear ha hb
  go_enter Try.func6, Try.ntmps6
  go_wp2_with (first
    | (go_at_call 14; ((with_reducible refine (GK.out _).mono ?_); rintro e w1 ⟨rfl, hB1⟩))
    | (go_at_call 24; ((with_reducible refine (GN.out _).mono ?_); rintro e w2 ⟨rfl, hO0⟩))
    | (go_at_call 19; ((with_reducible refine (GC0.out _ _ hO0).mono ?_); rintro e w3 ⟨rfl, hO1⟩; clear hO0))
    | (go_at_call 25; ((with_reducible refine (GA1.out _ _ hO1).mono ?_); rintro e w4 ⟨rfl, hO2⟩; clear hO1))
    | (go_at_call 26; ((with_reducible refine (GS2.out _ _ hO2).mono ?_); rintro e w5 ⟨rfl, hO3⟩; clear hO2))
    | (go_at_call 19; ((with_reducible refine (GC3.out _ _ hO3).mono ?_); rintro e w6 ⟨rfl, hO4⟩; clear hO3))
    | (go_at_call 25; ((with_reducible refine (GA4.out _ _ hO4).mono ?_); rintro e w7 ⟨rfl, hO5⟩; clear hO4))
    | (go_at_call 26; ((with_reducible refine (GS5.out _ _ hO5).mono ?_); rintro e w8 ⟨rfl, hO6⟩; clear hO5))
    | (go_at_call 30; ((with_reducible refine (GL6.out _ _ hO6).mono ?_); rintro e w9 ⟨⟨vl, rfl⟩, hO6a⟩; clear hO6))
    | (go_at_call 31; ((with_reducible refine (GM.out _ _ hO6a).mono ?_); rintro e w10 ⟨rfl, hO7⟩; clear hO6a))
    | (go_at_call 20; ((with_reducible refine (GX.out _ _ hO7).mono ?_); rintro e w11 ⟨⟨vx, rfl⟩, hO8⟩; clear hO7))
    | (go_at_call 21; ((with_reducible refine (GR.out _ _ hO8).mono ?_); rintro e w12 ⟨rfl, rfl⟩))
    | (go_at_call 21; ((with_reducible refine (GQ.out _ _ hO8).mono ?_); rintro e w13 ⟨rfl, rfl⟩)))
  go_ret
  exact ⟨by simp, bel2 hB1 (hO8.bel)⟩

set_option maxRecDepth 100000 in
set_option maxHeartbeats 4000000 in
theorem ren_false (a b : ByteArray) (ha : a.size ≤ 100) (hb : b.size ≤ 100) (keep : Nat) (hk : keep < 18446744073709551616) (w : World) : Calls Try.prog 6 #[.string a, .string b, .int .u64 keep, .bool false] w fun e w' => e = .returned (.bool true) ∧ Below w.heap.size w w' := by
  have GK := Lib.hid disk_known
  have GN := Lib.hid (fun w1 => (show Calls Try.prog 24 #[.int .i64 1000] w1 fun e w' => e = .returned (.pointer (some ⟨(w1.heap.size + 1), 0, none⟩)) ∧ One w1 (w1.heap.size + 1) (⟨[], 1000, 0, false, 0⟩ : PD) w' from newO 1000 w1))
  have GC0 := Lib.hid (fun w1 W (h : One w1 (w1.heap.size + 1) ((⟨[], 1000, 0, false, 0⟩ : PD)) W) => (show Calls Try.prog 19 #[.pointer (some ⟨(w1.heap.size + 1), 0, none⟩), .string ⟨#[111, 108, 100]⟩] W fun e w' => e = .returned (.int .i64 0) ∧ One w1 (w1.heap.size + 1) ((⟨[⟨⟨#[111, 108, 100]⟩, [], 0⟩], 1000, 1, false, 0⟩ : PD)) w' from by have := createO h (fit2 _ _ _ ⟨by simp [usedL], by simp⟩ (by decide)) (by decide) ⟨#[111, 108, 100]⟩ (by decide); rwa [rC0.1, rC0.2] at this))
  have GA1 := Lib.hid (fun w1 W (h : One w1 (w1.heap.size + 1) ((⟨[⟨⟨#[111, 108, 100]⟩, [], 0⟩], 1000, 1, false, 0⟩ : PD)) W) => (show Calls Try.prog 25 #[.pointer (some ⟨(w1.heap.size + 1), 0, none⟩), .string ⟨#[111, 108, 100]⟩, .string a] W fun e w' => e = .returned (.int .i64 0) ∧ One w1 (w1.heap.size + 1) ((⟨[⟨⟨#[111, 108, 100]⟩, a.data.toList, 0⟩], 1000, 2, false, 0⟩ : PD)) w' from by have := appendO h (fit2 _ _ _ ⟨by simp [usedL], by simp⟩ (by decide)) (by decide) ⟨#[111, 108, 100]⟩ a (by decide) (by omega); rwa [(rA1 a ha).1, (rA1 a ha).2] at this))
  have GS2 := Lib.hid (fun w1 W (h : One w1 (w1.heap.size + 1) ((⟨[⟨⟨#[111, 108, 100]⟩, a.data.toList, 0⟩], 1000, 2, false, 0⟩ : PD)) W) => (show Calls Try.prog 26 #[.pointer (some ⟨(w1.heap.size + 1), 0, none⟩), .string ⟨#[111, 108, 100]⟩] W fun e w' => e = .returned (.int .i64 0) ∧ One w1 (w1.heap.size + 1) ((⟨[⟨⟨#[111, 108, 100]⟩, a.data.toList, a.data.toList.length⟩], 1000, 3, false, 0⟩ : PD)) w' from by have := syncO h (fit2 _ _ _ ⟨by (first | rw [used1] | rw [used2]); (repeat rw [len_id]); (try simp only [List.length_nil]); omega, by simp⟩ (by decide)) (by decide) ⟨#[111, 108, 100]⟩ (by decide); rwa [(rS2 a).1, (rS2 a).2] at this))
  have GC3 := Lib.hid (fun w1 W (h : One w1 (w1.heap.size + 1) ((⟨[⟨⟨#[111, 108, 100]⟩, a.data.toList, a.data.toList.length⟩], 1000, 3, false, 0⟩ : PD)) W) => (show Calls Try.prog 19 #[.pointer (some ⟨(w1.heap.size + 1), 0, none⟩), .string ⟨#[110, 101, 119]⟩] W fun e w' => e = .returned (.int .i64 0) ∧ One w1 (w1.heap.size + 1) ((⟨[⟨⟨#[110, 101, 119]⟩, [], 0⟩, ⟨⟨#[111, 108, 100]⟩, a.data.toList, a.data.toList.length⟩], 1000, 4, false, 0⟩ : PD)) w' from by have := createO h (fit2 _ _ _ ⟨by (first | rw [used1] | rw [used2]); (repeat rw [len_id]); (try simp only [List.length_nil]); omega, by simp⟩ (by decide)) (by decide) ⟨#[110, 101, 119]⟩ (by decide); rwa [(rC3 a).1, (rC3 a).2] at this))
  have GA4 := Lib.hid (fun w1 W (h : One w1 (w1.heap.size + 1) ((⟨[⟨⟨#[110, 101, 119]⟩, [], 0⟩, ⟨⟨#[111, 108, 100]⟩, a.data.toList, a.data.toList.length⟩], 1000, 4, false, 0⟩ : PD)) W) => (show Calls Try.prog 25 #[.pointer (some ⟨(w1.heap.size + 1), 0, none⟩), .string ⟨#[110, 101, 119]⟩, .string b] W fun e w' => e = .returned (.int .i64 0) ∧ One w1 (w1.heap.size + 1) ((⟨[⟨⟨#[110, 101, 119]⟩, b.data.toList, 0⟩, ⟨⟨#[111, 108, 100]⟩, a.data.toList, a.data.toList.length⟩], 1000, 5, false, 0⟩ : PD)) w' from by have := appendO h (fit2 _ _ _ ⟨by (first | rw [used1] | rw [used2]); (repeat rw [len_id]); (try simp only [List.length_nil]); omega, by simp⟩ (by decide)) (by decide) ⟨#[110, 101, 119]⟩ b (by decide) (by omega); rwa [(rA4 a b ha hb).1, (rA4 a b ha hb).2] at this))
  have GS5 := Lib.hid (fun w1 W (h : One w1 (w1.heap.size + 1) ((⟨[⟨⟨#[110, 101, 119]⟩, b.data.toList, 0⟩, ⟨⟨#[111, 108, 100]⟩, a.data.toList, a.data.toList.length⟩], 1000, 5, false, 0⟩ : PD)) W) => (show Calls Try.prog 26 #[.pointer (some ⟨(w1.heap.size + 1), 0, none⟩), .string ⟨#[110, 101, 119]⟩] W fun e w' => e = .returned (.int .i64 0) ∧ One w1 (w1.heap.size + 1) ((⟨[⟨⟨#[110, 101, 119]⟩, b.data.toList, b.data.toList.length⟩, ⟨⟨#[111, 108, 100]⟩, a.data.toList, a.data.toList.length⟩], 1000, 6, false, 0⟩ : PD)) w' from by have := syncO h (fit2 _ _ _ ⟨by (first | rw [used1] | rw [used2]); (repeat rw [len_id]); (try simp only [List.length_nil]); omega, by simp⟩ (by decide)) (by decide) ⟨#[110, 101, 119]⟩ (by decide); rwa [(rS5 a b).1, (rS5 a b).2] at this))
  have GM := Lib.hid (fun w1 W (h : One w1 (w1.heap.size + 1) ((⟨[⟨⟨#[110, 101, 119]⟩, b.data.toList, b.data.toList.length⟩, ⟨⟨#[111, 108, 100]⟩, a.data.toList, a.data.toList.length⟩], 1000, 6, false, 0⟩ : PD)) W) => (show Calls Try.prog 31 #[.pointer (some ⟨(w1.heap.size + 1), 0, none⟩), .string ⟨#[110, 101, 119]⟩, .string ⟨#[111, 108, 100]⟩] W fun e w' => e = .returned (.int .i64 0) ∧ One w1 (w1.heap.size + 1) ((⟨[⟨⟨#[111, 108, 100]⟩, b.data.toList, b.data.toList.length⟩], 1000, 7, false, 0⟩ : PD)) w' from by have := renameO h (fit2 _ _ _ ⟨by (first | rw [used1] | rw [used2]); (repeat rw [len_id]); (try simp only [List.length_nil]); omega, by simp⟩ (by decide)) (by decide) ⟨#[110, 101, 119]⟩ ⟨#[111, 108, 100]⟩ (by decide) (by decide); rwa [(rM6 a b).1, (rM6 a b).2] at this))
  have GX := Lib.hid (fun w1 W (h : One w1 (w1.heap.size + 1) ((⟨[⟨⟨#[111, 108, 100]⟩, b.data.toList, b.data.toList.length⟩], 1000, 7, false, 0⟩ : PD)) W) => (show Calls Try.prog 20 #[.pointer (some ⟨(w1.heap.size + 1), 0, none⟩), .int .u64 keep] W fun e w' => (∃ v, e = .returned v) ∧ One w1 (w1.heap.size + 1) ((⟨[⟨⟨#[111, 108, 100]⟩, b.data.toList, b.data.toList.length⟩], 1000, 7, false, 0⟩ : PD)) w' from by have := crashO h (fit2 _ _ _ ⟨by (first | rw [used1] | rw [used2]); (repeat rw [len_id]); (try simp only [List.length_nil]); omega, by simp⟩ (by decide)) keep hk; rwa [rXM a b keep] at this))
  have GR := Lib.hid (fun w1 W (h : One w1 (w1.heap.size + 1) ((⟨[⟨⟨#[111, 108, 100]⟩, b.data.toList, b.data.toList.length⟩], 1000, 7, false, 0⟩ : PD)) W) => (show Calls Try.prog 21 #[.pointer (some ⟨(w1.heap.size + 1), 0, none⟩), .string ⟨#[111, 108, 100]⟩] W fun e w' => e = .returned (.tuple #[.string b, .int .i64 0]) ∧ w' = W from by have := dreadO h ⟨#[111, 108, 100]⟩ (by decide); rwa [(rRM a b).1, (rRM a b).2.1] at this))
  have GQ := Lib.hid (fun w1 W (h : One w1 (w1.heap.size + 1) ((⟨[⟨⟨#[111, 108, 100]⟩, b.data.toList, b.data.toList.length⟩], 1000, 7, false, 0⟩ : PD)) W) => (show Calls Try.prog 21 #[.pointer (some ⟨(w1.heap.size + 1), 0, none⟩), .string ⟨#[110, 101, 119]⟩] W fun e w' => e = .returned (.tuple #[.string ⟨#[]⟩, .int .i64 19]) ∧ w' = W from by have := dreadO h ⟨#[110, 101, 119]⟩ (by decide); rwa [(rRM a b).2.2.1, (rRM a b).2.2.2] at this))
  have GAl := Lib.hid (fun w1 W (h : One w1 (w1.heap.size + 1) (⟨[⟨⟨#[111, 108, 100]⟩, b.data.toList, b.data.toList.length⟩], 1000, 7, false, 0⟩ : PD) W) => (show Calls Try.prog 29 #[.pointer (some ⟨(w1.heap.size + 1), 0, none⟩)] W fun e w' => ∃ cp a, e = .returned (.slice a 1 cp) ∧ Below W.heap.size W w' from by refine (allO h (fit2 _ _ _ ⟨by (first | rw [used1] | rw [used2]); (repeat rw [len_id]); (try simp only [List.length_nil]); omega, by simp⟩ (by decide))).mono ?_; rintro e w' ⟨v, rfl, hrow, hB⟩; obtain ⟨a, c, hv, -, -⟩ := rowV_own hrow; exact ⟨c, a, congrArg _ hv, hB⟩))
  have ha1 : ((a.size : Nat) : Int) ≤ 100 := by omega
  have hb1 : ((b.size : Nat) : Int) ≤ 100 := by omega
  clear ha hb
  go_enter Try.func6, Try.ntmps6
  go_wp2_with (first
    | (go_at_call 14; ((with_reducible refine (GK.out _).mono ?_); rintro e w1 ⟨rfl, hB1⟩))
    | (go_at_call 24; ((with_reducible refine (GN.out _).mono ?_); rintro e w2 ⟨rfl, hO0⟩))
    | (go_at_call 19; ((with_reducible refine (GC0.out _ _ hO0).mono ?_); rintro e w3 ⟨rfl, hO1⟩; clear hO0))
    | (go_at_call 25; ((with_reducible refine (GA1.out _ _ hO1).mono ?_); rintro e w4 ⟨rfl, hO2⟩; clear hO1))
    | (go_at_call 26; ((with_reducible refine (GS2.out _ _ hO2).mono ?_); rintro e w5 ⟨rfl, hO3⟩; clear hO2))
    | (go_at_call 19; ((with_reducible refine (GC3.out _ _ hO3).mono ?_); rintro e w6 ⟨rfl, hO4⟩; clear hO3))
    | (go_at_call 25; ((with_reducible refine (GA4.out _ _ hO4).mono ?_); rintro e w7 ⟨rfl, hO5⟩; clear hO4))
    | (go_at_call 26; ((with_reducible refine (GS5.out _ _ hO5).mono ?_); rintro e w8 ⟨rfl, hO6⟩; clear hO5))
    | (go_at_call 31; ((with_reducible refine (GM.out _ _ hO6).mono ?_); rintro e w10 ⟨rfl, hO7⟩; clear hO6))
    | (go_at_call 20; ((with_reducible refine (GX.out _ _ hO7).mono ?_); rintro e w11 ⟨⟨vx, rfl⟩, hO8⟩; clear hO7))
    | (go_at_call 21; ((with_reducible refine (GR.out _ _ hO8).mono ?_); rintro e w12 ⟨rfl, rfl⟩))
    | (go_at_call 21; ((with_reducible refine (GQ.out _ _ hO8).mono ?_); rintro e w13 ⟨rfl, rfl⟩))
    | (go_at_call 29; ((with_reducible refine (GAl.out _ _ hO8).mono ?_); rintro e w14 ⟨cp, al, rfl, hB14⟩)))
  go_ret
  exact ⟨by simp, bel2 hB1 (bel2 hO8.bel hB14)⟩

set_option maxRecDepth 100000 in
set_option maxHeartbeats 4000000 in
theorem ren_a (a b : ByteArray) (ha : 100 < a.size) (keep : Nat) (off : Bool) (w : World) : Calls Try.prog 6 #[.string a, .string b, .int .u64 keep, .bool off] w fun e w' => e = .returned (.bool true) ∧ Below w.heap.size w w' := by
  have GK := Lib.hid disk_known
  have ha1 : (100 : Int) < (a.size : Int) := by omega
  clear ha
  go_enter Try.func6, Try.ntmps6
  go_wp2_with (first
    | (go_at_call 14; ((with_reducible refine (GK.out _).mono ?_); rintro e w1 ⟨rfl, hB1⟩)))
  go_ret
  exact ⟨by simp, hB1⟩

set_option maxRecDepth 100000 in
set_option maxHeartbeats 4000000 in
theorem ren_b (a b : ByteArray) (ha : a.size ≤ 100) (hb : 100 < b.size) (keep : Nat) (off : Bool) (w : World) : Calls Try.prog 6 #[.string a, .string b, .int .u64 keep, .bool off] w fun e w' => e = .returned (.bool true) ∧ Below w.heap.size w w' := by
  have GK := Lib.hid disk_known
  have ha1 : (a.size : Int) ≤ 100 := by omega
  have hb1 : (100 : Int) < (b.size : Int) := by omega
  clear hb
  clear ha
  go_enter Try.func6, Try.ntmps6
  go_wp2_with (first
    | (go_at_call 14; ((with_reducible refine (GK.out _).mono ?_); rintro e w1 ⟨rfl, hB1⟩)))
  go_ret
  exact ⟨by simp, hB1⟩

theorem walk (a : ByteArray) (ha : a.size ≤ maxLen) (b : ByteArray) (hb : b.size ≤ maxLen) (keep : Nat) (hk : keep < 18446744073709551616) (off : Bool) (w : World) : Calls Try.prog 6 #[.string a, .string b, .int .u64 keep, .bool off] w fun e w' => e = .returned (.bool true) ∧ Below w.heap.size w w' := by
  by_cases h1 : 100 < a.size
  · exact ren_a a b h1 keep off w
  by_cases h2 : 100 < b.size
  · exact ren_b a b (by omega) h2 keep off w
  cases off
  · exact ren_false a b (by omega) (by omega) keep hk w
  · exact ren_true a b (by omega) (by omega) keep hk w

set_option maxRecDepth 100000 in
theorem lifted (os : Os) (started : os.Started) (H : Type) (enc : TypeId × Value → H) :
    ReturnsInHanded {} Try.checked os 6 .any (Rows.diskRenamesSpec.pre6 enc Try.prog Try.f6 Rows.diskRenamesRow.domain false) (Rows.diskRenamesSpec.post enc Try.prog Try.f6 false true false false) := by
  refine returnsInHanded_of_change (C := Try.checked) Try.own started (by kernel_rfl) Try.func6
    (ChangeSpec.witness6 (enc := enc) (C := Try.checked) false ⟨#[], #[.string ⟨#[]⟩, .string ⟨#[]⟩, .int .u64 0, .bool false], []⟩ 8 (by kernel_rfl) (by kernel_rfl) (by kernel_rfl) (by kernel_rfl)) ?_
  intro W base args ds gs before hval hW _ _
  refine law_contract (T := 4) (n := 4) Try.laid Try.underlying4 rfl rfl ⟨rfl, fun H ds h => by match ds, h with | [_, _, _, _], _ => rfl⟩ (of_all (by kernel_rfl)) hW ?_
  intro ps hA
  rw [Try.params6] at hA hval
  obtain ⟨v0, vs0, d0, ds0, p0, q0, hargs, rfl, rfl, h0, r0⟩ := trodAll_cons hA
  obtain ⟨v1, vs1, d1, ds1, p1, q1, rfl, rfl, rfl, h1, r1⟩ := trodAll_cons r0
  obtain ⟨v2, vs2, d2, ds2, p2, q2, rfl, rfl, rfl, h2, r2⟩ := trodAll_cons r1
  obtain ⟨v3, vs3, d3, ds3, p3, q3, rfl, rfl, rfl, h3, r3⟩ := trodAll_cons r2
  obtain ⟨rfl, rfl, rfl⟩ := trodAll_nil r3
  obtain rfl : args = #[v0, v1, v2, v3] := by cases args; simp_all
  obtain ⟨a0, rfl, rfl, rfl, w0⟩ := open_string Try.underlying9 (hval 0 9 v0 rfl rfl) h0
  obtain ⟨a1, rfl, rfl, rfl, w1⟩ := open_string Try.underlying9 (hval 1 9 v1 rfl rfl) h1
  obtain ⟨a2, rfl, rfl, rfl, w2⟩ := open_int Try.underlying31 (hval 2 31 v2 rfl rfl) h2
  obtain ⟨a3, rfl, rfl, rfl⟩ := open_bool Try.underlying4 (hval 3 4 v3 rfl rfl) h3
  obtain ⟨n2, rfl, b2⟩ := nat_of_u64 w2
  exact walk a0 w0 a1 w1 n2 b2 a3 W

theorem holds : Rows.DiskRenamesSaid :=
  OpenClaim.holds_of_wide 6 Try.f6 rfl rfl rfl rfl rfl rfl rfl ⟨rfl, rfl, rfl, rfl, rfl⟩ rfl rfl rfl rfl rfl (by kernel_rfl) Try.func6 (by kernel_rfl)
    (of_decide_eq_true (by kernel_rfl)) (by unfold Func.isWrapper; first | (rw [if_pos (by decide +kernel)]; kernel_rfl) | (rw [if_neg (by decide +kernel)]; exact ⟨rfl, rfl⟩))
    (fun os started H enc _ => lifted os started H enc)
end Go.Proofs.Ytieekahlknmkfaa.diskRenames
