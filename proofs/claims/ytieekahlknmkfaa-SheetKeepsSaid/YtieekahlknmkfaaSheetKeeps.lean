/- Law SheetKeeps: for every input the call answers true; its arguments read as they did. No condition. -/
import Derived.Test.YtieekahlknmkfaaLaw
import Derived.Test.YtieekahlknmkfaaKnown9
namespace Go.Proofs.Ytieekahlknmkfaa.sheetKeeps
open Go.ChangeShapes Go.WideShapes Go.ChangeAt Go.RowKit Go.Shelf
open Go.ChangeMaps (open_string shut_string)
set_option linter.unusedVariables false
attribute [local go_sem] Oper.semAt_some wide_fn wide_round_fn

theorem fitK (L : List PF) (n : Nat) (lim : Bool) (left : Nat) (h : usedL L ≤ 5000 ∧ L.length ≤ 2) (hn : n ≤ 20) (hl : left < 8) : Fit ⟨L, 100000, n, lim, left⟩ 20 := fits (by show (100000 : Nat) ≤ _; decide) (by show usedL L ≤ _; omega) (by show L.length ≤ _; omega) hn (by show left < _; omega)
theorem used9k (n m : ByteArray) (b c : List UInt8) (k j : Nat) : usedL [⟨n, b, k⟩, ⟨m, c, j⟩] = b.length + c.length := by simp [usedL]
theorem share9 (b : List UInt8) (i : Nat) (n : ByteArray) (keep : Nat) : crP keep i ⟨n, b, b.length⟩ = ⟨n, b, b.length⟩ := by
  unfold crP
  dsimp only
  rw [Nat.sub_self, Nat.zero_mul, Nat.zero_div, Nat.add_zero, List.take_length]
theorem kC0 : createE (⟨[], 100000, 0, false, 0⟩ : PD) ⟨#[115, 104, 101, 101, 116, 46, 110, 101, 119]⟩ = 0 ∧ createD (⟨[], 100000, 0, false, 0⟩ : PD) ⟨#[115, 104, 101, 101, 116, 46, 110, 101, 119]⟩ = (⟨[⟨⟨#[115, 104, 101, 101, 116, 46, 110, 101, 119]⟩, [], 0⟩], 100000, 1, false, 0⟩ : PD) := ⟨by kernel_rfl, by kernel_rfl⟩
theorem kA1 (t : ByteArray) (h : t.size ≤ 100) : appendE (⟨[⟨⟨#[115, 104, 101, 101, 116, 46, 110, 101, 119]⟩, [], 0⟩], 100000, 1, false, 0⟩ : PD) ⟨#[115, 104, 101, 101, 116, 46, 110, 101, 119]⟩ t = 0 ∧ appendD (⟨[⟨⟨#[115, 104, 101, 101, 116, 46, 110, 101, 119]⟩, [], 0⟩], 100000, 1, false, 0⟩ : PD) ⟨#[115, 104, 101, 101, 116, 46, 110, 101, 119]⟩ t = (⟨[⟨⟨#[115, 104, 101, 101, 116, 46, 110, 101, 119]⟩, t.data.toList, 0⟩], 100000, 2, false, 0⟩ : PD) := by
  have h : appendE (⟨[⟨⟨#[115, 104, 101, 101, 116, 46, 110, 101, 119]⟩, [], 0⟩], 100000, 1, false, 0⟩ : PD) ⟨#[115, 104, 101, 101, 116, 46, 110, 101, 119]⟩ t = 0 := by
    unfold appendE
    rw [if_neg (by rw [show askE (⟨[⟨⟨#[115, 104, 101, 101, 116, 46, 110, 101, 119]⟩, [], 0⟩], 100000, 1, false, 0⟩ : PD) ⟨#[115, 104, 101, 101, 116, 46, 110, 101, 119]⟩ = 0 by kernel_rfl]; simp), if_neg (by show ¬ 100000 < usedL [_] + t.size; rw [used9]; simp; omega)]
  refine ⟨h, ?_⟩
  unfold appendD
  rw [if_pos h]; kernel_rfl
theorem kV2 (t x : ByteArray) (hx : x.size ≤ 2000) : saB (⟨[⟨⟨#[115, 104, 101, 101, 116, 46, 110, 101, 119]⟩, t.data.toList, 0⟩], 100000, 2, false, 0⟩ : PD) x = ((⟨[⟨⟨#[115, 104, 101, 101, 116]⟩, x.data.toList, x.data.toList.length⟩], 100000, 7, false, 0⟩ : PD), 0) := by
  have h1 : sa1 (⟨[⟨⟨#[115, 104, 101, 101, 116, 46, 110, 101, 119]⟩, t.data.toList, 0⟩], 100000, 2, false, 0⟩ : PD) = (⟨[], 100000, 3, false, 0⟩ : PD) := by kernel_rfl
  have h2 : sa2 (⟨[⟨⟨#[115, 104, 101, 101, 116, 46, 110, 101, 119]⟩, t.data.toList, 0⟩], 100000, 2, false, 0⟩ : PD) = (⟨[⟨⟨#[115, 104, 101, 101, 116, 46, 110, 101, 119]⟩, [], 0⟩], 100000, 4, false, 0⟩ : PD) := by kernel_rfl
  have h3 : appendE (sa2 (⟨[⟨⟨#[115, 104, 101, 101, 116, 46, 110, 101, 119]⟩, t.data.toList, 0⟩], 100000, 2, false, 0⟩ : PD)) ⟨#[115, 104, 101, 101, 116, 46, 110, 101, 119]⟩ x = 0 := by
    unfold appendE
    rw [h2]
    rw [if_neg (by rw [show askE (⟨[⟨⟨#[115, 104, 101, 101, 116, 46, 110, 101, 119]⟩, [], 0⟩], 100000, 4, false, 0⟩ : PD) ⟨#[115, 104, 101, 101, 116, 46, 110, 101, 119]⟩ = 0 by kernel_rfl]; simp), if_neg (by show ¬ 100000 < usedL [_] + x.size; rw [used9]; simp; omega)]
  have h3d : sa3 (⟨[⟨⟨#[115, 104, 101, 101, 116, 46, 110, 101, 119]⟩, t.data.toList, 0⟩], 100000, 2, false, 0⟩ : PD) x = (⟨[⟨⟨#[115, 104, 101, 101, 116, 46, 110, 101, 119]⟩, x.data.toList, 0⟩], 100000, 5, false, 0⟩ : PD) := by
    unfold sa3 appendD
    rw [if_pos h3, h2]; kernel_rfl
  have h4d : sa4 (⟨[⟨⟨#[115, 104, 101, 101, 116, 46, 110, 101, 119]⟩, t.data.toList, 0⟩], 100000, 2, false, 0⟩ : PD) x = (⟨[⟨⟨#[115, 104, 101, 101, 116, 46, 110, 101, 119]⟩, x.data.toList, x.data.toList.length⟩], 100000, 6, false, 0⟩ : PD) := by unfold sa4; rw [h3d]; kernel_rfl
  unfold saB
  rw [if_neg (by rw [show askE (⟨[⟨⟨#[115, 104, 101, 101, 116, 46, 110, 101, 119]⟩, t.data.toList, 0⟩], 100000, 2, false, 0⟩ : PD) ⟨#[115, 104, 101, 101, 116, 46, 110, 101, 119]⟩ = 0 by kernel_rfl]; decide), if_neg (by rw [h1, show createE (⟨[], 100000, 3, false, 0⟩ : PD) ⟨#[115, 104, 101, 101, 116, 46, 110, 101, 119]⟩ = 0 by kernel_rfl]; simp), if_neg (by rw [h3]; simp), h3d, if_neg (by rw [show askE (⟨[⟨⟨#[115, 104, 101, 101, 116, 46, 110, 101, 119]⟩, x.data.toList, 0⟩], 100000, 5, false, 0⟩ : PD) ⟨#[115, 104, 101, 101, 116, 46, 110, 101, 119]⟩ = 0 by kernel_rfl]; simp)]
  unfold sa5
  rw [h4d]
  rw [show askE (⟨[⟨⟨#[115, 104, 101, 101, 116, 46, 110, 101, 119]⟩, x.data.toList, x.data.toList.length⟩], 100000, 6, false, 0⟩ : PD) ⟨#[115, 104, 101, 101, 116, 46, 110, 101, 119]⟩ = 0 by kernel_rfl]
  rw [show renameD (⟨[⟨⟨#[115, 104, 101, 101, 116, 46, 110, 101, 119]⟩, x.data.toList, x.data.toList.length⟩], 100000, 6, false, 0⟩ : PD) ⟨#[115, 104, 101, 101, 116, 46, 110, 101, 119]⟩ ⟨#[115, 104, 101, 101, 116]⟩ = (⟨[⟨⟨#[115, 104, 101, 101, 116]⟩, x.data.toList, x.data.toList.length⟩], 100000, 7, false, 0⟩ : PD) by kernel_rfl]
theorem loK (D : PD) (x : ByteArray) (h1 : askE D ⟨#[115, 104, 101, 101, 116]⟩ = 0) (h2 : readB D ⟨#[115, 104, 101, 101, 116]⟩ = x) (h : rdOk x = true) : loE D = 0 ∧ loL D = rdL x := by
  unfold loE loL
  rw [h1, h2]; simp [h]
theorem loK7 (x : ByteArray) (h : rdOk x = true) : loE (⟨[⟨⟨#[115, 104, 101, 101, 116]⟩, x.data.toList, x.data.toList.length⟩], 100000, 7, false, 0⟩ : PD) = 0 ∧ loL (⟨[⟨⟨#[115, 104, 101, 101, 116]⟩, x.data.toList, x.data.toList.length⟩], 100000, 7, false, 0⟩ : PD) = rdL x :=
  loK _ x (by kernel_rfl) ((show readB (⟨[⟨⟨#[115, 104, 101, 101, 116]⟩, x.data.toList, x.data.toList.length⟩], 100000, 7, false, 0⟩ : PD) ⟨#[115, 104, 101, 101, 116]⟩ = ⟨x.data.toList.toArray⟩ by kernel_rfl).trans (ba9 x)) h

theorem kS0 (x y : ByteArray) (hx : x.size ≤ 2000) (hy : y.size ≤ 2000) (ox : rdOk x = true) (oy : rdOk y = true) (keep : Nat) : saB (⟨[⟨⟨#[115, 104, 101, 101, 116]⟩, x.data.toList, x.data.toList.length⟩], 100000, 7, true, 0⟩ : PD) y = ((⟨[⟨⟨#[115, 104, 101, 101, 116]⟩, x.data.toList, x.data.toList.length⟩], 100000, 7, true, 0⟩ : PD), 18) ∧ Fit (⟨[⟨⟨#[115, 104, 101, 101, 116]⟩, x.data.toList, x.data.toList.length⟩], 100000, 7, true, 0⟩ : PD) 20 ∧ loE (crashD (⟨[⟨⟨#[115, 104, 101, 101, 116]⟩, x.data.toList, x.data.toList.length⟩], 100000, 7, true, 0⟩ : PD) keep) = 0 ∧ loL (crashD (⟨[⟨⟨#[115, 104, 101, 101, 116]⟩, x.data.toList, x.data.toList.length⟩], 100000, 7, true, 0⟩ : PD) keep) = rdL x := by
  have hc : crashD (⟨[⟨⟨#[115, 104, 101, 101, 116]⟩, x.data.toList, x.data.toList.length⟩], 100000, 7, true, 0⟩ : PD) keep = (⟨[⟨⟨#[115, 104, 101, 101, 116]⟩, x.data.toList, x.data.toList.length⟩], 100000, 7, false, 0⟩ : PD) := by
    show (⟨[crP keep 0 ⟨⟨#[115, 104, 101, 101, 116]⟩, x.data.toList, x.data.toList.length⟩], 100000, 7, false, 0⟩ : PD) = _
    rw [share9]
  have hl := loK (⟨[⟨⟨#[115, 104, 101, 101, 116]⟩, x.data.toList, x.data.toList.length⟩], 100000, 7, false, 0⟩ : PD) x (by kernel_rfl) ((show readB (⟨[⟨⟨#[115, 104, 101, 101, 116]⟩, x.data.toList, x.data.toList.length⟩], 100000, 7, false, 0⟩ : PD) ⟨#[115, 104, 101, 101, 116]⟩ = ⟨x.data.toList.toArray⟩ by kernel_rfl).trans (ba9 x)) ox
  rw [← hc] at hl
  refine ⟨?_, fitK _ _ _ _ ⟨by rw [used9, len9]; omega, by simp⟩ (by decide) (by decide), hl.1, hl.2⟩
  unfold saB
  rw [if_pos (by kernel_rfl)]

theorem kS1 (x y : ByteArray) (hx : x.size ≤ 2000) (hy : y.size ≤ 2000) (ox : rdOk x = true) (oy : rdOk y = true) (keep : Nat) : saB (⟨[⟨⟨#[115, 104, 101, 101, 116]⟩, x.data.toList, x.data.toList.length⟩], 100000, 7, true, 1⟩ : PD) y = ((⟨[⟨⟨#[115, 104, 101, 101, 116]⟩, x.data.toList, x.data.toList.length⟩, ⟨⟨#[115, 104, 101, 101, 116, 46, 110, 101, 119]⟩, [], 0⟩], 100000, 8, true, 0⟩ : PD), 18) ∧ Fit (⟨[⟨⟨#[115, 104, 101, 101, 116]⟩, x.data.toList, x.data.toList.length⟩, ⟨⟨#[115, 104, 101, 101, 116, 46, 110, 101, 119]⟩, [], 0⟩], 100000, 8, true, 0⟩ : PD) 20 ∧ loE (crashD (⟨[⟨⟨#[115, 104, 101, 101, 116]⟩, x.data.toList, x.data.toList.length⟩, ⟨⟨#[115, 104, 101, 101, 116, 46, 110, 101, 119]⟩, [], 0⟩], 100000, 8, true, 0⟩ : PD) keep) = 0 ∧ loL (crashD (⟨[⟨⟨#[115, 104, 101, 101, 116]⟩, x.data.toList, x.data.toList.length⟩, ⟨⟨#[115, 104, 101, 101, 116, 46, 110, 101, 119]⟩, [], 0⟩], 100000, 8, true, 0⟩ : PD) keep) = rdL x := by
  have hc : crashD (⟨[⟨⟨#[115, 104, 101, 101, 116]⟩, x.data.toList, x.data.toList.length⟩, ⟨⟨#[115, 104, 101, 101, 116, 46, 110, 101, 119]⟩, [], 0⟩], 100000, 8, true, 0⟩ : PD) keep = (⟨[⟨⟨#[115, 104, 101, 101, 116]⟩, x.data.toList, x.data.toList.length⟩, crP keep 1 ⟨⟨#[115, 104, 101, 101, 116, 46, 110, 101, 119]⟩, [], 0⟩], 100000, 8, false, 0⟩ : PD) := by
    show (⟨[crP keep 0 ⟨⟨#[115, 104, 101, 101, 116]⟩, x.data.toList, x.data.toList.length⟩, crP keep 1 ⟨⟨#[115, 104, 101, 101, 116, 46, 110, 101, 119]⟩, [], 0⟩], 100000, 8, false, 0⟩ : PD) = _
    rw [share9]
  have hl := loK (⟨[⟨⟨#[115, 104, 101, 101, 116]⟩, x.data.toList, x.data.toList.length⟩, crP keep 1 ⟨⟨#[115, 104, 101, 101, 116, 46, 110, 101, 119]⟩, [], 0⟩], 100000, 8, false, 0⟩ : PD) x (by kernel_rfl) ((show readB (⟨[⟨⟨#[115, 104, 101, 101, 116]⟩, x.data.toList, x.data.toList.length⟩, crP keep 1 ⟨⟨#[115, 104, 101, 101, 116, 46, 110, 101, 119]⟩, [], 0⟩], 100000, 8, false, 0⟩ : PD) ⟨#[115, 104, 101, 101, 116]⟩ = ⟨x.data.toList.toArray⟩ by kernel_rfl).trans (ba9 x)) ox
  rw [← hc] at hl
  refine ⟨?_, fitK _ _ _ _ ⟨by rw [used9k, len9]; simp; omega, by simp⟩ (by decide) (by decide), hl.1, hl.2⟩
  have h2 : sa2 (⟨[⟨⟨#[115, 104, 101, 101, 116]⟩, x.data.toList, x.data.toList.length⟩], 100000, 7, true, 1⟩ : PD) = (⟨[⟨⟨#[115, 104, 101, 101, 116]⟩, x.data.toList, x.data.toList.length⟩, ⟨⟨#[115, 104, 101, 101, 116, 46, 110, 101, 119]⟩, [], 0⟩], 100000, 8, true, 0⟩ : PD) := by kernel_rfl
  have h3 : appendE (sa2 (⟨[⟨⟨#[115, 104, 101, 101, 116]⟩, x.data.toList, x.data.toList.length⟩], 100000, 7, true, 1⟩ : PD)) ⟨#[115, 104, 101, 101, 116, 46, 110, 101, 119]⟩ y = 18 := by
    unfold appendE
    rw [h2]
    rw [if_pos (by rw [show askE (⟨[⟨⟨#[115, 104, 101, 101, 116]⟩, x.data.toList, x.data.toList.length⟩, ⟨⟨#[115, 104, 101, 101, 116, 46, 110, 101, 119]⟩, [], 0⟩], 100000, 8, true, 0⟩ : PD) ⟨#[115, 104, 101, 101, 116, 46, 110, 101, 119]⟩ = 18 by kernel_rfl]; decide)]
    kernel_rfl
  have h3d : sa3 (⟨[⟨⟨#[115, 104, 101, 101, 116]⟩, x.data.toList, x.data.toList.length⟩], 100000, 7, true, 1⟩ : PD) y = (⟨[⟨⟨#[115, 104, 101, 101, 116]⟩, x.data.toList, x.data.toList.length⟩, ⟨⟨#[115, 104, 101, 101, 116, 46, 110, 101, 119]⟩, [], 0⟩], 100000, 8, true, 0⟩ : PD) := by
    unfold sa3 appendD
    rw [if_neg (by rw [h3]; decide), h2]
  unfold saB
  rw [if_neg (by rw [show askE (⟨[⟨⟨#[115, 104, 101, 101, 116]⟩, x.data.toList, x.data.toList.length⟩], 100000, 7, true, 1⟩ : PD) ⟨#[115, 104, 101, 101, 116, 46, 110, 101, 119]⟩ = 19 by kernel_rfl]; decide), if_neg (by rw [show createE (sa1 (⟨[⟨⟨#[115, 104, 101, 101, 116]⟩, x.data.toList, x.data.toList.length⟩], 100000, 7, true, 1⟩ : PD)) ⟨#[115, 104, 101, 101, 116, 46, 110, 101, 119]⟩ = 0 by kernel_rfl]; simp), if_pos (by rw [h3]; decide), h3d, h3]

theorem kS2 (x y : ByteArray) (hx : x.size ≤ 2000) (hy : y.size ≤ 2000) (ox : rdOk x = true) (oy : rdOk y = true) (keep : Nat) : saB (⟨[⟨⟨#[115, 104, 101, 101, 116]⟩, x.data.toList, x.data.toList.length⟩], 100000, 7, true, 2⟩ : PD) y = ((⟨[⟨⟨#[115, 104, 101, 101, 116]⟩, x.data.toList, x.data.toList.length⟩, ⟨⟨#[115, 104, 101, 101, 116, 46, 110, 101, 119]⟩, y.data.toList, 0⟩], 100000, 9, true, 0⟩ : PD), 18) ∧ Fit (⟨[⟨⟨#[115, 104, 101, 101, 116]⟩, x.data.toList, x.data.toList.length⟩, ⟨⟨#[115, 104, 101, 101, 116, 46, 110, 101, 119]⟩, y.data.toList, 0⟩], 100000, 9, true, 0⟩ : PD) 20 ∧ loE (crashD (⟨[⟨⟨#[115, 104, 101, 101, 116]⟩, x.data.toList, x.data.toList.length⟩, ⟨⟨#[115, 104, 101, 101, 116, 46, 110, 101, 119]⟩, y.data.toList, 0⟩], 100000, 9, true, 0⟩ : PD) keep) = 0 ∧ loL (crashD (⟨[⟨⟨#[115, 104, 101, 101, 116]⟩, x.data.toList, x.data.toList.length⟩, ⟨⟨#[115, 104, 101, 101, 116, 46, 110, 101, 119]⟩, y.data.toList, 0⟩], 100000, 9, true, 0⟩ : PD) keep) = rdL x := by
  have hc : crashD (⟨[⟨⟨#[115, 104, 101, 101, 116]⟩, x.data.toList, x.data.toList.length⟩, ⟨⟨#[115, 104, 101, 101, 116, 46, 110, 101, 119]⟩, y.data.toList, 0⟩], 100000, 9, true, 0⟩ : PD) keep = (⟨[⟨⟨#[115, 104, 101, 101, 116]⟩, x.data.toList, x.data.toList.length⟩, crP keep 1 ⟨⟨#[115, 104, 101, 101, 116, 46, 110, 101, 119]⟩, y.data.toList, 0⟩], 100000, 9, false, 0⟩ : PD) := by
    show (⟨[crP keep 0 ⟨⟨#[115, 104, 101, 101, 116]⟩, x.data.toList, x.data.toList.length⟩, crP keep 1 ⟨⟨#[115, 104, 101, 101, 116, 46, 110, 101, 119]⟩, y.data.toList, 0⟩], 100000, 9, false, 0⟩ : PD) = _
    rw [share9]
  have hl := loK (⟨[⟨⟨#[115, 104, 101, 101, 116]⟩, x.data.toList, x.data.toList.length⟩, crP keep 1 ⟨⟨#[115, 104, 101, 101, 116, 46, 110, 101, 119]⟩, y.data.toList, 0⟩], 100000, 9, false, 0⟩ : PD) x (by kernel_rfl) ((show readB (⟨[⟨⟨#[115, 104, 101, 101, 116]⟩, x.data.toList, x.data.toList.length⟩, crP keep 1 ⟨⟨#[115, 104, 101, 101, 116, 46, 110, 101, 119]⟩, y.data.toList, 0⟩], 100000, 9, false, 0⟩ : PD) ⟨#[115, 104, 101, 101, 116]⟩ = ⟨x.data.toList.toArray⟩ by kernel_rfl).trans (ba9 x)) ox
  rw [← hc] at hl
  refine ⟨?_, fitK _ _ _ _ ⟨by rw [used9k, len9, len9]; omega, by simp⟩ (by decide) (by decide), hl.1, hl.2⟩
  have h2 : sa2 (⟨[⟨⟨#[115, 104, 101, 101, 116]⟩, x.data.toList, x.data.toList.length⟩], 100000, 7, true, 2⟩ : PD) = (⟨[⟨⟨#[115, 104, 101, 101, 116]⟩, x.data.toList, x.data.toList.length⟩, ⟨⟨#[115, 104, 101, 101, 116, 46, 110, 101, 119]⟩, [], 0⟩], 100000, 8, true, 1⟩ : PD) := by kernel_rfl
  have h3 : appendE (sa2 (⟨[⟨⟨#[115, 104, 101, 101, 116]⟩, x.data.toList, x.data.toList.length⟩], 100000, 7, true, 2⟩ : PD)) ⟨#[115, 104, 101, 101, 116, 46, 110, 101, 119]⟩ y = 0 := by
    unfold appendE
    rw [h2]
    rw [if_neg (by rw [show askE (⟨[⟨⟨#[115, 104, 101, 101, 116]⟩, x.data.toList, x.data.toList.length⟩, ⟨⟨#[115, 104, 101, 101, 116, 46, 110, 101, 119]⟩, [], 0⟩], 100000, 8, true, 1⟩ : PD) ⟨#[115, 104, 101, 101, 116, 46, 110, 101, 119]⟩ = 0 by kernel_rfl]; simp), if_neg (by show ¬ 100000 < usedL [_, _] + y.size; rw [used9k, len9]; simp; omega)]
  have h3d : sa3 (⟨[⟨⟨#[115, 104, 101, 101, 116]⟩, x.data.toList, x.data.toList.length⟩], 100000, 7, true, 2⟩ : PD) y = (⟨[⟨⟨#[115, 104, 101, 101, 116]⟩, x.data.toList, x.data.toList.length⟩, ⟨⟨#[115, 104, 101, 101, 116, 46, 110, 101, 119]⟩, y.data.toList, 0⟩], 100000, 9, true, 0⟩ : PD) := by
    unfold sa3 appendD
    rw [if_pos h3, h2]; kernel_rfl
  have h4d : sa4 (⟨[⟨⟨#[115, 104, 101, 101, 116]⟩, x.data.toList, x.data.toList.length⟩], 100000, 7, true, 2⟩ : PD) y = (⟨[⟨⟨#[115, 104, 101, 101, 116]⟩, x.data.toList, x.data.toList.length⟩, ⟨⟨#[115, 104, 101, 101, 116, 46, 110, 101, 119]⟩, y.data.toList, 0⟩], 100000, 9, true, 0⟩ : PD) := by unfold sa4; rw [h3d]; kernel_rfl
  unfold saB
  rw [if_neg (by rw [show askE (⟨[⟨⟨#[115, 104, 101, 101, 116]⟩, x.data.toList, x.data.toList.length⟩], 100000, 7, true, 2⟩ : PD) ⟨#[115, 104, 101, 101, 116, 46, 110, 101, 119]⟩ = 19 by kernel_rfl]; decide), if_neg (by rw [show createE (sa1 (⟨[⟨⟨#[115, 104, 101, 101, 116]⟩, x.data.toList, x.data.toList.length⟩], 100000, 7, true, 2⟩ : PD)) ⟨#[115, 104, 101, 101, 116, 46, 110, 101, 119]⟩ = 0 by kernel_rfl]; simp), if_neg (by rw [h3]; simp), h3d, if_pos (by rw [show askE (⟨[⟨⟨#[115, 104, 101, 101, 116]⟩, x.data.toList, x.data.toList.length⟩, ⟨⟨#[115, 104, 101, 101, 116, 46, 110, 101, 119]⟩, y.data.toList, 0⟩], 100000, 9, true, 0⟩ : PD) ⟨#[115, 104, 101, 101, 116, 46, 110, 101, 119]⟩ = 18 by kernel_rfl]; decide), h4d, show askE (⟨[⟨⟨#[115, 104, 101, 101, 116]⟩, x.data.toList, x.data.toList.length⟩, ⟨⟨#[115, 104, 101, 101, 116, 46, 110, 101, 119]⟩, y.data.toList, 0⟩], 100000, 9, true, 0⟩ : PD) ⟨#[115, 104, 101, 101, 116, 46, 110, 101, 119]⟩ = 18 by kernel_rfl]

theorem kS3 (x y : ByteArray) (hx : x.size ≤ 2000) (hy : y.size ≤ 2000) (ox : rdOk x = true) (oy : rdOk y = true) (keep : Nat) : saB (⟨[⟨⟨#[115, 104, 101, 101, 116]⟩, x.data.toList, x.data.toList.length⟩], 100000, 7, true, 3⟩ : PD) y = ((⟨[⟨⟨#[115, 104, 101, 101, 116]⟩, x.data.toList, x.data.toList.length⟩, ⟨⟨#[115, 104, 101, 101, 116, 46, 110, 101, 119]⟩, y.data.toList, y.data.toList.length⟩], 100000, 10, true, 0⟩ : PD), 18) ∧ Fit (⟨[⟨⟨#[115, 104, 101, 101, 116]⟩, x.data.toList, x.data.toList.length⟩, ⟨⟨#[115, 104, 101, 101, 116, 46, 110, 101, 119]⟩, y.data.toList, y.data.toList.length⟩], 100000, 10, true, 0⟩ : PD) 20 ∧ loE (crashD (⟨[⟨⟨#[115, 104, 101, 101, 116]⟩, x.data.toList, x.data.toList.length⟩, ⟨⟨#[115, 104, 101, 101, 116, 46, 110, 101, 119]⟩, y.data.toList, y.data.toList.length⟩], 100000, 10, true, 0⟩ : PD) keep) = 0 ∧ loL (crashD (⟨[⟨⟨#[115, 104, 101, 101, 116]⟩, x.data.toList, x.data.toList.length⟩, ⟨⟨#[115, 104, 101, 101, 116, 46, 110, 101, 119]⟩, y.data.toList, y.data.toList.length⟩], 100000, 10, true, 0⟩ : PD) keep) = rdL x := by
  have hc : crashD (⟨[⟨⟨#[115, 104, 101, 101, 116]⟩, x.data.toList, x.data.toList.length⟩, ⟨⟨#[115, 104, 101, 101, 116, 46, 110, 101, 119]⟩, y.data.toList, y.data.toList.length⟩], 100000, 10, true, 0⟩ : PD) keep = (⟨[⟨⟨#[115, 104, 101, 101, 116]⟩, x.data.toList, x.data.toList.length⟩, crP keep 1 ⟨⟨#[115, 104, 101, 101, 116, 46, 110, 101, 119]⟩, y.data.toList, y.data.toList.length⟩], 100000, 10, false, 0⟩ : PD) := by
    show (⟨[crP keep 0 ⟨⟨#[115, 104, 101, 101, 116]⟩, x.data.toList, x.data.toList.length⟩, crP keep 1 ⟨⟨#[115, 104, 101, 101, 116, 46, 110, 101, 119]⟩, y.data.toList, y.data.toList.length⟩], 100000, 10, false, 0⟩ : PD) = _
    rw [share9]
  have hl := loK (⟨[⟨⟨#[115, 104, 101, 101, 116]⟩, x.data.toList, x.data.toList.length⟩, crP keep 1 ⟨⟨#[115, 104, 101, 101, 116, 46, 110, 101, 119]⟩, y.data.toList, y.data.toList.length⟩], 100000, 10, false, 0⟩ : PD) x (by kernel_rfl) ((show readB (⟨[⟨⟨#[115, 104, 101, 101, 116]⟩, x.data.toList, x.data.toList.length⟩, crP keep 1 ⟨⟨#[115, 104, 101, 101, 116, 46, 110, 101, 119]⟩, y.data.toList, y.data.toList.length⟩], 100000, 10, false, 0⟩ : PD) ⟨#[115, 104, 101, 101, 116]⟩ = ⟨x.data.toList.toArray⟩ by kernel_rfl).trans (ba9 x)) ox
  rw [← hc] at hl
  refine ⟨?_, fitK _ _ _ _ ⟨by rw [used9k, len9, len9]; omega, by simp⟩ (by decide) (by decide), hl.1, hl.2⟩
  have h2 : sa2 (⟨[⟨⟨#[115, 104, 101, 101, 116]⟩, x.data.toList, x.data.toList.length⟩], 100000, 7, true, 3⟩ : PD) = (⟨[⟨⟨#[115, 104, 101, 101, 116]⟩, x.data.toList, x.data.toList.length⟩, ⟨⟨#[115, 104, 101, 101, 116, 46, 110, 101, 119]⟩, [], 0⟩], 100000, 8, true, 2⟩ : PD) := by kernel_rfl
  have h3 : appendE (sa2 (⟨[⟨⟨#[115, 104, 101, 101, 116]⟩, x.data.toList, x.data.toList.length⟩], 100000, 7, true, 3⟩ : PD)) ⟨#[115, 104, 101, 101, 116, 46, 110, 101, 119]⟩ y = 0 := by
    unfold appendE
    rw [h2]
    rw [if_neg (by rw [show askE (⟨[⟨⟨#[115, 104, 101, 101, 116]⟩, x.data.toList, x.data.toList.length⟩, ⟨⟨#[115, 104, 101, 101, 116, 46, 110, 101, 119]⟩, [], 0⟩], 100000, 8, true, 2⟩ : PD) ⟨#[115, 104, 101, 101, 116, 46, 110, 101, 119]⟩ = 0 by kernel_rfl]; simp), if_neg (by show ¬ 100000 < usedL [_, _] + y.size; rw [used9k, len9]; simp; omega)]
  have h3d : sa3 (⟨[⟨⟨#[115, 104, 101, 101, 116]⟩, x.data.toList, x.data.toList.length⟩], 100000, 7, true, 3⟩ : PD) y = (⟨[⟨⟨#[115, 104, 101, 101, 116]⟩, x.data.toList, x.data.toList.length⟩, ⟨⟨#[115, 104, 101, 101, 116, 46, 110, 101, 119]⟩, y.data.toList, 0⟩], 100000, 9, true, 1⟩ : PD) := by
    unfold sa3 appendD
    rw [if_pos h3, h2]; kernel_rfl
  have h4d : sa4 (⟨[⟨⟨#[115, 104, 101, 101, 116]⟩, x.data.toList, x.data.toList.length⟩], 100000, 7, true, 3⟩ : PD) y = (⟨[⟨⟨#[115, 104, 101, 101, 116]⟩, x.data.toList, x.data.toList.length⟩, ⟨⟨#[115, 104, 101, 101, 116, 46, 110, 101, 119]⟩, y.data.toList, y.data.toList.length⟩], 100000, 10, true, 0⟩ : PD) := by unfold sa4; rw [h3d]; kernel_rfl
  unfold saB
  rw [if_neg (by rw [show askE (⟨[⟨⟨#[115, 104, 101, 101, 116]⟩, x.data.toList, x.data.toList.length⟩], 100000, 7, true, 3⟩ : PD) ⟨#[115, 104, 101, 101, 116, 46, 110, 101, 119]⟩ = 19 by kernel_rfl]; decide), if_neg (by rw [show createE (sa1 (⟨[⟨⟨#[115, 104, 101, 101, 116]⟩, x.data.toList, x.data.toList.length⟩], 100000, 7, true, 3⟩ : PD)) ⟨#[115, 104, 101, 101, 116, 46, 110, 101, 119]⟩ = 0 by kernel_rfl]; simp), if_neg (by rw [h3]; simp), h3d, if_neg (by rw [show askE (⟨[⟨⟨#[115, 104, 101, 101, 116]⟩, x.data.toList, x.data.toList.length⟩, ⟨⟨#[115, 104, 101, 101, 116, 46, 110, 101, 119]⟩, y.data.toList, 0⟩], 100000, 9, true, 1⟩ : PD) ⟨#[115, 104, 101, 101, 116, 46, 110, 101, 119]⟩ = 0 by kernel_rfl]; simp)]
  unfold sa5
  rw [h4d]
  rw [show askE (⟨[⟨⟨#[115, 104, 101, 101, 116]⟩, x.data.toList, x.data.toList.length⟩, ⟨⟨#[115, 104, 101, 101, 116, 46, 110, 101, 119]⟩, y.data.toList, y.data.toList.length⟩], 100000, 10, true, 0⟩ : PD) ⟨#[115, 104, 101, 101, 116, 46, 110, 101, 119]⟩ = 18 by kernel_rfl]
  rw [show renameD (⟨[⟨⟨#[115, 104, 101, 101, 116]⟩, x.data.toList, x.data.toList.length⟩, ⟨⟨#[115, 104, 101, 101, 116, 46, 110, 101, 119]⟩, y.data.toList, y.data.toList.length⟩], 100000, 10, true, 0⟩ : PD) ⟨#[115, 104, 101, 101, 116, 46, 110, 101, 119]⟩ ⟨#[115, 104, 101, 101, 116]⟩ = (⟨[⟨⟨#[115, 104, 101, 101, 116]⟩, x.data.toList, x.data.toList.length⟩, ⟨⟨#[115, 104, 101, 101, 116, 46, 110, 101, 119]⟩, y.data.toList, y.data.toList.length⟩], 100000, 10, true, 0⟩ : PD) by kernel_rfl]

theorem kS4 (x y : ByteArray) (hx : x.size ≤ 2000) (hy : y.size ≤ 2000) (ox : rdOk x = true) (oy : rdOk y = true) (keep : Nat) : saB (⟨[⟨⟨#[115, 104, 101, 101, 116]⟩, x.data.toList, x.data.toList.length⟩], 100000, 7, true, 4⟩ : PD) y = ((⟨[⟨⟨#[115, 104, 101, 101, 116]⟩, y.data.toList, y.data.toList.length⟩], 100000, 11, true, 0⟩ : PD), 0) ∧ Fit (⟨[⟨⟨#[115, 104, 101, 101, 116]⟩, y.data.toList, y.data.toList.length⟩], 100000, 11, true, 0⟩ : PD) 20 ∧ loE (crashD (⟨[⟨⟨#[115, 104, 101, 101, 116]⟩, y.data.toList, y.data.toList.length⟩], 100000, 11, true, 0⟩ : PD) keep) = 0 ∧ loL (crashD (⟨[⟨⟨#[115, 104, 101, 101, 116]⟩, y.data.toList, y.data.toList.length⟩], 100000, 11, true, 0⟩ : PD) keep) = rdL y := by
  have hc : crashD (⟨[⟨⟨#[115, 104, 101, 101, 116]⟩, y.data.toList, y.data.toList.length⟩], 100000, 11, true, 0⟩ : PD) keep = (⟨[⟨⟨#[115, 104, 101, 101, 116]⟩, y.data.toList, y.data.toList.length⟩], 100000, 11, false, 0⟩ : PD) := by
    show (⟨[crP keep 0 ⟨⟨#[115, 104, 101, 101, 116]⟩, y.data.toList, y.data.toList.length⟩], 100000, 11, false, 0⟩ : PD) = _
    rw [share9]
  have hl := loK (⟨[⟨⟨#[115, 104, 101, 101, 116]⟩, y.data.toList, y.data.toList.length⟩], 100000, 11, false, 0⟩ : PD) y (by kernel_rfl) ((show readB (⟨[⟨⟨#[115, 104, 101, 101, 116]⟩, y.data.toList, y.data.toList.length⟩], 100000, 11, false, 0⟩ : PD) ⟨#[115, 104, 101, 101, 116]⟩ = ⟨y.data.toList.toArray⟩ by kernel_rfl).trans (ba9 y)) oy
  rw [← hc] at hl
  refine ⟨?_, fitK _ _ _ _ ⟨by rw [used9, len9]; omega, by simp⟩ (by decide) (by decide), hl.1, hl.2⟩
  have h2 : sa2 (⟨[⟨⟨#[115, 104, 101, 101, 116]⟩, x.data.toList, x.data.toList.length⟩], 100000, 7, true, 4⟩ : PD) = (⟨[⟨⟨#[115, 104, 101, 101, 116]⟩, x.data.toList, x.data.toList.length⟩, ⟨⟨#[115, 104, 101, 101, 116, 46, 110, 101, 119]⟩, [], 0⟩], 100000, 8, true, 3⟩ : PD) := by kernel_rfl
  have h3 : appendE (sa2 (⟨[⟨⟨#[115, 104, 101, 101, 116]⟩, x.data.toList, x.data.toList.length⟩], 100000, 7, true, 4⟩ : PD)) ⟨#[115, 104, 101, 101, 116, 46, 110, 101, 119]⟩ y = 0 := by
    unfold appendE
    rw [h2]
    rw [if_neg (by rw [show askE (⟨[⟨⟨#[115, 104, 101, 101, 116]⟩, x.data.toList, x.data.toList.length⟩, ⟨⟨#[115, 104, 101, 101, 116, 46, 110, 101, 119]⟩, [], 0⟩], 100000, 8, true, 3⟩ : PD) ⟨#[115, 104, 101, 101, 116, 46, 110, 101, 119]⟩ = 0 by kernel_rfl]; simp), if_neg (by show ¬ 100000 < usedL [_, _] + y.size; rw [used9k, len9]; simp; omega)]
  have h3d : sa3 (⟨[⟨⟨#[115, 104, 101, 101, 116]⟩, x.data.toList, x.data.toList.length⟩], 100000, 7, true, 4⟩ : PD) y = (⟨[⟨⟨#[115, 104, 101, 101, 116]⟩, x.data.toList, x.data.toList.length⟩, ⟨⟨#[115, 104, 101, 101, 116, 46, 110, 101, 119]⟩, y.data.toList, 0⟩], 100000, 9, true, 2⟩ : PD) := by
    unfold sa3 appendD
    rw [if_pos h3, h2]; kernel_rfl
  have h4d : sa4 (⟨[⟨⟨#[115, 104, 101, 101, 116]⟩, x.data.toList, x.data.toList.length⟩], 100000, 7, true, 4⟩ : PD) y = (⟨[⟨⟨#[115, 104, 101, 101, 116]⟩, x.data.toList, x.data.toList.length⟩, ⟨⟨#[115, 104, 101, 101, 116, 46, 110, 101, 119]⟩, y.data.toList, y.data.toList.length⟩], 100000, 10, true, 1⟩ : PD) := by unfold sa4; rw [h3d]; kernel_rfl
  unfold saB
  rw [if_neg (by rw [show askE (⟨[⟨⟨#[115, 104, 101, 101, 116]⟩, x.data.toList, x.data.toList.length⟩], 100000, 7, true, 4⟩ : PD) ⟨#[115, 104, 101, 101, 116, 46, 110, 101, 119]⟩ = 19 by kernel_rfl]; decide), if_neg (by rw [show createE (sa1 (⟨[⟨⟨#[115, 104, 101, 101, 116]⟩, x.data.toList, x.data.toList.length⟩], 100000, 7, true, 4⟩ : PD)) ⟨#[115, 104, 101, 101, 116, 46, 110, 101, 119]⟩ = 0 by kernel_rfl]; simp), if_neg (by rw [h3]; simp), h3d, if_neg (by rw [show askE (⟨[⟨⟨#[115, 104, 101, 101, 116]⟩, x.data.toList, x.data.toList.length⟩, ⟨⟨#[115, 104, 101, 101, 116, 46, 110, 101, 119]⟩, y.data.toList, 0⟩], 100000, 9, true, 2⟩ : PD) ⟨#[115, 104, 101, 101, 116, 46, 110, 101, 119]⟩ = 0 by kernel_rfl]; simp)]
  unfold sa5
  rw [h4d]
  rw [show askE (⟨[⟨⟨#[115, 104, 101, 101, 116]⟩, x.data.toList, x.data.toList.length⟩, ⟨⟨#[115, 104, 101, 101, 116, 46, 110, 101, 119]⟩, y.data.toList, y.data.toList.length⟩], 100000, 10, true, 1⟩ : PD) ⟨#[115, 104, 101, 101, 116, 46, 110, 101, 119]⟩ = 0 by kernel_rfl]
  rw [show renameD (⟨[⟨⟨#[115, 104, 101, 101, 116]⟩, x.data.toList, x.data.toList.length⟩, ⟨⟨#[115, 104, 101, 101, 116, 46, 110, 101, 119]⟩, y.data.toList, y.data.toList.length⟩], 100000, 10, true, 1⟩ : PD) ⟨#[115, 104, 101, 101, 116, 46, 110, 101, 119]⟩ ⟨#[115, 104, 101, 101, 116]⟩ = (⟨[⟨⟨#[115, 104, 101, 101, 116]⟩, y.data.toList, y.data.toList.length⟩], 100000, 11, true, 0⟩ : PD) by kernel_rfl]

theorem kS5 (x y : ByteArray) (hx : x.size ≤ 2000) (hy : y.size ≤ 2000) (ox : rdOk x = true) (oy : rdOk y = true) (keep : Nat) : saB (⟨[⟨⟨#[115, 104, 101, 101, 116]⟩, x.data.toList, x.data.toList.length⟩], 100000, 7, true, 5⟩ : PD) y = ((⟨[⟨⟨#[115, 104, 101, 101, 116]⟩, y.data.toList, y.data.toList.length⟩], 100000, 11, true, 1⟩ : PD), 0) ∧ Fit (⟨[⟨⟨#[115, 104, 101, 101, 116]⟩, y.data.toList, y.data.toList.length⟩], 100000, 11, true, 1⟩ : PD) 20 ∧ loE (crashD (⟨[⟨⟨#[115, 104, 101, 101, 116]⟩, y.data.toList, y.data.toList.length⟩], 100000, 11, true, 1⟩ : PD) keep) = 0 ∧ loL (crashD (⟨[⟨⟨#[115, 104, 101, 101, 116]⟩, y.data.toList, y.data.toList.length⟩], 100000, 11, true, 1⟩ : PD) keep) = rdL y := by
  have hc : crashD (⟨[⟨⟨#[115, 104, 101, 101, 116]⟩, y.data.toList, y.data.toList.length⟩], 100000, 11, true, 1⟩ : PD) keep = (⟨[⟨⟨#[115, 104, 101, 101, 116]⟩, y.data.toList, y.data.toList.length⟩], 100000, 11, false, 0⟩ : PD) := by
    show (⟨[crP keep 0 ⟨⟨#[115, 104, 101, 101, 116]⟩, y.data.toList, y.data.toList.length⟩], 100000, 11, false, 0⟩ : PD) = _
    rw [share9]
  have hl := loK (⟨[⟨⟨#[115, 104, 101, 101, 116]⟩, y.data.toList, y.data.toList.length⟩], 100000, 11, false, 0⟩ : PD) y (by kernel_rfl) ((show readB (⟨[⟨⟨#[115, 104, 101, 101, 116]⟩, y.data.toList, y.data.toList.length⟩], 100000, 11, false, 0⟩ : PD) ⟨#[115, 104, 101, 101, 116]⟩ = ⟨y.data.toList.toArray⟩ by kernel_rfl).trans (ba9 y)) oy
  rw [← hc] at hl
  refine ⟨?_, fitK _ _ _ _ ⟨by rw [used9, len9]; omega, by simp⟩ (by decide) (by decide), hl.1, hl.2⟩
  have h2 : sa2 (⟨[⟨⟨#[115, 104, 101, 101, 116]⟩, x.data.toList, x.data.toList.length⟩], 100000, 7, true, 5⟩ : PD) = (⟨[⟨⟨#[115, 104, 101, 101, 116]⟩, x.data.toList, x.data.toList.length⟩, ⟨⟨#[115, 104, 101, 101, 116, 46, 110, 101, 119]⟩, [], 0⟩], 100000, 8, true, 4⟩ : PD) := by kernel_rfl
  have h3 : appendE (sa2 (⟨[⟨⟨#[115, 104, 101, 101, 116]⟩, x.data.toList, x.data.toList.length⟩], 100000, 7, true, 5⟩ : PD)) ⟨#[115, 104, 101, 101, 116, 46, 110, 101, 119]⟩ y = 0 := by
    unfold appendE
    rw [h2]
    rw [if_neg (by rw [show askE (⟨[⟨⟨#[115, 104, 101, 101, 116]⟩, x.data.toList, x.data.toList.length⟩, ⟨⟨#[115, 104, 101, 101, 116, 46, 110, 101, 119]⟩, [], 0⟩], 100000, 8, true, 4⟩ : PD) ⟨#[115, 104, 101, 101, 116, 46, 110, 101, 119]⟩ = 0 by kernel_rfl]; simp), if_neg (by show ¬ 100000 < usedL [_, _] + y.size; rw [used9k, len9]; simp; omega)]
  have h3d : sa3 (⟨[⟨⟨#[115, 104, 101, 101, 116]⟩, x.data.toList, x.data.toList.length⟩], 100000, 7, true, 5⟩ : PD) y = (⟨[⟨⟨#[115, 104, 101, 101, 116]⟩, x.data.toList, x.data.toList.length⟩, ⟨⟨#[115, 104, 101, 101, 116, 46, 110, 101, 119]⟩, y.data.toList, 0⟩], 100000, 9, true, 3⟩ : PD) := by
    unfold sa3 appendD
    rw [if_pos h3, h2]; kernel_rfl
  have h4d : sa4 (⟨[⟨⟨#[115, 104, 101, 101, 116]⟩, x.data.toList, x.data.toList.length⟩], 100000, 7, true, 5⟩ : PD) y = (⟨[⟨⟨#[115, 104, 101, 101, 116]⟩, x.data.toList, x.data.toList.length⟩, ⟨⟨#[115, 104, 101, 101, 116, 46, 110, 101, 119]⟩, y.data.toList, y.data.toList.length⟩], 100000, 10, true, 2⟩ : PD) := by unfold sa4; rw [h3d]; kernel_rfl
  unfold saB
  rw [if_neg (by rw [show askE (⟨[⟨⟨#[115, 104, 101, 101, 116]⟩, x.data.toList, x.data.toList.length⟩], 100000, 7, true, 5⟩ : PD) ⟨#[115, 104, 101, 101, 116, 46, 110, 101, 119]⟩ = 19 by kernel_rfl]; decide), if_neg (by rw [show createE (sa1 (⟨[⟨⟨#[115, 104, 101, 101, 116]⟩, x.data.toList, x.data.toList.length⟩], 100000, 7, true, 5⟩ : PD)) ⟨#[115, 104, 101, 101, 116, 46, 110, 101, 119]⟩ = 0 by kernel_rfl]; simp), if_neg (by rw [h3]; simp), h3d, if_neg (by rw [show askE (⟨[⟨⟨#[115, 104, 101, 101, 116]⟩, x.data.toList, x.data.toList.length⟩, ⟨⟨#[115, 104, 101, 101, 116, 46, 110, 101, 119]⟩, y.data.toList, 0⟩], 100000, 9, true, 3⟩ : PD) ⟨#[115, 104, 101, 101, 116, 46, 110, 101, 119]⟩ = 0 by kernel_rfl]; simp)]
  unfold sa5
  rw [h4d]
  rw [show askE (⟨[⟨⟨#[115, 104, 101, 101, 116]⟩, x.data.toList, x.data.toList.length⟩, ⟨⟨#[115, 104, 101, 101, 116, 46, 110, 101, 119]⟩, y.data.toList, y.data.toList.length⟩], 100000, 10, true, 2⟩ : PD) ⟨#[115, 104, 101, 101, 116, 46, 110, 101, 119]⟩ = 0 by kernel_rfl]
  rw [show renameD (⟨[⟨⟨#[115, 104, 101, 101, 116]⟩, x.data.toList, x.data.toList.length⟩, ⟨⟨#[115, 104, 101, 101, 116, 46, 110, 101, 119]⟩, y.data.toList, y.data.toList.length⟩], 100000, 10, true, 2⟩ : PD) ⟨#[115, 104, 101, 101, 116, 46, 110, 101, 119]⟩ ⟨#[115, 104, 101, 101, 116]⟩ = (⟨[⟨⟨#[115, 104, 101, 101, 116]⟩, y.data.toList, y.data.toList.length⟩], 100000, 11, true, 1⟩ : PD) by kernel_rfl]

theorem kS6 (x y : ByteArray) (hx : x.size ≤ 2000) (hy : y.size ≤ 2000) (ox : rdOk x = true) (oy : rdOk y = true) (keep : Nat) : saB (⟨[⟨⟨#[115, 104, 101, 101, 116]⟩, x.data.toList, x.data.toList.length⟩], 100000, 7, true, 6⟩ : PD) y = ((⟨[⟨⟨#[115, 104, 101, 101, 116]⟩, y.data.toList, y.data.toList.length⟩], 100000, 11, true, 2⟩ : PD), 0) ∧ Fit (⟨[⟨⟨#[115, 104, 101, 101, 116]⟩, y.data.toList, y.data.toList.length⟩], 100000, 11, true, 2⟩ : PD) 20 ∧ loE (crashD (⟨[⟨⟨#[115, 104, 101, 101, 116]⟩, y.data.toList, y.data.toList.length⟩], 100000, 11, true, 2⟩ : PD) keep) = 0 ∧ loL (crashD (⟨[⟨⟨#[115, 104, 101, 101, 116]⟩, y.data.toList, y.data.toList.length⟩], 100000, 11, true, 2⟩ : PD) keep) = rdL y := by
  have hc : crashD (⟨[⟨⟨#[115, 104, 101, 101, 116]⟩, y.data.toList, y.data.toList.length⟩], 100000, 11, true, 2⟩ : PD) keep = (⟨[⟨⟨#[115, 104, 101, 101, 116]⟩, y.data.toList, y.data.toList.length⟩], 100000, 11, false, 0⟩ : PD) := by
    show (⟨[crP keep 0 ⟨⟨#[115, 104, 101, 101, 116]⟩, y.data.toList, y.data.toList.length⟩], 100000, 11, false, 0⟩ : PD) = _
    rw [share9]
  have hl := loK (⟨[⟨⟨#[115, 104, 101, 101, 116]⟩, y.data.toList, y.data.toList.length⟩], 100000, 11, false, 0⟩ : PD) y (by kernel_rfl) ((show readB (⟨[⟨⟨#[115, 104, 101, 101, 116]⟩, y.data.toList, y.data.toList.length⟩], 100000, 11, false, 0⟩ : PD) ⟨#[115, 104, 101, 101, 116]⟩ = ⟨y.data.toList.toArray⟩ by kernel_rfl).trans (ba9 y)) oy
  rw [← hc] at hl
  refine ⟨?_, fitK _ _ _ _ ⟨by rw [used9, len9]; omega, by simp⟩ (by decide) (by decide), hl.1, hl.2⟩
  have h2 : sa2 (⟨[⟨⟨#[115, 104, 101, 101, 116]⟩, x.data.toList, x.data.toList.length⟩], 100000, 7, true, 6⟩ : PD) = (⟨[⟨⟨#[115, 104, 101, 101, 116]⟩, x.data.toList, x.data.toList.length⟩, ⟨⟨#[115, 104, 101, 101, 116, 46, 110, 101, 119]⟩, [], 0⟩], 100000, 8, true, 5⟩ : PD) := by kernel_rfl
  have h3 : appendE (sa2 (⟨[⟨⟨#[115, 104, 101, 101, 116]⟩, x.data.toList, x.data.toList.length⟩], 100000, 7, true, 6⟩ : PD)) ⟨#[115, 104, 101, 101, 116, 46, 110, 101, 119]⟩ y = 0 := by
    unfold appendE
    rw [h2]
    rw [if_neg (by rw [show askE (⟨[⟨⟨#[115, 104, 101, 101, 116]⟩, x.data.toList, x.data.toList.length⟩, ⟨⟨#[115, 104, 101, 101, 116, 46, 110, 101, 119]⟩, [], 0⟩], 100000, 8, true, 5⟩ : PD) ⟨#[115, 104, 101, 101, 116, 46, 110, 101, 119]⟩ = 0 by kernel_rfl]; simp), if_neg (by show ¬ 100000 < usedL [_, _] + y.size; rw [used9k, len9]; simp; omega)]
  have h3d : sa3 (⟨[⟨⟨#[115, 104, 101, 101, 116]⟩, x.data.toList, x.data.toList.length⟩], 100000, 7, true, 6⟩ : PD) y = (⟨[⟨⟨#[115, 104, 101, 101, 116]⟩, x.data.toList, x.data.toList.length⟩, ⟨⟨#[115, 104, 101, 101, 116, 46, 110, 101, 119]⟩, y.data.toList, 0⟩], 100000, 9, true, 4⟩ : PD) := by
    unfold sa3 appendD
    rw [if_pos h3, h2]; kernel_rfl
  have h4d : sa4 (⟨[⟨⟨#[115, 104, 101, 101, 116]⟩, x.data.toList, x.data.toList.length⟩], 100000, 7, true, 6⟩ : PD) y = (⟨[⟨⟨#[115, 104, 101, 101, 116]⟩, x.data.toList, x.data.toList.length⟩, ⟨⟨#[115, 104, 101, 101, 116, 46, 110, 101, 119]⟩, y.data.toList, y.data.toList.length⟩], 100000, 10, true, 3⟩ : PD) := by unfold sa4; rw [h3d]; kernel_rfl
  unfold saB
  rw [if_neg (by rw [show askE (⟨[⟨⟨#[115, 104, 101, 101, 116]⟩, x.data.toList, x.data.toList.length⟩], 100000, 7, true, 6⟩ : PD) ⟨#[115, 104, 101, 101, 116, 46, 110, 101, 119]⟩ = 19 by kernel_rfl]; decide), if_neg (by rw [show createE (sa1 (⟨[⟨⟨#[115, 104, 101, 101, 116]⟩, x.data.toList, x.data.toList.length⟩], 100000, 7, true, 6⟩ : PD)) ⟨#[115, 104, 101, 101, 116, 46, 110, 101, 119]⟩ = 0 by kernel_rfl]; simp), if_neg (by rw [h3]; simp), h3d, if_neg (by rw [show askE (⟨[⟨⟨#[115, 104, 101, 101, 116]⟩, x.data.toList, x.data.toList.length⟩, ⟨⟨#[115, 104, 101, 101, 116, 46, 110, 101, 119]⟩, y.data.toList, 0⟩], 100000, 9, true, 4⟩ : PD) ⟨#[115, 104, 101, 101, 116, 46, 110, 101, 119]⟩ = 0 by kernel_rfl]; simp)]
  unfold sa5
  rw [h4d]
  rw [show askE (⟨[⟨⟨#[115, 104, 101, 101, 116]⟩, x.data.toList, x.data.toList.length⟩, ⟨⟨#[115, 104, 101, 101, 116, 46, 110, 101, 119]⟩, y.data.toList, y.data.toList.length⟩], 100000, 10, true, 3⟩ : PD) ⟨#[115, 104, 101, 101, 116, 46, 110, 101, 119]⟩ = 0 by kernel_rfl]
  rw [show renameD (⟨[⟨⟨#[115, 104, 101, 101, 116]⟩, x.data.toList, x.data.toList.length⟩, ⟨⟨#[115, 104, 101, 101, 116, 46, 110, 101, 119]⟩, y.data.toList, y.data.toList.length⟩], 100000, 10, true, 3⟩ : PD) ⟨#[115, 104, 101, 101, 116, 46, 110, 101, 119]⟩ ⟨#[115, 104, 101, 101, 116]⟩ = (⟨[⟨⟨#[115, 104, 101, 101, 116]⟩, y.data.toList, y.data.toList.length⟩], 100000, 11, true, 2⟩ : PD) by kernel_rfl]

theorem kS7 (x y : ByteArray) (hx : x.size ≤ 2000) (hy : y.size ≤ 2000) (ox : rdOk x = true) (oy : rdOk y = true) (keep : Nat) : saB (⟨[⟨⟨#[115, 104, 101, 101, 116]⟩, x.data.toList, x.data.toList.length⟩], 100000, 7, true, 7⟩ : PD) y = ((⟨[⟨⟨#[115, 104, 101, 101, 116]⟩, y.data.toList, y.data.toList.length⟩], 100000, 11, true, 3⟩ : PD), 0) ∧ Fit (⟨[⟨⟨#[115, 104, 101, 101, 116]⟩, y.data.toList, y.data.toList.length⟩], 100000, 11, true, 3⟩ : PD) 20 ∧ loE (crashD (⟨[⟨⟨#[115, 104, 101, 101, 116]⟩, y.data.toList, y.data.toList.length⟩], 100000, 11, true, 3⟩ : PD) keep) = 0 ∧ loL (crashD (⟨[⟨⟨#[115, 104, 101, 101, 116]⟩, y.data.toList, y.data.toList.length⟩], 100000, 11, true, 3⟩ : PD) keep) = rdL y := by
  have hc : crashD (⟨[⟨⟨#[115, 104, 101, 101, 116]⟩, y.data.toList, y.data.toList.length⟩], 100000, 11, true, 3⟩ : PD) keep = (⟨[⟨⟨#[115, 104, 101, 101, 116]⟩, y.data.toList, y.data.toList.length⟩], 100000, 11, false, 0⟩ : PD) := by
    show (⟨[crP keep 0 ⟨⟨#[115, 104, 101, 101, 116]⟩, y.data.toList, y.data.toList.length⟩], 100000, 11, false, 0⟩ : PD) = _
    rw [share9]
  have hl := loK (⟨[⟨⟨#[115, 104, 101, 101, 116]⟩, y.data.toList, y.data.toList.length⟩], 100000, 11, false, 0⟩ : PD) y (by kernel_rfl) ((show readB (⟨[⟨⟨#[115, 104, 101, 101, 116]⟩, y.data.toList, y.data.toList.length⟩], 100000, 11, false, 0⟩ : PD) ⟨#[115, 104, 101, 101, 116]⟩ = ⟨y.data.toList.toArray⟩ by kernel_rfl).trans (ba9 y)) oy
  rw [← hc] at hl
  refine ⟨?_, fitK _ _ _ _ ⟨by rw [used9, len9]; omega, by simp⟩ (by decide) (by decide), hl.1, hl.2⟩
  have h2 : sa2 (⟨[⟨⟨#[115, 104, 101, 101, 116]⟩, x.data.toList, x.data.toList.length⟩], 100000, 7, true, 7⟩ : PD) = (⟨[⟨⟨#[115, 104, 101, 101, 116]⟩, x.data.toList, x.data.toList.length⟩, ⟨⟨#[115, 104, 101, 101, 116, 46, 110, 101, 119]⟩, [], 0⟩], 100000, 8, true, 6⟩ : PD) := by kernel_rfl
  have h3 : appendE (sa2 (⟨[⟨⟨#[115, 104, 101, 101, 116]⟩, x.data.toList, x.data.toList.length⟩], 100000, 7, true, 7⟩ : PD)) ⟨#[115, 104, 101, 101, 116, 46, 110, 101, 119]⟩ y = 0 := by
    unfold appendE
    rw [h2]
    rw [if_neg (by rw [show askE (⟨[⟨⟨#[115, 104, 101, 101, 116]⟩, x.data.toList, x.data.toList.length⟩, ⟨⟨#[115, 104, 101, 101, 116, 46, 110, 101, 119]⟩, [], 0⟩], 100000, 8, true, 6⟩ : PD) ⟨#[115, 104, 101, 101, 116, 46, 110, 101, 119]⟩ = 0 by kernel_rfl]; simp), if_neg (by show ¬ 100000 < usedL [_, _] + y.size; rw [used9k, len9]; simp; omega)]
  have h3d : sa3 (⟨[⟨⟨#[115, 104, 101, 101, 116]⟩, x.data.toList, x.data.toList.length⟩], 100000, 7, true, 7⟩ : PD) y = (⟨[⟨⟨#[115, 104, 101, 101, 116]⟩, x.data.toList, x.data.toList.length⟩, ⟨⟨#[115, 104, 101, 101, 116, 46, 110, 101, 119]⟩, y.data.toList, 0⟩], 100000, 9, true, 5⟩ : PD) := by
    unfold sa3 appendD
    rw [if_pos h3, h2]; kernel_rfl
  have h4d : sa4 (⟨[⟨⟨#[115, 104, 101, 101, 116]⟩, x.data.toList, x.data.toList.length⟩], 100000, 7, true, 7⟩ : PD) y = (⟨[⟨⟨#[115, 104, 101, 101, 116]⟩, x.data.toList, x.data.toList.length⟩, ⟨⟨#[115, 104, 101, 101, 116, 46, 110, 101, 119]⟩, y.data.toList, y.data.toList.length⟩], 100000, 10, true, 4⟩ : PD) := by unfold sa4; rw [h3d]; kernel_rfl
  unfold saB
  rw [if_neg (by rw [show askE (⟨[⟨⟨#[115, 104, 101, 101, 116]⟩, x.data.toList, x.data.toList.length⟩], 100000, 7, true, 7⟩ : PD) ⟨#[115, 104, 101, 101, 116, 46, 110, 101, 119]⟩ = 19 by kernel_rfl]; decide), if_neg (by rw [show createE (sa1 (⟨[⟨⟨#[115, 104, 101, 101, 116]⟩, x.data.toList, x.data.toList.length⟩], 100000, 7, true, 7⟩ : PD)) ⟨#[115, 104, 101, 101, 116, 46, 110, 101, 119]⟩ = 0 by kernel_rfl]; simp), if_neg (by rw [h3]; simp), h3d, if_neg (by rw [show askE (⟨[⟨⟨#[115, 104, 101, 101, 116]⟩, x.data.toList, x.data.toList.length⟩, ⟨⟨#[115, 104, 101, 101, 116, 46, 110, 101, 119]⟩, y.data.toList, 0⟩], 100000, 9, true, 5⟩ : PD) ⟨#[115, 104, 101, 101, 116, 46, 110, 101, 119]⟩ = 0 by kernel_rfl]; simp)]
  unfold sa5
  rw [h4d]
  rw [show askE (⟨[⟨⟨#[115, 104, 101, 101, 116]⟩, x.data.toList, x.data.toList.length⟩, ⟨⟨#[115, 104, 101, 101, 116, 46, 110, 101, 119]⟩, y.data.toList, y.data.toList.length⟩], 100000, 10, true, 4⟩ : PD) ⟨#[115, 104, 101, 101, 116, 46, 110, 101, 119]⟩ = 0 by kernel_rfl]
  rw [show renameD (⟨[⟨⟨#[115, 104, 101, 101, 116]⟩, x.data.toList, x.data.toList.length⟩, ⟨⟨#[115, 104, 101, 101, 116, 46, 110, 101, 119]⟩, y.data.toList, y.data.toList.length⟩], 100000, 10, true, 4⟩ : PD) ⟨#[115, 104, 101, 101, 116, 46, 110, 101, 119]⟩ ⟨#[115, 104, 101, 101, 116]⟩ = (⟨[⟨⟨#[115, 104, 101, 101, 116]⟩, y.data.toList, y.data.toList.length⟩], 100000, 11, true, 3⟩ : PD) by kernel_rfl]

set_option maxRecDepth 100000 in
set_option maxHeartbeats 4000000 in
theorem keeps_a (w : World) (sa : Option Addr) (la ca : Nat) (zs : List Int) (hz : RowI .i64 w sa la zs) (sb : Option Addr) (lb cb : Nat) (ys : List Int) (hy : RowI .i64 w sb lb ys) (steps : Nat) (hst : steps < 256) (keep : Nat) (hkp : keep < 18446744073709551616) (t : ByteArray) (ht : t.size ≤ maxLen) (h : 250 < la) : Calls Try.prog 10 #[.slice sa la ca, .slice sb lb cb, .int .u8 steps, .int .u64 keep, .string t] w fun e w' => e = .returned (.bool true) ∧ Below w.heap.size w w' := by
  have GK := Lib.hid sheet_known
  have h1 : (250 : Int) < ((la : Nat) : Int) := by omega
  clear h hz hy hst hkp ht
  unfold Gives at *
  go_enter Try.func10, Try.ntmps10
  go_wp2_with (first
    | (go_at_call 35; ((with_reducible refine (GK.out _).mono ?_); rintro e w0 ⟨rfl, hB0⟩)))
  go_ret
  exact ⟨by simp, hB0⟩

set_option maxRecDepth 100000 in
set_option maxHeartbeats 4000000 in
theorem keeps_b (w : World) (sa : Option Addr) (la ca : Nat) (zs : List Int) (hz : RowI .i64 w sa la zs) (sb : Option Addr) (lb cb : Nat) (ys : List Int) (hy : RowI .i64 w sb lb ys) (steps : Nat) (hst : steps < 256) (keep : Nat) (hkp : keep < 18446744073709551616) (t : ByteArray) (ht : t.size ≤ maxLen) (h0 : la ≤ 250) (h : 250 < lb) : Calls Try.prog 10 #[.slice sa la ca, .slice sb lb cb, .int .u8 steps, .int .u64 keep, .string t] w fun e w' => e = .returned (.bool true) ∧ Below w.heap.size w w' := by
  have GK := Lib.hid sheet_known
  have h1 : ((la : Nat) : Int) ≤ 250 := by omega
  have h2 : (250 : Int) < ((lb : Nat) : Int) := by omega
  clear h0
  clear h hz hy hst hkp ht
  unfold Gives at *
  go_enter Try.func10, Try.ntmps10
  go_wp2_with (first
    | (go_at_call 35; ((with_reducible refine (GK.out _).mono ?_); rintro e w0 ⟨rfl, hB0⟩)))
  go_ret
  exact ⟨by simp, hB0⟩

set_option maxRecDepth 100000 in
set_option maxHeartbeats 4000000 in
theorem keeps_i (w : World) (sa : Option Addr) (la ca : Nat) (zs : List Int) (hz : RowI .i64 w sa la zs) (sb : Option Addr) (lb cb : Nat) (ys : List Int) (hy : RowI .i64 w sb lb ys) (steps : Nat) (hst : steps < 256) (keep : Nat) (hkp : keep < 18446744073709551616) (t : ByteArray) (ht : t.size ≤ maxLen) (ha : la ≤ 250) (hb : lb ≤ 250) (hsa : shB zs = false) : Calls Try.prog 10 #[.slice sa la ca, .slice sb lb cb, .int .u8 steps, .int .u64 keep, .string t] w fun e w' => e = .returned (.bool true) ∧ Below w.heap.size w w' := by
  have GK := Lib.hid sheet_known
  have h1 : ((la : Nat) : Int) ≤ 250 := by omega
  have h2 : ((lb : Nat) : Int) ≤ 250 := by omega
  have GI := Lib.hid (fun W (hB : Below w.heap.size w W) => (show Gives Try.prog 37 #[.slice sa la ca] W (.bool false) from by have := shIs_any sa la ca zs W (rowI_below hz hB); rwa [hsa] at this))
  clear ha hb hz hy hst hkp ht hsa
  unfold Gives at *
  go_enter Try.func10, Try.ntmps10
  go_wp2_with (first
    | (go_at_call 35; ((with_reducible refine (GK.out _).mono ?_); rintro e w0 ⟨rfl, hB0⟩))
    | (go_at_call 37; ((with_reducible refine (GI.out _ hB0).mono ?_); rintro e w1 ⟨rfl, hB1⟩; have hb1 := bel2 hB0 hB1; clear GI hB1)))
  go_ret
  exact ⟨by simp, hb1⟩

set_option maxRecDepth 100000 in
set_option maxHeartbeats 4000000 in
theorem keeps_j (w : World) (sa : Option Addr) (la ca : Nat) (zs : List Int) (hz : RowI .i64 w sa la zs) (sb : Option Addr) (lb cb : Nat) (ys : List Int) (hy : RowI .i64 w sb lb ys) (steps : Nat) (hst : steps < 256) (keep : Nat) (hkp : keep < 18446744073709551616) (t : ByteArray) (ht : t.size ≤ maxLen) (ha : la ≤ 250) (hb : lb ≤ 250) (hsa : shB zs = true) (hsb : shB ys = false) : Calls Try.prog 10 #[.slice sa la ca, .slice sb lb cb, .int .u8 steps, .int .u64 keep, .string t] w fun e w' => e = .returned (.bool true) ∧ Below w.heap.size w w' := by
  have GK := Lib.hid sheet_known
  have h1 : ((la : Nat) : Int) ≤ 250 := by omega
  have h2 : ((lb : Nat) : Int) ≤ 250 := by omega
  have GI := Lib.hid (fun W (hB : Below w.heap.size w W) => (show Gives Try.prog 37 #[.slice sa la ca] W (.bool true) from by have := shIs_any sa la ca zs W (rowI_below hz hB); rwa [hsa] at this))
  have GJ := Lib.hid (fun W (hB : Below w.heap.size w W) => (show Gives Try.prog 37 #[.slice sb lb cb] W (.bool false) from by have := shIs_any sb lb cb ys W (rowI_below hy hB); rwa [hsb] at this))
  clear ha hb hz hy hst hkp ht hsa hsb
  unfold Gives at *
  go_enter Try.func10, Try.ntmps10
  go_wp2_with (first
    | (go_at_call 35; ((with_reducible refine (GK.out _).mono ?_); rintro e w0 ⟨rfl, hB0⟩))
    | (go_at_call 37; ((with_reducible refine (GI.out _ hB0).mono ?_); rintro e w1 ⟨rfl, hB1⟩; have hb1 := bel2 hB0 hB1; clear GI hB1))
    | (go_at_call 37; ((with_reducible refine (GJ.out _ hb1).mono ?_); rintro e w2 ⟨rfl, hB2⟩; have hb2 := bel2 hb1 hB2; clear GJ hB2)))
  go_ret
  exact ⟨by simp, hb2⟩

set_option maxRecDepth 100000 in
set_option maxHeartbeats 4000000 in
theorem keeps_t (w : World) (sa : Option Addr) (la ca : Nat) (zs : List Int) (hz : RowI .i64 w sa la zs) (sb : Option Addr) (lb cb : Nat) (ys : List Int) (hy : RowI .i64 w sb lb ys) (steps : Nat) (hst : steps < 256) (keep : Nat) (hkp : keep < 18446744073709551616) (t : ByteArray) (ht : t.size ≤ maxLen) (ha : la ≤ 250) (hb : lb ≤ 250) (hsa : shB zs = true) (hsb : shB ys = true) (h : 100 < t.size) : Calls Try.prog 10 #[.slice sa la ca, .slice sb lb cb, .int .u8 steps, .int .u64 keep, .string t] w fun e w' => e = .returned (.bool true) ∧ Below w.heap.size w w' := by
  have GK := Lib.hid sheet_known
  have h1 : ((la : Nat) : Int) ≤ 250 := by omega
  have h2 : ((lb : Nat) : Int) ≤ 250 := by omega
  have h3 : (100 : Int) < ((t.size : Nat) : Int) := by omega
  have GI := Lib.hid (fun W (hB : Below w.heap.size w W) => (show Gives Try.prog 37 #[.slice sa la ca] W (.bool true) from by have := shIs_any sa la ca zs W (rowI_below hz hB); rwa [hsa] at this))
  have GJ := Lib.hid (fun W (hB : Below w.heap.size w W) => (show Gives Try.prog 37 #[.slice sb lb cb] W (.bool true) from by have := shIs_any sb lb cb ys W (rowI_below hy hB); rwa [hsb] at this))
  clear ha hb hz hy hst hkp ht hsa hsb h
  unfold Gives at *
  go_enter Try.func10, Try.ntmps10
  go_wp2_with (first
    | (go_at_call 35; ((with_reducible refine (GK.out _).mono ?_); rintro e w0 ⟨rfl, hB0⟩))
    | (go_at_call 37; ((with_reducible refine (GI.out _ hB0).mono ?_); rintro e w1 ⟨rfl, hB1⟩; have hb1 := bel2 hB0 hB1; clear GI hB1))
    | (go_at_call 37; ((with_reducible refine (GJ.out _ hb1).mono ?_); rintro e w2 ⟨rfl, hB2⟩; have hb2 := bel2 hb1 hB2; clear GJ hB2)))
  go_ret
  exact ⟨by simp, hb2⟩

set_option maxRecDepth 100000 in
set_option maxHeartbeats 4000000 in
theorem keeps_old (w : World) (sa : Option Addr) (la ca : Nat) (zs : List Int) (hz : RowI .i64 w sa la zs) (sb : Option Addr) (lb cb : Nat) (ys : List Int) (hy : RowI .i64 w sb lb ys) (steps : Nat) (hst : steps < 256) (keep : Nat) (hkp : keep < 18446744073709551616) (t : ByteArray) (ht : t.size ≤ maxLen) (ha : la ≤ 250) (hb : lb ≤ 250) (hsa : shB zs = true) (hsb : shB ys = true) (h100 : t.size ≤ 100) (k : Nat) (hk : steps % 8 = k) (x y : ByteArray) (hx : x = shY zs) (hyy : y = shY ys) (E : PD) (hsv : saB (⟨[⟨⟨#[115, 104, 101, 101, 116]⟩, x.data.toList, x.data.toList.length⟩], 100000, 7, true, k⟩ : PD) y = (E, 18)) (hE : Fit E 20) (hlo : loE (crashD E keep) = 0 ∧ loL (crashD E keep) = zs) : Calls Try.prog 10 #[.slice sa la ca, .slice sb lb cb, .int .u8 steps, .int .u64 keep, .string t] w fun e w' => e = .returned (.bool true) ∧ Below w.heap.size w w' := by
  have GK := Lib.hid sheet_known
  have h1 : ((la : Nat) : Int) ≤ 250 := by omega
  have h2 : ((lb : Nat) : Int) ≤ 250 := by omega
  have GI := Lib.hid (fun W (hB : Below w.heap.size w W) => (show Gives Try.prog 37 #[.slice sa la ca] W (.bool true) from by have := shIs_any sa la ca zs W (rowI_below hz hB); rwa [hsa] at this))
  have GJ := Lib.hid (fun W (hB : Below w.heap.size w W) => (show Gives Try.prog 37 #[.slice sb lb cb] W (.bool true) from by have := shIs_any sb lb cb ys W (rowI_below hy hB); rwa [hsb] at this))
  have hxs : x.size ≤ 2000 := by rw [hx]; exact shY_size _
  have hxb := rd_back hsa
  rw [← hx] at hxb
  have GN := Lib.hid (fun w2 => (show Calls Try.prog 24 #[.int .i64 100000] w2 fun e w' => e = .returned (.pointer (some ⟨(w2.heap.size + 1), 0, none⟩)) ∧ One w2 (w2.heap.size + 1) (⟨[], 100000, 0, false, 0⟩ : PD) w' from newO 100000 w2))
  have GC := Lib.hid (fun w2 W (h : One w2 (w2.heap.size + 1) ((⟨[], 100000, 0, false, 0⟩ : PD)) W) => (show Calls Try.prog 19 #[.pointer (some ⟨(w2.heap.size + 1), 0, none⟩), .string ⟨#[115, 104, 101, 101, 116, 46, 110, 101, 119]⟩] W fun e w' => e = .returned (.int .i64 0) ∧ One w2 (w2.heap.size + 1) ((⟨[⟨⟨#[115, 104, 101, 101, 116, 46, 110, 101, 119]⟩, [], 0⟩], 100000, 1, false, 0⟩ : PD)) w' from by have := createO h (fitK _ _ _ _ ⟨by simp [usedL], by simp⟩ (by decide) (by omega)) (by decide) ⟨#[115, 104, 101, 101, 116, 46, 110, 101, 119]⟩ (by decide); rwa [kC0.1, kC0.2] at this))
  have GA := Lib.hid (fun w2 W (h : One w2 (w2.heap.size + 1) ((⟨[⟨⟨#[115, 104, 101, 101, 116, 46, 110, 101, 119]⟩, [], 0⟩], 100000, 1, false, 0⟩ : PD)) W) => (show Calls Try.prog 25 #[.pointer (some ⟨(w2.heap.size + 1), 0, none⟩), .string ⟨#[115, 104, 101, 101, 116, 46, 110, 101, 119]⟩, .string t] W fun e w' => e = .returned (.int .i64 0) ∧ One w2 (w2.heap.size + 1) ((⟨[⟨⟨#[115, 104, 101, 101, 116, 46, 110, 101, 119]⟩, t.data.toList, 0⟩], 100000, 2, false, 0⟩ : PD)) w' from by have := appendO h (fitK _ _ _ _ ⟨by simp [usedL], by simp⟩ (by decide) (by omega)) (by decide) ⟨#[115, 104, 101, 101, 116, 46, 110, 101, 119]⟩ t (by decide) (by omega); rwa [(kA1 t h100).1, (kA1 t h100).2] at this))
  have GV := Lib.hid (fun w2 W (h : One w2 (w2.heap.size + 1) (⟨[⟨⟨#[115, 104, 101, 101, 116, 46, 110, 101, 119]⟩, t.data.toList, 0⟩], 100000, 2, false, 0⟩ : PD) W) (hB : Below w.heap.size w W) => (show Calls Try.prog 41 #[.pointer (some ⟨(w2.heap.size + 1), 0, none⟩), .slice sa la ca] W fun e w' => e = .returned (.int .i64 0) ∧ One w2 (w2.heap.size + 1) (⟨[⟨⟨#[115, 104, 101, 101, 116]⟩, x.data.toList, x.data.toList.length⟩], 100000, 7, false, 0⟩ : PD) w' from by
    have := saveO h (fitK _ _ _ _ ⟨by rw [used9, len9]; omega, by simp⟩ (by decide) (by omega)) (by decide) sa la ca zs (rowI_below hz hB)
    rwa [show saR (⟨[⟨⟨#[115, 104, 101, 101, 116, 46, 110, 101, 119]⟩, t.data.toList, 0⟩], 100000, 2, false, 0⟩ : PD) zs = ((⟨[⟨⟨#[115, 104, 101, 101, 116]⟩, x.data.toList, x.data.toList.length⟩], 100000, 7, false, 0⟩ : PD), 0) from by unfold saR; rw [if_pos hsa, ← hx]; exact kV2 t x hxs] at this))
  have GL := Lib.hid (fun w2 W (h : One w2 (w2.heap.size + 1) (⟨[⟨⟨#[115, 104, 101, 101, 116]⟩, x.data.toList, x.data.toList.length⟩], 100000, 7, false, 0⟩ : PD) W) (hB : Below w.heap.size w W) => (show Calls Try.prog 42 #[.pointer (some ⟨(w2.heap.size + 1), 0, none⟩)] W fun e w' => ∃ a c, e = .returned (.tuple #[.slice a zs.length c, .int .i64 0]) ∧ RowI .i64 w' a zs.length zs ∧ Below W.heap.size W w' from by
    refine (loadO h (fitK _ _ _ _ ⟨by rw [used9, len9]; omega, by simp⟩ (by decide) (by omega))).mono ?_
    rintro e w' ⟨v, he, hv, hB⟩
    rw [(loK7 x hxb.1).2, hxb.2] at hv
    rw [(loK7 x hxb.1).1] at he
    obtain ⟨a, c, hvv, -, hr⟩ := rowI_own hv hz.2.2.1
    exact ⟨a, c, by rw [he, hvv], hr, hB⟩))
  have GE := Lib.hid (fun W a c (h : RowI .i64 W a zs.length zs) (hB : Below w.heap.size w W) => (show Gives Try.prog 43 #[.slice a zs.length c, .slice sa la ca] W (.bool true) from by
    have := nsame_any a zs.length c zs sa la ca zs W h (rowI_below hz hB)
    simpa using this))
  have GM := Lib.hid (fun w2 W (n : Int) (hn : n = (k : Int)) (h : One w2 (w2.heap.size + 1) (⟨[⟨⟨#[115, 104, 101, 101, 116]⟩, x.data.toList, x.data.toList.length⟩], 100000, 7, false, 0⟩ : PD) W) => (show Calls Try.prog 30 #[.pointer (some ⟨(w2.heap.size + 1), 0, none⟩), .int .i64 n] W fun e w' => (∃ v, e = .returned v) ∧ One w2 (w2.heap.size + 1) (⟨[⟨⟨#[115, 104, 101, 101, 116]⟩, x.data.toList, x.data.toList.length⟩], 100000, 7, true, k⟩ : PD) w' from by
    have := limitO h n
    rwa [show limitD (⟨[⟨⟨#[115, 104, 101, 101, 116]⟩, x.data.toList, x.data.toList.length⟩], 100000, 7, false, 0⟩ : PD) n = (⟨[⟨⟨#[115, 104, 101, 101, 116]⟩, x.data.toList, x.data.toList.length⟩], 100000, 7, true, k⟩ : PD) from by unfold limitD; rw [hn]; show (⟨_, _, _, _, (max (k : Int) 0).toNat⟩ : PD) = _; rw [show (max (k : Int) 0).toNat = k by omega]] at this))
  have GW := Lib.hid (fun w2 W (h : One w2 (w2.heap.size + 1) (⟨[⟨⟨#[115, 104, 101, 101, 116]⟩, x.data.toList, x.data.toList.length⟩], 100000, 7, true, k⟩ : PD) W) (hB : Below w.heap.size w W) => (show Calls Try.prog 41 #[.pointer (some ⟨(w2.heap.size + 1), 0, none⟩), .slice sb lb cb] W fun e w' => e = .returned (.int .i64 18) ∧ One w2 (w2.heap.size + 1) E w' from by
    have := saveO h (fitK _ _ _ _ ⟨by rw [used9, len9]; omega, by simp⟩ (by decide) (by omega)) (by decide) sb lb cb ys (rowI_below hy hB)
    rwa [show saR (⟨[⟨⟨#[115, 104, 101, 101, 116]⟩, x.data.toList, x.data.toList.length⟩], 100000, 7, true, k⟩ : PD) ys = (E, 18) from by unfold saR; rw [if_pos hsb, ← hyy]; exact hsv] at this))
  have GX := Lib.hid (fun w2 W (h : One w2 (w2.heap.size + 1) E W) => crashO h hE keep hkp)
  have GZ := Lib.hid (fun w2 W (h : One w2 (w2.heap.size + 1) (crashD E keep) W) (hB : Below w.heap.size w W) => (show Calls Try.prog 42 #[.pointer (some ⟨(w2.heap.size + 1), 0, none⟩)] W fun e w' => ∃ a c, e = .returned (.tuple #[.slice a zs.length c, .int .i64 0]) ∧ RowI .i64 w' a zs.length zs ∧ Below W.heap.size W w' from by
    refine (loadO h (hE.crash keep)).mono ?_
    rintro e w' ⟨v, he, hv, hB⟩
    rw [(hlo).2] at hv
    rw [(hlo).1] at he
    obtain ⟨a, c, hvv, -, hr⟩ := rowI_own hv hz.2.2.1
    exact ⟨a, c, by rw [he, hvv], hr, hB⟩))
  have GF := Lib.hid (fun W a c (h : RowI .i64 W a zs.length zs) (hB : Below w.heap.size w W) => (show Gives Try.prog 43 #[.slice a zs.length c, .slice sa la ca] W (.bool true) from by
    have := nsame_any a zs.length c zs sa la ca zs W h (rowI_below hz hB)
    simpa using this))
  have h3 : ((t.size : Nat) : Int) ≤ 100 := by omega
  have hk9 : (steps : Int) % 8 = (k : Int) := by omega
  have HK := Lib.hid hk9
  have hk0 : 0 ≤ (steps : Int) % 8 ∧ (steps : Int) % 8 < 8 := by omega
  clear ha hb hsa hsb hx hyy hxb hz hy hxs hsv hE hlo hkp ht h100 hk hk9
  unfold Gives at *
  go_enter Try.func10, Try.ntmps10
  go_wp2_with (first
    | (go_at_call 35; ((with_reducible refine (GK.out _).mono ?_); rintro e w0 ⟨rfl, hB0⟩))
    | (go_at_call 37; ((with_reducible refine (GI.out _ hB0).mono ?_); rintro e w1 ⟨rfl, hB1⟩; have hb1 := bel2 hB0 hB1; clear GI hB1))
    | (go_at_call 37; ((with_reducible refine (GJ.out _ hb1).mono ?_); rintro e w2 ⟨rfl, hB2⟩; have hb2 := bel2 hb1 hB2; clear GJ hB2))
    | (go_at_call 24; ((with_reducible refine (GN.out _).mono ?_); rintro e w4 ⟨rfl, hO0⟩; clear GN))
    | (go_at_call 19; ((with_reducible refine (GC.out _ _ hO0).mono ?_); rintro e w5 ⟨rfl, hO1⟩; clear hO0 GC))
    | (go_at_call 25; ((with_reducible refine (GA.out _ _ hO1).mono ?_); rintro e w6 ⟨rfl, hO2⟩; have hb6 := bel2 hb2 hO2.bel; clear hO1 GA))
    | (go_at_call 41; ((with_reducible refine (GV.out _ _ hO2 hb6).mono ?_); rintro e w7 ⟨rfl, hO3⟩; have hb7 := bel2 hb2 hO3.bel; clear hO2 GV))
    | (go_at_call 42; ((with_reducible refine (GL.out _ _ hO3 hb7).mono ?_); rintro e w8 ⟨ma, mc, rfl, hm8, hB8⟩; have hb8 := bel2 hb7 hB8; replace hO3 := hO3.below hB8; clear GL))
    | (go_at_call 43; ((with_reducible refine (GE.out _ _ _ hm8 hb8).mono ?_); rintro e w9 ⟨rfl, hB9⟩; have hO4 := hO3.below hB9; clear GE hm8 hO3))
    | (go_at_call 30; ((with_reducible refine (GM.out _ _ _ (by have := HK.out; omega) hO4).mono ?_); rintro e w10 ⟨⟨vl, rfl⟩, hO5⟩; have hb10 := bel2 hb2 hO5.bel; clear hO4 GM))
    | (go_at_call 41; ((with_reducible refine (GW.out _ _ hO5 hb10).mono ?_); rintro e w11 ⟨rfl, hO6⟩; clear hO5 GW))
    | (go_at_call 20; ((with_reducible refine (GX.out _ _ hO6).mono ?_); rintro e w12 ⟨⟨vx, rfl⟩, hO7⟩; have hb12 := bel2 hb2 hO7.bel; clear hO6 GX))
    | (go_at_call 42; ((with_reducible refine (GZ.out _ _ hO7 hb12).mono ?_); rintro e w13 ⟨na, nc, rfl, hm13, hB13⟩; have hb13 := bel2 hb12 hB13; clear GZ hO7))
    | (go_at_call 43; ((with_reducible refine (GF.out _ _ _ hm13 hb13).mono ?_); rintro e w14 ⟨rfl, hB14⟩; have hb14 := bel2 hb13 hB14; clear GF hm13)))
  go_ret
  exact ⟨by simp, hb14⟩

set_option maxRecDepth 100000 in
set_option maxHeartbeats 4000000 in
theorem keeps_new (w : World) (sa : Option Addr) (la ca : Nat) (zs : List Int) (hz : RowI .i64 w sa la zs) (sb : Option Addr) (lb cb : Nat) (ys : List Int) (hy : RowI .i64 w sb lb ys) (steps : Nat) (hst : steps < 256) (keep : Nat) (hkp : keep < 18446744073709551616) (t : ByteArray) (ht : t.size ≤ maxLen) (ha : la ≤ 250) (hb : lb ≤ 250) (hsa : shB zs = true) (hsb : shB ys = true) (h100 : t.size ≤ 100) (k : Nat) (hk : steps % 8 = k) (x y : ByteArray) (hx : x = shY zs) (hyy : y = shY ys) (E : PD) (hsv : saB (⟨[⟨⟨#[115, 104, 101, 101, 116]⟩, x.data.toList, x.data.toList.length⟩], 100000, 7, true, k⟩ : PD) y = (E, 0)) (hE : Fit E 20) (hlo : loE (crashD E keep) = 0 ∧ loL (crashD E keep) = ys) : Calls Try.prog 10 #[.slice sa la ca, .slice sb lb cb, .int .u8 steps, .int .u64 keep, .string t] w fun e w' => e = .returned (.bool true) ∧ Below w.heap.size w w' := by
  have GK := Lib.hid sheet_known
  have h1 : ((la : Nat) : Int) ≤ 250 := by omega
  have h2 : ((lb : Nat) : Int) ≤ 250 := by omega
  have GI := Lib.hid (fun W (hB : Below w.heap.size w W) => (show Gives Try.prog 37 #[.slice sa la ca] W (.bool true) from by have := shIs_any sa la ca zs W (rowI_below hz hB); rwa [hsa] at this))
  have GJ := Lib.hid (fun W (hB : Below w.heap.size w W) => (show Gives Try.prog 37 #[.slice sb lb cb] W (.bool true) from by have := shIs_any sb lb cb ys W (rowI_below hy hB); rwa [hsb] at this))
  have hxs : x.size ≤ 2000 := by rw [hx]; exact shY_size _
  have hxb := rd_back hsa
  rw [← hx] at hxb
  have GN := Lib.hid (fun w2 => (show Calls Try.prog 24 #[.int .i64 100000] w2 fun e w' => e = .returned (.pointer (some ⟨(w2.heap.size + 1), 0, none⟩)) ∧ One w2 (w2.heap.size + 1) (⟨[], 100000, 0, false, 0⟩ : PD) w' from newO 100000 w2))
  have GC := Lib.hid (fun w2 W (h : One w2 (w2.heap.size + 1) ((⟨[], 100000, 0, false, 0⟩ : PD)) W) => (show Calls Try.prog 19 #[.pointer (some ⟨(w2.heap.size + 1), 0, none⟩), .string ⟨#[115, 104, 101, 101, 116, 46, 110, 101, 119]⟩] W fun e w' => e = .returned (.int .i64 0) ∧ One w2 (w2.heap.size + 1) ((⟨[⟨⟨#[115, 104, 101, 101, 116, 46, 110, 101, 119]⟩, [], 0⟩], 100000, 1, false, 0⟩ : PD)) w' from by have := createO h (fitK _ _ _ _ ⟨by simp [usedL], by simp⟩ (by decide) (by omega)) (by decide) ⟨#[115, 104, 101, 101, 116, 46, 110, 101, 119]⟩ (by decide); rwa [kC0.1, kC0.2] at this))
  have GA := Lib.hid (fun w2 W (h : One w2 (w2.heap.size + 1) ((⟨[⟨⟨#[115, 104, 101, 101, 116, 46, 110, 101, 119]⟩, [], 0⟩], 100000, 1, false, 0⟩ : PD)) W) => (show Calls Try.prog 25 #[.pointer (some ⟨(w2.heap.size + 1), 0, none⟩), .string ⟨#[115, 104, 101, 101, 116, 46, 110, 101, 119]⟩, .string t] W fun e w' => e = .returned (.int .i64 0) ∧ One w2 (w2.heap.size + 1) ((⟨[⟨⟨#[115, 104, 101, 101, 116, 46, 110, 101, 119]⟩, t.data.toList, 0⟩], 100000, 2, false, 0⟩ : PD)) w' from by have := appendO h (fitK _ _ _ _ ⟨by simp [usedL], by simp⟩ (by decide) (by omega)) (by decide) ⟨#[115, 104, 101, 101, 116, 46, 110, 101, 119]⟩ t (by decide) (by omega); rwa [(kA1 t h100).1, (kA1 t h100).2] at this))
  have GV := Lib.hid (fun w2 W (h : One w2 (w2.heap.size + 1) (⟨[⟨⟨#[115, 104, 101, 101, 116, 46, 110, 101, 119]⟩, t.data.toList, 0⟩], 100000, 2, false, 0⟩ : PD) W) (hB : Below w.heap.size w W) => (show Calls Try.prog 41 #[.pointer (some ⟨(w2.heap.size + 1), 0, none⟩), .slice sa la ca] W fun e w' => e = .returned (.int .i64 0) ∧ One w2 (w2.heap.size + 1) (⟨[⟨⟨#[115, 104, 101, 101, 116]⟩, x.data.toList, x.data.toList.length⟩], 100000, 7, false, 0⟩ : PD) w' from by
    have := saveO h (fitK _ _ _ _ ⟨by rw [used9, len9]; omega, by simp⟩ (by decide) (by omega)) (by decide) sa la ca zs (rowI_below hz hB)
    rwa [show saR (⟨[⟨⟨#[115, 104, 101, 101, 116, 46, 110, 101, 119]⟩, t.data.toList, 0⟩], 100000, 2, false, 0⟩ : PD) zs = ((⟨[⟨⟨#[115, 104, 101, 101, 116]⟩, x.data.toList, x.data.toList.length⟩], 100000, 7, false, 0⟩ : PD), 0) from by unfold saR; rw [if_pos hsa, ← hx]; exact kV2 t x hxs] at this))
  have GL := Lib.hid (fun w2 W (h : One w2 (w2.heap.size + 1) (⟨[⟨⟨#[115, 104, 101, 101, 116]⟩, x.data.toList, x.data.toList.length⟩], 100000, 7, false, 0⟩ : PD) W) (hB : Below w.heap.size w W) => (show Calls Try.prog 42 #[.pointer (some ⟨(w2.heap.size + 1), 0, none⟩)] W fun e w' => ∃ a c, e = .returned (.tuple #[.slice a zs.length c, .int .i64 0]) ∧ RowI .i64 w' a zs.length zs ∧ Below W.heap.size W w' from by
    refine (loadO h (fitK _ _ _ _ ⟨by rw [used9, len9]; omega, by simp⟩ (by decide) (by omega))).mono ?_
    rintro e w' ⟨v, he, hv, hB⟩
    rw [(loK7 x hxb.1).2, hxb.2] at hv
    rw [(loK7 x hxb.1).1] at he
    obtain ⟨a, c, hvv, -, hr⟩ := rowI_own hv hz.2.2.1
    exact ⟨a, c, by rw [he, hvv], hr, hB⟩))
  have GE := Lib.hid (fun W a c (h : RowI .i64 W a zs.length zs) (hB : Below w.heap.size w W) => (show Gives Try.prog 43 #[.slice a zs.length c, .slice sa la ca] W (.bool true) from by
    have := nsame_any a zs.length c zs sa la ca zs W h (rowI_below hz hB)
    simpa using this))
  have GM := Lib.hid (fun w2 W (n : Int) (hn : n = (k : Int)) (h : One w2 (w2.heap.size + 1) (⟨[⟨⟨#[115, 104, 101, 101, 116]⟩, x.data.toList, x.data.toList.length⟩], 100000, 7, false, 0⟩ : PD) W) => (show Calls Try.prog 30 #[.pointer (some ⟨(w2.heap.size + 1), 0, none⟩), .int .i64 n] W fun e w' => (∃ v, e = .returned v) ∧ One w2 (w2.heap.size + 1) (⟨[⟨⟨#[115, 104, 101, 101, 116]⟩, x.data.toList, x.data.toList.length⟩], 100000, 7, true, k⟩ : PD) w' from by
    have := limitO h n
    rwa [show limitD (⟨[⟨⟨#[115, 104, 101, 101, 116]⟩, x.data.toList, x.data.toList.length⟩], 100000, 7, false, 0⟩ : PD) n = (⟨[⟨⟨#[115, 104, 101, 101, 116]⟩, x.data.toList, x.data.toList.length⟩], 100000, 7, true, k⟩ : PD) from by unfold limitD; rw [hn]; show (⟨_, _, _, _, (max (k : Int) 0).toNat⟩ : PD) = _; rw [show (max (k : Int) 0).toNat = k by omega]] at this))
  have GW := Lib.hid (fun w2 W (h : One w2 (w2.heap.size + 1) (⟨[⟨⟨#[115, 104, 101, 101, 116]⟩, x.data.toList, x.data.toList.length⟩], 100000, 7, true, k⟩ : PD) W) (hB : Below w.heap.size w W) => (show Calls Try.prog 41 #[.pointer (some ⟨(w2.heap.size + 1), 0, none⟩), .slice sb lb cb] W fun e w' => e = .returned (.int .i64 0) ∧ One w2 (w2.heap.size + 1) E w' from by
    have := saveO h (fitK _ _ _ _ ⟨by rw [used9, len9]; omega, by simp⟩ (by decide) (by omega)) (by decide) sb lb cb ys (rowI_below hy hB)
    rwa [show saR (⟨[⟨⟨#[115, 104, 101, 101, 116]⟩, x.data.toList, x.data.toList.length⟩], 100000, 7, true, k⟩ : PD) ys = (E, 0) from by unfold saR; rw [if_pos hsb, ← hyy]; exact hsv] at this))
  have GX := Lib.hid (fun w2 W (h : One w2 (w2.heap.size + 1) E W) => crashO h hE keep hkp)
  have GZ := Lib.hid (fun w2 W (h : One w2 (w2.heap.size + 1) (crashD E keep) W) (hB : Below w.heap.size w W) => (show Calls Try.prog 42 #[.pointer (some ⟨(w2.heap.size + 1), 0, none⟩)] W fun e w' => ∃ a c, e = .returned (.tuple #[.slice a ys.length c, .int .i64 0]) ∧ RowI .i64 w' a ys.length ys ∧ Below W.heap.size W w' from by
    refine (loadO h (hE.crash keep)).mono ?_
    rintro e w' ⟨v, he, hv, hB⟩
    rw [(hlo).2] at hv
    rw [(hlo).1] at he
    obtain ⟨a, c, hvv, -, hr⟩ := rowI_own hv hy.2.2.1
    exact ⟨a, c, by rw [he, hvv], hr, hB⟩))
  have GF := Lib.hid (fun W a c (h : RowI .i64 W a ys.length ys) (hB : Below w.heap.size w W) => (show Gives Try.prog 43 #[.slice a ys.length c, .slice sb lb cb] W (.bool true) from by
    have := nsame_any a ys.length c ys sb lb cb ys W h (rowI_below hy hB)
    simpa using this))
  have h3 : ((t.size : Nat) : Int) ≤ 100 := by omega
  have hk9 : (steps : Int) % 8 = (k : Int) := by omega
  have HK := Lib.hid hk9
  have hk0 : 0 ≤ (steps : Int) % 8 ∧ (steps : Int) % 8 < 8 := by omega
  clear ha hb hsa hsb hx hyy hxb hz hy hxs hsv hE hlo hkp ht h100 hk hk9
  unfold Gives at *
  go_enter Try.func10, Try.ntmps10
  go_wp2_with (first
    | (go_at_call 35; ((with_reducible refine (GK.out _).mono ?_); rintro e w0 ⟨rfl, hB0⟩))
    | (go_at_call 37; ((with_reducible refine (GI.out _ hB0).mono ?_); rintro e w1 ⟨rfl, hB1⟩; have hb1 := bel2 hB0 hB1; clear GI hB1))
    | (go_at_call 37; ((with_reducible refine (GJ.out _ hb1).mono ?_); rintro e w2 ⟨rfl, hB2⟩; have hb2 := bel2 hb1 hB2; clear GJ hB2))
    | (go_at_call 24; ((with_reducible refine (GN.out _).mono ?_); rintro e w4 ⟨rfl, hO0⟩; clear GN))
    | (go_at_call 19; ((with_reducible refine (GC.out _ _ hO0).mono ?_); rintro e w5 ⟨rfl, hO1⟩; clear hO0 GC))
    | (go_at_call 25; ((with_reducible refine (GA.out _ _ hO1).mono ?_); rintro e w6 ⟨rfl, hO2⟩; have hb6 := bel2 hb2 hO2.bel; clear hO1 GA))
    | (go_at_call 41; ((with_reducible refine (GV.out _ _ hO2 hb6).mono ?_); rintro e w7 ⟨rfl, hO3⟩; have hb7 := bel2 hb2 hO3.bel; clear hO2 GV))
    | (go_at_call 42; ((with_reducible refine (GL.out _ _ hO3 hb7).mono ?_); rintro e w8 ⟨ma, mc, rfl, hm8, hB8⟩; have hb8 := bel2 hb7 hB8; replace hO3 := hO3.below hB8; clear GL))
    | (go_at_call 43; ((with_reducible refine (GE.out _ _ _ hm8 hb8).mono ?_); rintro e w9 ⟨rfl, hB9⟩; have hO4 := hO3.below hB9; clear GE hm8 hO3))
    | (go_at_call 30; ((with_reducible refine (GM.out _ _ _ (by have := HK.out; omega) hO4).mono ?_); rintro e w10 ⟨⟨vl, rfl⟩, hO5⟩; have hb10 := bel2 hb2 hO5.bel; clear hO4 GM))
    | (go_at_call 41; ((with_reducible refine (GW.out _ _ hO5 hb10).mono ?_); rintro e w11 ⟨rfl, hO6⟩; clear hO5 GW))
    | (go_at_call 20; ((with_reducible refine (GX.out _ _ hO6).mono ?_); rintro e w12 ⟨⟨vx, rfl⟩, hO7⟩; have hb12 := bel2 hb2 hO7.bel; clear hO6 GX))
    | (go_at_call 42; ((with_reducible refine (GZ.out _ _ hO7 hb12).mono ?_); rintro e w13 ⟨na, nc, rfl, hm13, hB13⟩; have hb13 := bel2 hb12 hB13; clear GZ hO7))
    | (go_at_call 43; ((with_reducible refine (GF.out _ _ _ hm13 hb13).mono ?_); rintro e w14 ⟨rfl, hB14⟩; have hb14 := bel2 hb13 hB14; clear GF hm13)))
  go_ret
  exact ⟨by simp, hb14⟩

theorem walk (w : World) (sa : Option Addr) (la ca : Nat) (zs : List Int) (hz : RowI .i64 w sa la zs) (sb : Option Addr) (lb cb : Nat) (ys : List Int) (hy : RowI .i64 w sb lb ys) (steps : Nat) (hst : steps < 256) (keep : Nat) (hkp : keep < 18446744073709551616) (t : ByteArray) (ht : t.size ≤ maxLen) : Calls Try.prog 10 #[.slice sa la ca, .slice sb lb cb, .int .u8 steps, .int .u64 keep, .string t] w fun e w' => e = .returned (.bool true) ∧ Below w.heap.size w w' := by
  by_cases h1 : 250 < la
  · exact keeps_a w sa la ca zs hz sb lb cb ys hy steps hst keep hkp t ht h1
  by_cases h2 : 250 < lb
  · exact keeps_b w sa la ca zs hz sb lb cb ys hy steps hst keep hkp t ht (by omega) h2
  cases hsa : shB zs
  · exact keeps_i w sa la ca zs hz sb lb cb ys hy steps hst keep hkp t ht (by omega) (by omega) hsa
  cases hsb : shB ys
  · exact keeps_j w sa la ca zs hz sb lb cb ys hy steps hst keep hkp t ht (by omega) (by omega) hsa hsb
  by_cases h3 : 100 < t.size
  · exact keeps_t w sa la ca zs hz sb lb cb ys hy steps hst keep hkp t ht (by omega) (by omega) hsa hsb h3
  have hxs := shY_size zs
  have hys := shY_size ys
  obtain ⟨ox, ex⟩ := rd_back hsa
  obtain ⟨oy, ey⟩ := rd_back hsb
  have h8 : steps % 8 < 8 := Nat.mod_lt _ (by decide)
  by_cases e0 : steps % 8 = 0
  · have q := kS0 (shY zs) (shY ys) hxs hys ox oy keep
    exact keeps_old w sa la ca zs hz sb lb cb ys hy steps hst keep hkp t ht (by omega) (by omega) hsa hsb (by omega) 0 e0 _ _ rfl rfl _ q.1 q.2.1 ⟨q.2.2.1, q.2.2.2.trans ex⟩
  by_cases e1 : steps % 8 = 1
  · have q := kS1 (shY zs) (shY ys) hxs hys ox oy keep
    exact keeps_old w sa la ca zs hz sb lb cb ys hy steps hst keep hkp t ht (by omega) (by omega) hsa hsb (by omega) 1 e1 _ _ rfl rfl _ q.1 q.2.1 ⟨q.2.2.1, q.2.2.2.trans ex⟩
  by_cases e2 : steps % 8 = 2
  · have q := kS2 (shY zs) (shY ys) hxs hys ox oy keep
    exact keeps_old w sa la ca zs hz sb lb cb ys hy steps hst keep hkp t ht (by omega) (by omega) hsa hsb (by omega) 2 e2 _ _ rfl rfl _ q.1 q.2.1 ⟨q.2.2.1, q.2.2.2.trans ex⟩
  by_cases e3 : steps % 8 = 3
  · have q := kS3 (shY zs) (shY ys) hxs hys ox oy keep
    exact keeps_old w sa la ca zs hz sb lb cb ys hy steps hst keep hkp t ht (by omega) (by omega) hsa hsb (by omega) 3 e3 _ _ rfl rfl _ q.1 q.2.1 ⟨q.2.2.1, q.2.2.2.trans ex⟩
  by_cases e4 : steps % 8 = 4
  · have q := kS4 (shY zs) (shY ys) hxs hys ox oy keep
    exact keeps_new w sa la ca zs hz sb lb cb ys hy steps hst keep hkp t ht (by omega) (by omega) hsa hsb (by omega) 4 e4 _ _ rfl rfl _ q.1 q.2.1 ⟨q.2.2.1, q.2.2.2.trans ey⟩
  by_cases e5 : steps % 8 = 5
  · have q := kS5 (shY zs) (shY ys) hxs hys ox oy keep
    exact keeps_new w sa la ca zs hz sb lb cb ys hy steps hst keep hkp t ht (by omega) (by omega) hsa hsb (by omega) 5 e5 _ _ rfl rfl _ q.1 q.2.1 ⟨q.2.2.1, q.2.2.2.trans ey⟩
  by_cases e6 : steps % 8 = 6
  · have q := kS6 (shY zs) (shY ys) hxs hys ox oy keep
    exact keeps_new w sa la ca zs hz sb lb cb ys hy steps hst keep hkp t ht (by omega) (by omega) hsa hsb (by omega) 6 e6 _ _ rfl rfl _ q.1 q.2.1 ⟨q.2.2.1, q.2.2.2.trans ey⟩
  have e7 : steps % 8 = 7 := by omega
  · have q := kS7 (shY zs) (shY ys) hxs hys ox oy keep
    exact keeps_new w sa la ca zs hz sb lb cb ys hy steps hst keep hkp t ht (by omega) (by omega) hsa hsb (by omega) 7 e7 _ _ rfl rfl _ q.1 q.2.1 ⟨q.2.2.1, q.2.2.2.trans ey⟩

set_option maxRecDepth 100000 in
theorem lifted (os : Os) (started : os.Started) (H : Type) (enc : TypeId × Value → H) :
    ReturnsInHanded {} Try.checked os 10 .any (Rows.sheetKeepsSpec.pre6 enc Try.prog Try.f10 Rows.sheetKeepsRow.domain false) (Rows.sheetKeepsSpec.post enc Try.prog Try.f10 false true false false) := by
  refine returnsInHanded_of_change (C := Try.checked) Try.own started (by kernel_rfl) Try.func10
    (ChangeSpec.witness6 (enc := enc) (C := Try.checked) false ⟨#[], #[.slice none 0 0, .slice none 0 0, .int .u8 0, .int .u64 0, .string ⟨#[]⟩], []⟩ 8 (by kernel_rfl) (by kernel_rfl) (by kernel_rfl) (by kernel_rfl)) ?_
  intro W base args ds gs before hval hW _ _
  refine law_contract (T := 4) (n := 5) Try.laid Try.underlying4 rfl rfl ⟨rfl, fun H ds h => by match ds, h with | [_, _, _, _, _], _ => rfl⟩ (of_all (by kernel_rfl)) hW ?_
  intro ps hA
  rw [Try.params10] at hA hval
  obtain ⟨v0, vs0, d0, ds0, p0, q0, hargs, rfl, rfl, h0, r0⟩ := trodAll_cons hA
  obtain ⟨v1, vs1, d1, ds1, p1, q1, rfl, rfl, rfl, h1, r1⟩ := trodAll_cons r0
  obtain ⟨v2, vs2, d2, ds2, p2, q2, rfl, rfl, rfl, h2, r2⟩ := trodAll_cons r1
  obtain ⟨v3, vs3, d3, ds3, p3, q3, rfl, rfl, rfl, h3, r3⟩ := trodAll_cons r2
  obtain ⟨v4, vs4, d4, ds4, p4, q4, rfl, rfl, rfl, h4, r4⟩ := trodAll_cons r3
  obtain ⟨rfl, rfl, rfl⟩ := trodAll_nil r4
  obtain rfl : args = #[v0, v1, v2, v3, v4] := by cases args; simp_all
  obtain ⟨s0, l0, c0, rfl⟩ := okWide_slice Try.underlying61 (hval 0 61 v0 rfl rfl)
  obtain ⟨zs0, w0⟩ := isInts_of (k := .i64) Try.underlying61 Try.underlying3 (by kernel_rfl) h0
  obtain ⟨s1, l1, c1, rfl⟩ := okWide_slice Try.underlying61 (hval 1 61 v1 rfl rfl)
  obtain ⟨zs1, w1⟩ := isInts_of (k := .i64) Try.underlying61 Try.underlying3 (by kernel_rfl) h1
  obtain ⟨a2, rfl, rfl, rfl, w2⟩ := open_int Try.underlying5 (hval 2 5 v2 rfl rfl) h2
  obtain ⟨a3, rfl, rfl, rfl, w3⟩ := open_int Try.underlying31 (hval 3 31 v3 rfl rfl) h3
  obtain ⟨a4, rfl, rfl, rfl, w4⟩ := open_string Try.underlying9 (hval 4 9 v4 rfl rfl) h4
  obtain ⟨n2, rfl, b2⟩ := nat_of_u8 w2
  obtain ⟨n3, rfl, b3⟩ := nat_of_u64 w3
  exact walk W s0 l0 c0 _ (rowI_of w0) s1 l1 c1 _ (rowI_of w1) n2 b2 n3 b3 a4 w4

theorem holds : Rows.SheetKeepsSaid :=
  OpenClaim.holds_of_wide 10 Try.f10 rfl rfl rfl rfl rfl rfl rfl ⟨rfl, rfl, rfl, rfl, rfl⟩ rfl rfl rfl rfl rfl (by kernel_rfl) Try.func10 (by kernel_rfl)
    (of_decide_eq_true (by kernel_rfl)) (by unfold Func.isWrapper; first | (rw [if_pos (by decide +kernel)]; kernel_rfl) | (rw [if_neg (by decide +kernel)]; exact ⟨rfl, rfl⟩))
    (fun os started H enc _ => lifted os started H enc)
end Go.Proofs.Ytieekahlknmkfaa.sheetKeeps
