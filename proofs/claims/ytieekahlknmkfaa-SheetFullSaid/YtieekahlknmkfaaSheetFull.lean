/- Law SheetFull: for every input the call answers true; its arguments read as they did. No condition. -/
import Derived.Test.YtieekahlknmkfaaLaw
import Derived.Test.YtieekahlknmkfaaKnown9
import Derived.Test.YtieekahlknmkfaaShtF
namespace Go.Proofs.Ytieekahlknmkfaa.sheetFull
open Go.ChangeShapes Go.WideShapes Go.ChangeAt Go.RowKit Go.Shelf
open Go.ChangeMaps (open_string shut_string)
set_option linter.unusedVariables false
attribute [local go_sem] Oper.semAt_some wide_fn wide_round_fn

theorem fitF (L : List PF) (r n : Nat) (h : usedL L ≤ 5000 ∧ L.length ≤ 2) (hn : n ≤ 7) (hr : r ≤ 3000) : Fit ⟨L, r, n, false, 0⟩ 7 := fits (by show r ≤ _; omega) (by show usedL L ≤ _; omega) (by show L.length ≤ _; omega) hn (by show (0 : Nat) < _; decide)
theorem used92 (n m : ByteArray) (b c : List UInt8) (k j : Nat) : usedL [⟨n, b, k⟩, ⟨m, c, j⟩] = b.length + c.length := by simp [usedL]
theorem uC0 (r : Nat) : createE (⟨[], r, 0, false, 0⟩ : PD) ⟨#[115, 104, 101, 101, 116]⟩ = 0 ∧ createD (⟨[], r, 0, false, 0⟩ : PD) ⟨#[115, 104, 101, 101, 116]⟩ = (⟨[⟨⟨#[115, 104, 101, 101, 116]⟩, [], 0⟩], r, 1, false, 0⟩ : PD) := ⟨by kernel_rfl, by kernel_rfl⟩
theorem uA1 (x : ByteArray) (r : Nat) (h : x.size ≤ r) : appendE (⟨[⟨⟨#[115, 104, 101, 101, 116]⟩, [], 0⟩], r, 1, false, 0⟩ : PD) ⟨#[115, 104, 101, 101, 116]⟩ x = 0 ∧ appendD (⟨[⟨⟨#[115, 104, 101, 101, 116]⟩, [], 0⟩], r, 1, false, 0⟩ : PD) ⟨#[115, 104, 101, 101, 116]⟩ x = (⟨[⟨⟨#[115, 104, 101, 101, 116]⟩, x.data.toList, 0⟩], r, 2, false, 0⟩ : PD) := by
  have h : appendE (⟨[⟨⟨#[115, 104, 101, 101, 116]⟩, [], 0⟩], r, 1, false, 0⟩ : PD) ⟨#[115, 104, 101, 101, 116]⟩ x = 0 := by
    unfold appendE
    rw [if_neg (by rw [show askE (⟨[⟨⟨#[115, 104, 101, 101, 116]⟩, [], 0⟩], r, 1, false, 0⟩ : PD) ⟨#[115, 104, 101, 101, 116]⟩ = 0 by kernel_rfl]; simp), if_neg (by show ¬ r < usedL [_] + x.size; rw [used9]; simp; omega)]
  refine ⟨h, ?_⟩
  unfold appendD
  rw [if_pos h]; kernel_rfl
theorem uS2 (x : ByteArray) (r : Nat) : askE (⟨[⟨⟨#[115, 104, 101, 101, 116]⟩, x.data.toList, 0⟩], r, 2, false, 0⟩ : PD) ⟨#[115, 104, 101, 101, 116]⟩ = 0 ∧ syncD (⟨[⟨⟨#[115, 104, 101, 101, 116]⟩, x.data.toList, 0⟩], r, 2, false, 0⟩ : PD) ⟨#[115, 104, 101, 101, 116]⟩ = (⟨[⟨⟨#[115, 104, 101, 101, 116]⟩, x.data.toList, x.data.toList.length⟩], r, 3, false, 0⟩ : PD) := ⟨by kernel_rfl, by kernel_rfl⟩
theorem sa_ok (x y : ByteArray) (r : Nat) (h : x.size + y.size ≤ r) : saB (⟨[⟨⟨#[115, 104, 101, 101, 116]⟩, x.data.toList, x.data.toList.length⟩], r, 3, false, 0⟩ : PD) y = ((⟨[⟨⟨#[115, 104, 101, 101, 116]⟩, y.data.toList, y.data.toList.length⟩], r, 7, false, 0⟩ : PD), 0) := by
  have h2 : sa2 (⟨[⟨⟨#[115, 104, 101, 101, 116]⟩, x.data.toList, x.data.toList.length⟩], r, 3, false, 0⟩ : PD) = (⟨[⟨⟨#[115, 104, 101, 101, 116]⟩, x.data.toList, x.data.toList.length⟩, ⟨⟨#[115, 104, 101, 101, 116, 46, 110, 101, 119]⟩, [], 0⟩], r, 4, false, 0⟩ : PD) := by kernel_rfl
  have h3 : appendE (sa2 (⟨[⟨⟨#[115, 104, 101, 101, 116]⟩, x.data.toList, x.data.toList.length⟩], r, 3, false, 0⟩ : PD)) ⟨#[115, 104, 101, 101, 116, 46, 110, 101, 119]⟩ y = 0 := by
    unfold appendE
    rw [h2]
    rw [if_neg (by rw [show askE (⟨[⟨⟨#[115, 104, 101, 101, 116]⟩, x.data.toList, x.data.toList.length⟩, ⟨⟨#[115, 104, 101, 101, 116, 46, 110, 101, 119]⟩, [], 0⟩], r, 4, false, 0⟩ : PD) ⟨#[115, 104, 101, 101, 116, 46, 110, 101, 119]⟩ = 0 by kernel_rfl]; simp), if_neg (by show ¬ r < usedL [_, _] + y.size; rw [used92, len9]; simp; omega)]
  have h3d : sa3 (⟨[⟨⟨#[115, 104, 101, 101, 116]⟩, x.data.toList, x.data.toList.length⟩], r, 3, false, 0⟩ : PD) y = (⟨[⟨⟨#[115, 104, 101, 101, 116]⟩, x.data.toList, x.data.toList.length⟩, ⟨⟨#[115, 104, 101, 101, 116, 46, 110, 101, 119]⟩, y.data.toList, 0⟩], r, 5, false, 0⟩ : PD) := by
    unfold sa3 appendD
    rw [if_pos h3]; kernel_rfl
  have h4d : sa4 (⟨[⟨⟨#[115, 104, 101, 101, 116]⟩, x.data.toList, x.data.toList.length⟩], r, 3, false, 0⟩ : PD) y = (⟨[⟨⟨#[115, 104, 101, 101, 116]⟩, x.data.toList, x.data.toList.length⟩, ⟨⟨#[115, 104, 101, 101, 116, 46, 110, 101, 119]⟩, y.data.toList, y.data.toList.length⟩], r, 6, false, 0⟩ : PD) := by unfold sa4; rw [h3d]; kernel_rfl
  unfold saB
  rw [if_neg (by rw [show askE (⟨[⟨⟨#[115, 104, 101, 101, 116]⟩, x.data.toList, x.data.toList.length⟩], r, 3, false, 0⟩ : PD) ⟨#[115, 104, 101, 101, 116, 46, 110, 101, 119]⟩ = 19 by kernel_rfl]; decide), if_neg (by rw [show createE (sa1 (⟨[⟨⟨#[115, 104, 101, 101, 116]⟩, x.data.toList, x.data.toList.length⟩], r, 3, false, 0⟩ : PD)) ⟨#[115, 104, 101, 101, 116, 46, 110, 101, 119]⟩ = 0 by kernel_rfl]; simp), if_neg (by rw [h3]; simp), h3d, if_neg (by rw [show askE (⟨[⟨⟨#[115, 104, 101, 101, 116]⟩, x.data.toList, x.data.toList.length⟩, ⟨⟨#[115, 104, 101, 101, 116, 46, 110, 101, 119]⟩, y.data.toList, 0⟩], r, 5, false, 0⟩ : PD) ⟨#[115, 104, 101, 101, 116, 46, 110, 101, 119]⟩ = 0 by kernel_rfl]; simp)]
  unfold sa5
  rw [h4d]
  rw [show askE (⟨[⟨⟨#[115, 104, 101, 101, 116]⟩, x.data.toList, x.data.toList.length⟩, ⟨⟨#[115, 104, 101, 101, 116, 46, 110, 101, 119]⟩, y.data.toList, y.data.toList.length⟩], r, 6, false, 0⟩ : PD) ⟨#[115, 104, 101, 101, 116, 46, 110, 101, 119]⟩ = 0 by kernel_rfl]
  rw [show renameD (⟨[⟨⟨#[115, 104, 101, 101, 116]⟩, x.data.toList, x.data.toList.length⟩, ⟨⟨#[115, 104, 101, 101, 116, 46, 110, 101, 119]⟩, y.data.toList, y.data.toList.length⟩], r, 6, false, 0⟩ : PD) ⟨#[115, 104, 101, 101, 116, 46, 110, 101, 119]⟩ ⟨#[115, 104, 101, 101, 116]⟩ = (⟨[⟨⟨#[115, 104, 101, 101, 116]⟩, y.data.toList, y.data.toList.length⟩], r, 7, false, 0⟩ : PD) by kernel_rfl]
theorem sa_no (x y : ByteArray) (r : Nat) (h : r < x.size + y.size) : saB (⟨[⟨⟨#[115, 104, 101, 101, 116]⟩, x.data.toList, x.data.toList.length⟩], r, 3, false, 0⟩ : PD) y = ((⟨[⟨⟨#[115, 104, 101, 101, 116]⟩, x.data.toList, x.data.toList.length⟩, ⟨⟨#[115, 104, 101, 101, 116, 46, 110, 101, 119]⟩, [], 0⟩], r, 4, false, 0⟩ : PD), 17) := by
  have h2 : sa2 (⟨[⟨⟨#[115, 104, 101, 101, 116]⟩, x.data.toList, x.data.toList.length⟩], r, 3, false, 0⟩ : PD) = (⟨[⟨⟨#[115, 104, 101, 101, 116]⟩, x.data.toList, x.data.toList.length⟩, ⟨⟨#[115, 104, 101, 101, 116, 46, 110, 101, 119]⟩, [], 0⟩], r, 4, false, 0⟩ : PD) := by kernel_rfl
  have h3 : appendE (sa2 (⟨[⟨⟨#[115, 104, 101, 101, 116]⟩, x.data.toList, x.data.toList.length⟩], r, 3, false, 0⟩ : PD)) ⟨#[115, 104, 101, 101, 116, 46, 110, 101, 119]⟩ y = 17 := by
    unfold appendE
    rw [h2]
    rw [if_neg (by rw [show askE (⟨[⟨⟨#[115, 104, 101, 101, 116]⟩, x.data.toList, x.data.toList.length⟩, ⟨⟨#[115, 104, 101, 101, 116, 46, 110, 101, 119]⟩, [], 0⟩], r, 4, false, 0⟩ : PD) ⟨#[115, 104, 101, 101, 116, 46, 110, 101, 119]⟩ = 0 by kernel_rfl]; simp), if_pos (by show r < usedL [_, _] + y.size; rw [used92, len9]; simp; omega)]
  have h3d : sa3 (⟨[⟨⟨#[115, 104, 101, 101, 116]⟩, x.data.toList, x.data.toList.length⟩], r, 3, false, 0⟩ : PD) y = (⟨[⟨⟨#[115, 104, 101, 101, 116]⟩, x.data.toList, x.data.toList.length⟩, ⟨⟨#[115, 104, 101, 101, 116, 46, 110, 101, 119]⟩, [], 0⟩], r, 4, false, 0⟩ : PD) := by
    unfold sa3 appendD
    rw [if_neg (by rw [h3]; decide), h2]
  unfold saB
  rw [if_neg (by rw [show askE (⟨[⟨⟨#[115, 104, 101, 101, 116]⟩, x.data.toList, x.data.toList.length⟩], r, 3, false, 0⟩ : PD) ⟨#[115, 104, 101, 101, 116, 46, 110, 101, 119]⟩ = 19 by kernel_rfl]; decide), if_neg (by rw [show createE (sa1 (⟨[⟨⟨#[115, 104, 101, 101, 116]⟩, x.data.toList, x.data.toList.length⟩], r, 3, false, 0⟩ : PD)) ⟨#[115, 104, 101, 101, 116, 46, 110, 101, 119]⟩ = 0 by kernel_rfl]; simp), if_pos (by rw [h3]; decide), h3d, h3]
theorem lo_ok (y : ByteArray) (r : Nat) (h : rdOk y = true) : loE (⟨[⟨⟨#[115, 104, 101, 101, 116]⟩, y.data.toList, y.data.toList.length⟩], r, 7, false, 0⟩ : PD) = 0 ∧ loL (⟨[⟨⟨#[115, 104, 101, 101, 116]⟩, y.data.toList, y.data.toList.length⟩], r, 7, false, 0⟩ : PD) = rdL y := by
  have h1 : askE (⟨[⟨⟨#[115, 104, 101, 101, 116]⟩, y.data.toList, y.data.toList.length⟩], r, 7, false, 0⟩ : PD) ⟨#[115, 104, 101, 101, 116]⟩ = 0 := by kernel_rfl
  have h2 : readB (⟨[⟨⟨#[115, 104, 101, 101, 116]⟩, y.data.toList, y.data.toList.length⟩], r, 7, false, 0⟩ : PD) ⟨#[115, 104, 101, 101, 116]⟩ = y := (show readB (⟨[⟨⟨#[115, 104, 101, 101, 116]⟩, y.data.toList, y.data.toList.length⟩], r, 7, false, 0⟩ : PD) ⟨#[115, 104, 101, 101, 116]⟩ = ⟨y.data.toList.toArray⟩ by kernel_rfl).trans (ba9 y)
  unfold loE loL
  rw [h1, h2]; simp [h]
theorem lo_no (x : ByteArray) (r : Nat) (h : rdOk x = true) : loE (⟨[⟨⟨#[115, 104, 101, 101, 116]⟩, x.data.toList, x.data.toList.length⟩, ⟨⟨#[115, 104, 101, 101, 116, 46, 110, 101, 119]⟩, [], 0⟩], r, 4, false, 0⟩ : PD) = 0 ∧ loL (⟨[⟨⟨#[115, 104, 101, 101, 116]⟩, x.data.toList, x.data.toList.length⟩, ⟨⟨#[115, 104, 101, 101, 116, 46, 110, 101, 119]⟩, [], 0⟩], r, 4, false, 0⟩ : PD) = rdL x := by
  have h1 : askE (⟨[⟨⟨#[115, 104, 101, 101, 116]⟩, x.data.toList, x.data.toList.length⟩, ⟨⟨#[115, 104, 101, 101, 116, 46, 110, 101, 119]⟩, [], 0⟩], r, 4, false, 0⟩ : PD) ⟨#[115, 104, 101, 101, 116]⟩ = 0 := by kernel_rfl
  have h2 : readB (⟨[⟨⟨#[115, 104, 101, 101, 116]⟩, x.data.toList, x.data.toList.length⟩, ⟨⟨#[115, 104, 101, 101, 116, 46, 110, 101, 119]⟩, [], 0⟩], r, 4, false, 0⟩ : PD) ⟨#[115, 104, 101, 101, 116]⟩ = x := (show readB (⟨[⟨⟨#[115, 104, 101, 101, 116]⟩, x.data.toList, x.data.toList.length⟩, ⟨⟨#[115, 104, 101, 101, 116, 46, 110, 101, 119]⟩, [], 0⟩], r, 4, false, 0⟩ : PD) ⟨#[115, 104, 101, 101, 116]⟩ = ⟨x.data.toList.toArray⟩ by kernel_rfl).trans (ba9 x)
  unfold loE loL
  rw [h1, h2]; simp [h]
theorem shY_eq {l : List Int} (h : shB l = true) : (⟨(shS l).toArray⟩ : ByteArray) = shY l := by unfold shY; rw [if_pos h]

set_option maxRecDepth 100000 in
set_option maxHeartbeats 4000000 in
theorem full_a (w : World) (sa : Option Addr) (la ca : Nat) (zs : List Int) (hz : RowI .i64 w sa la zs) (sb : Option Addr) (lb cb : Nat) (ys : List Int) (hy : RowI .i64 w sb lb ys) (room : Nat) (hroom : room < 256) (h : 250 < la) : Calls Try.prog 11 #[.slice sa la ca, .slice sb lb cb, .int .u8 room] w fun e w' => e = .returned (.bool true) ∧ Below w.heap.size w w' := by
  have GK := Lib.hid sheet_known
  have h1 : (250 : Int) < ((la : Nat) : Int) := by omega
  clear h hz hy hroom
  unfold Gives at *
  go_enter Try.func11, Try.ntmps11
  go_wp2_with (first
    | (go_at_call 35; ((with_reducible refine (GK.out _).mono ?_); rintro e w0 ⟨rfl, hB0⟩)))
  go_ret
  exact ⟨by simp, hB0⟩

set_option maxRecDepth 100000 in
set_option maxHeartbeats 4000000 in
theorem full_b (w : World) (sa : Option Addr) (la ca : Nat) (zs : List Int) (hz : RowI .i64 w sa la zs) (sb : Option Addr) (lb cb : Nat) (ys : List Int) (hy : RowI .i64 w sb lb ys) (room : Nat) (hroom : room < 256) (h0 : la ≤ 250) (h : 250 < lb) : Calls Try.prog 11 #[.slice sa la ca, .slice sb lb cb, .int .u8 room] w fun e w' => e = .returned (.bool true) ∧ Below w.heap.size w w' := by
  have GK := Lib.hid sheet_known
  have h1 : ((la : Nat) : Int) ≤ 250 := by omega
  have h2 : (250 : Int) < ((lb : Nat) : Int) := by omega
  clear h0
  clear h hz hy hroom
  unfold Gives at *
  go_enter Try.func11, Try.ntmps11
  go_wp2_with (first
    | (go_at_call 35; ((with_reducible refine (GK.out _).mono ?_); rintro e w0 ⟨rfl, hB0⟩)))
  go_ret
  exact ⟨by simp, hB0⟩

set_option maxRecDepth 100000 in
set_option maxHeartbeats 4000000 in
theorem full_i (w : World) (sa : Option Addr) (la ca : Nat) (zs : List Int) (hz : RowI .i64 w sa la zs) (sb : Option Addr) (lb cb : Nat) (ys : List Int) (hy : RowI .i64 w sb lb ys) (room : Nat) (hroom : room < 256) (ha : la ≤ 250) (hb : lb ≤ 250) (hsa : shB zs = false) : Calls Try.prog 11 #[.slice sa la ca, .slice sb lb cb, .int .u8 room] w fun e w' => e = .returned (.bool true) ∧ Below w.heap.size w w' := by
  have GK := Lib.hid sheet_known
  have h1 : ((la : Nat) : Int) ≤ 250 := by omega
  have h2 : ((lb : Nat) : Int) ≤ 250 := by omega
  have GI := Lib.hid (fun W (hB : Below w.heap.size w W) => (show Gives Try.prog 37 #[.slice sa la ca] W (.bool false) from by have := shIs_any sa la ca zs W (rowI_below hz hB); rwa [hsa] at this))
  clear ha hb hz hy hroom hsa
  unfold Gives at *
  go_enter Try.func11, Try.ntmps11
  go_wp2_with (first
    | (go_at_call 35; ((with_reducible refine (GK.out _).mono ?_); rintro e w0 ⟨rfl, hB0⟩))
    | (go_at_call 37; ((with_reducible refine (GI.out _ hB0).mono ?_); rintro e w1 ⟨rfl, hB1⟩; have hb1 := bel2 hB0 hB1; clear GI hB1)))
  go_ret
  exact ⟨by simp, hb1⟩

set_option maxRecDepth 100000 in
set_option maxHeartbeats 4000000 in
theorem full_j (w : World) (sa : Option Addr) (la ca : Nat) (zs : List Int) (hz : RowI .i64 w sa la zs) (sb : Option Addr) (lb cb : Nat) (ys : List Int) (hy : RowI .i64 w sb lb ys) (room : Nat) (hroom : room < 256) (ha : la ≤ 250) (hb : lb ≤ 250) (hsa : shB zs = true) (hsb : shB ys = false) : Calls Try.prog 11 #[.slice sa la ca, .slice sb lb cb, .int .u8 room] w fun e w' => e = .returned (.bool true) ∧ Below w.heap.size w w' := by
  have GK := Lib.hid sheet_known
  have h1 : ((la : Nat) : Int) ≤ 250 := by omega
  have h2 : ((lb : Nat) : Int) ≤ 250 := by omega
  have GI := Lib.hid (fun W (hB : Below w.heap.size w W) => (show Gives Try.prog 37 #[.slice sa la ca] W (.bool true) from by have := shIs_any sa la ca zs W (rowI_below hz hB); rwa [hsa] at this))
  have GJ := Lib.hid (fun W (hB : Below w.heap.size w W) => (show Gives Try.prog 37 #[.slice sb lb cb] W (.bool false) from by have := shIs_any sb lb cb ys W (rowI_below hy hB); rwa [hsb] at this))
  clear ha hb hz hy hroom hsa hsb
  unfold Gives at *
  go_enter Try.func11, Try.ntmps11
  go_wp2_with (first
    | (go_at_call 35; ((with_reducible refine (GK.out _).mono ?_); rintro e w0 ⟨rfl, hB0⟩))
    | (go_at_call 37; ((with_reducible refine (GI.out _ hB0).mono ?_); rintro e w1 ⟨rfl, hB1⟩; have hb1 := bel2 hB0 hB1; clear GI hB1))
    | (go_at_call 37; ((with_reducible refine (GJ.out _ hb1).mono ?_); rintro e w2 ⟨rfl, hB2⟩; have hb2 := bel2 hb1 hB2; clear GJ hB2)))
  go_ret
  exact ⟨by simp, hb2⟩

set_option maxRecDepth 100000 in
set_option maxHeartbeats 4000000 in
theorem full_no (w : World) (sa : Option Addr) (la ca : Nat) (zs : List Int) (hz : RowI .i64 w sa la zs) (sb : Option Addr) (lb cb : Nat) (ys : List Int) (hy : RowI .i64 w sb lb ys) (room : Nat) (hroom : room < 256) (ha : la ≤ 250) (hb : lb ≤ 250) (hsa : shB zs = true) (hsb : shB ys = true) (hf : room < (shY ys).size) : Calls Try.prog 11 #[.slice sa la ca, .slice sb lb cb, .int .u8 room] w fun e w' => e = .returned (.bool true) ∧ Below w.heap.size w w' := by
  have GK := Lib.hid sheet_known
  have h1 : ((la : Nat) : Int) ≤ 250 := by omega
  have h2 : ((lb : Nat) : Int) ≤ 250 := by omega
  have GI := Lib.hid (fun W (hB : Below w.heap.size w W) => (show Gives Try.prog 37 #[.slice sa la ca] W (.bool true) from by have := shIs_any sa la ca zs W (rowI_below hz hB); rwa [hsa] at this))
  have GJ := Lib.hid (fun W (hB : Below w.heap.size w W) => (show Gives Try.prog 37 #[.slice sb lb cb] W (.bool true) from by have := shIs_any sb lb cb ys W (rowI_below hy hB); rwa [hsb] at this))
  obtain ⟨x, hx⟩ : ∃ x, x = shY zs := ⟨_, rfl⟩
  obtain ⟨y, hyy⟩ : ∃ y, y = shY ys := ⟨_, rfl⟩
  have hxs : x.size ≤ 2000 := by rw [hx]; exact shY_size _
  have hys : y.size ≤ 2000 := by rw [hyy]; exact shY_size _
  have hxb := rd_back hsa
  have hyb := rd_back hsb
  rw [← hx] at hxb
  rw [← hyy] at hyb hf
  obtain ⟨r, hr⟩ : ∃ r, r = x.size + room := ⟨_, rfl⟩
  have GX := Lib.hid (fun W (hB : Below w.heap.size w W) => (show Gives Try.prog 39 #[.slice sa la ca] W (.string x) from by
    have := refShB_any sa la ca zs W (rowI_below hz hB) ha (fun x h => by have := (shB_bd hsa).2 x h; omega)
    rwa [shY_eq hsa, ← hx] at this))
  have GY := Lib.hid (fun W (hB : Below w.heap.size w W) => (show Gives Try.prog 39 #[.slice sb lb cb] W (.string y) from by
    have := refShB_any sb lb cb ys W (rowI_below hy hB) hb (fun x h => by have := (shB_bd hsb).2 x h; omega)
    rwa [shY_eq hsb, ← hyy] at this))
  have GN := Lib.hid (fun w3 => (show Calls Try.prog 24 #[.int .i64 ((x.size : Int) + (room : Int))] w3 fun e w' => e = .returned (.pointer (some ⟨(w3.heap.size + 1), 0, none⟩)) ∧ One w3 (w3.heap.size + 1) (⟨[], r, 0, false, 0⟩ : PD) w' from by
    have := newO ((x.size : Int) + (room : Int)) w3
    rwa [show (min (max ((x.size : Int) + (room : Int)) 0) 1000000).toNat = r by omega] at this))
  have GC := Lib.hid (fun w3 W (h : One w3 (w3.heap.size + 1) ((⟨[], r, 0, false, 0⟩ : PD)) W) => (show Calls Try.prog 19 #[.pointer (some ⟨(w3.heap.size + 1), 0, none⟩), .string ⟨#[115, 104, 101, 101, 116]⟩] W fun e w' => e = .returned (.int .i64 0) ∧ One w3 (w3.heap.size + 1) ((⟨[⟨⟨#[115, 104, 101, 101, 116]⟩, [], 0⟩], r, 1, false, 0⟩ : PD)) w' from by have := createO h (fitF _ _ _ ⟨by simp [usedL], by simp⟩ (by decide) (by omega)) (by decide) ⟨#[115, 104, 101, 101, 116]⟩ (by decide); rwa [(uC0 r).1, (uC0 r).2] at this))
  have GA := Lib.hid (fun w3 W (h : One w3 (w3.heap.size + 1) ((⟨[⟨⟨#[115, 104, 101, 101, 116]⟩, [], 0⟩], r, 1, false, 0⟩ : PD)) W) => (show Calls Try.prog 25 #[.pointer (some ⟨(w3.heap.size + 1), 0, none⟩), .string ⟨#[115, 104, 101, 101, 116]⟩, .string x] W fun e w' => e = .returned (.int .i64 0) ∧ One w3 (w3.heap.size + 1) ((⟨[⟨⟨#[115, 104, 101, 101, 116]⟩, x.data.toList, 0⟩], r, 2, false, 0⟩ : PD)) w' from by have := appendO h (fitF _ _ _ ⟨by simp [usedL], by simp⟩ (by decide) (by omega)) (by decide) ⟨#[115, 104, 101, 101, 116]⟩ x (by decide) (by omega); rwa [(uA1 x r (by omega)).1, (uA1 x r (by omega)).2] at this))
  have GS := Lib.hid (fun w3 W (h : One w3 (w3.heap.size + 1) ((⟨[⟨⟨#[115, 104, 101, 101, 116]⟩, x.data.toList, 0⟩], r, 2, false, 0⟩ : PD)) W) => (show Calls Try.prog 26 #[.pointer (some ⟨(w3.heap.size + 1), 0, none⟩), .string ⟨#[115, 104, 101, 101, 116]⟩] W fun e w' => e = .returned (.int .i64 0) ∧ One w3 (w3.heap.size + 1) ((⟨[⟨⟨#[115, 104, 101, 101, 116]⟩, x.data.toList, x.data.toList.length⟩], r, 3, false, 0⟩ : PD)) w' from by have := syncO h (fitF _ _ _ ⟨by rw [used9, len9]; omega, by simp⟩ (by decide) (by omega)) (by decide) ⟨#[115, 104, 101, 101, 116]⟩ (by decide); rwa [(uS2 x r).1, (uS2 x r).2] at this))
  have GV := Lib.hid (fun w3 W (h : One w3 (w3.heap.size + 1) (⟨[⟨⟨#[115, 104, 101, 101, 116]⟩, x.data.toList, x.data.toList.length⟩], r, 3, false, 0⟩ : PD) W) (hB : Below w.heap.size w W) => (show Calls Try.prog 41 #[.pointer (some ⟨(w3.heap.size + 1), 0, none⟩), .slice sb lb cb] W fun e w' => e = .returned (.int .i64 17) ∧ One w3 (w3.heap.size + 1) (⟨[⟨⟨#[115, 104, 101, 101, 116]⟩, x.data.toList, x.data.toList.length⟩, ⟨⟨#[115, 104, 101, 101, 116, 46, 110, 101, 119]⟩, [], 0⟩], r, 4, false, 0⟩ : PD) w' from by
    have := saveO h (fitF _ _ _ ⟨by rw [used9, len9]; omega, by simp⟩ (by decide) (by omega)) (by decide) sb lb cb ys (rowI_below hy hB)
    rwa [show saR (⟨[⟨⟨#[115, 104, 101, 101, 116]⟩, x.data.toList, x.data.toList.length⟩], r, 3, false, 0⟩ : PD) ys = ((⟨[⟨⟨#[115, 104, 101, 101, 116]⟩, x.data.toList, x.data.toList.length⟩, ⟨⟨#[115, 104, 101, 101, 116, 46, 110, 101, 119]⟩, [], 0⟩], r, 4, false, 0⟩ : PD), 17) from by unfold saR; rw [if_pos hsb, ← hyy]; exact sa_no x y r (by omega)] at this))
  have GL := Lib.hid (fun w3 W (h : One w3 (w3.heap.size + 1) (⟨[⟨⟨#[115, 104, 101, 101, 116]⟩, x.data.toList, x.data.toList.length⟩, ⟨⟨#[115, 104, 101, 101, 116, 46, 110, 101, 119]⟩, [], 0⟩], r, 4, false, 0⟩ : PD) W) (hB : Below w.heap.size w W) => (show Calls Try.prog 42 #[.pointer (some ⟨(w3.heap.size + 1), 0, none⟩)] W fun e w' => ∃ a c, e = .returned (.tuple #[.slice a zs.length c, .int .i64 0]) ∧ RowI .i64 w' a zs.length zs ∧ Below W.heap.size W w' from by
    refine (loadO h (fitF _ _ _ ⟨by rw [used92, len9]; simp; omega, by simp⟩ (by decide) (by omega))).mono ?_
    rintro e w' ⟨v, he, hv, hB⟩
    rw [(lo_no x r hxb.1).2, hxb.2] at hv
    rw [(lo_no x r hxb.1).1] at he
    obtain ⟨a, c, hvv, -, hr⟩ := rowI_own hv hz.2.2.1
    exact ⟨a, c, by rw [he, hvv], hr, hB⟩))
  have GE := Lib.hid (fun W a c (h : RowI .i64 W a zs.length zs) (hB : Below w.heap.size w W) => (show Gives Try.prog 43 #[.slice a zs.length c, .slice sa la ca] W (.bool true) from by
    have := nsame_any a zs.length c zs sa la ca zs W h (rowI_below hz hB)
    simpa using this))
  have hxi : ((x.size : Nat) : Int) ≤ 2000 := by omega
  have hri : ((room : Nat) : Int) ≤ 255 := by omega
  have hfi : ((room : Nat) : Int) < (y.size : Int) := by omega
  have hwr : IntKind.i64.wrap ((x.size : Int) + (room : Int)) = (x.size : Int) + (room : Int) := IntWalk.i64_in _ (by omega)
  clear ha hb hsa hsb hx hyy hxb hyb hr hf hz hy hroom hxs hys
  unfold Gives at *
  go_enter Try.func11, Try.ntmps11
  go_wp2_with (first
    | (go_at_call 35; ((with_reducible refine (GK.out _).mono ?_); rintro e w0 ⟨rfl, hB0⟩))
    | (go_at_call 37; ((with_reducible refine (GI.out _ hB0).mono ?_); rintro e w1 ⟨rfl, hB1⟩; have hb1 := bel2 hB0 hB1; clear GI hB1))
    | (go_at_call 37; ((with_reducible refine (GJ.out _ hb1).mono ?_); rintro e w2 ⟨rfl, hB2⟩; have hb2 := bel2 hb1 hB2; clear GJ hB2))
    | (go_at_call 39; ((with_reducible refine (GX.out _ hb2).mono ?_); rintro e w3 ⟨rfl, hB3⟩; have hb3 := bel2 hb2 hB3; clear GX hB3))
    | (go_at_call 24; ((with_reducible refine (GN.out _).mono ?_); rintro e w4 ⟨rfl, hO0⟩; clear GN))
    | (go_at_call 19; ((with_reducible refine (GC.out _ _ hO0).mono ?_); rintro e w5 ⟨rfl, hO1⟩; clear hO0 GC))
    | (go_at_call 25; ((with_reducible refine (GA.out _ _ hO1).mono ?_); rintro e w6 ⟨rfl, hO2⟩; clear hO1 GA))
    | (go_at_call 26; ((with_reducible refine (GS.out _ _ hO2).mono ?_); rintro e w7 ⟨rfl, hO3⟩; have hb7 := bel2 hb3 hO3.bel; clear hO2 GS))
    | (go_at_call 41; ((with_reducible refine (GV.out _ _ hO3 hb7).mono ?_); rintro e w8 ⟨rfl, hO4⟩; have hb8 := bel2 hb3 hO4.bel; clear hO3 GV))
    | (go_at_call 42; ((with_reducible refine (GL.out _ _ hO4 hb8).mono ?_); rintro e w9 ⟨ma, mc, rfl, hm9, hB9⟩; have hb9 := bel2 hb8 hB9; clear hO4 GL))
    | (go_at_call 39; ((with_reducible refine (GY.out _ hb9).mono ?_); rintro e w10 ⟨rfl, hB10⟩; have hb10 := bel2 hb9 hB10; have hm10 := rowI_below hm9 hB10; clear GY hm9))
    | (go_at_call 43; ((with_reducible refine (GE.out _ _ _ hm10 hb10).mono ?_); rintro e w11 ⟨rfl, hB11⟩; have hb11 := bel2 hb10 hB11; clear GE hm10)))
  go_ret
  exact ⟨by simp, hb11⟩

set_option maxRecDepth 100000 in
set_option maxHeartbeats 4000000 in
theorem full_ok (w : World) (sa : Option Addr) (la ca : Nat) (zs : List Int) (hz : RowI .i64 w sa la zs) (sb : Option Addr) (lb cb : Nat) (ys : List Int) (hy : RowI .i64 w sb lb ys) (room : Nat) (hroom : room < 256) (ha : la ≤ 250) (hb : lb ≤ 250) (hsa : shB zs = true) (hsb : shB ys = true) (hf : (shY ys).size ≤ room) : Calls Try.prog 11 #[.slice sa la ca, .slice sb lb cb, .int .u8 room] w fun e w' => e = .returned (.bool true) ∧ Below w.heap.size w w' := by
  have GK := Lib.hid sheet_known
  have h1 : ((la : Nat) : Int) ≤ 250 := by omega
  have h2 : ((lb : Nat) : Int) ≤ 250 := by omega
  have GI := Lib.hid (fun W (hB : Below w.heap.size w W) => (show Gives Try.prog 37 #[.slice sa la ca] W (.bool true) from by have := shIs_any sa la ca zs W (rowI_below hz hB); rwa [hsa] at this))
  have GJ := Lib.hid (fun W (hB : Below w.heap.size w W) => (show Gives Try.prog 37 #[.slice sb lb cb] W (.bool true) from by have := shIs_any sb lb cb ys W (rowI_below hy hB); rwa [hsb] at this))
  obtain ⟨x, hx⟩ : ∃ x, x = shY zs := ⟨_, rfl⟩
  obtain ⟨y, hyy⟩ : ∃ y, y = shY ys := ⟨_, rfl⟩
  have hxs : x.size ≤ 2000 := by rw [hx]; exact shY_size _
  have hys : y.size ≤ 2000 := by rw [hyy]; exact shY_size _
  have hxb := rd_back hsa
  have hyb := rd_back hsb
  rw [← hx] at hxb
  rw [← hyy] at hyb hf
  obtain ⟨r, hr⟩ : ∃ r, r = x.size + room := ⟨_, rfl⟩
  have GX := Lib.hid (fun W (hB : Below w.heap.size w W) => (show Gives Try.prog 39 #[.slice sa la ca] W (.string x) from by
    have := refShB_any sa la ca zs W (rowI_below hz hB) ha (fun x h => by have := (shB_bd hsa).2 x h; omega)
    rwa [shY_eq hsa, ← hx] at this))
  have GY := Lib.hid (fun W (hB : Below w.heap.size w W) => (show Gives Try.prog 39 #[.slice sb lb cb] W (.string y) from by
    have := refShB_any sb lb cb ys W (rowI_below hy hB) hb (fun x h => by have := (shB_bd hsb).2 x h; omega)
    rwa [shY_eq hsb, ← hyy] at this))
  have GN := Lib.hid (fun w3 => (show Calls Try.prog 24 #[.int .i64 ((x.size : Int) + (room : Int))] w3 fun e w' => e = .returned (.pointer (some ⟨(w3.heap.size + 1), 0, none⟩)) ∧ One w3 (w3.heap.size + 1) (⟨[], r, 0, false, 0⟩ : PD) w' from by
    have := newO ((x.size : Int) + (room : Int)) w3
    rwa [show (min (max ((x.size : Int) + (room : Int)) 0) 1000000).toNat = r by omega] at this))
  have GC := Lib.hid (fun w3 W (h : One w3 (w3.heap.size + 1) ((⟨[], r, 0, false, 0⟩ : PD)) W) => (show Calls Try.prog 19 #[.pointer (some ⟨(w3.heap.size + 1), 0, none⟩), .string ⟨#[115, 104, 101, 101, 116]⟩] W fun e w' => e = .returned (.int .i64 0) ∧ One w3 (w3.heap.size + 1) ((⟨[⟨⟨#[115, 104, 101, 101, 116]⟩, [], 0⟩], r, 1, false, 0⟩ : PD)) w' from by have := createO h (fitF _ _ _ ⟨by simp [usedL], by simp⟩ (by decide) (by omega)) (by decide) ⟨#[115, 104, 101, 101, 116]⟩ (by decide); rwa [(uC0 r).1, (uC0 r).2] at this))
  have GA := Lib.hid (fun w3 W (h : One w3 (w3.heap.size + 1) ((⟨[⟨⟨#[115, 104, 101, 101, 116]⟩, [], 0⟩], r, 1, false, 0⟩ : PD)) W) => (show Calls Try.prog 25 #[.pointer (some ⟨(w3.heap.size + 1), 0, none⟩), .string ⟨#[115, 104, 101, 101, 116]⟩, .string x] W fun e w' => e = .returned (.int .i64 0) ∧ One w3 (w3.heap.size + 1) ((⟨[⟨⟨#[115, 104, 101, 101, 116]⟩, x.data.toList, 0⟩], r, 2, false, 0⟩ : PD)) w' from by have := appendO h (fitF _ _ _ ⟨by simp [usedL], by simp⟩ (by decide) (by omega)) (by decide) ⟨#[115, 104, 101, 101, 116]⟩ x (by decide) (by omega); rwa [(uA1 x r (by omega)).1, (uA1 x r (by omega)).2] at this))
  have GS := Lib.hid (fun w3 W (h : One w3 (w3.heap.size + 1) ((⟨[⟨⟨#[115, 104, 101, 101, 116]⟩, x.data.toList, 0⟩], r, 2, false, 0⟩ : PD)) W) => (show Calls Try.prog 26 #[.pointer (some ⟨(w3.heap.size + 1), 0, none⟩), .string ⟨#[115, 104, 101, 101, 116]⟩] W fun e w' => e = .returned (.int .i64 0) ∧ One w3 (w3.heap.size + 1) ((⟨[⟨⟨#[115, 104, 101, 101, 116]⟩, x.data.toList, x.data.toList.length⟩], r, 3, false, 0⟩ : PD)) w' from by have := syncO h (fitF _ _ _ ⟨by rw [used9, len9]; omega, by simp⟩ (by decide) (by omega)) (by decide) ⟨#[115, 104, 101, 101, 116]⟩ (by decide); rwa [(uS2 x r).1, (uS2 x r).2] at this))
  have GV := Lib.hid (fun w3 W (h : One w3 (w3.heap.size + 1) (⟨[⟨⟨#[115, 104, 101, 101, 116]⟩, x.data.toList, x.data.toList.length⟩], r, 3, false, 0⟩ : PD) W) (hB : Below w.heap.size w W) => (show Calls Try.prog 41 #[.pointer (some ⟨(w3.heap.size + 1), 0, none⟩), .slice sb lb cb] W fun e w' => e = .returned (.int .i64 0) ∧ One w3 (w3.heap.size + 1) (⟨[⟨⟨#[115, 104, 101, 101, 116]⟩, y.data.toList, y.data.toList.length⟩], r, 7, false, 0⟩ : PD) w' from by
    have := saveO h (fitF _ _ _ ⟨by rw [used9, len9]; omega, by simp⟩ (by decide) (by omega)) (by decide) sb lb cb ys (rowI_below hy hB)
    rwa [show saR (⟨[⟨⟨#[115, 104, 101, 101, 116]⟩, x.data.toList, x.data.toList.length⟩], r, 3, false, 0⟩ : PD) ys = ((⟨[⟨⟨#[115, 104, 101, 101, 116]⟩, y.data.toList, y.data.toList.length⟩], r, 7, false, 0⟩ : PD), 0) from by unfold saR; rw [if_pos hsb, ← hyy]; exact sa_ok x y r (by omega)] at this))
  have GL := Lib.hid (fun w3 W (h : One w3 (w3.heap.size + 1) (⟨[⟨⟨#[115, 104, 101, 101, 116]⟩, y.data.toList, y.data.toList.length⟩], r, 7, false, 0⟩ : PD) W) (hB : Below w.heap.size w W) => (show Calls Try.prog 42 #[.pointer (some ⟨(w3.heap.size + 1), 0, none⟩)] W fun e w' => ∃ a c, e = .returned (.tuple #[.slice a ys.length c, .int .i64 0]) ∧ RowI .i64 w' a ys.length ys ∧ Below W.heap.size W w' from by
    refine (loadO h (fitF _ _ _ ⟨by rw [used9, len9]; omega, by simp⟩ (by decide) (by omega))).mono ?_
    rintro e w' ⟨v, he, hv, hB⟩
    rw [(lo_ok y r hyb.1).2, hyb.2] at hv
    rw [(lo_ok y r hyb.1).1] at he
    obtain ⟨a, c, hvv, -, hr⟩ := rowI_own hv hy.2.2.1
    exact ⟨a, c, by rw [he, hvv], hr, hB⟩))
  have GE := Lib.hid (fun W a c (h : RowI .i64 W a ys.length ys) (hB : Below w.heap.size w W) => (show Gives Try.prog 43 #[.slice a ys.length c, .slice sb lb cb] W (.bool true) from by
    have := nsame_any a ys.length c ys sb lb cb ys W h (rowI_below hy hB)
    simpa using this))
  have hxi : ((x.size : Nat) : Int) ≤ 2000 := by omega
  have hri : ((room : Nat) : Int) ≤ 255 := by omega
  have hfi : ((y.size : Nat) : Int) ≤ (room : Int) := by omega
  have hwr : IntKind.i64.wrap ((x.size : Int) + (room : Int)) = (x.size : Int) + (room : Int) := IntWalk.i64_in _ (by omega)
  clear ha hb hsa hsb hx hyy hxb hyb hr hf hz hy hroom hxs hys
  unfold Gives at *
  go_enter Try.func11, Try.ntmps11
  go_wp2_with (first
    | (go_at_call 35; ((with_reducible refine (GK.out _).mono ?_); rintro e w0 ⟨rfl, hB0⟩))
    | (go_at_call 37; ((with_reducible refine (GI.out _ hB0).mono ?_); rintro e w1 ⟨rfl, hB1⟩; have hb1 := bel2 hB0 hB1; clear GI hB1))
    | (go_at_call 37; ((with_reducible refine (GJ.out _ hb1).mono ?_); rintro e w2 ⟨rfl, hB2⟩; have hb2 := bel2 hb1 hB2; clear GJ hB2))
    | (go_at_call 39; ((with_reducible refine (GX.out _ hb2).mono ?_); rintro e w3 ⟨rfl, hB3⟩; have hb3 := bel2 hb2 hB3; clear GX hB3))
    | (go_at_call 24; ((with_reducible refine (GN.out _).mono ?_); rintro e w4 ⟨rfl, hO0⟩; clear GN))
    | (go_at_call 19; ((with_reducible refine (GC.out _ _ hO0).mono ?_); rintro e w5 ⟨rfl, hO1⟩; clear hO0 GC))
    | (go_at_call 25; ((with_reducible refine (GA.out _ _ hO1).mono ?_); rintro e w6 ⟨rfl, hO2⟩; clear hO1 GA))
    | (go_at_call 26; ((with_reducible refine (GS.out _ _ hO2).mono ?_); rintro e w7 ⟨rfl, hO3⟩; have hb7 := bel2 hb3 hO3.bel; clear hO2 GS))
    | (go_at_call 41; ((with_reducible refine (GV.out _ _ hO3 hb7).mono ?_); rintro e w8 ⟨rfl, hO4⟩; have hb8 := bel2 hb3 hO4.bel; clear hO3 GV))
    | (go_at_call 42; ((with_reducible refine (GL.out _ _ hO4 hb8).mono ?_); rintro e w9 ⟨ma, mc, rfl, hm9, hB9⟩; have hb9 := bel2 hb8 hB9; clear hO4 GL))
    | (go_at_call 39; ((with_reducible refine (GY.out _ hb9).mono ?_); rintro e w10 ⟨rfl, hB10⟩; have hb10 := bel2 hb9 hB10; have hm10 := rowI_below hm9 hB10; clear GY hm9))
    | (go_at_call 43; ((with_reducible refine (GE.out _ _ _ hm10 hb10).mono ?_); rintro e w11 ⟨rfl, hB11⟩; have hb11 := bel2 hb10 hB11; clear GE hm10)))
  go_ret
  exact ⟨by simp, hb11⟩

theorem walk (w : World) (sa : Option Addr) (la ca : Nat) (zs : List Int) (hz : RowI .i64 w sa la zs) (sb : Option Addr) (lb cb : Nat) (ys : List Int) (hy : RowI .i64 w sb lb ys) (room : Nat) (hroom : room < 256) : Calls Try.prog 11 #[.slice sa la ca, .slice sb lb cb, .int .u8 room] w fun e w' => e = .returned (.bool true) ∧ Below w.heap.size w w' := by
  by_cases h1 : 250 < la
  · exact full_a w sa la ca zs hz sb lb cb ys hy room hroom h1
  by_cases h2 : 250 < lb
  · exact full_b w sa la ca zs hz sb lb cb ys hy room hroom (by omega) h2
  cases hsa : shB zs
  · exact full_i w sa la ca zs hz sb lb cb ys hy room hroom (by omega) (by omega) hsa
  cases hsb : shB ys
  · exact full_j w sa la ca zs hz sb lb cb ys hy room hroom (by omega) (by omega) hsa hsb
  by_cases hf : (shY ys).size ≤ room
  · exact full_ok w sa la ca zs hz sb lb cb ys hy room hroom (by omega) (by omega) hsa hsb hf
  · exact full_no w sa la ca zs hz sb lb cb ys hy room hroom (by omega) (by omega) hsa hsb (by omega)

set_option maxRecDepth 100000 in
theorem lifted (os : Os) (started : os.Started) (H : Type) (enc : TypeId × Value → H) :
    ReturnsInHanded {} Try.checked os 11 .any (Rows.sheetFullSpec.pre6 enc Try.prog Try.f11 Rows.sheetFullRow.domain false) (Rows.sheetFullSpec.post enc Try.prog Try.f11 false true false false) := by
  refine returnsInHanded_of_change (C := Try.checked) Try.own started (by kernel_rfl) Try.func11
    (ChangeSpec.witness6 (enc := enc) (C := Try.checked) false ⟨#[], #[.slice none 0 0, .slice none 0 0, .int .u8 0], []⟩ 8 (by kernel_rfl) (by kernel_rfl) (by kernel_rfl) (by kernel_rfl)) ?_
  intro W base args ds gs before hval hW _ _
  refine law_contract (T := 4) (n := 3) Try.laid Try.underlying4 rfl rfl ⟨rfl, fun H ds h => by match ds, h with | [_, _, _], _ => rfl⟩ (of_all (by kernel_rfl)) hW ?_
  intro ps hA
  rw [Try.params11] at hA hval
  obtain ⟨v0, vs0, d0, ds0, p0, q0, hargs, rfl, rfl, h0, r0⟩ := trodAll_cons hA
  obtain ⟨v1, vs1, d1, ds1, p1, q1, rfl, rfl, rfl, h1, r1⟩ := trodAll_cons r0
  obtain ⟨v2, vs2, d2, ds2, p2, q2, rfl, rfl, rfl, h2, r2⟩ := trodAll_cons r1
  obtain ⟨rfl, rfl, rfl⟩ := trodAll_nil r2
  obtain rfl : args = #[v0, v1, v2] := by cases args; simp_all
  obtain ⟨s0, l0, c0, rfl⟩ := okWide_slice Try.underlying61 (hval 0 61 v0 rfl rfl)
  obtain ⟨zs0, w0⟩ := isInts_of (k := .i64) Try.underlying61 Try.underlying3 (by kernel_rfl) h0
  obtain ⟨s1, l1, c1, rfl⟩ := okWide_slice Try.underlying61 (hval 1 61 v1 rfl rfl)
  obtain ⟨zs1, w1⟩ := isInts_of (k := .i64) Try.underlying61 Try.underlying3 (by kernel_rfl) h1
  obtain ⟨a2, rfl, rfl, rfl, w2⟩ := open_int Try.underlying5 (hval 2 5 v2 rfl rfl) h2
  obtain ⟨n2, rfl, b2⟩ := nat_of_u8 w2
  exact walk W s0 l0 c0 _ (rowI_of w0) s1 l1 c1 _ (rowI_of w1) n2 b2

theorem holds : Rows.SheetFullSaid :=
  OpenClaim.holds_of_wide 11 Try.f11 rfl rfl rfl rfl rfl rfl rfl ⟨rfl, rfl, rfl, rfl, rfl⟩ rfl rfl rfl rfl rfl (by kernel_rfl) Try.func11 (by kernel_rfl)
    (of_decide_eq_true (by kernel_rfl)) (by unfold Func.isWrapper; first | (rw [if_pos (by decide +kernel)]; kernel_rfl) | (rw [if_neg (by decide +kernel)]; exact ⟨rfl, rfl⟩))
    (fun os started H enc _ => lifted os started H enc)
end Go.Proofs.Ytieekahlknmkfaa.sheetFull
