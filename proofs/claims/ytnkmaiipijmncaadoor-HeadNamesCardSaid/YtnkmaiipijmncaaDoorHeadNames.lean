/- Law HeadNames: for every input the call answers true; its arguments read as they did. No condition but what the card lists. -/
import Derived.SevenTiedAt
import Derived.Test.YtnkmaiipijmncaaDoorCards
import Derived.Test.YtnkmaiipijmncaaDoorTie
import Derived.Test.YtnkmaiipijmncaaDoorLaw
import Derived.Test.YtnkmaiipijmncaaDoorKnown10
import Derived.Test.YtnkmaiipijmncaaDoorLaid
import Derived.Test.YtnkmaiipijmncaaDoorBytes
import Derived.Test.YtnkmaiipijmncaaDoorQuietC
namespace Go.Proofs.YtnkmaiipijmncaaDoor.headNames
open Go.ChangeShapes Go.WideShapes Go.ChangeAt Go.RowKit Go.Shelf
open Go.ChangeMaps (open_string shut_string)
set_option linter.unusedVariables false
attribute [local go_sem] Oper.semAt_some wide_fn wide_round_fn

attribute [local irreducible] wpQuiet

set_option maxRecDepth 100000 in
set_option maxHeartbeats 2000000 in
theorem names_same (id a : Nat) (hid : id < 4294967296) (ha : a < 256) (c : UInt8) (x k : Nat) (hx : x = id % 99999999 + 1) (hk : k = a % 12) (w : World) (hv : VarsOk w) (hs : (nameL x).set k c = nameL x) : Calls Tryd.prog 5 #[.int .u32 id, .int .u8 a, .int .u8 c.toNat] w fun e w' => e = .returned (.bool true) ∧ Below w.heap.size w w' := by
  have hx1 : 1 ≤ x ∧ x ≤ 99999999 := by omega
  have hxi : (id : Int) % 99999999 = (x : Int) - 1 := by omega
  have hx0 : (1 : Int) ≤ (x : Int) := by omega
  have hxm : (x : Int) ≤ 99999999 := by omega
  have hk12 : k < 12 := by omega
  have hka : (a : Int) % 12 = (k : Int) := by omega
  have hk0 : (0 : Int) ≤ (k : Int) := by omega
  have hk1 : (k : Int) < 12 := by omega
  clear hx hk
  have GK := Lib.hid head_known
  have GN := Lib.hid (fun w => name_any (x : Int) w)
  rw [heldN_self hx1.1 hx1.2] at GN
  have hll : (nameL x).length = 12 := nameL_len x
  have hyl : ((nameL x).set k c).length = 12 := by rw [List.length_set]; exact hll
  have hNO : idM (nameL x ++ [48]) = (0, false) := idM_other (fun n _ _ e => by have := congrArg List.length e; simp [nameL_len] at this)
  have hkl : k < (nameL x).length := by rw [hll]; exact hk12
  obtain ⟨ov, hov⟩ : ∃ ov : UInt8, ov = (nameL x)[k] := ⟨_, rfl⟩
  have HOV := Lib.hid hov; have HKL := Lib.hid hkl
  clear hov
  obtain ⟨S, hS⟩ : ∃ S : ByteArray, S = ⟨(nameL x).toArray⟩ := ⟨_, rfl⟩
  obtain ⟨T, hT⟩ : ∃ T : ByteArray, T = ⟨((nameL x).set k c).toArray⟩ := ⟨_, rfl⟩
  have hSl : S.data.toList = nameL x := by rw [hS]
  have hTl : T.data.toList = (nameL x).set k c := by rw [hT]
  have hSz : S.size = 12 := by rw [hS]; exact hll
  have hTz : T.size = 12 := by rw [hT]; exact hyl
  have hEQ : (T.toList == S.toList) = decide ((nameL x).set k c = nameL x) := by
    rw [Bool.eq_iff_iff, decide_eq_true_iff, beq_iff_eq, baEq]
    constructor
    · intro e; rw [← hTl, ← hSl, e]
    · intro e; rw [hS, hT, e]
  have I1 := fun w (h : VarsOk w) => id_any T (by omega) w h
  rw [hTl] at I1
  have I2 := fun w (h : VarsOk w) => id_any (S ++ ⟨#[48]⟩) (by rw [ByteArray.size_append, hSz]; decide) w h
  rw [ba_toList, hSl, show (⟨#[48]⟩ : ByteArray).data.toList = [48] from rfl, hNO] at I2
  have I3 : ∀ w, Gives Tryd.prog 8 #[.string ⟨#[115, 101, 103, 45, 48, 48, 48, 48, 48, 48, 48, 48]⟩] w (.tuple #[.int .i64 0, .bool false]) := fun w => id_good ⟨#[115, 101, 103, 45, 48, 48, 48, 48, 48, 48, 48, 48]⟩ (by decide) 0 (by decide) w
  rw [hs, idM_name hx1.1 hx1.2] at I1
  rw [decide_eq_true hs] at hEQ
  clear hs
  have HV := Lib.hid hv
  have I1 := Lib.hid I1; have I2 := Lib.hid I2; have I3 := Lib.hid I3; have HYL := Lib.hid hyl; have HT := Lib.hid hT
  have HSL := Lib.hid hSl; have HSz := Lib.hid hSz; have HLL := Lib.hid hll
  rw [← hS] at GN
  have hSi : (S.size : Int) = 12 := by omega
  clear hT hTl hSl hSz hTz hll hyl hS hNO hv hid ha
  go_enter Tryd.func5, Tryd.ntmps5
  go_wp2_with (first
    | (go_at_call 7; ((with_reducible refine (GK.out _).mono ?_); rintro e w1 ⟨rfl, hB⟩))
    | (go_at_call 11; ((with_reducible refine (GN.out _).mono ?_); rintro e w3 ⟨rfl, hX⟩; replace hB := bel2 hB hX; obtain ⟨cap, w4, hcap, hcv0, hB4, hby⟩ := bytes_of (P := Tryd.prog) (src := 9) (dst := 30) Tryd.underlying9 Tryd.underlying30 Tryd.underlying5 S w3; have hcv : (convert 9 30 (.string S)).run Tryd.prog w3 = .ok (.slice (some ⟨w3.heap.size, 0, none⟩) 12 cap) w4 := (by rw [hcv0, HSz.out]); rw [HSL.out] at hby; have hs3 := hB.size; have hA4 := bel2 hB hB4; have hcell : w4.cell? ⟨w3.heap.size, k, none⟩ = some (.int .u8 ov.toNat) := (by rw [HOV.out]; exact hby.cell _ HKL.out); have hfro := hby.frozen _ HKL.out; have HY5 := Lib.hid (show BytesAt (w4.setCell ⟨w3.heap.size, k, none⟩ (.int .u8 c.toNat)) w3.heap.size ((nameL x).set k c) from (hby.set _ HKL.out c)); have HC5 := Lib.hid (show Below w.heap.size w (w4.setCell ⟨w3.heap.size, k, none⟩ (.int .u8 c.toNat)) from hA4.setCell (p := ⟨w3.heap.size, k, none⟩) hs3 (vb c)); have hcv2 := string_of (P := Tryd.prog) (src := 30) (dst := 9) Tryd.underlying30 Tryd.underlying5 Tryd.underlying9 HY5.out 12 cap HYL.out; rw [← HT.out] at hcv2; clear hby hA4 hcv0 hX))
    | (go_at_call 8; ((with_reducible refine (I1.out _ (HV.out.below HC5.out)).mono ?_); rintro e w6 ⟨rfl, hX⟩; clear hB; have hY6 := HY5.out.below hX; have hB := bel2 HC5.out hX; have hcv3 := string_of (P := Tryd.prog) (src := 30) (dst := 9) Tryd.underlying30 Tryd.underlying5 Tryd.underlying9 hY6 12 cap HYL.out; rw [← HT.out] at hcv3; have HY6 := Lib.hid hY6; clear hX hY6))
    | (go_at_call 8; ((with_reducible refine (I2.out _ (HV.out.below hB)).mono ?_); rintro e w7 ⟨rfl, hX⟩; replace hB := bel2 hB hX; have HY7 := Lib.hid (HY6.out.below hX)))
    | (go_at_call 8; ((with_reducible refine (I3.out _).mono ?_); rintro e w8 ⟨rfl, hX⟩; replace hB := bel2 hB hX; have HY8 := Lib.hid (HY7.out.below hX))))
  all_goals
    go_ret
    exact ⟨by simp, hB⟩

set_option maxRecDepth 100000 in
set_option maxHeartbeats 2000000 in
theorem names_yes (id a : Nat) (hid : id < 4294967296) (ha : a < 256) (c : UInt8) (x k : Nat) (hx : x = id % 99999999 + 1) (hk : k = a % 12) (w : World) (hv : VarsOk w) (n : Nat) (hn1 : 1 ≤ n) (hn2 : n ≤ 99999999) (hn : (nameL x).set k c = nameL n) (hs : (nameL x).set k c ≠ nameL x) (h4 : (4 : Int) ≤ (k : Int)) (h48 : (48 : Int) ≤ (c.toNat : Int)) (h57 : (c.toNat : Int) ≤ 57) : Calls Tryd.prog 5 #[.int .u32 id, .int .u8 a, .int .u8 c.toNat] w fun e w' => e = .returned (.bool true) ∧ Below w.heap.size w w' := by
  have hx1 : 1 ≤ x ∧ x ≤ 99999999 := by omega
  have hxi : (id : Int) % 99999999 = (x : Int) - 1 := by omega
  have hx0 : (1 : Int) ≤ (x : Int) := by omega
  have hxm : (x : Int) ≤ 99999999 := by omega
  have hk12 : k < 12 := by omega
  have hka : (a : Int) % 12 = (k : Int) := by omega
  have hk0 : (0 : Int) ≤ (k : Int) := by omega
  have hk1 : (k : Int) < 12 := by omega
  clear hx hk
  have GK := Lib.hid head_known
  have GN := Lib.hid (fun w => name_any (x : Int) w)
  rw [heldN_self hx1.1 hx1.2] at GN
  have hll : (nameL x).length = 12 := nameL_len x
  have hyl : ((nameL x).set k c).length = 12 := by rw [List.length_set]; exact hll
  have hNO : idM (nameL x ++ [48]) = (0, false) := idM_other (fun n _ _ e => by have := congrArg List.length e; simp [nameL_len] at this)
  have hkl : k < (nameL x).length := by rw [hll]; exact hk12
  obtain ⟨ov, hov⟩ : ∃ ov : UInt8, ov = (nameL x)[k] := ⟨_, rfl⟩
  have HOV := Lib.hid hov; have HKL := Lib.hid hkl
  clear hov
  obtain ⟨S, hS⟩ : ∃ S : ByteArray, S = ⟨(nameL x).toArray⟩ := ⟨_, rfl⟩
  obtain ⟨T, hT⟩ : ∃ T : ByteArray, T = ⟨((nameL x).set k c).toArray⟩ := ⟨_, rfl⟩
  have hSl : S.data.toList = nameL x := by rw [hS]
  have hTl : T.data.toList = (nameL x).set k c := by rw [hT]
  have hSz : S.size = 12 := by rw [hS]; exact hll
  have hTz : T.size = 12 := by rw [hT]; exact hyl
  have hEQ : (T.toList == S.toList) = decide ((nameL x).set k c = nameL x) := by
    rw [Bool.eq_iff_iff, decide_eq_true_iff, beq_iff_eq, baEq]
    constructor
    · intro e; rw [← hTl, ← hSl, e]
    · intro e; rw [hS, hT, e]
  have I1 := fun w (h : VarsOk w) => id_any T (by omega) w h
  rw [hTl] at I1
  have I2 := fun w (h : VarsOk w) => id_any (S ++ ⟨#[48]⟩) (by rw [ByteArray.size_append, hSz]; decide) w h
  rw [ba_toList, hSl, show (⟨#[48]⟩ : ByteArray).data.toList = [48] from rfl, hNO] at I2
  have I3 : ∀ w, Gives Tryd.prog 8 #[.string ⟨#[115, 101, 103, 45, 48, 48, 48, 48, 48, 48, 48, 48]⟩] w (.tuple #[.int .i64 0, .bool false]) := fun w => id_good ⟨#[115, 101, 103, 45, 48, 48, 48, 48, 48, 48, 48, 48]⟩ (by decide) 0 (by decide) w
  have GM := Lib.hid (fun w => name_any (n : Int) w)
  rw [heldN_self hn1 hn2, ← hn, ← hT] at GM
  rw [hn, idM_name hn1 hn2] at I1
  rw [decide_eq_false hs] at hEQ
  clear hs
  clear hn hn1 hn2
  have HV := Lib.hid hv
  have I1 := Lib.hid I1; have I2 := Lib.hid I2; have I3 := Lib.hid I3; have HYL := Lib.hid hyl; have HT := Lib.hid hT
  have HSL := Lib.hid hSl; have HSz := Lib.hid hSz; have HLL := Lib.hid hll
  rw [← hS] at GN
  have hSi : (S.size : Int) = 12 := by omega
  clear hT hTl hSl hSz hTz hll hyl hS hNO hv hid ha
  go_enter Tryd.func5, Tryd.ntmps5
  go_wp2_with (first
    | (go_at_call 7; ((with_reducible refine (GK.out _).mono ?_); rintro e w1 ⟨rfl, hB⟩))
    | (go_at_call 11; ((with_reducible refine (GN.out _).mono ?_); rintro e w3 ⟨rfl, hX⟩; replace hB := bel2 hB hX; obtain ⟨cap, w4, hcap, hcv0, hB4, hby⟩ := bytes_of (P := Tryd.prog) (src := 9) (dst := 30) Tryd.underlying9 Tryd.underlying30 Tryd.underlying5 S w3; have hcv : (convert 9 30 (.string S)).run Tryd.prog w3 = .ok (.slice (some ⟨w3.heap.size, 0, none⟩) 12 cap) w4 := (by rw [hcv0, HSz.out]); rw [HSL.out] at hby; have hs3 := hB.size; have hA4 := bel2 hB hB4; have hcell : w4.cell? ⟨w3.heap.size, k, none⟩ = some (.int .u8 ov.toNat) := (by rw [HOV.out]; exact hby.cell _ HKL.out); have hfro := hby.frozen _ HKL.out; have HY5 := Lib.hid (show BytesAt (w4.setCell ⟨w3.heap.size, k, none⟩ (.int .u8 c.toNat)) w3.heap.size ((nameL x).set k c) from (hby.set _ HKL.out c)); have HC5 := Lib.hid (show Below w.heap.size w (w4.setCell ⟨w3.heap.size, k, none⟩ (.int .u8 c.toNat)) from hA4.setCell (p := ⟨w3.heap.size, k, none⟩) hs3 (vb c)); have hcv2 := string_of (P := Tryd.prog) (src := 30) (dst := 9) Tryd.underlying30 Tryd.underlying5 Tryd.underlying9 HY5.out 12 cap HYL.out; rw [← HT.out] at hcv2; clear hby hA4 hcv0 hX))
    | (go_at_call 8; ((with_reducible refine (I1.out _ (HV.out.below HC5.out)).mono ?_); rintro e w6 ⟨rfl, hX⟩; clear hB; have hY6 := HY5.out.below hX; have hB := bel2 HC5.out hX; have hcv3 := string_of (P := Tryd.prog) (src := 30) (dst := 9) Tryd.underlying30 Tryd.underlying5 Tryd.underlying9 hY6 12 cap HYL.out; rw [← HT.out] at hcv3; have HY6 := Lib.hid hY6; clear hX hY6))
    | (go_at_call 8; ((with_reducible refine (I2.out _ (HV.out.below hB)).mono ?_); rintro e w7 ⟨rfl, hX⟩; replace hB := bel2 hB hX; have HY7 := Lib.hid (HY6.out.below hX)))
    | (go_at_call 8; ((with_reducible refine (I3.out _).mono ?_); rintro e w8 ⟨rfl, hX⟩; replace hB := bel2 hB hX; have HY8 := Lib.hid (HY7.out.below hX))))
  have HS := Lib.hid (fun W (hW : Above w8 W) => string_of (P := Tryd.prog) (src := 30) (dst := 9) Tryd.underlying30 Tryd.underlying5 Tryd.underlying9 (HY8.out.below hW) 12 cap HYL.out)
  rw [← HT.out] at HS
  refine wp_region_below (by kernel_rfl) (by kernel_rfl) ?_
  repeat (first
    | (refine BigFrame.wpQuiet_skip (by rfl) ?_; (try simp only [Act.put, List.setIfInBounds_toArray, List.set_cons_zero, List.set_cons_succ]))
    | (refine BigFrame.wpQuiet_want (by rfl) (fun K hK => ?_); apply Exists.intro; refine ⟨fun W hW => ?_, hK _ ?_⟩; (focus (have hWB : Below _ _ W := hW; have z0 := HS.out _ hW; go_simp; (first | done | with_reducible rfl | (first | (go_at_call 11; with_reducible exact gives_above hW (GM.out _))) | (rw [if_neg (by omega)]; go_simp; (first | done | with_reducible rfl))))); clear hK K; (try simp only [Act.put, List.setIfInBounds_toArray, List.set_cons_zero, List.set_cons_succ])))
  refine wpQuiet_nil ?_
  intro w9 hB9
  replace hB9 : Below _ _ w9 := hB9
  replace hB := bel2 hB hB9
  clear HS
  go_wp2
  go_ret
  exact ⟨by simp, hB⟩

set_option maxRecDepth 100000 in
set_option maxHeartbeats 2000000 in
theorem names_no001 (id a : Nat) (hid : id < 4294967296) (ha : a < 256) (c : UInt8) (x k : Nat) (hx : x = id % 99999999 + 1) (hk : k = a % 12) (w : World) (hv : VarsOk w) (hn : idM ((nameL x).set k c) = (0, false)) (hs : (nameL x).set k c ≠ nameL x) (h4 : (k : Int) < 4) (h48 : (c.toNat : Int) < 48) (h57 : (c.toNat : Int) ≤ 57) : Calls Tryd.prog 5 #[.int .u32 id, .int .u8 a, .int .u8 c.toNat] w fun e w' => e = .returned (.bool true) ∧ Below w.heap.size w w' := by
  have hx1 : 1 ≤ x ∧ x ≤ 99999999 := by omega
  have hxi : (id : Int) % 99999999 = (x : Int) - 1 := by omega
  have hx0 : (1 : Int) ≤ (x : Int) := by omega
  have hxm : (x : Int) ≤ 99999999 := by omega
  have hk12 : k < 12 := by omega
  have hka : (a : Int) % 12 = (k : Int) := by omega
  have hk0 : (0 : Int) ≤ (k : Int) := by omega
  have hk1 : (k : Int) < 12 := by omega
  clear hx hk
  have GK := Lib.hid head_known
  have GN := Lib.hid (fun w => name_any (x : Int) w)
  rw [heldN_self hx1.1 hx1.2] at GN
  have hll : (nameL x).length = 12 := nameL_len x
  have hyl : ((nameL x).set k c).length = 12 := by rw [List.length_set]; exact hll
  have hNO : idM (nameL x ++ [48]) = (0, false) := idM_other (fun n _ _ e => by have := congrArg List.length e; simp [nameL_len] at this)
  have hkl : k < (nameL x).length := by rw [hll]; exact hk12
  obtain ⟨ov, hov⟩ : ∃ ov : UInt8, ov = (nameL x)[k] := ⟨_, rfl⟩
  have HOV := Lib.hid hov; have HKL := Lib.hid hkl
  clear hov
  obtain ⟨S, hS⟩ : ∃ S : ByteArray, S = ⟨(nameL x).toArray⟩ := ⟨_, rfl⟩
  obtain ⟨T, hT⟩ : ∃ T : ByteArray, T = ⟨((nameL x).set k c).toArray⟩ := ⟨_, rfl⟩
  have hSl : S.data.toList = nameL x := by rw [hS]
  have hTl : T.data.toList = (nameL x).set k c := by rw [hT]
  have hSz : S.size = 12 := by rw [hS]; exact hll
  have hTz : T.size = 12 := by rw [hT]; exact hyl
  have hEQ : (T.toList == S.toList) = decide ((nameL x).set k c = nameL x) := by
    rw [Bool.eq_iff_iff, decide_eq_true_iff, beq_iff_eq, baEq]
    constructor
    · intro e; rw [← hTl, ← hSl, e]
    · intro e; rw [hS, hT, e]
  have I1 := fun w (h : VarsOk w) => id_any T (by omega) w h
  rw [hTl] at I1
  have I2 := fun w (h : VarsOk w) => id_any (S ++ ⟨#[48]⟩) (by rw [ByteArray.size_append, hSz]; decide) w h
  rw [ba_toList, hSl, show (⟨#[48]⟩ : ByteArray).data.toList = [48] from rfl, hNO] at I2
  have I3 : ∀ w, Gives Tryd.prog 8 #[.string ⟨#[115, 101, 103, 45, 48, 48, 48, 48, 48, 48, 48, 48]⟩] w (.tuple #[.int .i64 0, .bool false]) := fun w => id_good ⟨#[115, 101, 103, 45, 48, 48, 48, 48, 48, 48, 48, 48]⟩ (by decide) 0 (by decide) w
  rw [hn] at I1
  rw [decide_eq_false hs] at hEQ
  clear hs
  clear hn
  have hd8 : decide ((48 : Int) ≤ (c.toNat : Int)) = false := decide_eq_false (by omega)
  have hd7 : decide ((c.toNat : Int) ≤ 57) = true := decide_eq_true (by omega)
  have hn8 : decide (48 ≤ c.toNat) = false := decide_eq_false (by omega)
  have hn7 : decide (c.toNat ≤ 57) = true := decide_eq_true (by omega)
  have HV := Lib.hid hv
  have I1 := Lib.hid I1; have I2 := Lib.hid I2; have I3 := Lib.hid I3; have HYL := Lib.hid hyl; have HT := Lib.hid hT
  have HSL := Lib.hid hSl; have HSz := Lib.hid hSz; have HLL := Lib.hid hll
  rw [← hS] at GN
  have hSi : (S.size : Int) = 12 := by omega
  clear hT hTl hSl hSz hTz hll hyl hS hNO hv hid ha
  go_enter Tryd.func5, Tryd.ntmps5
  go_wp2_with (first
    | (go_at_call 7; ((with_reducible refine (GK.out _).mono ?_); rintro e w1 ⟨rfl, hB⟩))
    | (go_at_call 11; ((with_reducible refine (GN.out _).mono ?_); rintro e w3 ⟨rfl, hX⟩; replace hB := bel2 hB hX; obtain ⟨cap, w4, hcap, hcv0, hB4, hby⟩ := bytes_of (P := Tryd.prog) (src := 9) (dst := 30) Tryd.underlying9 Tryd.underlying30 Tryd.underlying5 S w3; have hcv : (convert 9 30 (.string S)).run Tryd.prog w3 = .ok (.slice (some ⟨w3.heap.size, 0, none⟩) 12 cap) w4 := (by rw [hcv0, HSz.out]); rw [HSL.out] at hby; have hs3 := hB.size; have hA4 := bel2 hB hB4; have hcell : w4.cell? ⟨w3.heap.size, k, none⟩ = some (.int .u8 ov.toNat) := (by rw [HOV.out]; exact hby.cell _ HKL.out); have hfro := hby.frozen _ HKL.out; have HY5 := Lib.hid (show BytesAt (w4.setCell ⟨w3.heap.size, k, none⟩ (.int .u8 c.toNat)) w3.heap.size ((nameL x).set k c) from (hby.set _ HKL.out c)); have HC5 := Lib.hid (show Below w.heap.size w (w4.setCell ⟨w3.heap.size, k, none⟩ (.int .u8 c.toNat)) from hA4.setCell (p := ⟨w3.heap.size, k, none⟩) hs3 (vb c)); have hcv2 := string_of (P := Tryd.prog) (src := 30) (dst := 9) Tryd.underlying30 Tryd.underlying5 Tryd.underlying9 HY5.out 12 cap HYL.out; rw [← HT.out] at hcv2; clear hby hA4 hcv0 hX))
    | (go_at_call 8; ((with_reducible refine (I1.out _ (HV.out.below HC5.out)).mono ?_); rintro e w6 ⟨rfl, hX⟩; clear hB; have hY6 := HY5.out.below hX; have hB := bel2 HC5.out hX; have hcv3 := string_of (P := Tryd.prog) (src := 30) (dst := 9) Tryd.underlying30 Tryd.underlying5 Tryd.underlying9 hY6 12 cap HYL.out; rw [← HT.out] at hcv3; have HY6 := Lib.hid hY6; clear hX hY6))
    | (go_at_call 8; ((with_reducible refine (I2.out _ (HV.out.below hB)).mono ?_); rintro e w7 ⟨rfl, hX⟩; replace hB := bel2 hB hX; have HY7 := Lib.hid (HY6.out.below hX)))
    | (go_at_call 8; ((with_reducible refine (I3.out _).mono ?_); rintro e w8 ⟨rfl, hX⟩; replace hB := bel2 hB hX; have HY8 := Lib.hid (HY7.out.below hX))))
  have HS := Lib.hid (fun W (hW : Above w8 W) => string_of (P := Tryd.prog) (src := 30) (dst := 9) Tryd.underlying30 Tryd.underlying5 Tryd.underlying9 (HY8.out.below hW) 12 cap HYL.out)
  rw [← HT.out] at HS
  have hd4 : decide (4 ≤ k) = false := decide_eq_false (by omega)
  have hd4i : decide ((4 : Int) ≤ (k : Int)) = false := decide_eq_false (by omega)
  refine wp_region_below (by kernel_rfl) (by kernel_rfl) ?_
  repeat (first
    | (refine BigFrame.wpQuiet_skip (by rfl) ?_; (try simp only [Act.put, List.setIfInBounds_toArray, List.set_cons_zero, List.set_cons_succ]))
    | (refine BigFrame.wpQuiet_want (by rfl) (fun K hK => ?_); apply Exists.intro; refine ⟨fun W hW => ?_, hK _ ?_⟩; (focus (have hWB : Below _ _ W := hW; have z0 := HS.out _ hW; go_simp; (first | done | with_reducible rfl | (fail) | (rw [if_neg (by omega)]; go_simp; (first | done | with_reducible rfl))))); clear hK K; (try simp only [Act.put, List.setIfInBounds_toArray, List.set_cons_zero, List.set_cons_succ])))
  refine wpQuiet_nil ?_
  intro w9 hB9
  replace hB9 : Below _ _ w9 := hB9
  replace hB := bel2 hB hB9
  clear HS
  go_wp2
  go_ret
  exact ⟨by simp, hB⟩

set_option maxRecDepth 100000 in
set_option maxHeartbeats 2000000 in
theorem names_no010 (id a : Nat) (hid : id < 4294967296) (ha : a < 256) (c : UInt8) (x k : Nat) (hx : x = id % 99999999 + 1) (hk : k = a % 12) (w : World) (hv : VarsOk w) (hn : idM ((nameL x).set k c) = (0, false)) (hs : (nameL x).set k c ≠ nameL x) (h4 : (k : Int) < 4) (h48 : (48 : Int) ≤ (c.toNat : Int)) (h57 : (57 : Int) < (c.toNat : Int)) : Calls Tryd.prog 5 #[.int .u32 id, .int .u8 a, .int .u8 c.toNat] w fun e w' => e = .returned (.bool true) ∧ Below w.heap.size w w' := by
  have hx1 : 1 ≤ x ∧ x ≤ 99999999 := by omega
  have hxi : (id : Int) % 99999999 = (x : Int) - 1 := by omega
  have hx0 : (1 : Int) ≤ (x : Int) := by omega
  have hxm : (x : Int) ≤ 99999999 := by omega
  have hk12 : k < 12 := by omega
  have hka : (a : Int) % 12 = (k : Int) := by omega
  have hk0 : (0 : Int) ≤ (k : Int) := by omega
  have hk1 : (k : Int) < 12 := by omega
  clear hx hk
  have GK := Lib.hid head_known
  have GN := Lib.hid (fun w => name_any (x : Int) w)
  rw [heldN_self hx1.1 hx1.2] at GN
  have hll : (nameL x).length = 12 := nameL_len x
  have hyl : ((nameL x).set k c).length = 12 := by rw [List.length_set]; exact hll
  have hNO : idM (nameL x ++ [48]) = (0, false) := idM_other (fun n _ _ e => by have := congrArg List.length e; simp [nameL_len] at this)
  have hkl : k < (nameL x).length := by rw [hll]; exact hk12
  obtain ⟨ov, hov⟩ : ∃ ov : UInt8, ov = (nameL x)[k] := ⟨_, rfl⟩
  have HOV := Lib.hid hov; have HKL := Lib.hid hkl
  clear hov
  obtain ⟨S, hS⟩ : ∃ S : ByteArray, S = ⟨(nameL x).toArray⟩ := ⟨_, rfl⟩
  obtain ⟨T, hT⟩ : ∃ T : ByteArray, T = ⟨((nameL x).set k c).toArray⟩ := ⟨_, rfl⟩
  have hSl : S.data.toList = nameL x := by rw [hS]
  have hTl : T.data.toList = (nameL x).set k c := by rw [hT]
  have hSz : S.size = 12 := by rw [hS]; exact hll
  have hTz : T.size = 12 := by rw [hT]; exact hyl
  have hEQ : (T.toList == S.toList) = decide ((nameL x).set k c = nameL x) := by
    rw [Bool.eq_iff_iff, decide_eq_true_iff, beq_iff_eq, baEq]
    constructor
    · intro e; rw [← hTl, ← hSl, e]
    · intro e; rw [hS, hT, e]
  have I1 := fun w (h : VarsOk w) => id_any T (by omega) w h
  rw [hTl] at I1
  have I2 := fun w (h : VarsOk w) => id_any (S ++ ⟨#[48]⟩) (by rw [ByteArray.size_append, hSz]; decide) w h
  rw [ba_toList, hSl, show (⟨#[48]⟩ : ByteArray).data.toList = [48] from rfl, hNO] at I2
  have I3 : ∀ w, Gives Tryd.prog 8 #[.string ⟨#[115, 101, 103, 45, 48, 48, 48, 48, 48, 48, 48, 48]⟩] w (.tuple #[.int .i64 0, .bool false]) := fun w => id_good ⟨#[115, 101, 103, 45, 48, 48, 48, 48, 48, 48, 48, 48]⟩ (by decide) 0 (by decide) w
  rw [hn] at I1
  rw [decide_eq_false hs] at hEQ
  clear hs
  clear hn
  have hd8 : decide ((48 : Int) ≤ (c.toNat : Int)) = true := decide_eq_true (by omega)
  have hd7 : decide ((c.toNat : Int) ≤ 57) = false := decide_eq_false (by omega)
  have hn8 : decide (48 ≤ c.toNat) = true := decide_eq_true (by omega)
  have hn7 : decide (c.toNat ≤ 57) = false := decide_eq_false (by omega)
  have HV := Lib.hid hv
  have I1 := Lib.hid I1; have I2 := Lib.hid I2; have I3 := Lib.hid I3; have HYL := Lib.hid hyl; have HT := Lib.hid hT
  have HSL := Lib.hid hSl; have HSz := Lib.hid hSz; have HLL := Lib.hid hll
  rw [← hS] at GN
  have hSi : (S.size : Int) = 12 := by omega
  clear hT hTl hSl hSz hTz hll hyl hS hNO hv hid ha
  go_enter Tryd.func5, Tryd.ntmps5
  go_wp2_with (first
    | (go_at_call 7; ((with_reducible refine (GK.out _).mono ?_); rintro e w1 ⟨rfl, hB⟩))
    | (go_at_call 11; ((with_reducible refine (GN.out _).mono ?_); rintro e w3 ⟨rfl, hX⟩; replace hB := bel2 hB hX; obtain ⟨cap, w4, hcap, hcv0, hB4, hby⟩ := bytes_of (P := Tryd.prog) (src := 9) (dst := 30) Tryd.underlying9 Tryd.underlying30 Tryd.underlying5 S w3; have hcv : (convert 9 30 (.string S)).run Tryd.prog w3 = .ok (.slice (some ⟨w3.heap.size, 0, none⟩) 12 cap) w4 := (by rw [hcv0, HSz.out]); rw [HSL.out] at hby; have hs3 := hB.size; have hA4 := bel2 hB hB4; have hcell : w4.cell? ⟨w3.heap.size, k, none⟩ = some (.int .u8 ov.toNat) := (by rw [HOV.out]; exact hby.cell _ HKL.out); have hfro := hby.frozen _ HKL.out; have HY5 := Lib.hid (show BytesAt (w4.setCell ⟨w3.heap.size, k, none⟩ (.int .u8 c.toNat)) w3.heap.size ((nameL x).set k c) from (hby.set _ HKL.out c)); have HC5 := Lib.hid (show Below w.heap.size w (w4.setCell ⟨w3.heap.size, k, none⟩ (.int .u8 c.toNat)) from hA4.setCell (p := ⟨w3.heap.size, k, none⟩) hs3 (vb c)); have hcv2 := string_of (P := Tryd.prog) (src := 30) (dst := 9) Tryd.underlying30 Tryd.underlying5 Tryd.underlying9 HY5.out 12 cap HYL.out; rw [← HT.out] at hcv2; clear hby hA4 hcv0 hX))
    | (go_at_call 8; ((with_reducible refine (I1.out _ (HV.out.below HC5.out)).mono ?_); rintro e w6 ⟨rfl, hX⟩; clear hB; have hY6 := HY5.out.below hX; have hB := bel2 HC5.out hX; have hcv3 := string_of (P := Tryd.prog) (src := 30) (dst := 9) Tryd.underlying30 Tryd.underlying5 Tryd.underlying9 hY6 12 cap HYL.out; rw [← HT.out] at hcv3; have HY6 := Lib.hid hY6; clear hX hY6))
    | (go_at_call 8; ((with_reducible refine (I2.out _ (HV.out.below hB)).mono ?_); rintro e w7 ⟨rfl, hX⟩; replace hB := bel2 hB hX; have HY7 := Lib.hid (HY6.out.below hX)))
    | (go_at_call 8; ((with_reducible refine (I3.out _).mono ?_); rintro e w8 ⟨rfl, hX⟩; replace hB := bel2 hB hX; have HY8 := Lib.hid (HY7.out.below hX))))
  have HS := Lib.hid (fun W (hW : Above w8 W) => string_of (P := Tryd.prog) (src := 30) (dst := 9) Tryd.underlying30 Tryd.underlying5 Tryd.underlying9 (HY8.out.below hW) 12 cap HYL.out)
  rw [← HT.out] at HS
  have hd4 : decide (4 ≤ k) = false := decide_eq_false (by omega)
  have hd4i : decide ((4 : Int) ≤ (k : Int)) = false := decide_eq_false (by omega)
  refine wp_region_below (by kernel_rfl) (by kernel_rfl) ?_
  repeat (first
    | (refine BigFrame.wpQuiet_skip (by rfl) ?_; (try simp only [Act.put, List.setIfInBounds_toArray, List.set_cons_zero, List.set_cons_succ]))
    | (refine BigFrame.wpQuiet_want (by rfl) (fun K hK => ?_); apply Exists.intro; refine ⟨fun W hW => ?_, hK _ ?_⟩; (focus (have hWB : Below _ _ W := hW; have z0 := HS.out _ hW; go_simp; (first | done | with_reducible rfl | (fail) | (rw [if_neg (by omega)]; go_simp; (first | done | with_reducible rfl))))); clear hK K; (try simp only [Act.put, List.setIfInBounds_toArray, List.set_cons_zero, List.set_cons_succ])))
  refine wpQuiet_nil ?_
  intro w9 hB9
  replace hB9 : Below _ _ w9 := hB9
  replace hB := bel2 hB hB9
  clear HS
  go_wp2
  go_ret
  exact ⟨by simp, hB⟩

set_option maxRecDepth 100000 in
set_option maxHeartbeats 2000000 in
theorem names_no011 (id a : Nat) (hid : id < 4294967296) (ha : a < 256) (c : UInt8) (x k : Nat) (hx : x = id % 99999999 + 1) (hk : k = a % 12) (w : World) (hv : VarsOk w) (hn : idM ((nameL x).set k c) = (0, false)) (hs : (nameL x).set k c ≠ nameL x) (h4 : (k : Int) < 4) (h48 : (48 : Int) ≤ (c.toNat : Int)) (h57 : (c.toNat : Int) ≤ 57) : Calls Tryd.prog 5 #[.int .u32 id, .int .u8 a, .int .u8 c.toNat] w fun e w' => e = .returned (.bool true) ∧ Below w.heap.size w w' := by
  have hx1 : 1 ≤ x ∧ x ≤ 99999999 := by omega
  have hxi : (id : Int) % 99999999 = (x : Int) - 1 := by omega
  have hx0 : (1 : Int) ≤ (x : Int) := by omega
  have hxm : (x : Int) ≤ 99999999 := by omega
  have hk12 : k < 12 := by omega
  have hka : (a : Int) % 12 = (k : Int) := by omega
  have hk0 : (0 : Int) ≤ (k : Int) := by omega
  have hk1 : (k : Int) < 12 := by omega
  clear hx hk
  have GK := Lib.hid head_known
  have GN := Lib.hid (fun w => name_any (x : Int) w)
  rw [heldN_self hx1.1 hx1.2] at GN
  have hll : (nameL x).length = 12 := nameL_len x
  have hyl : ((nameL x).set k c).length = 12 := by rw [List.length_set]; exact hll
  have hNO : idM (nameL x ++ [48]) = (0, false) := idM_other (fun n _ _ e => by have := congrArg List.length e; simp [nameL_len] at this)
  have hkl : k < (nameL x).length := by rw [hll]; exact hk12
  obtain ⟨ov, hov⟩ : ∃ ov : UInt8, ov = (nameL x)[k] := ⟨_, rfl⟩
  have HOV := Lib.hid hov; have HKL := Lib.hid hkl
  clear hov
  obtain ⟨S, hS⟩ : ∃ S : ByteArray, S = ⟨(nameL x).toArray⟩ := ⟨_, rfl⟩
  obtain ⟨T, hT⟩ : ∃ T : ByteArray, T = ⟨((nameL x).set k c).toArray⟩ := ⟨_, rfl⟩
  have hSl : S.data.toList = nameL x := by rw [hS]
  have hTl : T.data.toList = (nameL x).set k c := by rw [hT]
  have hSz : S.size = 12 := by rw [hS]; exact hll
  have hTz : T.size = 12 := by rw [hT]; exact hyl
  have hEQ : (T.toList == S.toList) = decide ((nameL x).set k c = nameL x) := by
    rw [Bool.eq_iff_iff, decide_eq_true_iff, beq_iff_eq, baEq]
    constructor
    · intro e; rw [← hTl, ← hSl, e]
    · intro e; rw [hS, hT, e]
  have I1 := fun w (h : VarsOk w) => id_any T (by omega) w h
  rw [hTl] at I1
  have I2 := fun w (h : VarsOk w) => id_any (S ++ ⟨#[48]⟩) (by rw [ByteArray.size_append, hSz]; decide) w h
  rw [ba_toList, hSl, show (⟨#[48]⟩ : ByteArray).data.toList = [48] from rfl, hNO] at I2
  have I3 : ∀ w, Gives Tryd.prog 8 #[.string ⟨#[115, 101, 103, 45, 48, 48, 48, 48, 48, 48, 48, 48]⟩] w (.tuple #[.int .i64 0, .bool false]) := fun w => id_good ⟨#[115, 101, 103, 45, 48, 48, 48, 48, 48, 48, 48, 48]⟩ (by decide) 0 (by decide) w
  rw [hn] at I1
  rw [decide_eq_false hs] at hEQ
  clear hs
  clear hn
  have hd8 : decide ((48 : Int) ≤ (c.toNat : Int)) = true := decide_eq_true (by omega)
  have hd7 : decide ((c.toNat : Int) ≤ 57) = true := decide_eq_true (by omega)
  have hn8 : decide (48 ≤ c.toNat) = true := decide_eq_true (by omega)
  have hn7 : decide (c.toNat ≤ 57) = true := decide_eq_true (by omega)
  have HV := Lib.hid hv
  have I1 := Lib.hid I1; have I2 := Lib.hid I2; have I3 := Lib.hid I3; have HYL := Lib.hid hyl; have HT := Lib.hid hT
  have HSL := Lib.hid hSl; have HSz := Lib.hid hSz; have HLL := Lib.hid hll
  rw [← hS] at GN
  have hSi : (S.size : Int) = 12 := by omega
  clear hT hTl hSl hSz hTz hll hyl hS hNO hv hid ha
  go_enter Tryd.func5, Tryd.ntmps5
  go_wp2_with (first
    | (go_at_call 7; ((with_reducible refine (GK.out _).mono ?_); rintro e w1 ⟨rfl, hB⟩))
    | (go_at_call 11; ((with_reducible refine (GN.out _).mono ?_); rintro e w3 ⟨rfl, hX⟩; replace hB := bel2 hB hX; obtain ⟨cap, w4, hcap, hcv0, hB4, hby⟩ := bytes_of (P := Tryd.prog) (src := 9) (dst := 30) Tryd.underlying9 Tryd.underlying30 Tryd.underlying5 S w3; have hcv : (convert 9 30 (.string S)).run Tryd.prog w3 = .ok (.slice (some ⟨w3.heap.size, 0, none⟩) 12 cap) w4 := (by rw [hcv0, HSz.out]); rw [HSL.out] at hby; have hs3 := hB.size; have hA4 := bel2 hB hB4; have hcell : w4.cell? ⟨w3.heap.size, k, none⟩ = some (.int .u8 ov.toNat) := (by rw [HOV.out]; exact hby.cell _ HKL.out); have hfro := hby.frozen _ HKL.out; have HY5 := Lib.hid (show BytesAt (w4.setCell ⟨w3.heap.size, k, none⟩ (.int .u8 c.toNat)) w3.heap.size ((nameL x).set k c) from (hby.set _ HKL.out c)); have HC5 := Lib.hid (show Below w.heap.size w (w4.setCell ⟨w3.heap.size, k, none⟩ (.int .u8 c.toNat)) from hA4.setCell (p := ⟨w3.heap.size, k, none⟩) hs3 (vb c)); have hcv2 := string_of (P := Tryd.prog) (src := 30) (dst := 9) Tryd.underlying30 Tryd.underlying5 Tryd.underlying9 HY5.out 12 cap HYL.out; rw [← HT.out] at hcv2; clear hby hA4 hcv0 hX))
    | (go_at_call 8; ((with_reducible refine (I1.out _ (HV.out.below HC5.out)).mono ?_); rintro e w6 ⟨rfl, hX⟩; clear hB; have hY6 := HY5.out.below hX; have hB := bel2 HC5.out hX; have hcv3 := string_of (P := Tryd.prog) (src := 30) (dst := 9) Tryd.underlying30 Tryd.underlying5 Tryd.underlying9 hY6 12 cap HYL.out; rw [← HT.out] at hcv3; have HY6 := Lib.hid hY6; clear hX hY6))
    | (go_at_call 8; ((with_reducible refine (I2.out _ (HV.out.below hB)).mono ?_); rintro e w7 ⟨rfl, hX⟩; replace hB := bel2 hB hX; have HY7 := Lib.hid (HY6.out.below hX)))
    | (go_at_call 8; ((with_reducible refine (I3.out _).mono ?_); rintro e w8 ⟨rfl, hX⟩; replace hB := bel2 hB hX; have HY8 := Lib.hid (HY7.out.below hX))))
  have HS := Lib.hid (fun W (hW : Above w8 W) => string_of (P := Tryd.prog) (src := 30) (dst := 9) Tryd.underlying30 Tryd.underlying5 Tryd.underlying9 (HY8.out.below hW) 12 cap HYL.out)
  rw [← HT.out] at HS
  have hd4 : decide (4 ≤ k) = false := decide_eq_false (by omega)
  have hd4i : decide ((4 : Int) ≤ (k : Int)) = false := decide_eq_false (by omega)
  refine wp_region_below (by kernel_rfl) (by kernel_rfl) ?_
  repeat (first
    | (refine BigFrame.wpQuiet_skip (by rfl) ?_; (try simp only [Act.put, List.setIfInBounds_toArray, List.set_cons_zero, List.set_cons_succ]))
    | (refine BigFrame.wpQuiet_want (by rfl) (fun K hK => ?_); apply Exists.intro; refine ⟨fun W hW => ?_, hK _ ?_⟩; (focus (have hWB : Below _ _ W := hW; have z0 := HS.out _ hW; go_simp; (first | done | with_reducible rfl | (fail) | (rw [if_neg (by omega)]; go_simp; (first | done | with_reducible rfl))))); clear hK K; (try simp only [Act.put, List.setIfInBounds_toArray, List.set_cons_zero, List.set_cons_succ])))
  refine wpQuiet_nil ?_
  intro w9 hB9
  replace hB9 : Below _ _ w9 := hB9
  replace hB := bel2 hB hB9
  clear HS
  go_wp2
  go_ret
  exact ⟨by simp, hB⟩

set_option maxRecDepth 100000 in
set_option maxHeartbeats 2000000 in
theorem names_no101 (id a : Nat) (hid : id < 4294967296) (ha : a < 256) (c : UInt8) (x k : Nat) (hx : x = id % 99999999 + 1) (hk : k = a % 12) (w : World) (hv : VarsOk w) (hn : idM ((nameL x).set k c) = (0, false)) (hs : (nameL x).set k c ≠ nameL x) (h4 : (4 : Int) ≤ (k : Int)) (h48 : (c.toNat : Int) < 48) (h57 : (c.toNat : Int) ≤ 57) : Calls Tryd.prog 5 #[.int .u32 id, .int .u8 a, .int .u8 c.toNat] w fun e w' => e = .returned (.bool true) ∧ Below w.heap.size w w' := by
  have hx1 : 1 ≤ x ∧ x ≤ 99999999 := by omega
  have hxi : (id : Int) % 99999999 = (x : Int) - 1 := by omega
  have hx0 : (1 : Int) ≤ (x : Int) := by omega
  have hxm : (x : Int) ≤ 99999999 := by omega
  have hk12 : k < 12 := by omega
  have hka : (a : Int) % 12 = (k : Int) := by omega
  have hk0 : (0 : Int) ≤ (k : Int) := by omega
  have hk1 : (k : Int) < 12 := by omega
  clear hx hk
  have GK := Lib.hid head_known
  have GN := Lib.hid (fun w => name_any (x : Int) w)
  rw [heldN_self hx1.1 hx1.2] at GN
  have hll : (nameL x).length = 12 := nameL_len x
  have hyl : ((nameL x).set k c).length = 12 := by rw [List.length_set]; exact hll
  have hNO : idM (nameL x ++ [48]) = (0, false) := idM_other (fun n _ _ e => by have := congrArg List.length e; simp [nameL_len] at this)
  have hkl : k < (nameL x).length := by rw [hll]; exact hk12
  obtain ⟨ov, hov⟩ : ∃ ov : UInt8, ov = (nameL x)[k] := ⟨_, rfl⟩
  have HOV := Lib.hid hov; have HKL := Lib.hid hkl
  clear hov
  obtain ⟨S, hS⟩ : ∃ S : ByteArray, S = ⟨(nameL x).toArray⟩ := ⟨_, rfl⟩
  obtain ⟨T, hT⟩ : ∃ T : ByteArray, T = ⟨((nameL x).set k c).toArray⟩ := ⟨_, rfl⟩
  have hSl : S.data.toList = nameL x := by rw [hS]
  have hTl : T.data.toList = (nameL x).set k c := by rw [hT]
  have hSz : S.size = 12 := by rw [hS]; exact hll
  have hTz : T.size = 12 := by rw [hT]; exact hyl
  have hEQ : (T.toList == S.toList) = decide ((nameL x).set k c = nameL x) := by
    rw [Bool.eq_iff_iff, decide_eq_true_iff, beq_iff_eq, baEq]
    constructor
    · intro e; rw [← hTl, ← hSl, e]
    · intro e; rw [hS, hT, e]
  have I1 := fun w (h : VarsOk w) => id_any T (by omega) w h
  rw [hTl] at I1
  have I2 := fun w (h : VarsOk w) => id_any (S ++ ⟨#[48]⟩) (by rw [ByteArray.size_append, hSz]; decide) w h
  rw [ba_toList, hSl, show (⟨#[48]⟩ : ByteArray).data.toList = [48] from rfl, hNO] at I2
  have I3 : ∀ w, Gives Tryd.prog 8 #[.string ⟨#[115, 101, 103, 45, 48, 48, 48, 48, 48, 48, 48, 48]⟩] w (.tuple #[.int .i64 0, .bool false]) := fun w => id_good ⟨#[115, 101, 103, 45, 48, 48, 48, 48, 48, 48, 48, 48]⟩ (by decide) 0 (by decide) w
  rw [hn] at I1
  rw [decide_eq_false hs] at hEQ
  clear hs
  clear hn
  have hd8 : decide ((48 : Int) ≤ (c.toNat : Int)) = false := decide_eq_false (by omega)
  have hd7 : decide ((c.toNat : Int) ≤ 57) = true := decide_eq_true (by omega)
  have hn8 : decide (48 ≤ c.toNat) = false := decide_eq_false (by omega)
  have hn7 : decide (c.toNat ≤ 57) = true := decide_eq_true (by omega)
  have HV := Lib.hid hv
  have I1 := Lib.hid I1; have I2 := Lib.hid I2; have I3 := Lib.hid I3; have HYL := Lib.hid hyl; have HT := Lib.hid hT
  have HSL := Lib.hid hSl; have HSz := Lib.hid hSz; have HLL := Lib.hid hll
  rw [← hS] at GN
  have hSi : (S.size : Int) = 12 := by omega
  clear hT hTl hSl hSz hTz hll hyl hS hNO hv hid ha
  go_enter Tryd.func5, Tryd.ntmps5
  go_wp2_with (first
    | (go_at_call 7; ((with_reducible refine (GK.out _).mono ?_); rintro e w1 ⟨rfl, hB⟩))
    | (go_at_call 11; ((with_reducible refine (GN.out _).mono ?_); rintro e w3 ⟨rfl, hX⟩; replace hB := bel2 hB hX; obtain ⟨cap, w4, hcap, hcv0, hB4, hby⟩ := bytes_of (P := Tryd.prog) (src := 9) (dst := 30) Tryd.underlying9 Tryd.underlying30 Tryd.underlying5 S w3; have hcv : (convert 9 30 (.string S)).run Tryd.prog w3 = .ok (.slice (some ⟨w3.heap.size, 0, none⟩) 12 cap) w4 := (by rw [hcv0, HSz.out]); rw [HSL.out] at hby; have hs3 := hB.size; have hA4 := bel2 hB hB4; have hcell : w4.cell? ⟨w3.heap.size, k, none⟩ = some (.int .u8 ov.toNat) := (by rw [HOV.out]; exact hby.cell _ HKL.out); have hfro := hby.frozen _ HKL.out; have HY5 := Lib.hid (show BytesAt (w4.setCell ⟨w3.heap.size, k, none⟩ (.int .u8 c.toNat)) w3.heap.size ((nameL x).set k c) from (hby.set _ HKL.out c)); have HC5 := Lib.hid (show Below w.heap.size w (w4.setCell ⟨w3.heap.size, k, none⟩ (.int .u8 c.toNat)) from hA4.setCell (p := ⟨w3.heap.size, k, none⟩) hs3 (vb c)); have hcv2 := string_of (P := Tryd.prog) (src := 30) (dst := 9) Tryd.underlying30 Tryd.underlying5 Tryd.underlying9 HY5.out 12 cap HYL.out; rw [← HT.out] at hcv2; clear hby hA4 hcv0 hX))
    | (go_at_call 8; ((with_reducible refine (I1.out _ (HV.out.below HC5.out)).mono ?_); rintro e w6 ⟨rfl, hX⟩; clear hB; have hY6 := HY5.out.below hX; have hB := bel2 HC5.out hX; have hcv3 := string_of (P := Tryd.prog) (src := 30) (dst := 9) Tryd.underlying30 Tryd.underlying5 Tryd.underlying9 hY6 12 cap HYL.out; rw [← HT.out] at hcv3; have HY6 := Lib.hid hY6; clear hX hY6))
    | (go_at_call 8; ((with_reducible refine (I2.out _ (HV.out.below hB)).mono ?_); rintro e w7 ⟨rfl, hX⟩; replace hB := bel2 hB hX; have HY7 := Lib.hid (HY6.out.below hX)))
    | (go_at_call 8; ((with_reducible refine (I3.out _).mono ?_); rintro e w8 ⟨rfl, hX⟩; replace hB := bel2 hB hX; have HY8 := Lib.hid (HY7.out.below hX))))
  have HS := Lib.hid (fun W (hW : Above w8 W) => string_of (P := Tryd.prog) (src := 30) (dst := 9) Tryd.underlying30 Tryd.underlying5 Tryd.underlying9 (HY8.out.below hW) 12 cap HYL.out)
  rw [← HT.out] at HS
  have hd4 : decide (4 ≤ k) = true := decide_eq_true (by omega)
  refine wp_region_below (by kernel_rfl) (by kernel_rfl) ?_
  repeat (first
    | (refine BigFrame.wpQuiet_skip (by rfl) ?_; (try simp only [Act.put, List.setIfInBounds_toArray, List.set_cons_zero, List.set_cons_succ]))
    | (refine BigFrame.wpQuiet_want (by rfl) (fun K hK => ?_); apply Exists.intro; refine ⟨fun W hW => ?_, hK _ ?_⟩; (focus (have hWB : Below _ _ W := hW; have z0 := HS.out _ hW; go_simp; (first | done | with_reducible rfl | (fail) | (rw [if_neg (by omega)]; go_simp; (first | done | with_reducible rfl))))); clear hK K; (try simp only [Act.put, List.setIfInBounds_toArray, List.set_cons_zero, List.set_cons_succ])))
  refine wpQuiet_nil ?_
  intro w9 hB9
  replace hB9 : Below _ _ w9 := hB9
  replace hB := bel2 hB hB9
  clear HS
  go_wp2
  go_ret
  exact ⟨by simp, hB⟩

set_option maxRecDepth 100000 in
set_option maxHeartbeats 2000000 in
theorem names_no110 (id a : Nat) (hid : id < 4294967296) (ha : a < 256) (c : UInt8) (x k : Nat) (hx : x = id % 99999999 + 1) (hk : k = a % 12) (w : World) (hv : VarsOk w) (hn : idM ((nameL x).set k c) = (0, false)) (hs : (nameL x).set k c ≠ nameL x) (h4 : (4 : Int) ≤ (k : Int)) (h48 : (48 : Int) ≤ (c.toNat : Int)) (h57 : (57 : Int) < (c.toNat : Int)) : Calls Tryd.prog 5 #[.int .u32 id, .int .u8 a, .int .u8 c.toNat] w fun e w' => e = .returned (.bool true) ∧ Below w.heap.size w w' := by
  have hx1 : 1 ≤ x ∧ x ≤ 99999999 := by omega
  have hxi : (id : Int) % 99999999 = (x : Int) - 1 := by omega
  have hx0 : (1 : Int) ≤ (x : Int) := by omega
  have hxm : (x : Int) ≤ 99999999 := by omega
  have hk12 : k < 12 := by omega
  have hka : (a : Int) % 12 = (k : Int) := by omega
  have hk0 : (0 : Int) ≤ (k : Int) := by omega
  have hk1 : (k : Int) < 12 := by omega
  clear hx hk
  have GK := Lib.hid head_known
  have GN := Lib.hid (fun w => name_any (x : Int) w)
  rw [heldN_self hx1.1 hx1.2] at GN
  have hll : (nameL x).length = 12 := nameL_len x
  have hyl : ((nameL x).set k c).length = 12 := by rw [List.length_set]; exact hll
  have hNO : idM (nameL x ++ [48]) = (0, false) := idM_other (fun n _ _ e => by have := congrArg List.length e; simp [nameL_len] at this)
  have hkl : k < (nameL x).length := by rw [hll]; exact hk12
  obtain ⟨ov, hov⟩ : ∃ ov : UInt8, ov = (nameL x)[k] := ⟨_, rfl⟩
  have HOV := Lib.hid hov; have HKL := Lib.hid hkl
  clear hov
  obtain ⟨S, hS⟩ : ∃ S : ByteArray, S = ⟨(nameL x).toArray⟩ := ⟨_, rfl⟩
  obtain ⟨T, hT⟩ : ∃ T : ByteArray, T = ⟨((nameL x).set k c).toArray⟩ := ⟨_, rfl⟩
  have hSl : S.data.toList = nameL x := by rw [hS]
  have hTl : T.data.toList = (nameL x).set k c := by rw [hT]
  have hSz : S.size = 12 := by rw [hS]; exact hll
  have hTz : T.size = 12 := by rw [hT]; exact hyl
  have hEQ : (T.toList == S.toList) = decide ((nameL x).set k c = nameL x) := by
    rw [Bool.eq_iff_iff, decide_eq_true_iff, beq_iff_eq, baEq]
    constructor
    · intro e; rw [← hTl, ← hSl, e]
    · intro e; rw [hS, hT, e]
  have I1 := fun w (h : VarsOk w) => id_any T (by omega) w h
  rw [hTl] at I1
  have I2 := fun w (h : VarsOk w) => id_any (S ++ ⟨#[48]⟩) (by rw [ByteArray.size_append, hSz]; decide) w h
  rw [ba_toList, hSl, show (⟨#[48]⟩ : ByteArray).data.toList = [48] from rfl, hNO] at I2
  have I3 : ∀ w, Gives Tryd.prog 8 #[.string ⟨#[115, 101, 103, 45, 48, 48, 48, 48, 48, 48, 48, 48]⟩] w (.tuple #[.int .i64 0, .bool false]) := fun w => id_good ⟨#[115, 101, 103, 45, 48, 48, 48, 48, 48, 48, 48, 48]⟩ (by decide) 0 (by decide) w
  rw [hn] at I1
  rw [decide_eq_false hs] at hEQ
  clear hs
  clear hn
  have hd8 : decide ((48 : Int) ≤ (c.toNat : Int)) = true := decide_eq_true (by omega)
  have hd7 : decide ((c.toNat : Int) ≤ 57) = false := decide_eq_false (by omega)
  have hn8 : decide (48 ≤ c.toNat) = true := decide_eq_true (by omega)
  have hn7 : decide (c.toNat ≤ 57) = false := decide_eq_false (by omega)
  have HV := Lib.hid hv
  have I1 := Lib.hid I1; have I2 := Lib.hid I2; have I3 := Lib.hid I3; have HYL := Lib.hid hyl; have HT := Lib.hid hT
  have HSL := Lib.hid hSl; have HSz := Lib.hid hSz; have HLL := Lib.hid hll
  rw [← hS] at GN
  have hSi : (S.size : Int) = 12 := by omega
  clear hT hTl hSl hSz hTz hll hyl hS hNO hv hid ha
  go_enter Tryd.func5, Tryd.ntmps5
  go_wp2_with (first
    | (go_at_call 7; ((with_reducible refine (GK.out _).mono ?_); rintro e w1 ⟨rfl, hB⟩))
    | (go_at_call 11; ((with_reducible refine (GN.out _).mono ?_); rintro e w3 ⟨rfl, hX⟩; replace hB := bel2 hB hX; obtain ⟨cap, w4, hcap, hcv0, hB4, hby⟩ := bytes_of (P := Tryd.prog) (src := 9) (dst := 30) Tryd.underlying9 Tryd.underlying30 Tryd.underlying5 S w3; have hcv : (convert 9 30 (.string S)).run Tryd.prog w3 = .ok (.slice (some ⟨w3.heap.size, 0, none⟩) 12 cap) w4 := (by rw [hcv0, HSz.out]); rw [HSL.out] at hby; have hs3 := hB.size; have hA4 := bel2 hB hB4; have hcell : w4.cell? ⟨w3.heap.size, k, none⟩ = some (.int .u8 ov.toNat) := (by rw [HOV.out]; exact hby.cell _ HKL.out); have hfro := hby.frozen _ HKL.out; have HY5 := Lib.hid (show BytesAt (w4.setCell ⟨w3.heap.size, k, none⟩ (.int .u8 c.toNat)) w3.heap.size ((nameL x).set k c) from (hby.set _ HKL.out c)); have HC5 := Lib.hid (show Below w.heap.size w (w4.setCell ⟨w3.heap.size, k, none⟩ (.int .u8 c.toNat)) from hA4.setCell (p := ⟨w3.heap.size, k, none⟩) hs3 (vb c)); have hcv2 := string_of (P := Tryd.prog) (src := 30) (dst := 9) Tryd.underlying30 Tryd.underlying5 Tryd.underlying9 HY5.out 12 cap HYL.out; rw [← HT.out] at hcv2; clear hby hA4 hcv0 hX))
    | (go_at_call 8; ((with_reducible refine (I1.out _ (HV.out.below HC5.out)).mono ?_); rintro e w6 ⟨rfl, hX⟩; clear hB; have hY6 := HY5.out.below hX; have hB := bel2 HC5.out hX; have hcv3 := string_of (P := Tryd.prog) (src := 30) (dst := 9) Tryd.underlying30 Tryd.underlying5 Tryd.underlying9 hY6 12 cap HYL.out; rw [← HT.out] at hcv3; have HY6 := Lib.hid hY6; clear hX hY6))
    | (go_at_call 8; ((with_reducible refine (I2.out _ (HV.out.below hB)).mono ?_); rintro e w7 ⟨rfl, hX⟩; replace hB := bel2 hB hX; have HY7 := Lib.hid (HY6.out.below hX)))
    | (go_at_call 8; ((with_reducible refine (I3.out _).mono ?_); rintro e w8 ⟨rfl, hX⟩; replace hB := bel2 hB hX; have HY8 := Lib.hid (HY7.out.below hX))))
  have HS := Lib.hid (fun W (hW : Above w8 W) => string_of (P := Tryd.prog) (src := 30) (dst := 9) Tryd.underlying30 Tryd.underlying5 Tryd.underlying9 (HY8.out.below hW) 12 cap HYL.out)
  rw [← HT.out] at HS
  have hd4 : decide (4 ≤ k) = true := decide_eq_true (by omega)
  refine wp_region_below (by kernel_rfl) (by kernel_rfl) ?_
  repeat (first
    | (refine BigFrame.wpQuiet_skip (by rfl) ?_; (try simp only [Act.put, List.setIfInBounds_toArray, List.set_cons_zero, List.set_cons_succ]))
    | (refine BigFrame.wpQuiet_want (by rfl) (fun K hK => ?_); apply Exists.intro; refine ⟨fun W hW => ?_, hK _ ?_⟩; (focus (have hWB : Below _ _ W := hW; have z0 := HS.out _ hW; go_simp; (first | done | with_reducible rfl | (fail) | (rw [if_neg (by omega)]; go_simp; (first | done | with_reducible rfl))))); clear hK K; (try simp only [Act.put, List.setIfInBounds_toArray, List.set_cons_zero, List.set_cons_succ])))
  refine wpQuiet_nil ?_
  intro w9 hB9
  replace hB9 : Below _ _ w9 := hB9
  replace hB := bel2 hB hB9
  clear HS
  go_wp2
  go_ret
  exact ⟨by simp, hB⟩

set_option maxRecDepth 100000 in
set_option maxHeartbeats 2000000 in
theorem names_no111 (id a : Nat) (hid : id < 4294967296) (ha : a < 256) (c : UInt8) (x k : Nat) (hx : x = id % 99999999 + 1) (hk : k = a % 12) (w : World) (hv : VarsOk w) (hn : idM ((nameL x).set k c) = (0, false)) (hs : (nameL x).set k c ≠ nameL x) (h4 : (4 : Int) ≤ (k : Int)) (h48 : (48 : Int) ≤ (c.toNat : Int)) (h57 : (c.toNat : Int) ≤ 57) : Calls Tryd.prog 5 #[.int .u32 id, .int .u8 a, .int .u8 c.toNat] w fun e w' => e = .returned (.bool true) ∧ Below w.heap.size w w' := by
  have hx1 : 1 ≤ x ∧ x ≤ 99999999 := by omega
  have hxi : (id : Int) % 99999999 = (x : Int) - 1 := by omega
  have hx0 : (1 : Int) ≤ (x : Int) := by omega
  have hxm : (x : Int) ≤ 99999999 := by omega
  have hk12 : k < 12 := by omega
  have hka : (a : Int) % 12 = (k : Int) := by omega
  have hk0 : (0 : Int) ≤ (k : Int) := by omega
  have hk1 : (k : Int) < 12 := by omega
  clear hx hk
  have GK := Lib.hid head_known
  have GN := Lib.hid (fun w => name_any (x : Int) w)
  rw [heldN_self hx1.1 hx1.2] at GN
  have hll : (nameL x).length = 12 := nameL_len x
  have hyl : ((nameL x).set k c).length = 12 := by rw [List.length_set]; exact hll
  have hNO : idM (nameL x ++ [48]) = (0, false) := idM_other (fun n _ _ e => by have := congrArg List.length e; simp [nameL_len] at this)
  have hkl : k < (nameL x).length := by rw [hll]; exact hk12
  obtain ⟨ov, hov⟩ : ∃ ov : UInt8, ov = (nameL x)[k] := ⟨_, rfl⟩
  have HOV := Lib.hid hov; have HKL := Lib.hid hkl
  clear hov
  obtain ⟨S, hS⟩ : ∃ S : ByteArray, S = ⟨(nameL x).toArray⟩ := ⟨_, rfl⟩
  obtain ⟨T, hT⟩ : ∃ T : ByteArray, T = ⟨((nameL x).set k c).toArray⟩ := ⟨_, rfl⟩
  have hSl : S.data.toList = nameL x := by rw [hS]
  have hTl : T.data.toList = (nameL x).set k c := by rw [hT]
  have hSz : S.size = 12 := by rw [hS]; exact hll
  have hTz : T.size = 12 := by rw [hT]; exact hyl
  have hEQ : (T.toList == S.toList) = decide ((nameL x).set k c = nameL x) := by
    rw [Bool.eq_iff_iff, decide_eq_true_iff, beq_iff_eq, baEq]
    constructor
    · intro e; rw [← hTl, ← hSl, e]
    · intro e; rw [hS, hT, e]
  have I1 := fun w (h : VarsOk w) => id_any T (by omega) w h
  rw [hTl] at I1
  have I2 := fun w (h : VarsOk w) => id_any (S ++ ⟨#[48]⟩) (by rw [ByteArray.size_append, hSz]; decide) w h
  rw [ba_toList, hSl, show (⟨#[48]⟩ : ByteArray).data.toList = [48] from rfl, hNO] at I2
  have I3 : ∀ w, Gives Tryd.prog 8 #[.string ⟨#[115, 101, 103, 45, 48, 48, 48, 48, 48, 48, 48, 48]⟩] w (.tuple #[.int .i64 0, .bool false]) := fun w => id_good ⟨#[115, 101, 103, 45, 48, 48, 48, 48, 48, 48, 48, 48]⟩ (by decide) 0 (by decide) w
  rw [hn] at I1
  rw [decide_eq_false hs] at hEQ
  clear hs
  clear hn
  have hd8 : decide ((48 : Int) ≤ (c.toNat : Int)) = true := decide_eq_true (by omega)
  have hd7 : decide ((c.toNat : Int) ≤ 57) = true := decide_eq_true (by omega)
  have hn8 : decide (48 ≤ c.toNat) = true := decide_eq_true (by omega)
  have hn7 : decide (c.toNat ≤ 57) = true := decide_eq_true (by omega)
  have HV := Lib.hid hv
  have I1 := Lib.hid I1; have I2 := Lib.hid I2; have I3 := Lib.hid I3; have HYL := Lib.hid hyl; have HT := Lib.hid hT
  have HSL := Lib.hid hSl; have HSz := Lib.hid hSz; have HLL := Lib.hid hll
  rw [← hS] at GN
  have hSi : (S.size : Int) = 12 := by omega
  clear hT hTl hSl hSz hTz hll hyl hS hNO hv hid ha
  go_enter Tryd.func5, Tryd.ntmps5
  go_wp2_with (first
    | (go_at_call 7; ((with_reducible refine (GK.out _).mono ?_); rintro e w1 ⟨rfl, hB⟩))
    | (go_at_call 11; ((with_reducible refine (GN.out _).mono ?_); rintro e w3 ⟨rfl, hX⟩; replace hB := bel2 hB hX; obtain ⟨cap, w4, hcap, hcv0, hB4, hby⟩ := bytes_of (P := Tryd.prog) (src := 9) (dst := 30) Tryd.underlying9 Tryd.underlying30 Tryd.underlying5 S w3; have hcv : (convert 9 30 (.string S)).run Tryd.prog w3 = .ok (.slice (some ⟨w3.heap.size, 0, none⟩) 12 cap) w4 := (by rw [hcv0, HSz.out]); rw [HSL.out] at hby; have hs3 := hB.size; have hA4 := bel2 hB hB4; have hcell : w4.cell? ⟨w3.heap.size, k, none⟩ = some (.int .u8 ov.toNat) := (by rw [HOV.out]; exact hby.cell _ HKL.out); have hfro := hby.frozen _ HKL.out; have HY5 := Lib.hid (show BytesAt (w4.setCell ⟨w3.heap.size, k, none⟩ (.int .u8 c.toNat)) w3.heap.size ((nameL x).set k c) from (hby.set _ HKL.out c)); have HC5 := Lib.hid (show Below w.heap.size w (w4.setCell ⟨w3.heap.size, k, none⟩ (.int .u8 c.toNat)) from hA4.setCell (p := ⟨w3.heap.size, k, none⟩) hs3 (vb c)); have hcv2 := string_of (P := Tryd.prog) (src := 30) (dst := 9) Tryd.underlying30 Tryd.underlying5 Tryd.underlying9 HY5.out 12 cap HYL.out; rw [← HT.out] at hcv2; clear hby hA4 hcv0 hX))
    | (go_at_call 8; ((with_reducible refine (I1.out _ (HV.out.below HC5.out)).mono ?_); rintro e w6 ⟨rfl, hX⟩; clear hB; have hY6 := HY5.out.below hX; have hB := bel2 HC5.out hX; have hcv3 := string_of (P := Tryd.prog) (src := 30) (dst := 9) Tryd.underlying30 Tryd.underlying5 Tryd.underlying9 hY6 12 cap HYL.out; rw [← HT.out] at hcv3; have HY6 := Lib.hid hY6; clear hX hY6))
    | (go_at_call 8; ((with_reducible refine (I2.out _ (HV.out.below hB)).mono ?_); rintro e w7 ⟨rfl, hX⟩; replace hB := bel2 hB hX; have HY7 := Lib.hid (HY6.out.below hX)))
    | (go_at_call 8; ((with_reducible refine (I3.out _).mono ?_); rintro e w8 ⟨rfl, hX⟩; replace hB := bel2 hB hX; have HY8 := Lib.hid (HY7.out.below hX))))
  have HS := Lib.hid (fun W (hW : Above w8 W) => string_of (P := Tryd.prog) (src := 30) (dst := 9) Tryd.underlying30 Tryd.underlying5 Tryd.underlying9 (HY8.out.below hW) 12 cap HYL.out)
  rw [← HT.out] at HS
  have hd4 : decide (4 ≤ k) = true := decide_eq_true (by omega)
  refine wp_region_below (by kernel_rfl) (by kernel_rfl) ?_
  repeat (first
    | (refine BigFrame.wpQuiet_skip (by rfl) ?_; (try simp only [Act.put, List.setIfInBounds_toArray, List.set_cons_zero, List.set_cons_succ]))
    | (refine BigFrame.wpQuiet_want (by rfl) (fun K hK => ?_); apply Exists.intro; refine ⟨fun W hW => ?_, hK _ ?_⟩; (focus (have hWB : Below _ _ W := hW; have z0 := HS.out _ hW; go_simp; (first | done | with_reducible rfl | (fail) | (rw [if_neg (by omega)]; go_simp; (first | done | with_reducible rfl))))); clear hK K; (try simp only [Act.put, List.setIfInBounds_toArray, List.set_cons_zero, List.set_cons_succ])))
  refine wpQuiet_nil ?_
  intro w9 hB9
  replace hB9 : Below _ _ w9 := hB9
  replace hB := bel2 hB hB9
  clear HS
  go_wp2
  go_ret
  exact ⟨by simp, hB⟩

theorem name_at {x n k : Nat} {c : UInt8} (hk : k < 12) (h : (nameL x).set k c = nameL n) (hs : (nameL x).set k c ≠ nameL x) : 4 ≤ k ∧ isDig c = true := by
  have hc : (nameL n)[k]? = some c := by rw [← h]; rw [List.getElem?_set_self (by rw [nameL_len]; exact hk)]
  by_cases h4 : 4 ≤ k
  · refine ⟨h4, ?_⟩
    have hm : c ∈ digL n := by
      have : (nameL n)[k]? = (digL n)[k - 4]? := by unfold nameL; rw [List.getElem?_append_right (by show 4 ≤ k; exact h4)]; rfl
      rw [this] at hc
      exact List.mem_of_getElem? hc
    simp only [digL, List.mem_cons, List.not_mem_nil, or_false] at hm
    rcases hm with rfl | rfl | rfl | rfl | rfl | rfl | rfl | rfl <;> exact dg_isDig _ _
  · refine absurd ?_ hs
    have : (nameL x)[k]? = (nameL n)[k]? := by unfold nameL; rw [List.getElem?_append_left (by show k < 4; omega), List.getElem?_append_left (by show k < 4; omega)]
    rw [hc] at this
    obtain ⟨hl, he⟩ := List.getElem?_eq_some_iff.1 this
    rw [← he]
    exact List.set_getElem_self hl
theorem walk (id : Nat) (hid : id < 4294967296) (a : Nat) (ha : a < 256) (c0 : Nat) (hc : c0 < 256) (w : World) (hv : VarsOk w) :
    Calls Tryd.prog 5 #[.int .u32 id, .int .u8 a, .int .u8 c0] w fun e w' => e = .returned (.bool true) ∧ Below w.heap.size w w' := by
  obtain ⟨c, rfl⟩ : ∃ c : UInt8, c0 = c.toNat := ⟨UInt8.ofNat c0, by rw [UInt8.toNat_ofNat']; omega⟩
  obtain ⟨x, hx⟩ : ∃ x, x = id % 99999999 + 1 := ⟨_, rfl⟩
  obtain ⟨k, hk⟩ : ∃ k, k = a % 12 := ⟨_, rfl⟩
  by_cases hs : (nameL x).set k c = nameL x
  · exact names_same id a hid ha c x k hx hk w hv hs
  rcases idM_cases ((nameL x).set k c) with ⟨n, h1, h2, h, _⟩ | ⟨_, h⟩
  · obtain ⟨h4, hd⟩ := name_at (by omega) h hs
    simp only [isDig, Bool.and_eq_true, decide_eq_true_eq] at hd
    exact names_yes id a hid ha c x k hx hk w hv n h1 h2 h hs (by omega) (by omega) (by omega)
  · by_cases h4 : 4 ≤ k <;> by_cases h48 : 48 ≤ c.toNat <;> by_cases h57 : c.toNat ≤ 57
    · exact names_no111 id a hid ha c x k hx hk w hv h hs (by omega) (by omega) (by omega)
    · exact names_no110 id a hid ha c x k hx hk w hv h hs (by omega) (by omega) (by omega)
    · exact names_no101 id a hid ha c x k hx hk w hv h hs (by omega) (by omega) (by omega)
    · omega
    · exact names_no011 id a hid ha c x k hx hk w hv h hs (by omega) (by omega) (by omega)
    · exact names_no010 id a hid ha c x k hx hk w hv h hs (by omega) (by omega) (by omega)
    · exact names_no001 id a hid ha c x k hx hk w hv h hs (by omega) (by omega) (by omega)
    · omega

/-- The door's own heap meets what the row lists. -/
theorem door_met (os : Os) (args : Array Value) : laidMetH Tryd.prog Rows.headNamesRow.laid ((World.doorLaid Tryd.prog 400 os).forCall (fun _ _ => 0) ⟨#[], args, []⟩).memory :=
  laidMetH_of_parts3 (fuel := 8) (laidMet_of_run' 8 (by kernel_rfl) (by kernel_rfl)) (by kernel_rfl) (by kernel_rfl)
set_option maxRecDepth 100000 in
theorem lifted (os : Os) (started : os.Started) (H : Type) (enc : TypeId × Value → H) :
    ReturnsInHanded {} Tryd.checked os 5 .any (fun w args => (Rows.headNamesSpec.pre enc Tryd.prog Tryd.f5 [] false w args ∧ laidMetH Tryd.prog Rows.headNamesRow.laid w) ∧ sizedMet enc Tryd.prog Tryd.f5 (OpenSpec.ofChange Rows.headNamesSpec) false w args) (Rows.headNamesSpec.post enc Tryd.prog Tryd.f5 false true false false) := by
  refine returnsInHanded_of_change_and (C := Tryd.checked) (X := fun w _ => laidMetH Tryd.prog Rows.headNamesRow.laid w) (fun _ _ _ hh h => h.of_heap hh) Tryd.own started (by kernel_rfl) Tryd.func5
    (ChangeSpec.witness_shaped (enc := enc) (C := Tryd.checked) (os := os) (X := fun w _ => laidMetH Tryd.prog Rows.headNamesRow.laid w) false (World.doorLaid Tryd.prog 400 os) #[.int .u32 0, .int .u8 0, .int .u8 0] 8 rfl (World.shaped_of_RefB (by kernel_rfl) (by kernel_rfl)) (by kernel_rfl) (by kernel_rfl) (by kernel_rfl) (door_met os _)) ?_
  intro W base args ds gs before hval hW _ _ hL _
  have hVar : VarsOk W := by rw [MakeChecks.laidMetH_plain _ _ _ (by kernel_rfl)] at hL; exact vars_of hL
  refine law_contract (T := 4) (n := 3) Tryd.laid Tryd.underlying4 rfl rfl ⟨rfl, fun H ds h => by match ds, h with | [_, _, _], _ => rfl⟩ (of_all (by kernel_rfl)) hW ?_
  intro ps hA
  rw [Tryd.params5] at hA hval
  obtain ⟨v0, vs0, d0, ds0, p0, q0, hargs, rfl, rfl, h0, r0⟩ := trodAll_cons hA
  obtain ⟨v1, vs1, d1, ds1, p1, q1, rfl, rfl, rfl, h1, r1⟩ := trodAll_cons r0
  obtain ⟨v2, vs2, d2, ds2, p2, q2, rfl, rfl, rfl, h2, r2⟩ := trodAll_cons r1
  obtain ⟨rfl, rfl, rfl⟩ := trodAll_nil r2
  obtain rfl : args = #[v0, v1, v2] := by cases args; simp_all
  obtain ⟨a0, rfl, rfl, rfl, w0⟩ := open_int Tryd.underlying28 (hval 0 28 v0 rfl rfl) h0
  obtain ⟨a1, rfl, rfl, rfl, w1⟩ := open_int Tryd.underlying5 (hval 1 5 v1 rfl rfl) h1
  obtain ⟨a2, rfl, rfl, rfl, w2⟩ := open_int Tryd.underlying5 (hval 2 5 v2 rfl rfl) h2
  obtain ⟨n0, rfl, b0⟩ := nat_of_u32 w0
  obtain ⟨n1, rfl, b1⟩ := nat_of_u8 w1
  obtain ⟨n2, rfl, b2⟩ := nat_of_u8 w2
  exact walk n0 b0 n1 b1 n2 b2 W hVar

theorem bare : Rows.HeadNamesSaid :=
  OpenClaim.holds_of_wide 5 Tryd.f5 rfl rfl rfl rfl rfl rfl rfl ⟨rfl, rfl, rfl, rfl, rfl⟩ rfl rfl rfl rfl rfl (by kernel_rfl) Tryd.func5 (by kernel_rfl)
    (of_decide_eq_true (by kernel_rfl)) (by unfold Func.isWrapper; first | (rw [if_pos (by decide +kernel)]; kernel_rfl) | (rw [if_neg (by decide +kernel)]; exact ⟨rfl, rfl⟩))
    (fun os started H enc _ => lifted os started H enc)

theorem holds : Rows.HeadNamesCardSaid :=
  Claim7.holds_tied_plain_at .later [] _ true _ true bare (fun _ h => by cases h) (by kernel_rfl) (fun _ h => by cases h) headNames_row_tie rfl ⟨rfl, rfl⟩ (by kernel_rfl) rfl
    (fun f fn hf hfn => by
      obtain rfl : f = 5 := Option.some.inj ((show Tryd.prog.funcNamed Rows.headNamesRow.func = some 5 by kernel_rfl).symm.trans hf) |>.symm
      obtain rfl : fn = Tryd.f5 := (Option.some.inj (Tryd.func5.symm.trans hfn)).symm
      exact ⟨by kernel_rfl, fun j t ht => by
        have hm : t ∈ Tryd.f5.params.toList := by simpa using Array.mem_of_getElem? ht
        have hall : (Tryd.f5.params.toList.all fun u => !Tryd.prog.wantsStandIn u) = true := by kernel_rfl
        exact (show Tryd.prog.wantsStandIn t = false by simpa using List.all_eq_true.1 hall t hm)⟩)
    (by kernel_rfl)

end Go.Proofs.YtnkmaiipijmncaaDoor.headNames
