/- Law SheetTells: for every input the call answers true; its arguments read as they did. No condition. -/
import Derived.Test.YtieekahlknmkfaaLaw
import Derived.Test.YtieekahlknmkfaaKnown9
import Derived.Test.YtieekahlknmkfaaShtT
import Derived.Test.YtieekahlknmkfaaBytes
namespace Go.Proofs.Ytieekahlknmkfaa.sheetTells
open Go.ChangeShapes Go.WideShapes Go.ChangeAt Go.RowKit Go.Shelf
open Go.ChangeMaps (open_string shut_string)
set_option linter.unusedVariables false
attribute [local go_sem] Oper.semAt_some wide_fn wide_round_fn


theorem xor9 (x y : UInt8) : bits .xor .u8 (x.toNat : Int) (y.toNat : Int) = ((x ^^^ y).toNat : Int) := by
  show IntKind.u8.wrap ((BitVec.ofInt 8 (x.toNat : Int) ^^^ BitVec.ofInt 8 (y.toNat : Int)).toNat : Int) = _
  have h1 : (BitVec.ofInt 8 (x.toNat : Int)).toNat = x.toNat := by rw [BitVec.toNat_ofInt]; have := x.toNat_lt; omega
  have h2 : (BitVec.ofInt 8 (y.toNat : Int)).toNat = y.toNat := by rw [BitVec.toNat_ofInt]; have := y.toNat_lt; omega
  rw [BitVec.toNat_xor, h1, h2, UInt8.toNat_xor]
  have := (x ^^^ y).toNat_lt
  rw [UInt8.toNat_xor] at this
  simp [IntKind.wrap, IntKind.bits, IntKind.signed]; omega
set_option maxRecDepth 100000 in
set_option maxHeartbeats 4000000 in
theorem stells_early (w : World) (sa : Option Addr) (la ca : Nat) (zs : List Int) (hz : RowI .i64 w sa la zs) (s : ByteArray) (hs : s.size ≤ maxLen) (a : Nat) (ha : a < 65536) (y : Nat) (hy : y < 256) (h : 250 < la ∨ 400 < s.size) : Calls Try.prog 9 #[.slice sa la ca, .string s, .int .u16 a, .int .u8 y] w fun e w' => e = .returned (.bool true) ∧ Below w.heap.size w w' := by
  have GK := Lib.hid sheet_known
  unfold maxLen at hs
  by_cases h1 : 250 < la
  · have hi : (250 : Int) < (la : Int) := by omega
    clear h h1
    go_enter Try.func9, Try.ntmps9
    go_wp2_with (go_at_call 35; ((with_reducible refine (GK.out _).mono ?_); rintro e w1 ⟨rfl, hB1⟩))
    go_ret
    exact ⟨rfl, hB1⟩
  · have hi : (la : Int) ≤ 250 := by omega
    have hj : (400 : Int) < (s.size : Int) := by omega
    clear h h1
    go_enter Try.func9, Try.ntmps9
    go_wp2_with (go_at_call 35; ((with_reducible refine (GK.out _).mono ?_); rintro e w1 ⟨rfl, hB1⟩))
    go_ret
    exact ⟨rfl, hB1⟩
set_option maxRecDepth 100000 in
set_option maxHeartbeats 4000000 in
theorem stells_no (w : World) (sa : Option Addr) (la ca : Nat) (zs : List Int) (hz : RowI .i64 w sa la zs) (s : ByteArray) (a : Nat) (ha : a < 65536) (y : Nat) (hy : y < 256) (hla : la ≤ 250) (hs : s.size ≤ 400) (hsb : shB zs = false) : Calls Try.prog 9 #[.slice sa la ca, .string s, .int .u16 a, .int .u8 y] w fun e w' => e = .returned (.bool true) ∧ Below w.heap.size w w' := by
  have GK := Lib.hid sheet_known
  have GB := Lib.hid (fun W (hB : Below w.heap.size w W) => (show Gives Try.prog 36 #[.slice sa la ca] W (.tuple #[.string ⟨#[]⟩, .int .i64 11]) from by
    have := shBytes_any sa la ca zs W (rowI_below hz hB)
    rwa [show shE zs = 11 by unfold shE; rw [hsb]; rfl, show shY zs = ⟨#[]⟩ by unfold shY; rw [hsb]; rfl] at this))
  have GI := Lib.hid (fun W (hB : Below w.heap.size w W) => (show Gives Try.prog 37 #[.slice sa la ca] W (.bool false) from by rw [← hsb]; exact shIs_any sa la ca zs W (rowI_below hz hB)))
  have GJ := Lib.hid (fun W (hB : Below w.heap.size w W) => (show Gives Try.prog 38 #[.slice sa la ca] W (.bool false) from by rw [← hsb]; exact refShIs_any sa la ca zs W (rowI_below hz hB)))
  have GR := Lib.hid (fun W => reads9_any s (by omega) W)
  have hi : (la : Int) ≤ 250 := by omega
  have hj : (s.size : Int) ≤ 400 := by omega
  clear hsb hla hs
  unfold Gives at *
  go_enter Try.func9, Try.ntmps9
  go_wp2_with (first
    | (go_at_call 35; ((with_reducible refine (GK.out _).mono ?_); rintro e w1 ⟨rfl, hB1⟩))
    | (go_at_call 36; ((with_reducible refine (GB.out _ hB1).mono ?_); rintro e w2 ⟨rfl, hB2⟩; replace hB1 := bel2 hB1 hB2))
    | (go_at_call 37; ((with_reducible refine (GI.out _ hB1).mono ?_); rintro e w3 ⟨rfl, hB3⟩; replace hB1 := bel2 hB1 hB3))
    | (go_at_call 38; ((with_reducible refine (GJ.out _ hB1).mono ?_); rintro e w4 ⟨rfl, hB4⟩; replace hB1 := bel2 hB1 hB4))
    | (go_at_call 40; ((with_reducible refine (GR.out _).mono ?_); rintro e w5 ⟨rfl, hB5⟩)))
  go_ret
  exact ⟨rfl, bel2 hB1 hB5⟩
set_option maxRecDepth 100000 in
set_option maxHeartbeats 4000000 in
theorem stells_full (w : World) (sa : Option Addr) (la ca : Nat) (zs : List Int) (hz : RowI .i64 w sa la zs) (s : ByteArray) (a : Nat) (ha : a < 65536) (y : UInt8) (hla : la ≤ 250) (hs : s.size ≤ 400) (hsb : shB zs = true) : Calls Try.prog 9 #[.slice sa la ca, .string s, .int .u16 a, .int .u8 y.toNat] w fun e w' => e = .returned (.bool true) ∧ Below w.heap.size w w' := by
  have GK := Lib.hid sheet_known
  have GB := Lib.hid (fun W (hB : Below w.heap.size w W) => (show Gives Try.prog 36 #[.slice sa la ca] W (.tuple #[.string (shY zs), .int .i64 0]) from by
    have := shBytes_any sa la ca zs W (rowI_below hz hB)
    rwa [show shE zs = 0 by unfold shE; rw [hsb]; rfl] at this))
  have GC := Lib.hid (fun W (hB : Below w.heap.size w W) => (show Gives Try.prog 39 #[.slice sa la ca] W (.string (shY zs)) from by
    have := refShB_any sa la ca zs W (rowI_below hz hB) (by omega) (fun x hx => by have := (shB_bd hsb).2 x hx; omega)
    rwa [show (⟨(shS zs).toArray⟩ : ByteArray) = shY zs by unfold shY; rw [if_pos hsb]] at this))
  have GI := Lib.hid (fun W (hB : Below w.heap.size w W) => (show Gives Try.prog 37 #[.slice sa la ca] W (.bool true) from by rw [← hsb]; exact shIs_any sa la ca zs W (rowI_below hz hB)))
  have GJ := Lib.hid (fun W (hB : Below w.heap.size w W) => (show Gives Try.prog 38 #[.slice sa la ca] W (.bool true) from by rw [← hsb]; exact refShIs_any sa la ca zs W (rowI_below hz hB)))
  have GR := Lib.hid (fun (x : ByteArray) (hx : x.size < 9223372036854775000) W => reads9_any x hx W)
  have hXs := shY_size zs
  have hXl := shY_list hsb
  have hXk : (shY zs).data.toList.length = (shY zs).size := by rw [Array.length_toList]; rfl
  have hX6 : 6 ≤ (shY zs).size := by
    rw [← hXk, hXl, shS_len]
    have hz1 : 1 ≤ zs.length := by unfold shB at hsb; simp only [Bool.and_eq_true, decide_eq_true_eq] at hsb; exact hsb.1.1
    unfold shL
    rw [List.length_append]
    have h1 : 1 ≤ (sevL zs.length).length := sevL_pos _
    cases zs with
    | nil => simp at hz1
    | cons x r =>
      rw [List.flatMap_cons, List.length_append]
      have h2 : 1 ≤ (sevL x.toNat).length := sevL_pos _
      omega
  have hi : (la : Int) ≤ 250 := by omega
  have hj : (s.size : Int) ≤ 400 := by omega
  clear hsb hla hXl
  generalize shY zs = X at *
  obtain ⟨m, hm⟩ : ∃ m, m = a % X.size := ⟨_, rfl⟩
  have hml : m < X.data.toList.length := by rw [hXk, hm]; exact Nat.mod_lt _ (by omega)
  have hmi : (a : Int) % (X.size : Int) = (m : Int) := by rw [hm]; omega
  have hm2 : (m : Int) < (X.size : Int) := by omega
  have hm2n : m < X.size := by omega
  have hm0 : (0 : Int) ≤ (m : Int) := by omega
  have hXp : (0 : Int) < (X.size : Int) := by omega
  have hX6i : (6 : Int) ≤ (X.size : Int) := by omega
  have hXi : (X.size : Int) ≤ 2000 := by omega
  obtain ⟨d, hd⟩ : ∃ d : UInt8, d = X.data.toList[m] := ⟨_, rfl⟩
  have hxv := xor9 d y
  generalize d ^^^ y = z at *
  have hyl : (X.data.toList.set m z).length = X.size := by rw [List.length_set]; exact hXk
  obtain ⟨Y, hY⟩ : ∃ Y : ByteArray, Y = ⟨(X.data.toList.set m z).toArray⟩ := ⟨_, rfl⟩
  have hYz : Y.size = X.size := by rw [hY]; exact hyl
  have HRY := Lib.hid (fun W => GR.out Y (by omega) W)
  have HRT := Lib.hid (fun W => GR.out (X ++ s) (by rw [ByteArray.size_append]; omega) W)
  have HRC := Lib.hid (fun W => GR.out (X.extract 0 m) (by rw [ByteArray.size_extract]; omega) W)
  have HRS := Lib.hid (fun W => GR.out s (by omega) W)
  have HY := Lib.hid hY; have HD := Lib.hid hd; have HYL := Lib.hid hyl
  have happ : (X.size : Int) + (s.size : Int) ≤ 2400 := by omega
  clear hm hY hd hyl hYz hXs hXk hX6 hs GR
  unfold Gives at *
  go_enter Try.func9, Try.ntmps9
  go_wp2_with (first
    | (go_at_call 35; ((with_reducible refine (GK.out _).mono ?_); rintro e w1 ⟨rfl, hB1⟩))
    | (go_at_call 36; ((with_reducible refine (GB.out _ hB1).mono ?_); rintro e w2 ⟨rfl, hB2⟩; replace hB1 := bel2 hB1 hB2))
    | (go_at_call 37; ((with_reducible refine (GI.out _ hB1).mono ?_); rintro e w3 ⟨rfl, hB3⟩; replace hB1 := bel2 hB1 hB3; clear GI))
    | (go_at_call 38; ((with_reducible refine (GJ.out _ hB1).mono ?_); rintro e w4 ⟨rfl, hB4⟩; replace hB1 := bel2 hB1 hB4; try (obtain ⟨cap, w5, hcap, hcv, hB5, hby⟩ := bytes_of (P := Try.prog) (src := 9) (dst := 64) Try.underlying9 Try.underlying64 Try.underlying5 X w4)))
    | (go_at_call 39; ((with_reducible refine (GC.out _ (bel2 hB1 hB5)).mono ?_); rintro e w6 ⟨rfl, hB6⟩; have hA5 := bel2 (bel2 hB1 hB5) hB6; have hby6 := hby.below hB6; have hcell : w6.cell? ⟨w4.heap.size, m, none⟩ = some (.int .u8 d.toNat) := (by rw [HD.out]; exact hby6.cell _ hml); have hfro := hby6.frozen _ hml; have HY5 := Lib.hid (show BytesAt (w6.setCell ⟨w4.heap.size, m, none⟩ (.int .u8 z.toNat)).drew w4.heap.size (X.data.toList.set m z) from (hby6.set _ hml z).drew); have HC5 := Lib.hid (show Below w.heap.size w (w6.setCell ⟨w4.heap.size, m, none⟩ (.int .u8 z.toNat)).drew from (hA5.setCell (p := ⟨w4.heap.size, m, none⟩) hB1.size (vb z)).drew)))
    | (go_at_call 40; fail))
  go_region
  have hcv2 := string_of (P := Try.prog) (src := 64) (dst := 9) Try.underlying64 Try.underlying5 Try.underlying9 HY5.out X.size cap HYL.out
  rw [← HY.out] at hcv2
  have hB8 := HC5.out
  clear hcell hfro HY5 HC5 hby6 hA5
  generalize (w6.setCell ⟨w4.heap.size, m, none⟩ (.int .u8 z.toNat)).drew = w8 at *
  go_wp2_with (first
    | (go_at_call 40; ((with_reducible refine (HRY.out _).mono ?_); rintro e w9 ⟨rfl, hB9⟩; replace hB8 := bel2 hB8 hB9))
    | (go_at_call 40; ((with_reducible refine (HRT.out _).mono ?_); rintro e w9 ⟨rfl, hB9⟩; replace hB8 := bel2 hB8 hB9))
    | (go_at_call 40; ((with_reducible refine (HRC.out _).mono ?_); rintro e w9 ⟨rfl, hB9⟩; replace hB8 := bel2 hB8 hB9))
    | (go_at_call 40; ((with_reducible refine (HRS.out _).mono ?_); rintro e w9 ⟨rfl, hB9⟩; replace hB8 := bel2 hB8 hB9)))
  go_ret
  exact ⟨rfl, hB8⟩
theorem walk (w : World) (sa : Option Addr) (la ca : Nat) (zs : List Int) (hz : RowI .i64 w sa la zs) (s : ByteArray) (hs : s.size ≤ maxLen) (a : Nat) (ha : a < 65536) (y : Nat) (hy : y < 256) : Calls Try.prog 9 #[.slice sa la ca, .string s, .int .u16 a, .int .u8 y] w fun e w' => e = .returned (.bool true) ∧ Below w.heap.size w w' := by
  by_cases h1 : 250 < la
  · exact stells_early w sa la ca zs hz s hs a ha y hy (.inl h1)
  by_cases h2 : 400 < s.size
  · exact stells_early w sa la ca zs hz s hs a ha y hy (.inr h2)
  cases hsb : shB zs
  · exact stells_no w sa la ca zs hz s a ha y hy (by omega) (by omega) hsb
  have e : y = (UInt8.ofNat y).toNat := by rw [UInt8.toNat_ofNat', Nat.mod_eq_of_lt hy]
  rw [e]
  exact stells_full w sa la ca zs hz s a ha _ (by omega) (by omega) hsb

set_option maxRecDepth 100000 in
theorem lifted (os : Os) (started : os.Started) (H : Type) (enc : TypeId × Value → H) :
    ReturnsInHanded {} Try.checked os 9 .any (Rows.sheetTellsSpec.pre6 enc Try.prog Try.f9 Rows.sheetTellsRow.domain false) (Rows.sheetTellsSpec.post enc Try.prog Try.f9 false true false false) := by
  refine returnsInHanded_of_change (C := Try.checked) Try.own started (by kernel_rfl) Try.func9
    (ChangeSpec.witness6 (enc := enc) (C := Try.checked) false ⟨#[], #[.slice none 0 0, .string ⟨#[]⟩, .int .u16 0, .int .u8 0], []⟩ 8 (by kernel_rfl) (by kernel_rfl) (by kernel_rfl) (by kernel_rfl)) ?_
  intro W base args ds gs before hval hW _ _
  refine law_contract (T := 4) (n := 4) Try.laid Try.underlying4 rfl rfl ⟨rfl, fun H ds h => by match ds, h with | [_, _, _, _], _ => rfl⟩ (of_all (by kernel_rfl)) hW ?_
  intro ps hA
  rw [Try.params9] at hA hval
  obtain ⟨v0, vs0, d0, ds0, p0, q0, hargs, rfl, rfl, h0, r0⟩ := trodAll_cons hA
  obtain ⟨v1, vs1, d1, ds1, p1, q1, rfl, rfl, rfl, h1, r1⟩ := trodAll_cons r0
  obtain ⟨v2, vs2, d2, ds2, p2, q2, rfl, rfl, rfl, h2, r2⟩ := trodAll_cons r1
  obtain ⟨v3, vs3, d3, ds3, p3, q3, rfl, rfl, rfl, h3, r3⟩ := trodAll_cons r2
  obtain ⟨rfl, rfl, rfl⟩ := trodAll_nil r3
  obtain rfl : args = #[v0, v1, v2, v3] := by cases args; simp_all
  obtain ⟨s0, l0, c0, rfl⟩ := okWide_slice Try.underlying61 (hval 0 61 v0 rfl rfl)
  obtain ⟨zs0, w0⟩ := isInts_of (k := .i64) Try.underlying61 Try.underlying3 (by kernel_rfl) h0
  obtain ⟨a1, rfl, rfl, rfl, w1⟩ := open_string Try.underlying9 (hval 1 9 v1 rfl rfl) h1
  obtain ⟨a2, rfl, rfl, rfl, w2⟩ := open_int Try.underlying50 (hval 2 50 v2 rfl rfl) h2
  obtain ⟨a3, rfl, rfl, rfl, w3⟩ := open_int Try.underlying5 (hval 3 5 v3 rfl rfl) h3
  obtain ⟨n2, rfl, b2⟩ := nat_of_u16 w2
  obtain ⟨n3, rfl, b3⟩ := nat_of_u8 w3
  exact walk W s0 l0 c0 _ (rowI_of w0) a1 w1 n2 b2 n3 b3

theorem holds : Rows.SheetTellsSaid :=
  OpenClaim.holds_of_wide 9 Try.f9 rfl rfl rfl rfl rfl rfl rfl ⟨rfl, rfl, rfl, rfl, rfl⟩ rfl rfl rfl rfl rfl (by kernel_rfl) Try.func9 (by kernel_rfl)
    (of_decide_eq_true (by kernel_rfl)) (by unfold Func.isWrapper; first | (rw [if_pos (by decide +kernel)]; kernel_rfl) | (rw [if_neg (by decide +kernel)]; exact ⟨rfl, rfl⟩))
    (fun os started H enc _ => lifted os started H enc)
end Go.Proofs.Ytieekahlknmkfaa.sheetTells
