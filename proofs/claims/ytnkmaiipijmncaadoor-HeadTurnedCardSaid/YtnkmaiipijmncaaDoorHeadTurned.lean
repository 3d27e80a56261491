/- Law HeadTurned: for every input the call answers true; its arguments read as they did. No condition but what the card lists. -/
import Derived.SevenTiedAt
import Derived.Test.YtnkmaiipijmncaaDoorCards
import Derived.Test.YtnkmaiipijmncaaDoorTie
import Derived.Test.YtnkmaiipijmncaaDoorLaw
import Derived.Test.YtnkmaiipijmncaaDoorKnown10
import Derived.Test.YtnkmaiipijmncaaDoorLaid
import Derived.Test.YtnkmaiipijmncaaDoorBytes
namespace Go.Proofs.YtnkmaiipijmncaaDoor.headTurned
open Go.ChangeShapes Go.WideShapes Go.ChangeAt Go.RowKit Go.Shelf
open Go.ChangeMaps (open_string shut_string)
set_option linter.unusedVariables false
attribute [local go_sem] Oper.semAt_some wide_fn wide_round_fn

theorem bytes_take {W : World} {g : Nat} {l : List UInt8} (h : BytesAt W g l) (k : Nat) : BytesAt W g (l.take k) :=
  ⟨h.lt, fun j hj => by rw [List.getElem_take]; exact h.cell j (by rw [List.length_take] at hj; omega), fun j hj => h.frozen j (by rw [List.length_take] at hj; omega)⟩
set_option maxRecDepth 100000 in
set_option maxHeartbeats 1000000 in
theorem turned_early (x : Nat) (hx : x < 65536) (a : Nat) (ha : a < 256) (y : Nat) (hy : y < 256) (tail : ByteArray) (ht : tail.size ≤ maxLen) (h : y = 0 ∨ 50 < tail.size) (w : World) :
    Calls Tryd.prog 6 #[.int .u16 x, .int .u8 a, .int .u8 y, .string tail] w fun e w' => e = .returned (.bool true) ∧ Below w.heap.size w w' := by
  have GK := Lib.hid head_known
  by_cases h0 : y = 0
  · subst h0
    clear h
    go_enter Tryd.func6, Tryd.ntmps6
    go_wp2_with (go_at_call 7; ((with_reducible refine (GK.out _).mono ?_); rintro e w1 ⟨rfl, hB1⟩))
    go_ret
    exact ⟨rfl, hB1⟩
  · have h5 : (50 : Int) < (tail.size : Int) := by omega
    have h1 : ((y : Int) == 0) = false := by rw [beq_eq_false_iff_ne]; omega
    clear h
    go_enter Tryd.func6, Tryd.ntmps6
    go_wp2_with (go_at_call 7; ((with_reducible refine (GK.out _).mono ?_); rintro e w1 ⟨rfl, hB1⟩))
    go_ret
    exact ⟨rfl, hB1⟩
set_option maxRecDepth 100000 in
set_option maxHeartbeats 1000000 in
theorem turned_full (x : Nat) (hx : x < 65536) (a : Nat) (ha : a < 256) (y : UInt8) (hy : y ≠ 0) (tail : ByteArray) (ht : tail.size ≤ 50) (w : World) :
    Calls Tryd.prog 6 #[.int .u16 x, .int .u8 a, .int .u8 y.toNat, .string tail] w fun e w' => e = .returned (.bool true) ∧ Below w.heap.size w w' := by
  have GK := Lib.hid head_known
  have hyn : y.toNat ≠ 0 := fun e => hy (UInt8.toNat_inj.1 e)
  have h1 : ((y.toNat : Int) == 0) = false := by rw [beq_eq_false_iff_ne]; omega
  have hti : (tail.size : Int) ≤ 50 := by omega
  have hh : heldN ((x : Int) + 1) = x + 1 := by unfold heldN; omega
  have GB := Lib.hid (fun w => headBytes_any ((x : Int) + 1) w)
  have GC := Lib.hid (fun s hs w => headCheck_any s hs ((x : Int) + 1) w)
  rw [hh] at GB GC
  have hz := headS_size (x + 1)
  generalize headS (x + 1) = h at *
  have hll : h.data.toList.length = 16 := by simpa using hz
  have hzi : (h.size : Int) = 16 := by omega
  obtain ⟨k, hk⟩ : ∃ k, k = a % 16 := ⟨_, rfl⟩
  have hk16 : k < 16 := by omega
  have hka : (a : Int) % 16 = (k : Int) := by omega
  have hk0 : (0 : Int) ≤ (k : Int) := by omega
  have hk1 : (k : Int) < 16 := by omega
  have hkl : k < h.data.toList.length := by omega
  have HX := Lib.hid (xor_ne (x := h.data.toList[k]) hy)
  obtain ⟨d, hd⟩ : ∃ d : UInt8, d = h.data.toList[k] := ⟨_, rfl⟩
  rw [← hd] at HX
  have hxv := xorB d y
  generalize d ^^^ y = z at *
  have HC1 := Lib.hid (hchk_turned (t := tail.data.toList) hkl (z := z) (by rw [← hd]; exact HX.out))
  have HC2 := Lib.hid (hchk_set_cut hkl z)
  have HHZ := Lib.hid hz
  have hyl : (h.data.toList.set k z).length = 16 := by rw [List.length_set]; exact hll
  have hylk : ((h.data.toList.set k z).take k).length = k := by rw [List.length_take]; omega
  obtain ⟨Y, hY⟩ : ∃ Y : ByteArray, Y = ⟨(h.data.toList.set k z).toArray⟩ := ⟨_, rfl⟩
  obtain ⟨V, hV⟩ : ∃ V : ByteArray, V = ⟨((h.data.toList.set k z).take k).toArray⟩ := ⟨_, rfl⟩
  have hYz : Y.size = 16 := by rw [hY]; exact hyl
  have hVz : V.size = k := by rw [hV]; exact hylk
  have G1 := GC.out (Y ++ tail) (by rw [ByteArray.size_append]; omega)
  have G2 := GC.out V (by omega)
  rw [show chkM (Y ++ tail).data.toList h.data.toList = 4 by rw [ba_toList, hY]; exact HC1.out] at G1
  rw [show chkM V.data.toList h.data.toList = 3 by rw [hV]; exact HC2.out] at G2
  have G1 := Lib.hid G1; have G2 := Lib.hid G2
  have HY := Lib.hid hY; have HV := Lib.hid hV; have HD := Lib.hid hd
  have HYL := Lib.hid hyl; have HYK := Lib.hid hylk
  have hYi : (Y.size : Int) ≤ 16 := by omega
  clear hy hyn hh hk hY hV hd hyl hylk hYz hVz hz hll
  go_enter Tryd.func6, Tryd.ntmps6
  go_wp2_with (first
    | (go_at_call 7; ((with_reducible refine (GK.out _).mono ?_); rintro e w1 ⟨rfl, hB1⟩))
    | (go_at_call 10; ((with_reducible refine (GB.out _).mono ?_); rintro e w3 ⟨rfl, hB3⟩; obtain ⟨cap, w4, hcap, hcv0, hB4, hby⟩ := bytes_of (P := Tryd.prog) (src := 9) (dst := 30) Tryd.underlying9 Tryd.underlying30 Tryd.underlying5 h w3; have hcv : (convert 9 30 (.string h)).run Tryd.prog w3 = .ok (.slice (some ⟨w3.heap.size, 0, none⟩) 16 cap) w4 := (by rw [hcv0, HHZ.out]); have hA3 := bel2 hB1 hB3; have hs3 := hA3.size; have hA4 := bel2 hA3 hB4; have hcell : w4.cell? ⟨w3.heap.size, k, none⟩ = some (.int .u8 d.toNat) := (by rw [HD.out]; exact hby.cell _ hkl); have hfro := hby.frozen _ hkl; have HY5 := Lib.hid (show BytesAt (w4.setCell ⟨w3.heap.size, k, none⟩ (.int .u8 z.toNat)) w3.heap.size (h.data.toList.set k z) from (hby.set _ hkl z)); have HC5 := Lib.hid (show Below w.heap.size w (w4.setCell ⟨w3.heap.size, k, none⟩ (.int .u8 z.toNat)) from hA4.setCell (p := ⟨w3.heap.size, k, none⟩) hs3 (vb z)); have hcv2 := string_of (P := Tryd.prog) (src := 30) (dst := 9) Tryd.underlying30 Tryd.underlying5 Tryd.underlying9 HY5.out 16 cap HYL.out; rw [← HY.out] at hcv2; clear hby hA4 hcv0))
    | (go_at_call 14; ((with_reducible refine (G1.out _).mono ?_); rintro e w5 ⟨rfl, hB5⟩; have hcv3 := string_of (P := Tryd.prog) (src := 30) (dst := 9) Tryd.underlying30 Tryd.underlying5 Tryd.underlying9 (bytes_take (HY5.out.below hB5) k) k cap HYK.out; rw [← HV.out] at hcv3; have hA5 := bel2 HC5.out hB5))
    | (go_at_call 14; ((with_reducible refine (G2.out _).mono ?_); rintro e w6 ⟨rfl, hB6⟩)))
  go_ret
  exact ⟨by simp, bel2 hA5 hB6⟩
theorem walk (x : Nat) (hx : x < 65536) (a : Nat) (ha : a < 256) (y : Nat) (hy : y < 256) (tail : ByteArray) (ht : tail.size ≤ maxLen) (w : World) (hv : VarsOk w) :
    Calls Tryd.prog 6 #[.int .u16 x, .int .u8 a, .int .u8 y, .string tail] w fun e w' => e = .returned (.bool true) ∧ Below w.heap.size w w' := by
  by_cases h : y = 0 ∨ 50 < tail.size
  · exact turned_early x hx a ha y hy tail ht h w
  · obtain ⟨z, rfl⟩ : ∃ z : UInt8, y = z.toNat := ⟨UInt8.ofNat y, by rw [UInt8.toNat_ofNat']; omega⟩
    exact turned_full x hx a ha z (fun e => h (.inl (by rw [e]; rfl))) tail (by omega) w

/-- The door's own heap meets what the row lists. -/
theorem door_met (os : Os) (args : Array Value) : laidMetH Tryd.prog Rows.headTurnedRow.laid ((World.doorLaid Tryd.prog 400 os).forCall (fun _ _ => 0) ⟨#[], args, []⟩).memory :=
  laidMetH_of_parts3 (fuel := 8) (laidMet_of_run' 8 (by kernel_rfl) (by kernel_rfl)) (by kernel_rfl) (by kernel_rfl)
set_option maxRecDepth 100000 in
theorem lifted (os : Os) (started : os.Started) (H : Type) (enc : TypeId × Value → H) :
    ReturnsInHanded {} Tryd.checked os 6 .any (fun w args => (Rows.headTurnedSpec.pre enc Tryd.prog Tryd.f6 [] false w args ∧ laidMetH Tryd.prog Rows.headTurnedRow.laid w) ∧ sizedMet enc Tryd.prog Tryd.f6 (OpenSpec.ofChange Rows.headTurnedSpec) false w args) (Rows.headTurnedSpec.post enc Tryd.prog Tryd.f6 false true false false) := by
  refine returnsInHanded_of_change_and (C := Tryd.checked) (X := fun w _ => laidMetH Tryd.prog Rows.headTurnedRow.laid w) (fun _ _ _ hh h => h.of_heap hh) Tryd.own started (by kernel_rfl) Tryd.func6
    (ChangeSpec.witness_shaped (enc := enc) (C := Tryd.checked) (os := os) (X := fun w _ => laidMetH Tryd.prog Rows.headTurnedRow.laid w) false (World.doorLaid Tryd.prog 400 os) #[.int .u16 0, .int .u8 0, .int .u8 0, .string ⟨#[]⟩] 8 rfl (World.shaped_of_RefB (by kernel_rfl) (by kernel_rfl)) (by kernel_rfl) (by kernel_rfl) (by kernel_rfl) (door_met os _)) ?_
  intro W base args ds gs before hval hW _ _ hL _
  have hVar : VarsOk W := by rw [MakeChecks.laidMetH_plain _ _ _ (by kernel_rfl)] at hL; exact vars_of hL
  refine law_contract (T := 4) (n := 4) Tryd.laid Tryd.underlying4 rfl rfl ⟨rfl, fun H ds h => by match ds, h with | [_, _, _, _], _ => rfl⟩ (of_all (by kernel_rfl)) hW ?_
  intro ps hA
  rw [Tryd.params6] at hA hval
  obtain ⟨v0, vs0, d0, ds0, p0, q0, hargs, rfl, rfl, h0, r0⟩ := trodAll_cons hA
  obtain ⟨v1, vs1, d1, ds1, p1, q1, rfl, rfl, rfl, h1, r1⟩ := trodAll_cons r0
  obtain ⟨v2, vs2, d2, ds2, p2, q2, rfl, rfl, rfl, h2, r2⟩ := trodAll_cons r1
  obtain ⟨v3, vs3, d3, ds3, p3, q3, rfl, rfl, rfl, h3, r3⟩ := trodAll_cons r2
  obtain ⟨rfl, rfl, rfl⟩ := trodAll_nil r3
  obtain rfl : args = #[v0, v1, v2, v3] := by cases args; simp_all
  obtain ⟨a0, rfl, rfl, rfl, w0⟩ := open_int Tryd.underlying32 (hval 0 32 v0 rfl rfl) h0
  obtain ⟨a1, rfl, rfl, rfl, w1⟩ := open_int Tryd.underlying5 (hval 1 5 v1 rfl rfl) h1
  obtain ⟨a2, rfl, rfl, rfl, w2⟩ := open_int Tryd.underlying5 (hval 2 5 v2 rfl rfl) h2
  obtain ⟨a3, rfl, rfl, rfl, w3⟩ := open_string Tryd.underlying9 (hval 3 9 v3 rfl rfl) h3
  obtain ⟨n0, rfl, b0⟩ := nat_of_u16 w0
  obtain ⟨n1, rfl, b1⟩ := nat_of_u8 w1
  obtain ⟨n2, rfl, b2⟩ := nat_of_u8 w2
  exact walk n0 b0 n1 b1 n2 b2 a3 w3 W hVar

theorem bare : Rows.HeadTurnedSaid :=
  OpenClaim.holds_of_wide 6 Tryd.f6 rfl rfl rfl rfl rfl rfl rfl ⟨rfl, rfl, rfl, rfl, rfl⟩ rfl rfl rfl rfl rfl (by kernel_rfl) Tryd.func6 (by kernel_rfl)
    (of_decide_eq_true (by kernel_rfl)) (by unfold Func.isWrapper; first | (rw [if_pos (by decide +kernel)]; kernel_rfl) | (rw [if_neg (by decide +kernel)]; exact ⟨rfl, rfl⟩))
    (fun os started H enc _ => lifted os started H enc)

theorem holds : Rows.HeadTurnedCardSaid :=
  Claim7.holds_tied_plain_at .later [] _ true _ true bare (fun _ h => by cases h) (by kernel_rfl) (fun _ h => by cases h) headTurned_row_tie rfl ⟨rfl, rfl⟩ (by kernel_rfl) rfl
    (fun f fn hf hfn => by
      obtain rfl : f = 6 := Option.some.inj ((show Tryd.prog.funcNamed Rows.headTurnedRow.func = some 6 by kernel_rfl).symm.trans hf) |>.symm
      obtain rfl : fn = Tryd.f6 := (Option.some.inj (Tryd.func6.symm.trans hfn)).symm
      exact ⟨by kernel_rfl, fun j t ht => by
        have hm : t ∈ Tryd.f6.params.toList := by simpa using Array.mem_of_getElem? ht
        have hall : (Tryd.f6.params.toList.all fun u => !Tryd.prog.wantsStandIn u) = true := by kernel_rfl
        exact (show Tryd.prog.wantsStandIn t = false by simpa using List.all_eq_true.1 hall t hm)⟩)
    (by kernel_rfl)

end Go.Proofs.YtnkmaiipijmncaaDoor.headTurned
