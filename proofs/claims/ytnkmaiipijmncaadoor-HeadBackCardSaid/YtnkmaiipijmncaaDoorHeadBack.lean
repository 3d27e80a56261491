/- Law HeadBack: for every input the call answers true; its arguments read as they did. No condition but what the card lists. -/
import Derived.SevenTiedAt
import Derived.Test.YtnkmaiipijmncaaDoorCards
import Derived.Test.YtnkmaiipijmncaaDoorTie
import Derived.Test.YtnkmaiipijmncaaDoorLaw
import Derived.Test.YtnkmaiipijmncaaDoorKnown10
import Derived.Test.YtnkmaiipijmncaaDoorLaid
namespace Go.Proofs.YtnkmaiipijmncaaDoor.headBack
open Go.ChangeShapes Go.WideShapes Go.ChangeAt Go.RowKit Go.Shelf
open Go.ChangeMaps (open_string shut_string)
set_option linter.unusedVariables false
attribute [local go_sem] Oper.semAt_some wide_fn wide_round_fn

set_option maxRecDepth 100000 in
set_option maxHeartbeats 1000000 in
theorem back_long (a b : Nat) (ha : a < 4294967296) (hb : b < 4294967296) (tail : ByteArray) (ht : tail.size ≤ maxLen) (h : 50 < tail.size) (w : World) :
    Calls Tryd.prog 4 #[.int .u32 a, .int .u32 b, .string tail] w fun e w' => e = .returned (.bool true) ∧ Below w.heap.size w w' := by
  have GK := Lib.hid head_known
  have h5 : (50 : Int) < (tail.size : Int) := by omega
  go_enter Tryd.func4, Tryd.ntmps4
  go_wp2_with (go_at_call 7; ((with_reducible refine (GK.out _).mono ?_); rintro e w1 ⟨rfl, hB1⟩))
  go_ret
  exact ⟨rfl, hB1⟩
set_option maxRecDepth 100000 in
set_option maxHeartbeats 1000000 in
theorem back_full (a b : Nat) (ha : a < 4294967296) (hb : b < 4294967296) (tail : ByteArray) (ht : tail.size ≤ 50) (w : World) :
    Calls Tryd.prog 4 #[.int .u32 a, .int .u32 b, .string tail] w fun e w' => e = .returned (.bool true) ∧ Below w.heap.size w w' := by
  have GK := Lib.hid head_known
  have hti : (tail.size : Int) ≤ 50 := by omega
  obtain ⟨x, hx⟩ : ∃ x, x = a % 99999999 + 1 := ⟨_, rfl⟩
  obtain ⟨y, hy⟩ : ∃ y, y = b % 99999999 + 1 := ⟨_, rfl⟩
  have hx1 : 1 ≤ x ∧ x ≤ 99999999 := by omega
  have hy1 : 1 ≤ y ∧ y ≤ 99999999 := by omega
  have hxi : (a : Int) % 99999999 = (x : Int) - 1 := by omega
  have hyi : (b : Int) % 99999999 = (y : Int) - 1 := by omega
  have hx0 : (1 : Int) ≤ (x : Int) := by omega
  have hxm : (x : Int) ≤ 99999999 := by omega
  have hy0 : (1 : Int) ≤ (y : Int) := by omega
  have hym : (y : Int) ≤ 99999999 := by omega
  clear hx hy ha hb
  have hbl := less_name hx1.2 hy1.2
  have GN := Lib.hid (fun w => name_any (x : Int) w)
  have GM := Lib.hid (fun w => name_any (y : Int) w)
  have GI := Lib.hid (fun w => id_name hx1.1 hx1.2 w)
  have GB := Lib.hid (fun w => headBytes_any (x : Int) w)
  have GC := Lib.hid (fun s hs w => headCheck_any s hs (y : Int) w)
  have GD := Lib.hid (fun s hs w => headCheck_any s hs (x : Int) w)
  rw [heldN_self hx1.1 hx1.2] at GN GB GD
  rw [heldN_self hy1.1 hy1.2] at GM GC
  have hz := headS_size x
  have hz2 := headS_size y
  have hl1 : (headS x).data.toList.length = 16 := by simpa using hz
  have hl2 : (headS y).data.toList.length = 16 := by simpa using hz2
  have hEx : (headS x).extract 0 15 = ⟨((headS x).data.toList.take 15).toArray⟩ := by
    apply ByteArray.ext; apply Array.toList_inj.1; rw [Lib.extract_data]; simp
  have C1 := GC.out (headS x ++ tail) (by rw [ByteArray.size_append]; omega)
  have C2 := GD.out ((headS x).extract 0 15) (by rw [ByteArray.size_extract]; omega)
  rw [show chkM ((headS x).extract 0 15).data.toList (headS x).data.toList = 3 by rw [hEx]; exact hchk_cut _ 15 (by rw [hl1]; decide)] at C2
  rw [ba_toList] at C1
  have hq := hchk_eq (t := tail.data.toList) (hl1.trans hl2.symm)
  have hzi : ((headS x).size : Int) = 16 := by omega
  have C2 := Lib.hid C2
  clear GC GD hEx hz hz2 hl1 hl2
  by_cases hxy : x = y
  · subst hxy
    rw [hq.2 rfl] at C1
    have C1 := Lib.hid C1
    simp only [Nat.lt_irrefl, decide_false] at hbl
    generalize headS x = h at *
    clear hq hy1 hy0 hym GM
    go_enter Tryd.func4, Tryd.ntmps4
    go_wp2_with (first
      | (go_at_call 7; ((with_reducible refine (GK.out _).mono ?_); rintro e w1 ⟨rfl, hB1⟩))
      | (go_at_call 11; ((with_reducible refine (GN.out _).mono ?_); rintro e w2 ⟨rfl, hX⟩; replace hB1 := bel2 hB1 hX))
      | (go_at_call 11; ((with_reducible refine (GM.out _).mono ?_); rintro e w2 ⟨rfl, hX⟩; replace hB1 := bel2 hB1 hX))
      | (go_at_call 8; ((with_reducible refine (GI.out _).mono ?_); rintro e w2 ⟨rfl, hX⟩; replace hB1 := bel2 hB1 hX))
      | (go_at_call 10; ((with_reducible refine (GB.out _).mono ?_); rintro e w2 ⟨rfl, hX⟩; replace hB1 := bel2 hB1 hX))
      | (go_at_call 14; ((with_reducible refine (C1.out _).mono ?_); rintro e w2 ⟨rfl, hX⟩; replace hB1 := bel2 hB1 hX))
      | (go_at_call 14; ((with_reducible refine (C2.out _).mono ?_); rintro e w2 ⟨rfl, hX⟩; replace hB1 := bel2 hB1 hX)))
    go_ret
    exact ⟨by simp, hB1⟩
  · have hne : chkM ((headS x).data.toList ++ tail.data.toList) (headS y).data.toList ≠ 1 := fun e => hxy (headS_inj (by omega) (by omega) (hq.1 e))
    generalize chkM ((headS x).data.toList ++ tail.data.toList) (headS y).data.toList = z at *
    have C1 := Lib.hid C1
    have hz1 : (z == 1) = false := by rw [beq_eq_false_iff_ne]; exact hne
    have hx2 : ((x : Int) == (y : Int)) = false := by rw [beq_eq_false_iff_ne]; omega
    generalize headS x = h at *
    clear hq hne hxy
    go_enter Tryd.func4, Tryd.ntmps4
    go_wp2_with (first
      | (go_at_call 7; ((with_reducible refine (GK.out _).mono ?_); rintro e w1 ⟨rfl, hB1⟩))
      | (go_at_call 11; ((with_reducible refine (GN.out _).mono ?_); rintro e w2 ⟨rfl, hX⟩; replace hB1 := bel2 hB1 hX))
      | (go_at_call 11; ((with_reducible refine (GM.out _).mono ?_); rintro e w2 ⟨rfl, hX⟩; replace hB1 := bel2 hB1 hX))
      | (go_at_call 8; ((with_reducible refine (GI.out _).mono ?_); rintro e w2 ⟨rfl, hX⟩; replace hB1 := bel2 hB1 hX))
      | (go_at_call 10; ((with_reducible refine (GB.out _).mono ?_); rintro e w2 ⟨rfl, hX⟩; replace hB1 := bel2 hB1 hX))
      | (go_at_call 14; ((with_reducible refine (C1.out _).mono ?_); rintro e w2 ⟨rfl, hX⟩; replace hB1 := bel2 hB1 hX))
      | (go_at_call 14; ((with_reducible refine (C2.out _).mono ?_); rintro e w2 ⟨rfl, hX⟩; replace hB1 := bel2 hB1 hX)))
    go_ret
    exact ⟨by simp, hB1⟩
theorem walk (a : Nat) (ha : a < 4294967296) (b : Nat) (hb : b < 4294967296) (tail : ByteArray) (ht : tail.size ≤ maxLen) (w : World) (hv : VarsOk w) :
    Calls Tryd.prog 4 #[.int .u32 a, .int .u32 b, .string tail] w fun e w' => e = .returned (.bool true) ∧ Below w.heap.size w w' := by
  by_cases h : 50 < tail.size
  · exact back_long a b ha hb tail ht h w
  · exact back_full a b ha hb tail (by omega) w

/-- The door's own heap meets what the row lists. -/
theorem door_met (os : Os) (args : Array Value) : laidMetH Tryd.prog Rows.headBackRow.laid ((World.doorLaid Tryd.prog 400 os).forCall (fun _ _ => 0) ⟨#[], args, []⟩).memory :=
  laidMetH_of_parts3 (fuel := 8) (laidMet_of_run' 8 (by kernel_rfl) (by kernel_rfl)) (by kernel_rfl) (by kernel_rfl)
set_option maxRecDepth 100000 in
theorem lifted (os : Os) (started : os.Started) (H : Type) (enc : TypeId × Value → H) :
    ReturnsInHanded {} Tryd.checked os 4 .any (fun w args => (Rows.headBackSpec.pre enc Tryd.prog Tryd.f4 [] false w args ∧ laidMetH Tryd.prog Rows.headBackRow.laid w) ∧ sizedMet enc Tryd.prog Tryd.f4 (OpenSpec.ofChange Rows.headBackSpec) false w args) (Rows.headBackSpec.post enc Tryd.prog Tryd.f4 false true false false) := by
  refine returnsInHanded_of_change_and (C := Tryd.checked) (X := fun w _ => laidMetH Tryd.prog Rows.headBackRow.laid w) (fun _ _ _ hh h => h.of_heap hh) Tryd.own started (by kernel_rfl) Tryd.func4
    (ChangeSpec.witness_shaped (enc := enc) (C := Tryd.checked) (os := os) (X := fun w _ => laidMetH Tryd.prog Rows.headBackRow.laid w) false (World.doorLaid Tryd.prog 400 os) #[.int .u32 0, .int .u32 0, .string ⟨#[]⟩] 8 rfl (World.shaped_of_RefB (by kernel_rfl) (by kernel_rfl)) (by kernel_rfl) (by kernel_rfl) (by kernel_rfl) (door_met os _)) ?_
  intro W base args ds gs before hval hW _ _ hL _
  have hVar : VarsOk W := by rw [MakeChecks.laidMetH_plain _ _ _ (by kernel_rfl)] at hL; exact vars_of hL
  refine law_contract (T := 4) (n := 3) Tryd.laid Tryd.underlying4 rfl rfl ⟨rfl, fun H ds h => by match ds, h with | [_, _, _], _ => rfl⟩ (of_all (by kernel_rfl)) hW ?_
  intro ps hA
  rw [Tryd.params4] at hA hval
  obtain ⟨v0, vs0, d0, ds0, p0, q0, hargs, rfl, rfl, h0, r0⟩ := trodAll_cons hA
  obtain ⟨v1, vs1, d1, ds1, p1, q1, rfl, rfl, rfl, h1, r1⟩ := trodAll_cons r0
  obtain ⟨v2, vs2, d2, ds2, p2, q2, rfl, rfl, rfl, h2, r2⟩ := trodAll_cons r1
  obtain ⟨rfl, rfl, rfl⟩ := trodAll_nil r2
  obtain rfl : args = #[v0, v1, v2] := by cases args; simp_all
  obtain ⟨a0, rfl, rfl, rfl, w0⟩ := open_int Tryd.underlying28 (hval 0 28 v0 rfl rfl) h0
  obtain ⟨a1, rfl, rfl, rfl, w1⟩ := open_int Tryd.underlying28 (hval 1 28 v1 rfl rfl) h1
  obtain ⟨a2, rfl, rfl, rfl, w2⟩ := open_string Tryd.underlying9 (hval 2 9 v2 rfl rfl) h2
  obtain ⟨n0, rfl, b0⟩ := nat_of_u32 w0
  obtain ⟨n1, rfl, b1⟩ := nat_of_u32 w1
  exact walk n0 b0 n1 b1 a2 w2 W hVar

theorem bare : Rows.HeadBackSaid :=
  OpenClaim.holds_of_wide 4 Tryd.f4 rfl rfl rfl rfl rfl rfl rfl ⟨rfl, rfl, rfl, rfl, rfl⟩ rfl rfl rfl rfl rfl (by kernel_rfl) Tryd.func4 (by kernel_rfl)
    (of_decide_eq_true (by kernel_rfl)) (by unfold Func.isWrapper; first | (rw [if_pos (by decide +kernel)]; kernel_rfl) | (rw [if_neg (by decide +kernel)]; exact ⟨rfl, rfl⟩))
    (fun os started H enc _ => lifted os started H enc)

theorem holds : Rows.HeadBackCardSaid :=
  Claim7.holds_tied_plain_at .later [] _ true _ true bare (fun _ h => by cases h) (by kernel_rfl) (fun _ h => by cases h) headBack_row_tie rfl ⟨rfl, rfl⟩ (by kernel_rfl) rfl
    (fun f fn hf hfn => by
      obtain rfl : f = 4 := Option.some.inj ((show Tryd.prog.funcNamed Rows.headBackRow.func = some 4 by kernel_rfl).symm.trans hf) |>.symm
      obtain rfl : fn = Tryd.f4 := (Option.some.inj (Tryd.func4.symm.trans hfn)).symm
      exact ⟨by kernel_rfl, fun j t ht => by
        have hm : t ∈ Tryd.f4.params.toList := by simpa using Array.mem_of_getElem? ht
        have hall : (Tryd.f4.params.toList.all fun u => !Tryd.prog.wantsStandIn u) = true := by kernel_rfl
        exact (show Tryd.prog.wantsStandIn t = false by simpa using List.all_eq_true.1 hall t hm)⟩)
    (by kernel_rfl)

end Go.Proofs.YtnkmaiipijmncaaDoor.headBack
