/- Law HeadTells: for every input the call answers true; its arguments read as they did. No condition but what the card lists. -/
import Derived.SevenTiedAt
import Derived.Test.YtnkmaiipijmncaaDoorCards
import Derived.Test.YtnkmaiipijmncaaDoorTie
import Derived.IntWalk
import Derived.Test.YtnkmaiipijmncaaDoorLaw
import Derived.Test.YtnkmaiipijmncaaDoorKnown10
import Derived.Test.YtnkmaiipijmncaaDoorLaid
import Derived.Test.YtnkmaiipijmncaaDoorQuietC
namespace Go.Proofs.YtnkmaiipijmncaaDoor.headTells
open Go.ChangeShapes Go.WideShapes Go.ChangeAt Go.RowKit Go.Shelf
open Go.ChangeMaps (open_string shut_string)
set_option linter.unusedVariables false
attribute [local go_sem] Oper.semAt_some wide_fn wide_round_fn

attribute [local irreducible] wpQuiet
set_option maxRecDepth 100000 in
set_option maxHeartbeats 1000000 in
theorem tells_long (id other : Int) (s : ByteArray) (hs : s.size ≤ maxLen) (cut : Nat) (hc : cut < 256) (h : 100 < s.size) (w : World) :
    Calls Tryd.prog 3 #[.int .i64 id, .int .i64 other, .string s, .int .u8 cut] w fun e w' => e = .returned (.bool true) ∧ Below w.heap.size w w' := by
  have GK := Lib.hid head_known
  have h5 : (100 : Int) < (s.size : Int) := by omega
  go_enter Tryd.func3, Tryd.ntmps3
  go_wp2_with (go_at_call 7; ((with_reducible refine (GK.out _).mono ?_); rintro e w1 ⟨rfl, hB1⟩))
  go_ret
  exact ⟨rfl, hB1⟩
set_option maxRecDepth 100000 in
set_option maxHeartbeats 2000000 in
theorem tells_full (id other : Int) (s : ByteArray) (cut : Nat) (hc : cut < 256) (h : s.size ≤ 100) (w : World) (hv : VarsOk w) :
    Calls Tryd.prog 3 #[.int .i64 id, .int .i64 other, .string s, .int .u8 cut] w fun e w' => e = .returned (.bool true) ∧ Below w.heap.size w w' := by
  have GK := Lib.hid head_known
  have hsi : (s.size : Int) ≤ 100 := by omega
  obtain ⟨k, hk⟩ : ∃ k, k = cut % 16 := ⟨_, rfl⟩
  have hka : (cut : Int) % 16 = (k : Int) := by omega
  have hk0 : (0 : Int) ≤ (k : Int) := by omega
  have hk1 : (k : Int) < 16 := by omega
  have hk2 : (k : Int) ≤ 16 := by omega
  have hkt : (cut : Int).tmod 16 = (k : Int) := by rw [Int.tmod_eq_emod_of_nonneg (by omega)]; exact hka
  have hcw : IntKind.i64.wrap (cut : Int) = (cut : Int) := IntWalk.i64_in _ (by omega)
  have hkw : IntKind.i64.wrap (k : Int) = (k : Int) := IntWalk.i64_in _ (by omega)
  have hkn : (k : Int).toNat = k := by omega
  have HV := Lib.hid hv
  have G1 := fun w (h : VarsOk w) => id_any s (by omega) w h
  have G2 := fun w => refID_any s (by omega) w
  have G3 := Lib.hid (fun w => name_any id w)
  have G4 := Lib.hid (fun w => refName_any id w)
  have G5 := Lib.hid (fun w => headBytes_any id w)
  have G6 := Lib.hid (fun w => refHead_any id w)
  have hz := headS_size (heldN id)
  have C1 := Lib.hid (fun w => headCheck_any s (by omega) id w)
  have D1 := Lib.hid (fun w => refCheck_any s (by omega) id w)
  have C2 := Lib.hid (fun w => headCheck_any (headS (heldN id) ++ s) (by rw [ByteArray.size_append]; omega) other w)
  have D2 := Lib.hid (fun w => refCheck_any (headS (heldN id) ++ s) (by rw [ByteArray.size_append]; omega) other w)
  have C3 := Lib.hid (fun w => headCheck_any ((headS (heldN id)).extract 0 k) (by rw [ByteArray.size_extract]; omega) other w)
  have D3 := Lib.hid (fun w => refCheck_any ((headS (heldN id)).extract 0 k) (by rw [ByteArray.size_extract]; omega) other w)
  have hI := refIdM_id s.data.toList
  have hzi : ((headS (heldN id)).size : Int) = 16 := by omega
  generalize chkM s.data.toList (headS (heldN id)).data.toList = z1 at *
  generalize chkM (headS (heldN id) ++ s).data.toList (headS (heldN other)).data.toList = z2 at *
  generalize chkM ((headS (heldN id)).extract 0 k).data.toList (headS (heldN other)).data.toList = z3 at *
  generalize headS (heldN id) = hd at *
  generalize (⟨(nameL (heldN id)).toArray⟩ : ByteArray) = nm at *
  generalize refIdM s.data.toList = q at *
  generalize idM s.data.toList = p at *
  obtain ⟨n, o⟩ := p
  obtain ⟨m, o'⟩ := q
  obtain ⟨rfl, i1, i2⟩ := hI
  dsimp only at *
  clear hk hz hv h hc
  cases o'
  · obtain rfl := i2 rfl
    clear i1 i2
    have G1 := Lib.hid G1; have G2 := Lib.hid G2
    go_enter Tryd.func3, Tryd.ntmps3
    go_wp2_with (first
      | (go_at_call 7; ((with_reducible refine (GK.out _).mono ?_); rintro e w1 ⟨rfl, hB⟩))
      | (go_at_call 8; ((with_reducible refine (G1.out _ (HV.out.below hB)).mono ?_); rintro e w2 ⟨rfl, hX⟩; replace hB := bel2 hB hX; clear hX))
      | (go_at_call 9; ((with_reducible refine (G2.out _).mono ?_); rintro e w2 ⟨rfl, hX⟩; replace hB := bel2 hB hX; clear hX))
      | (go_at_call 10; ((with_reducible refine (G5.out _).mono ?_); rintro e w2 ⟨rfl, hX⟩; replace hB := bel2 hB hX; clear hX)))
    refine wp_region_below (by kernel_rfl) (by kernel_rfl) ?_
    repeat (first
      | (refine BigFrame.wpQuiet_skip (by rfl) ?_; (try simp only [Act.put, List.setIfInBounds_toArray, List.set_cons_zero, List.set_cons_succ]))
      | (refine BigFrame.wpQuiet_want (by rfl) (fun K hK => ?_); apply Exists.intro; refine ⟨fun W hW => ?_, hK _ ?_⟩; (focus (go_simp; (first | done | with_reducible rfl | (first | (go_at_call 11; with_reducible exact gives_above hW (G3.out _)) | (go_at_call 12; with_reducible exact gives_above hW (G4.out _)) | (go_at_call 13; with_reducible exact gives_above hW (G6.out _)) | (go_at_call 14; with_reducible exact gives_above hW (C1.out _)) | (go_at_call 14; with_reducible exact gives_above hW (C2.out _)) | (go_at_call 14; with_reducible exact gives_above hW (C3.out _)) | (go_at_call 15; with_reducible exact gives_above hW (D1.out _)) | (go_at_call 15; with_reducible exact gives_above hW (D2.out _)) | (go_at_call 15; with_reducible exact gives_above hW (D3.out _))) | (rw [if_neg (by omega)]; go_simp; (first | done | with_reducible rfl))))); clear hK K; (try simp only [Act.put, List.setIfInBounds_toArray, List.set_cons_zero, List.set_cons_succ])))
    refine wpQuiet_nil ?_
    intro w9 hB9
    replace hB := bel2 hB hB9
    go_wp2
    go_ret
    exact ⟨by simp, hB⟩
  · obtain rfl := i1 rfl
    clear i1 i2
    have G1 := Lib.hid G1; have G2 := Lib.hid G2
    go_enter Tryd.func3, Tryd.ntmps3
    go_wp2_with (first
      | (go_at_call 7; ((with_reducible refine (GK.out _).mono ?_); rintro e w1 ⟨rfl, hB⟩))
      | (go_at_call 8; ((with_reducible refine (G1.out _ (HV.out.below hB)).mono ?_); rintro e w2 ⟨rfl, hX⟩; replace hB := bel2 hB hX; clear hX))
      | (go_at_call 9; ((with_reducible refine (G2.out _).mono ?_); rintro e w2 ⟨rfl, hX⟩; replace hB := bel2 hB hX; clear hX))
      | (go_at_call 10; ((with_reducible refine (G5.out _).mono ?_); rintro e w2 ⟨rfl, hX⟩; replace hB := bel2 hB hX; clear hX)))
    refine wp_region_below (by kernel_rfl) (by kernel_rfl) ?_
    repeat (first
      | (refine BigFrame.wpQuiet_skip (by rfl) ?_; (try simp only [Act.put, List.setIfInBounds_toArray, List.set_cons_zero, List.set_cons_succ]))
      | (refine BigFrame.wpQuiet_want (by rfl) (fun K hK => ?_); apply Exists.intro; refine ⟨fun W hW => ?_, hK _ ?_⟩; (focus (go_simp; (first | done | with_reducible rfl | (first | (go_at_call 11; with_reducible exact gives_above hW (G3.out _)) | (go_at_call 12; with_reducible exact gives_above hW (G4.out _)) | (go_at_call 13; with_reducible exact gives_above hW (G6.out _)) | (go_at_call 14; with_reducible exact gives_above hW (C1.out _)) | (go_at_call 14; with_reducible exact gives_above hW (C2.out _)) | (go_at_call 14; with_reducible exact gives_above hW (C3.out _)) | (go_at_call 15; with_reducible exact gives_above hW (D1.out _)) | (go_at_call 15; with_reducible exact gives_above hW (D2.out _)) | (go_at_call 15; with_reducible exact gives_above hW (D3.out _))) | (rw [if_neg (by omega)]; go_simp; (first | done | with_reducible rfl))))); clear hK K; (try simp only [Act.put, List.setIfInBounds_toArray, List.set_cons_zero, List.set_cons_succ])))
    refine wpQuiet_nil ?_
    intro w9 hB9
    replace hB := bel2 hB hB9
    go_wp2
    go_ret
    exact ⟨by simp, hB⟩
theorem walk (id : Int) (hid : -9223372036854775808 ≤ id ∧ id < 9223372036854775808) (other : Int) (hot : -9223372036854775808 ≤ other ∧ other < 9223372036854775808) (s : ByteArray) (hs : s.size ≤ maxLen) (cut : Nat) (hc : cut < 256) (w : World) (hv : VarsOk w) :
    Calls Tryd.prog 3 #[.int .i64 id, .int .i64 other, .string s, .int .u8 cut] w fun e w' => e = .returned (.bool true) ∧ Below w.heap.size w w' := by
  by_cases h : 100 < s.size
  · exact tells_long id other s hs cut hc h w
  · exact tells_full id other s cut hc (by omega) w hv

/-- The door's own heap meets what the row lists. -/
theorem door_met (os : Os) (args : Array Value) : laidMetH Tryd.prog Rows.headTellsRow.laid ((World.doorLaid Tryd.prog 400 os).forCall (fun _ _ => 0) ⟨#[], args, []⟩).memory :=
  laidMetH_of_parts3 (fuel := 8) (laidMet_of_run' 8 (by kernel_rfl) (by kernel_rfl)) (by kernel_rfl) (by kernel_rfl)
set_option maxRecDepth 100000 in
theorem lifted (os : Os) (started : os.Started) (H : Type) (enc : TypeId × Value → H) :
    ReturnsInHanded {} Tryd.checked os 3 .any (fun w args => (Rows.headTellsSpec.pre enc Tryd.prog Tryd.f3 [] false w args ∧ laidMetH Tryd.prog Rows.headTellsRow.laid w) ∧ sizedMet enc Tryd.prog Tryd.f3 (OpenSpec.ofChange Rows.headTellsSpec) false w args) (Rows.headTellsSpec.post enc Tryd.prog Tryd.f3 false true false false) := by
  refine returnsInHanded_of_change_and (C := Tryd.checked) (X := fun w _ => laidMetH Tryd.prog Rows.headTellsRow.laid w) (fun _ _ _ hh h => h.of_heap hh) Tryd.own started (by kernel_rfl) Tryd.func3
    (ChangeSpec.witness_shaped (enc := enc) (C := Tryd.checked) (os := os) (X := fun w _ => laidMetH Tryd.prog Rows.headTellsRow.laid w) false (World.doorLaid Tryd.prog 400 os) #[.int .i64 0, .int .i64 0, .string ⟨#[]⟩, .int .u8 0] 8 rfl (World.shaped_of_RefB (by kernel_rfl) (by kernel_rfl)) (by kernel_rfl) (by kernel_rfl) (by kernel_rfl) (door_met os _)) ?_
  intro W base args ds gs before hval hW _ _ hL _
  have hVar : VarsOk W := by rw [MakeChecks.laidMetH_plain _ _ _ (by kernel_rfl)] at hL; exact vars_of hL
  refine law_contract (T := 4) (n := 4) Tryd.laid Tryd.underlying4 rfl rfl ⟨rfl, fun H ds h => by match ds, h with | [_, _, _, _], _ => rfl⟩ (of_all (by kernel_rfl)) hW ?_
  intro ps hA
  rw [Tryd.params3] at hA hval
  obtain ⟨v0, vs0, d0, ds0, p0, q0, hargs, rfl, rfl, h0, r0⟩ := trodAll_cons hA
  obtain ⟨v1, vs1, d1, ds1, p1, q1, rfl, rfl, rfl, h1, r1⟩ := trodAll_cons r0
  obtain ⟨v2, vs2, d2, ds2, p2, q2, rfl, rfl, rfl, h2, r2⟩ := trodAll_cons r1
  obtain ⟨v3, vs3, d3, ds3, p3, q3, rfl, rfl, rfl, h3, r3⟩ := trodAll_cons r2
  obtain ⟨rfl, rfl, rfl⟩ := trodAll_nil r3
  obtain rfl : args = #[v0, v1, v2, v3] := by cases args; simp_all
  obtain ⟨a0, rfl, rfl, rfl, w0⟩ := open_int Tryd.underlying3 (hval 0 3 v0 rfl rfl) h0
  obtain ⟨a1, rfl, rfl, rfl, w1⟩ := open_int Tryd.underlying3 (hval 1 3 v1 rfl rfl) h1
  obtain ⟨a2, rfl, rfl, rfl, w2⟩ := open_string Tryd.underlying9 (hval 2 9 v2 rfl rfl) h2
  obtain ⟨a3, rfl, rfl, rfl, w3⟩ := open_int Tryd.underlying5 (hval 3 5 v3 rfl rfl) h3
  obtain ⟨n3, rfl, b3⟩ := nat_of_u8 w3
  exact walk a0 (bounds_i64 w0) a1 (bounds_i64 w1) a2 w2 n3 b3 W hVar

theorem bare : Rows.HeadTellsSaid :=
  OpenClaim.holds_of_wide 3 Tryd.f3 rfl rfl rfl rfl rfl rfl rfl ⟨rfl, rfl, rfl, rfl, rfl⟩ rfl rfl rfl rfl rfl (by kernel_rfl) Tryd.func3 (by kernel_rfl)
    (of_decide_eq_true (by kernel_rfl)) (by unfold Func.isWrapper; first | (rw [if_pos (by decide +kernel)]; kernel_rfl) | (rw [if_neg (by decide +kernel)]; exact ⟨rfl, rfl⟩))
    (fun os started H enc _ => lifted os started H enc)

theorem holds : Rows.HeadTellsCardSaid :=
  Claim7.holds_tied_plain_at .later [] _ true _ true bare (fun _ h => by cases h) (by kernel_rfl) (fun _ h => by cases h) headTells_row_tie rfl ⟨rfl, rfl⟩ (by kernel_rfl) rfl
    (fun f fn hf hfn => by
      obtain rfl : f = 3 := Option.some.inj ((show Tryd.prog.funcNamed Rows.headTellsRow.func = some 3 by kernel_rfl).symm.trans hf) |>.symm
      obtain rfl : fn = Tryd.f3 := (Option.some.inj (Tryd.func3.symm.trans hfn)).symm
      exact ⟨by kernel_rfl, fun j t ht => by
        have hm : t ∈ Tryd.f3.params.toList := by simpa using Array.mem_of_getElem? ht
        have hall : (Tryd.f3.params.toList.all fun u => !Tryd.prog.wantsStandIn u) = true := by kernel_rfl
        exact (show Tryd.prog.wantsStandIn t = false by simpa using List.all_eq_true.1 hall t hm)⟩)
    (by kernel_rfl)

end Go.Proofs.YtnkmaiipijmncaaDoor.headTells
