/- The contract of a disk's Append. -/
import Derived.Test.YtieekahlknmkfaaDskA
import Derived.Deep.RegionHeld3
namespace Go.Proofs.Ytieekahlknmkfaa
open Go.RowKit Go.Shelf
set_option linter.unusedVariables false
attribute [local go_sem] Oper.semAt_some wide_fn wide_round_fn

def appP (s : ByteArray) (x : PF) : PF := ⟨x.n, x.b ++ s.data.toList, x.k⟩
def appendE (D : PD) (s b : ByteArray) : Int := if askE D s ≠ 0 then askE D s else if D.room < usedL D.L + b.size then 17 else 0
def appendD (D : PD) (s b : ByteArray) : PD := if appendE D s b = 0 then doneD { D with L := turnL (appP b) D.L s } else D
theorem appC {W w1 : World} {B d m : Nat} {D : PD} {F : List FileC} (h : HasDisk W B d m D F) {s : ByteArray} {f : FileC} (hf : f ∈ F) (v' : Value) (hown : ownsG w1 B 5 1 v' (f.b.length + s.size) (f.b.map vb ++ Lib.strCells s)) (hG : W.grownBy w1 f.v.ownBlock) (hb : ∀ j, v'.ownBlock = some j → f.v.ownBlock = some j ∨ W.heap.size ≤ j) :
    HasDisk (w1.setCell ⟨f.fb, 0, none⟩ v') B d m { D with L := turnL (appP s) D.L f.n } (setK FileC.n ⟨f.n, f.fb, v', f.b ++ s.data.toList, f.k⟩ F) ∧ FrameT (fun k => k = f.fb ∨ f.v.ownBlock = some k) W (w1.setCell ⟨f.fb, 0, none⟩ v') := by
  obtain ⟨h1, h2, h3⟩ := h.file f hf
  have hlt := h.lt (k := f.fb) (.inr (.inr ⟨f, hf, .inl rfl⟩))
  have hne := h.apart.2.2 f hf f hf
  have h1' : w1.heap[f.fb]? = some (.cells #[f.v, .int .i64 f.k] 85 (0, 0)) := (hG.block _ hlt (fun e => hne e.symm)).trans h1
  have hF : FrameT (fun k => k = f.fb ∨ f.v.ownBlock = some k) W (w1.setCell ⟨f.fb, 0, none⟩ v') := ((frame_grown hG).mono fun k hk => .inr hk.symm).trans ((FrameT.setCell w1 f.fb 0 v').mono fun k hk => .inl hk)
  have hlen : (f.b ++ s.data.toList).length = f.b.length + s.size := by rw [List.length_append, Array.length_toList]; rfl
  have hmap : (f.b ++ s.data.toList).map vb = f.b.map vb ++ Lib.strCells s := by rw [List.map_append]; rfl
  have hnb : ∀ j, v'.ownBlock = some j → j ≠ f.fb := fun j hj e => by
    rcases hb j hj with e1 | e1
    · exact hne (e1.trans (by rw [e]))
    · omega
  have := h.set hf ⟨f.n, f.fb, v', f.b ++ s.data.toList, f.k⟩ rfl rfl ⟨by dsimp only; rw [heap_setCell_same _ _ _ _ _ _ h1']; rfl, by dsimp only; rw [hlen, hmap]; exact ownsG_frame hown (FrameT.setCell w1 f.fb 0 v') hnb, by dsimp only; rw [hlen]; omega⟩ hb hF
  have e := set_turn h hf (appP s) rfl
  refine ⟨?_, hF⟩
  rw [← e]
  exact this
theorem opD_from {W W1 W2 : World} {B d m : Nat} {F : List FileC} {D' : PD} (hB : Below W.heap.size W W1) (h : OpD W1 B d m F D' W2) : OpD W B d m F D' W2 := by
  obtain ⟨F', h1, h2, h3⟩ := h
  refine ⟨F', h1, ((FrameT.below (T := fun _ => False) hB).mono (fun _ h => False.elim h)).trans h2, fun k hk => ?_⟩
  rcases h3 k hk with h4 | h4
  · exact .inl h4
  · exact .inr (Nat.le_trans hB.size h4)
theorem app_file {W w1 : World} {B d m : Nat} {D : PD} {F : List FileC} (h : HasDisk W B d m D F) {f : FileC} (hf : f ∈ F) (hG : W.grownBy w1 f.v.ownBlock) : w1.heap[f.fb]? = some (.cells #[f.v, .int .i64 f.k] 85 (0, 0)) :=
  (hG.block _ (h.lt (k := f.fb) (.inr (.inr ⟨f, hf, .inl rfl⟩))) (fun e => h.apart.2.2 f hf f hf e.symm)).trans (h.file f hf).1
set_option maxRecDepth 100000 in
set_option maxHeartbeats 1000000 in
theorem append_any {W : World} {B d m : Nat} {D : PD} {F : List FileC} (h : HasDisk W B d m D F) (s b : ByteArray) (hs : s.size ≤ maxLen) (hb : b.size ≤ 1000000) (hu : usedL D.L ≤ 1000000000) (hro : D.room ≤ 1000000) (hst : D.steps < 4611686018427387904) (hle : D.left < 9223372036854775808) (hBW : B ≤ W.heap.size) :
    Calls Try.prog 25 #[.pointer (some ⟨d, 0, none⟩), .string s, .string b] W fun e w' => e = .returned (.int .i64 (appendE D s b)) ∧ OpD W B d m F (appendD D s b) w' := by
  have GA := Lib.hid (ask_any h s hs)
  obtain ⟨c0, c1, c2, c3, c4⟩ := cells5 h.cell
  have HD := Lib.hid h
  have hbd : Below W.heap.size W W.drew := (Below.refl _ _).drew
  have GU := Lib.hid (used_any (h.below hbd) (by omega))
  have hu1 : (usedL D.L : Int) ≤ 1000000000 := by omega
  have hb1 : (b.size : Int) ≤ 1000000 := by omega
  have hw : IntKind.i64.wrap ((usedL D.L : Int) + (b.size : Int)) = (usedL D.L : Int) + (b.size : Int) := IntWalk.i64_in _ (by omega)
  obtain ⟨i0, hi, hz0, hz1, hz2⟩ := info_parts (show (Try.prog.info? 5).map (fun i => (i.zero, i.size, i.bytes)) = some (some (.int .u8 0), 1, 1) by kernel_rfl)
  by_cases ha : askE D s = 0
  · by_cases hr : D.room < usedL D.L + b.size
    · have HE := Lib.hid (show appendE D s b = 17 by unfold appendE; rw [if_neg (by rw [ha]; decide), if_pos hr])
      have hri : (D.room : Int) < (usedL D.L : Int) + (b.size : Int) := by omega
      rw [ha] at GA
      clear h ha hr hu hro hb hbd
      go_enter Try.func25, Try.ntmps25
      go_wp2_with (go_at_call 62; ((with_reducible refine GA.out.mono ?_); rintro e w1 ⟨rfl, rfl⟩))
      go_region_held3 (fun W' => W'.cell? ⟨d, 1, none⟩ = some (.int .i64 D.room)) (go_keep) (first
        | (go_at_call 28; (with_reducible refine GU.out.mono ?_); rintro e w4 ⟨rfl, hX⟩; have c1' : w4.cell? ⟨d, 1, none⟩ = some (.int .i64 D.room) := (cells5 ((HD.out.below (Below.refl _ _).drew).below hX).cell).2.1))
      have HX := Lib.hid (show Below w1.heap.size w1 w4 from bel2 (Below.refl _ _).drew hX)
      clear hX c0 c1 c2 c3 c4 c1'
      go_wp2
      go_ret
      unfold appendD
      rw [HE.out, if_neg (by decide)]
      exact ⟨rfl, F, HD.out.below HX.out, (FrameT.below (T := fun _ => False) HX.out).mono (fun _ h => False.elim h), fun k hk => .inl hk⟩
    · obtain ⟨ho, f, hg, hf, hn, hgd⟩ := ask_ok h ha
      have HE := Lib.hid (show appendE D s b = 0 by unfold appendE; rw [if_neg (by rw [ha]; decide), if_neg hr])
      have hri : (usedL D.L : Int) + (b.size : Int) ≤ (D.room : Int) := by omega
      have hfl : f.b.length ≤ usedL D.L := by rw [← h.core]; exact used_mem (f := f.core) (List.mem_map.2 ⟨f, hf, rfl⟩)
      have HB := Lib.hid (show f.b.length + b.size ≤ maxLen ∧ f.b.length + b.size ≤ 140737488355328 by unfold maxLen; omega)
      have HG := Lib.hid hg
      have HF := Lib.hid hf
      have HN := Lib.hid hn
      have GD := Lib.hid (fun (w1 : World) (F' : List FileC) (hH : HasDisk w1 B d m { D with L := turnL (appP b) D.L f.n } F') => done_any hH (show offB { D with L := turnL (appP b) D.L f.n } = false from ho) hst hle)
      rw [ha] at GA
      clear h ha hr hu hro hb hbd ho hg hf hn hgd hfl
      go_enter Try.func25, Try.ntmps25
      go_wp2_with (go_at_call 62; ((with_reducible refine GA.out.mono ?_); rintro e w1 ⟨rfl, rfl⟩))
      go_region_held3 (fun W' => W'.cell? ⟨d, 1, none⟩ = some (.int .i64 D.room)) (go_keep) (first
        | (go_at_call 28; (with_reducible refine GU.out.mono ?_); rintro e w4 ⟨rfl, hX⟩; have c1' : w4.cell? ⟨d, 1, none⟩ = some (.int .i64 D.room) := (cells5 ((HD.out.below (Below.refl _ _).drew).below hX).cell).2.1))
      have HX := Lib.hid (show Below w1.heap.size w1 w4 from bel2 (Below.refl _ _).drew hX)
      have hD4 := HD.out.below HX.out
      have HD4 := Lib.hid hD4
      clear hX c0 c1 c2 c3 c4 c1'
      obtain ⟨c0, c1, c2, c3, c4⟩ := cells5 hD4.cell
      have hrun := look_run hD4 hs HG.out
      obtain ⟨hc, hrow, hk⟩ := hD4.file f HF.out
      obtain ⟨a, cap, hv⟩ := own_sliceG hrow
      have HV := Lib.hid hv
      rw [hv] at hc
      obtain ⟨k0, k1, k2, k3⟩ := cells2 hc
      have HR := Lib.hid hrow
      have hBW4 : B ≤ w4.heap.size := Nat.le_trans hBW HX.out.size
      have HBW := Lib.hid hBW4
      clear hc hrow hv hk hD4 hBW4
      go_wp2_with (at_builtin; refine wpList_append_str rfl _ _ 64 9 rfl B 5 i0 Try.underlying64 Try.underlying9 hi hz0 hz1 hz2 (.slice a f.b.length cap) f.b.length (f.b.map vb) rfl (by rw [← HV.out]; exact HR.out) b rfl HB.out.1 HB.out.2 HBW.out ?_; intro v' w5 hown5 hgrow5 hblk5; rw [← HV.out] at hgrow5 hblk5; have HC := Lib.hid (appC HD4.out HF.out v' hown5 hgrow5 hblk5); have h5 := app_file HD4.out HF.out hgrow5; rw [HV.out] at h5; obtain ⟨a5, cap5, rfl⟩ := own_sliceG hown5; obtain ⟨q0, q1, q2, q3⟩ := cells2 h5; clear h5 k0 k1 k2 k3)
      go_wp2_with (go_at_call 59; ((with_reducible refine (GD.out _ _ HC.out.1).mono ?_); rintro e w6 ⟨rfl, hD6, hF6⟩))
      go_ret
      have hcd : appendD D s b = doneD { D with L := turnL (appP b) D.L f.n } := by unfold appendD; rw [HE.out, if_pos rfl, HN.out]
      rw [HE.out, hcd]
      refine ⟨rfl, opD_from HX.out ?_⟩
      exact opD_set (x := ⟨f.n, f.fb, _, f.b ++ b.data.toList, f.k⟩) HF.out rfl hblk5 HC.out.2 hF6 _ hD6
  · have HE := Lib.hid (show appendE D s b = askE D s by unfold appendE; rw [if_pos ha])
    have HC := Lib.hid (show appendD D s b = D by unfold appendD; rw [HE.out, if_neg ha])
    rcases askE_ne ha with h18 | h18
    all_goals
      have H18 := Lib.hid h18
      rw [h18] at GA
      clear h ha h18
      go_enter Try.func25, Try.ntmps25
      go_wp2_with (go_at_call 62; ((with_reducible refine GA.out.mono ?_); rintro e w1 ⟨rfl, rfl⟩))
      go_ret
      rw [HE.out, H18.out, HC.out]
      exact ⟨rfl, OpD.refl HD.out⟩

end Go.Proofs.Ytieekahlknmkfaa
