/- Law ManyWhole: for every input the call answers true; its arguments read as they did. No condition. -/
import Derived.Test.YtmmhghoapejaeaaGreatLaw
import Derived.Test.YtmmhghoapejaeaaGreatKnown7
import Derived.Test.YtmmhghoapejaeaaGreatManN
import Derived.Test.YtmmhghoapejaeaaGreatOpenGrp
namespace Go.Proofs.YtmmhghoapejaeaaGreat.manyWhole
open Go.ChangeShapes Go.WideShapes Go.ChangeAt Go.RowKit Go.Shelf
open Go.ChangeMaps (open_string shut_string)
set_option linter.unusedVariables false
attribute [local go_sem] Oper.semAt_some wide_fn wide_round_fn

theorem parts_has2 {w : World} {a : Option Addr} {len cap : Nat} {A : List PL} (hAl : A.length = len) (har : RowV w a len 10 (partCells A)) (hag : ∀ x ∈ A, GoodP w x) (hf : fewPs6 A = true) :
    HasP w a len A ∧ len ≤ 6 ∧ (∀ x ∈ A, x.2.length = x.1.len) ∧ ∀ x ∈ A, -9223372036854775808 ≤ x.1.g ∧ x.1.g < 9223372036854775808 := by
  simp only [fewPs6, Bool.and_eq_true, decide_eq_true_eq, List.all_eq_true] at hf
  exact ⟨⟨hAl, by omega, har, fun x hx => (hag x hx).has (hf.1 x hx)⟩, by omega, fun x hx => (hag x hx).2.1, fun x hx => (hag x hx).1.2.1⟩
theorem row_not_cell {W : World} {a : Option Addr} {n sz : Nat} {X : List Value} (h : RowV W a n sz X) (h2 : 2 ≤ sz) {d : Nat} {v : Value} {t : TypeId} {fz : Nat × Nat} (hd : W.heap[d]? = some (.cells #[v] t fz)) : ∀ k, inBlkE a n k → k ≠ d := by
  rintro k ⟨b, off, e, h0, rfl⟩ hb
  subst hb
  obtain ⟨b', off', e', _, hc⟩ := h.2.2 h0
  rw [e] at e'
  cases e'
  have hl := h.1
  have hz : 2 ≤ n * sz := Nat.le_trans h2 (Nat.le_mul_of_pos_left sz h0)
  have := hc 1 (by omega)
  simp [World.cell?, hd] at this
theorem hasP_other {w W W' : World} {c : Nat} {L : List GM} {a : Option Addr} {len : Nat} {ps : List PL} (h : HasP W a len ps) (hc : MS w c L W) (hF : FrameT (fun k => k = c) W W') : HasP W' a len ps := by
  obtain ⟨m, hc⟩ := hc.cell
  exact ⟨h.1, h.2.1, rowV_frame h.2.2.1 hF (fun k hk e => row_not_cell h.2.2.1 (by decide) hc k hk e), fun x hx => ⟨(h.2.2.2 x hx).1, (h.2.2.2 x hx).2.1, rowV_frame (h.2.2.2 x hx).2.2 hF (fun k hk e => row_not_cell (h.2.2.2 x hx).2.2 (by decide) hc k hk e)⟩⟩
/-- One part of a row of parts. -/
theorem hasP_one {W : World} {b off len : Nat} {ps : List PL} (h : HasP W (some ⟨b, off, none⟩) len ps) {n o : Nat} (hn : n < ps.length) (ho : o = off + n * 10) : HasP W (some ⟨b, o, none⟩) 1 [ps[n]] := by
  subst ho
  obtain ⟨h1, h2, h3, h4⟩ := h
  refine ⟨rfl, by decide, ⟨rfl, by decide, fun _ => ?_⟩, fun x hx => by rw [List.mem_singleton.1 hx]; exact h4 _ (List.getElem_mem hn)⟩
  obtain ⟨b', off', e, hb, hc⟩ := h3.2.2 (by omega)
  cases e
  refine ⟨b, _, rfl, hb, fun j hj => ?_⟩
  have hj' : j < 10 := hj
  refine part_at hb (Below.refl _ _) hc hn j _ hj' ?_
  have e : partCells [ps[n]] = ps[n].1.arr.toList := by simp [partCells]
  rw [← List.getElem?_eq_getElem hj, e]
set_option maxRecDepth 100000 in
set_option maxHeartbeats 4000000 in
theorem whole_many (w : World) (ga : Option Addr) (glen gcap : Nat) (Gl : List GV) (hGl : Gl.length = glen) (hgc : glen ≤ gcap) (hgr : RowV w ga glen 7 (gvCells Gl)) (hgg : ∀ x ∈ Gl, GoodG w x.g x.a) (aa : Option Addr) (alen acap : Nat) (A : List PL) (hAl : A.length = alen) (hac : alen ≤ acap) (har : RowV w aa alen 10 (partCells A)) (hag : ∀ x ∈ A, GoodP w x) (h6 : 6 < glen) : Calls Tryz.prog 4 #[.slice ga glen gcap, .slice aa alen acap] w fun e w' => e = .returned (.bool true) ∧ Below w.heap.size w w' := by
  have GK := Lib.hid man_known
  have h6i : (6 : Int) < (glen : Int) := by omega
  clear hgr hgg har hag
  clear h6
  go_enter Tryz.func4, Tryz.ntmps4
  go_wp2_with (first
    | (go_at_call 9; ((with_reducible refine (GK.out _).mono ?_); rintro e w1 ⟨rfl, hB1⟩)))
  go_ret
  exact ⟨rfl, hB1⟩
set_option maxRecDepth 100000 in
set_option maxHeartbeats 4000000 in
theorem whole_a (w : World) (ga : Option Addr) (glen gcap : Nat) (Gl : List GV) (hGl : Gl.length = glen) (hgc : glen ≤ gcap) (hgr : RowV w ga glen 7 (gvCells Gl)) (hgg : ∀ x ∈ Gl, GoodG w x.g x.a) (aa : Option Addr) (alen acap : Nat) (A : List PL) (hAl : A.length = alen) (hac : alen ≤ acap) (har : RowV w aa alen 10 (partCells A)) (hag : ∀ x ∈ A, GoodP w x) (h6 : glen ≤ 6) (hfa : fewPs6 A = false) : Calls Tryz.prog 4 #[.slice ga glen gcap, .slice aa alen acap] w fun e w' => e = .returned (.bool true) ∧ Below w.heap.size w w' := by
  have GK := Lib.hid man_known
  have h6i : (glen : Int) ≤ 6 := by omega
  have GA := Lib.hid (fun W (hB : Below w.heap.size w W) => fewPs7_any aa alen acap A W hAl (har.below hB) (fun x hx => ⟨(hag x hx).1, (hag x hx).2.1, (hag x hx).2.2.1.below hB, (hag x hx).2.2.2⟩))
  rw [hfa] at GA
  clear hgr hgg har hag
  clear h6 hfa
  go_enter Tryz.func4, Tryz.ntmps4
  go_wp2_with (first
    | (go_at_call 9; ((with_reducible refine (GK.out _).mono ?_); rintro e w1 ⟨rfl, hB1⟩))
    | (go_at_call 27; ((with_reducible refine (GA.out _ hB1).mono ?_); rintro e w2 ⟨rfl, hB2⟩; replace hB1 := bel2 hB1 hB2; clear hB2)))
  go_ret
  exact ⟨rfl, hB1⟩
set_option maxRecDepth 100000 in
set_option maxHeartbeats 4000000 in
theorem whole_all (w : World) (ga : Option Addr) (glen gcap : Nat) (Gl : List GV) (hGl : Gl.length = glen) (hgc : glen ≤ gcap) (hgr : RowV w ga glen 7 (gvCells Gl)) (hgg : ∀ x ∈ Gl, GoodG w x.g x.a) (aa : Option Addr) (alen acap : Nat) (A : List PL) (hAl : A.length = alen) (hac : alen ≤ acap) (har : RowV w aa alen 10 (partCells A)) (hag : ∀ x ∈ A, GoodP w x) (h6 : glen ≤ 6) (hfa : fewPs6 A = true) : Calls Tryz.prog 4 #[.slice ga glen gcap, .slice aa alen acap] w fun e w' => e = .returned (.bool true) ∧ Below w.heap.size w w' := by
  have GK := Lib.hid man_known
  have h6i : (glen : Int) ≤ 6 := by omega
  have GA := Lib.hid (fun W (hB : Below w.heap.size w W) => fewPs7_any aa alen acap A W hAl (har.below hB) (fun x hx => ⟨(hag x hx).1, (hag x hx).2.1, (hag x hx).2.2.1.below hB, (hag x hx).2.2.2⟩))
  rw [hfa] at GA
  have HPA := Lib.hid (parts_has2 (cap := acap) hAl har hag hfa)
  have HGR := Lib.hid hgr
  have HGG := Lib.hid hgg
  have HGL := Lib.hid hGl
  have HAL := Lib.hid hAl
  have HAC := Lib.hid hac
  clear hgr hgg har hag hfa hGl hAl hac
  go_enter Tryz.func4, Tryz.ntmps4
  go_wp2_with (first
    | (go_at_call 9; ((with_reducible refine (GK.out _).mono ?_); rintro e w1 ⟨rfl, hB1⟩))
    | (go_at_call 27; ((with_reducible refine (GA.out _ hB1).mono ?_); rintro e w2 ⟨rfl, hB2⟩; replace hB1 := bel2 hB1 hB2; clear hB2)))
  go_loopw [5] (fun q wr => ∃ n : Nat, n ≤ glen ∧ q = .int .i64 n ∧ (Gl.take n).all (fun x => fewGB x.g.l) = true ∧ Below w.heap.size w wr) (fun q _ => glen - (intOf q).toNat)
  case atStart => exact ⟨0, by omega, rfl, rfl, hB1⟩
  case round =>
  obtain ⟨n, hn, rfl, ha, hB⟩ := hrel
  have HA := Lib.hid ha
  clear ha
  by_cases hlt : n < glen
  · have hlt' : (n : Int) < (glen : Int) := by omega
    have hcs := HGR.out.2.2
    obtain ⟨gb, goff, rfl, hgb, hx⟩ := hcs (by omega)
    have hkl : n < Gl.length := by rw [HGL.out]; exact hlt
    obtain ⟨c0, c1, c2, c3, c4, c5, c6⟩ := gv_at7 hgb hB hx hkl
    have GX := HGG.out Gl[n] (List.getElem_mem hkl)
    have HT := Lib.hid (show fewGB Gl[n].g.l = true → (Gl.take (n + 1)).all (fun x => fewGB x.g.l) = true from fun h => by rw [List.take_succ_eq_append_getElem hkl, List.all_append, HA.out]; simp [h])
    clear hx hcs HA
    generalize Gl[n] = x at *
    obtain ⟨⟨id, fi, te, ht, hv, hc, l⟩, xa, xc⟩ := x
    dsimp only at *
    have GF := Lib.hid (fun W (hW : Below w.heap.size w W) => fewG7_any id fi te ht hv hc l xa xc W (GX.2.1.below hW) (fun e he => (GX.2.2 e he).2.2))
    clear GX
    cases hf : fewGB l
    · rw [hf] at GF
      clear HT hf
      go_wp2_with (go_at_call 11; ((with_reducible refine (GF.out _ hB).mono ?_); rintro e w2 ⟨rfl, hB2⟩; replace hB2 := bel2 hB hB2))
      go_ret
      exact ⟨rfl, hB2⟩
    · rw [hf] at GF
      have HT2 := Lib.hid (HT.out hf)
      clear HT hf
      go_wp2_with (go_at_call 11; ((with_reducible refine (GF.out _ hB).mono ?_); rintro e w2 ⟨rfl, hB2⟩; replace hB2 := bel2 hB hB2))
      go_roundw
      case rel => exact ⟨n + 1, by omega, by go_num, HT2.out, hB2⟩
      case measure => simp [intOf]; omega
  have hOn : n = glen := by omega
  subst n
  have hge : ¬ (glen : Int) < (glen : Int) := by omega
  have hfe : ∀ x ∈ Gl, HasG w x.a x.g ∧ x.g.l.length ≤ 30 := fun x hx => (HGG.out x hx).has (by
    have h1 := HA.out
    have h2 := HGL.out
    rw [List.take_of_length_le (by omega)] at h1
    exact List.all_eq_true.1 h1 x hx)
  have HFE := Lib.hid hfe
  clear hfe HA hn hlt GA hB1
  have hLen : (Gl.map GV.g).length ≤ 6 := by rw [List.length_map, HGL.out]; exact h6
  have hOK : manOK 30 (ofL (Gl.map GV.g)) := ofL_ok _ (fun g hg => by obtain ⟨x, hx, rfl⟩ := List.mem_map.1 hg; exact (HFE.out x hx).2)
  have GO := Lib.hid (fun W (hB : Below w.heap.size w W) => ms_of hB ga glen gcap Gl HGL.out (by omega) (HGR.out.below hB) (fun x hx => ⟨(HFE.out x hx).1.below hB, (HGG.out x hx).1.1⟩))
  generalize ofL (Gl.map GV.g) = M at *
  have HOK := Lib.hid hOK
  have GC := Lib.hid (fun W d (h : MS w d M W) => (show Calls Tryz.prog 14 #[.pointer (some ⟨d, 0, none⟩)] W fun e w' => ∃ c, e = .returned (.pointer (some ⟨c, 0, none⟩)) ∧ W.heap.size ≤ c ∧ MS w c M w' ∧ Below W.heap.size W w' from (ms_copy h).mono fun e w' ⟨c, h1, h2, h3, h4⟩ => ⟨c, h1, h2, h3, h4⟩))
  have GT := Lib.hid (fun W d (h : MS w d M W) => ms_settle h HOK.out aa alen acap A (HPA.out.1.below h.bel) (by have := HPA.out.2.1; omega) HPA.out.2.2.2)
  have GD1 := Lib.hid (fun W d (h : MS w d M W) => ms_do h HOK.out aa alen acap A (HPA.out.1.below h.bel) (by have := HPA.out.2.1; omega) HPA.out.2.2.2)
  have HGR2 := Lib.hid HGR.out.1
  clear hLen hOK HGR HGG HGL HFE
  by_cases ht : manT M A = 0
  · -- it is done
    have hz := manT_zero ht
    have hOKz : manOK (30 + 6 * A.length) (manW M A) := manW_ok HOK.out (by have := HAL.out; have := HPA.out.2.1; omega) HPA.out.2.2.1
    have hDo : manDo M A = manW M A := by unfold manDo; rw [if_pos ht]
    rw [ht, hDo] at GD1
    have G1 := Lib.hid (fun W d (n : Nat) (hn : n < A.length) (h : MS w d (manW M (A.take n)) W) (b off o c : Nat) (hA : aa = some ⟨b, off, none⟩) (ho : o = off + n * 10) => (show Calls Tryz.prog 19 #[.pointer (some ⟨d, 0, none⟩), .slice (some ⟨b, o, none⟩) 1 c] W (fun e w' => e = .returned (.int .i64 0) ∧ MS w d (manW M (A.take (n + 1))) w' ∧ FrameT (fun k => k = d) W w') from by
      have hp : HasP w (some ⟨b, off, none⟩) alen A := hA ▸ HPA.out.1
      have hE := manF_at (L := M) n hn hz.2.2
      obtain ⟨s1, s2⟩ := single_do hE
      have hOKn : manOK (30 + 6 * (A.take n).length) (manW M (A.take n)) := manW_ok HOK.out (by have := HAL.out; have := HPA.out.2.1; rw [List.length_take]; omega) (fun x hx => HPA.out.2.2.1 x (List.mem_of_mem_take hx))
      have := ms_do h hOKn (some ⟨b, o, none⟩) 1 c [A[n]] ((hasP_one hp hn ho).below h.bel) (by have := HAL.out; have := HPA.out.2.1; rw [List.length_take]; omega) (fun x hx => by rw [List.mem_singleton.1 hx]; exact HPA.out.2.2.2 _ (List.getElem_mem hn))
      rw [s1, s2, ← manW_snoc, ← List.take_succ_eq_append_getElem hn] at this
      exact this))
    have GZ := Lib.hid (fun W d sa sc S (h : MS w d M W) (hp : HasP W sa alen S) (hS : S.map core = (manS M A).map core) => (show Calls Tryz.prog 19 #[.pointer (some ⟨d, 0, none⟩), .slice sa alen sc] W (fun e w' => e = .returned (.int .i64 0) ∧ MS w d (manW M A) w' ∧ FrameT (fun k => k = d) W w') from by
      obtain ⟨s1, s2⟩ := settled_same HOK.out (by have := HAL.out; have := HPA.out.2.1; omega) HPA.out.2.2.1 hS (fun x hx => (hp.2.2.2 x hx).1) ht
      have hgid : ∀ x ∈ S, -9223372036854775808 ≤ x.1.g ∧ x.1.g < 9223372036854775808 := fun x hx => by
        have h1 := (manT_zero s1).2.1
        have h2 := refP_iff.1 (show refP x = false by
          rw [Bool.eq_false_iff]; intro h
          rw [List.any_eq_false] at h1
          exact h1 x hx h)
        have := isB_gid h2.1
        omega
      have := ms_do h HOK.out sa alen sc S hp (by have := HPA.out.2.1; omega) hgid
      rw [s1, s2] at this
      exact this))
    have GS := Lib.hid (fun W d c (h : MS w d (manW M A) W) (hc : MS w c (manW M A) W) => (show Gives Tryz.prog 28 #[.pointer (some ⟨d, 0, none⟩), .pointer (some ⟨c, 0, none⟩)] W (.bool true) from by have := ms_same h hc hOKz hOKz; rwa [decide_eq_true rfl] at this))
    unfold SetPost at GT
    have HRW := Lib.hid HPA.out.1.2.2.1
    have HAL6 := Lib.hid HPA.out.2.1
    rw [HAL.out] at GT
    clear hz hOKz hDo HOK HPA ht
    go_wp2_with (first
      | (go_at_call 12; ((with_reducible refine (GO.out _ hB).mono ?_); rintro e w3 ⟨d, rfl, -, hM, -⟩; clear hB))
      | (go_at_call 14; ((with_reducible refine (GC.out _ _ hM).mono ?_); rintro e w4 ⟨c, rfl, hcd, hC, hB4⟩; replace hcd : c ≠ d := (fun k => by have := hM.lt; omega); replace hM := hM.below hB4; clear hB4))
      | (go_at_call 15; ((with_reducible refine (GT.out _ _ hM).mono ?_); rintro e w5 ⟨sa, sc, S, rfl, hP, hS, -, hB5⟩; have hM5 := hM.below hB5; replace hC := hC.below hB5; clear hM hB5))
      | (go_at_call 19; ((with_reducible refine (GD1.out _ _ hM5).mono ?_); rintro e w6 ⟨rfl, hM6, hF⟩; have hC6 := hC.other hM5 (Ne.symm hcd) hF; replace hP := hasP_other hP hM5 hF; clear hM5 hC hF))
      | (go_at_call 14; ((with_reducible refine (GC.out _ _ hC6).mono ?_); rintro e w7 ⟨o1, rfl, ho1, hO, hB7⟩; have hC7 := hC6.below hB7; have hM7 := hM6.below hB7; replace hP := hP.below hB7; have hod : o1 ≠ d := (fun k => by have := hM6.lt; omega); clear hB7 hM6 hC6 ho1))
      | (go_at_call 14; ((with_reducible refine (GC.out _ _ hC7).mono ?_); rintro e w8 ⟨o2, rfl, ho2, hQ, hB8⟩; have hM8 := hM7.below hB8; have ho12 : o2 ≠ o1 := (fun k => by have := hO.lt; omega); have hO8 := hO.below hB8; replace hP := hP.below hB8; have ho2d : o2 ≠ d := (fun k => by have := hM7.lt; omega); clear hB8 hM7 hC7 ho2 hO)))
    go_loopw [12] (fun q wr => ∃ n : Nat, n ≤ alen ∧ q = .int .i64 n ∧ MS w o1 (manW M (A.take n)) wr ∧ MS w o2 M wr ∧ MS w d (manW M A) wr ∧ HasP wr sa alen S) (fun q _ => alen - (intOf q).toNat)
    case atStart => exact ⟨0, by omega, rfl, hO8, hQ, hM8, hP⟩
    case round =>
    clear hO8 hQ hM8 hP
    obtain ⟨n, hn, rfl, hO, hQ, hM, hP⟩ := hrel
    by_cases hlt : n < alen
    · have hlt' : (n : Int) < (alen : Int) := by omega
      have hw9 : IntKind.i64.wrap ((n : Int) + 1) = ((n + 1 : Nat) : Int) := (IntWalk.i64_in _ (by have := HAL6.out; omega)).trans (by push_cast; rfl)
      have hkl : n < A.length := by rw [HAL.out]; exact hlt
      have hac1 := HAC.out
      have hac2 : n + 1 ≤ acap := by omega
      obtain ⟨ab, aoff, hae, -, -⟩ := HRW.out.2.2 (by omega)
      have HAE := Lib.hid hae
      subst hae
      go_wp2_with (go_at_call 19; ((refine (G1.out _ _ n hkl hO _ _ _ _ HAE.out (by omega)).mono ?_); rintro e w9 ⟨rfl, hO9, hF⟩; have hQ9 := hQ.other hO (Ne.symm ho12) hF; have hM9 := hM.other hO hod hF; have hP9 := hasP_other hP hO hF; clear hO hQ hM hP hF))
      go_roundw
      case rel => exact ⟨n + 1, by omega, by go_num, hO9, hQ9, hM9, hP9⟩
      case measure => simp [intOf]; omega
    have hOn : n = alen := by omega
    subst n
    have hge : ¬ (alen : Int) < (alen : Int) := by omega
    rw [List.take_of_length_le (by rw [HAL.out]; exact Nat.le_refl _)] at hO
    go_wp2_with (first
      | (go_at_call 19; ((with_reducible refine (GZ.out _ _ _ _ _ hQ hP hS).mono ?_); rintro e w10 ⟨rfl, hQ10, hF⟩; have hO10 := hO.other hQ ho12 hF; have hM10 := hM.other hQ ho2d hF; clear hO hQ hM hF))
      | (go_at_call 28; ((with_reducible refine (GS.out _ _ _ hO10 hM10).mono ?_); rintro e w11 ⟨rfl, hB11⟩; have hQ11 := hQ10.below hB11; have hM11 := hM10.below hB11; clear hQ10 hM10 hO10 hB11))
      | (go_at_call 28; ((with_reducible refine (GS.out _ _ _ hQ11 hM11).mono ?_); rintro e w12 ⟨rfl, hB12⟩; have hBz := bel2 hM11.bel hB12)))
    go_ret
    exact ⟨by simp, hBz⟩
  · have ht' : (manT M A == 0) = false := by rw [beq_eq_false_iff_ne]; exact ht
    have ht2 : (manT M A != 0) = true := by rw [bne_iff_ne]; exact ht
    have hDo : manDo M A = M := by unfold manDo; rw [if_neg ht]
    rw [hDo] at GD1
    have GS := Lib.hid (fun W d c (h : MS w d M W) (hc : MS w c M W) => (show Gives Tryz.prog 28 #[.pointer (some ⟨d, 0, none⟩), .pointer (some ⟨c, 0, none⟩)] W (.bool true) from by have := ms_same h hc HOK.out HOK.out; rwa [decide_eq_true rfl] at this))
    unfold SetPost at GT
    clear hDo ht HPA
    generalize manT M A = t at *
    go_wp2_with (first
      | (go_at_call 12; ((with_reducible refine (GO.out _ hB).mono ?_); rintro e w3 ⟨d, rfl, -, hM, -⟩; clear hB))
      | (go_at_call 14; ((with_reducible refine (GC.out _ _ hM).mono ?_); rintro e w4 ⟨c, rfl, hcd, hC, hB4⟩; replace hcd : c ≠ d := (fun k => by have := hM.lt; omega); replace hM := hM.below hB4; clear hB4))
      | (go_at_call 15; ((with_reducible refine (GT.out _ _ hM).mono ?_); rintro e w5 ⟨sa, sc, S, rfl, -, -, -, hB5⟩; have hM5 := hM.below hB5; replace hC := hC.below hB5; clear hM hB5))
      | (go_at_call 19; ((with_reducible refine (GD1.out _ _ hM5).mono ?_); rintro e w6 ⟨rfl, hM6, hF⟩; have hC6 := hC.other hM5 (Ne.symm hcd) hF; clear hM5 hC hF))
      | (go_at_call 28; ((with_reducible refine (GS.out _ _ _ hM6 hC6).mono ?_); rintro e w7 ⟨rfl, hB7⟩; have hBz := bel2 hM6.bel hB7)))
    go_ret
    exact ⟨rfl, hBz⟩

theorem walk (w : World) (ga : Option Addr) (glen gcap : Nat) (Gl : List GV) (hGl : Gl.length = glen) (hgc : glen ≤ gcap) (hgr : RowV w ga glen 7 (gvCells Gl)) (hgg : ∀ x ∈ Gl, GoodG w x.g x.a) (aa : Option Addr) (alen acap : Nat) (A : List PL) (hAl : A.length = alen) (hac : alen ≤ acap) (har : RowV w aa alen 10 (partCells A)) (hag : ∀ x ∈ A, GoodP w x) : Calls Tryz.prog 4 #[.slice ga glen gcap, .slice aa alen acap] w fun e w' => e = .returned (.bool true) ∧ Below w.heap.size w w' := by
  by_cases h6 : 6 < glen
  · exact whole_many w ga glen gcap Gl hGl hgc hgr hgg aa alen acap A hAl hac har hag h6
  have h6' : glen ≤ 6 := by omega
  cases hfa : fewPs6 A
  · exact whole_a w ga glen gcap Gl hGl hgc hgr hgg aa alen acap A hAl hac har hag h6' hfa
  exact whole_all w ga glen gcap Gl hGl hgc hgr hgg aa alen acap A hAl hac har hag h6' hfa

set_option maxRecDepth 100000 in
theorem lifted (os : Os) (started : os.Started) (H : Type) (enc : TypeId × Value → H) :
    ReturnsInHanded {} Tryz.checked os 4 .any (Rows.manyWholeSpec.pre6 enc Tryz.prog Tryz.f4 Rows.manyWholeRow.domain false) (Rows.manyWholeSpec.post enc Tryz.prog Tryz.f4 false true false false) := by
  refine returnsInHanded_of_change (C := Tryz.checked) Tryz.own started (by kernel_rfl) Tryz.func4
    (ChangeSpec.witness6 (enc := enc) (C := Tryz.checked) false ⟨#[], #[.slice none 0 0, .slice none 0 0], []⟩ 8 (by kernel_rfl) (by kernel_rfl) (by kernel_rfl) (by kernel_rfl)) ?_
  intro W base args ds gs before hval hW _ _
  refine law_contract (T := 4) (n := 2) Tryz.laid Tryz.underlying4 rfl rfl ⟨rfl, fun H ds h => by match ds, h with | [_, _], _ => rfl⟩ (of_all (by kernel_rfl)) hW ?_
  intro ps hA
  rw [Tryz.params4] at hA hval
  obtain ⟨v0, vs0, d0, ds0, p0, q0, hargs, rfl, rfl, h0, r0⟩ := trodAll_cons hA
  obtain ⟨v1, vs1, d1, ds1, p1, q1, rfl, rfl, rfl, h1, r1⟩ := trodAll_cons r0
  obtain ⟨rfl, rfl, rfl⟩ := trodAll_nil r1
  obtain rfl : args = #[v0, v1] := by cases args; simp_all
  obtain ⟨s0, l0, c0, rfl⟩ := okWide_slice Tryz.underlying22 (hval 0 22 v0 rfl rfl)
  obtain ⟨zs0, e0, g0, w0, b0⟩ := open_groups h0
  obtain ⟨s1, l1, c1, rfl⟩ := okWide_slice Tryz.underlying37 (hval 1 37 v1 rfl rfl)
  obtain ⟨zs1, e1, g1, w1, b1⟩ := open_parts h1
  exact walk W s0 l0 c0 zs0 e0 g0 w0 b0 s1 l1 c1 zs1 e1 g1 w1 b1

theorem holds : Rows.ManyWholeSaid :=
  OpenClaim.holds_of_wide 4 Tryz.f4 rfl rfl rfl rfl rfl rfl rfl ⟨rfl, rfl, rfl, rfl, rfl⟩ rfl rfl rfl rfl rfl (by kernel_rfl) Tryz.func4 (by kernel_rfl)
    (of_decide_eq_true (by kernel_rfl)) (by unfold Func.isWrapper; first | (rw [if_pos (by decide +kernel)]; kernel_rfl) | (rw [if_neg (by decide +kernel)]; exact ⟨rfl, rfl⟩))
    (fun os started H enc _ => lifted os started H enc)
end Go.Proofs.YtmmhghoapejaeaaGreat.manyWhole
