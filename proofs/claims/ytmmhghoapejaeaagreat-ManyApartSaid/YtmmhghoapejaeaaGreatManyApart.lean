/- Law ManyApart: for every input the call answers true; its arguments read as they did. No condition. -/
import Derived.Test.YtmmhghoapejaeaaGreatLaw
import Derived.Test.YtmmhghoapejaeaaGreatKnown7
import Derived.Test.YtmmhghoapejaeaaGreatManN
import Derived.Test.YtmmhghoapejaeaaGreatOpenGrp
namespace Go.Proofs.YtmmhghoapejaeaaGreat.manyApart
open Go.ChangeShapes Go.WideShapes Go.ChangeAt Go.RowKit Go.Shelf
open Go.ChangeMaps (open_string shut_string)
set_option linter.unusedVariables false
attribute [local go_sem] Oper.semAt_some wide_fn wide_round_fn

theorem parts_has {w : World} {a : Option Addr} {len cap : Nat} {A : List PL} (hAl : A.length = len) (har : RowV w a len 10 (partCells A)) (hag : ∀ x ∈ A, GoodP w x) (hf : fewPs6 A = true) :
    HasP w a len A ∧ len ≤ 6 ∧ (∀ x ∈ A, x.2.length = x.1.len) ∧ ∀ x ∈ A, -9223372036854775808 ≤ x.1.g ∧ x.1.g < 9223372036854775808 := by
  simp only [fewPs6, Bool.and_eq_true, decide_eq_true_eq, List.all_eq_true] at hf
  exact ⟨⟨hAl, by omega, har, fun x hx => (hag x hx).has (hf.1 x hx)⟩, by omega, fun x hx => (hag x hx).2.1, fun x hx => (hag x hx).1.2.1⟩
set_option maxRecDepth 100000 in
set_option maxHeartbeats 4000000 in
theorem apart_many (w : World) (ga : Option Addr) (glen gcap : Nat) (Gl : List GV) (hGl : Gl.length = glen) (hgc : glen ≤ gcap) (hgr : RowV w ga glen 7 (gvCells Gl)) (hgg : ∀ x ∈ Gl, GoodG w x.g x.a) (aa : Option Addr) (alen acap : Nat) (A : List PL) (hAl : A.length = alen) (hac : alen ≤ acap) (har : RowV w aa alen 10 (partCells A)) (hag : ∀ x ∈ A, GoodP w x) (ba : Option Addr) (blen bcap : Nat) (B : List PL) (hBl : B.length = blen) (hbc : blen ≤ bcap) (hbr : RowV w ba blen 10 (partCells B)) (hbg : ∀ x ∈ B, GoodP w x) (h6 : 6 < glen) : Calls Tryz.prog 5 #[.slice ga glen gcap, .slice aa alen acap, .slice ba blen bcap] w fun e w' => e = .returned (.bool true) ∧ Below w.heap.size w w' := by
  have GK := Lib.hid man_known
  have h6i : (6 : Int) < (glen : Int) := by omega
  clear hgr hgg har hag hbr hbg
  clear h6
  go_enter Tryz.func5, Tryz.ntmps5
  go_wp2_with (first
    | (go_at_call 9; ((with_reducible refine (GK.out _).mono ?_); rintro e w1 ⟨rfl, hB1⟩)))
  go_ret
  exact ⟨rfl, hB1⟩
set_option maxRecDepth 100000 in
set_option maxHeartbeats 4000000 in
theorem apart_a (w : World) (ga : Option Addr) (glen gcap : Nat) (Gl : List GV) (hGl : Gl.length = glen) (hgc : glen ≤ gcap) (hgr : RowV w ga glen 7 (gvCells Gl)) (hgg : ∀ x ∈ Gl, GoodG w x.g x.a) (aa : Option Addr) (alen acap : Nat) (A : List PL) (hAl : A.length = alen) (hac : alen ≤ acap) (har : RowV w aa alen 10 (partCells A)) (hag : ∀ x ∈ A, GoodP w x) (ba : Option Addr) (blen bcap : Nat) (B : List PL) (hBl : B.length = blen) (hbc : blen ≤ bcap) (hbr : RowV w ba blen 10 (partCells B)) (hbg : ∀ x ∈ B, GoodP w x) (h6 : glen ≤ 6) (hfa : fewPs6 A = false) : Calls Tryz.prog 5 #[.slice ga glen gcap, .slice aa alen acap, .slice ba blen bcap] w fun e w' => e = .returned (.bool true) ∧ Below w.heap.size w w' := by
  have GK := Lib.hid man_known
  have h6i : (glen : Int) ≤ 6 := by omega
  have GA := Lib.hid (fun W (hB : Below w.heap.size w W) => fewPs7_any aa alen acap A W hAl (har.below hB) (fun x hx => ⟨(hag x hx).1, (hag x hx).2.1, (hag x hx).2.2.1.below hB, (hag x hx).2.2.2⟩))
  rw [hfa] at GA
  clear hgr hgg har hag hbr hbg
  clear h6 hfa
  go_enter Tryz.func5, Tryz.ntmps5
  go_wp2_with (first
    | (go_at_call 9; ((with_reducible refine (GK.out _).mono ?_); rintro e w1 ⟨rfl, hB1⟩))
    | (go_at_call 27; ((with_reducible refine (GA.out _ hB1).mono ?_); rintro e w2 ⟨rfl, hB2⟩; replace hB1 := bel2 hB1 hB2; clear hB2)))
  go_ret
  exact ⟨rfl, hB1⟩
set_option maxRecDepth 100000 in
set_option maxHeartbeats 4000000 in
theorem apart_b (w : World) (ga : Option Addr) (glen gcap : Nat) (Gl : List GV) (hGl : Gl.length = glen) (hgc : glen ≤ gcap) (hgr : RowV w ga glen 7 (gvCells Gl)) (hgg : ∀ x ∈ Gl, GoodG w x.g x.a) (aa : Option Addr) (alen acap : Nat) (A : List PL) (hAl : A.length = alen) (hac : alen ≤ acap) (har : RowV w aa alen 10 (partCells A)) (hag : ∀ x ∈ A, GoodP w x) (ba : Option Addr) (blen bcap : Nat) (B : List PL) (hBl : B.length = blen) (hbc : blen ≤ bcap) (hbr : RowV w ba blen 10 (partCells B)) (hbg : ∀ x ∈ B, GoodP w x) (h6 : glen ≤ 6) (hfa : fewPs6 A = true) (hfb : fewPs6 B = false) : Calls Tryz.prog 5 #[.slice ga glen gcap, .slice aa alen acap, .slice ba blen bcap] w fun e w' => e = .returned (.bool true) ∧ Below w.heap.size w w' := by
  have GK := Lib.hid man_known
  have h6i : (glen : Int) ≤ 6 := by omega
  have GA := Lib.hid (fun W (hB : Below w.heap.size w W) => fewPs7_any aa alen acap A W hAl (har.below hB) (fun x hx => ⟨(hag x hx).1, (hag x hx).2.1, (hag x hx).2.2.1.below hB, (hag x hx).2.2.2⟩))
  rw [hfa] at GA
  have GB := Lib.hid (fun W (hB : Below w.heap.size w W) => fewPs7_any ba blen bcap B W hBl (hbr.below hB) (fun x hx => ⟨(hbg x hx).1, (hbg x hx).2.1, (hbg x hx).2.2.1.below hB, (hbg x hx).2.2.2⟩))
  rw [hfb] at GB
  clear hgr hgg har hag hbr hbg
  clear h6 hfa hfb
  go_enter Tryz.func5, Tryz.ntmps5
  go_wp2_with (first
    | (go_at_call 9; ((with_reducible refine (GK.out _).mono ?_); rintro e w1 ⟨rfl, hB1⟩))
    | (go_at_call 27; ((with_reducible refine (GA.out _ hB1).mono ?_); rintro e w2 ⟨rfl, hB2⟩; replace hB1 := bel2 hB1 hB2; clear hB2))
    | (go_at_call 27; ((with_reducible refine (GB.out _ hB1).mono ?_); rintro e w2 ⟨rfl, hB2⟩; replace hB1 := bel2 hB1 hB2; clear hB2)))
  go_ret
  exact ⟨rfl, hB1⟩
set_option maxRecDepth 100000 in
set_option maxHeartbeats 4000000 in
theorem apart_all (w : World) (ga : Option Addr) (glen gcap : Nat) (Gl : List GV) (hGl : Gl.length = glen) (hgc : glen ≤ gcap) (hgr : RowV w ga glen 7 (gvCells Gl)) (hgg : ∀ x ∈ Gl, GoodG w x.g x.a) (aa : Option Addr) (alen acap : Nat) (A : List PL) (hAl : A.length = alen) (hac : alen ≤ acap) (har : RowV w aa alen 10 (partCells A)) (hag : ∀ x ∈ A, GoodP w x) (ba : Option Addr) (blen bcap : Nat) (B : List PL) (hBl : B.length = blen) (hbc : blen ≤ bcap) (hbr : RowV w ba blen 10 (partCells B)) (hbg : ∀ x ∈ B, GoodP w x) (h6 : glen ≤ 6) (hfa : fewPs6 A = true) (hfb : fewPs6 B = true) : Calls Tryz.prog 5 #[.slice ga glen gcap, .slice aa alen acap, .slice ba blen bcap] w fun e w' => e = .returned (.bool true) ∧ Below w.heap.size w w' := by
  have GK := Lib.hid man_known
  have h6i : (glen : Int) ≤ 6 := by omega
  have GA := Lib.hid (fun W (hB : Below w.heap.size w W) => fewPs7_any aa alen acap A W hAl (har.below hB) (fun x hx => ⟨(hag x hx).1, (hag x hx).2.1, (hag x hx).2.2.1.below hB, (hag x hx).2.2.2⟩))
  rw [hfa] at GA
  have GB := Lib.hid (fun W (hB : Below w.heap.size w W) => fewPs7_any ba blen bcap B W hBl (hbr.below hB) (fun x hx => ⟨(hbg x hx).1, (hbg x hx).2.1, (hbg x hx).2.2.1.below hB, (hbg x hx).2.2.2⟩))
  rw [hfb] at GB
  have HPA := Lib.hid (parts_has (cap := acap) hAl har hag hfa)
  have HPB := Lib.hid (parts_has (cap := bcap) hBl hbr hbg hfb)
  have h6a := HPA.out.2.1
  have h6b := HPB.out.2.1
  have HGR := Lib.hid hgr
  have HGG := Lib.hid hgg
  have HGL := Lib.hid hGl
  have HAR := Lib.hid har
  have HBR := Lib.hid hbr
  have HAL := Lib.hid hAl
  have HBL := Lib.hid hBl
  clear hgr hgg har hag hbr hbg hfa hfb hGl hAl hBl
  go_enter Tryz.func5, Tryz.ntmps5
  go_wp2_with (first
    | (go_at_call 9; ((with_reducible refine (GK.out _).mono ?_); rintro e w1 ⟨rfl, hB1⟩))
    | (go_at_call 27; ((with_reducible refine (GA.out _ hB1).mono ?_); rintro e w2 ⟨rfl, hB2⟩; replace hB1 := bel2 hB1 hB2; clear hB2))
    | (go_at_call 27; ((with_reducible refine (GB.out _ hB1).mono ?_); rintro e w2 ⟨rfl, hB2⟩; replace hB1 := bel2 hB1 hB2; clear hB2)))
  go_loopw [7] (fun q wr => ∃ n : Nat, n ≤ glen ∧ q = .int .i64 n ∧ (Gl.take n).all (fun x => fewGB x.g.l) = true ∧ Below w.heap.size w wr) (fun q _ => glen - (intOf q).toNat)
  case atStart => exact ⟨0, by omega, rfl, rfl, hB1⟩
  case round =>
  obtain ⟨n, hn, rfl, ha, hB⟩ := hrel
  have HA := Lib.hid ha
  clear ha
  by_cases hlt : n < glen
  · have hlt' : (n : Int) < (glen : Int) := by omega
    have hcs := HGR.out.2.2
    obtain ⟨gb, goff, rfl, hgb, hx⟩ := hcs (by omega)
    have hkl : n < Gl.length := by rw [HGL.out]; exact hlt
    obtain ⟨c0, c1, c2, c3, c4, c5, c6⟩ := gv_at7 hgb hB hx hkl
    have GX := HGG.out Gl[n] (List.getElem_mem hkl)
    have HT := Lib.hid (show fewGB Gl[n].g.l = true → (Gl.take (n + 1)).all (fun x => fewGB x.g.l) = true from fun h => by rw [List.take_succ_eq_append_getElem hkl, List.all_append, HA.out]; simp [h])
    clear hx hcs HA
    generalize Gl[n] = x at *
    obtain ⟨⟨id, fi, te, ht, hv, hc, l⟩, xa, xc⟩ := x
    dsimp only at *
    have GF := Lib.hid (fun W (hW : Below w.heap.size w W) => fewG7_any id fi te ht hv hc l xa xc W (GX.2.1.below hW) (fun e he => (GX.2.2 e he).2.2))
    clear GX
    cases hf : fewGB l
    · rw [hf] at GF
      clear HT hf
      go_wp2_with (go_at_call 11; ((with_reducible refine (GF.out _ hB).mono ?_); rintro e w2 ⟨rfl, hB2⟩; replace hB2 := bel2 hB hB2))
      go_ret
      exact ⟨rfl, hB2⟩
    · rw [hf] at GF
      have HT2 := Lib.hid (HT.out hf)
      clear HT hf
      go_wp2_with (go_at_call 11; ((with_reducible refine (GF.out _ hB).mono ?_); rintro e w2 ⟨rfl, hB2⟩; replace hB2 := bel2 hB hB2))
      go_roundw
      case rel => exact ⟨n + 1, by omega, by go_num, HT2.out, hB2⟩
      case measure => simp [intOf]; omega
  have hOn : n = glen := by omega
  subst n
  have hge : ¬ (glen : Int) < (glen : Int) := by omega
  have hfe : ∀ x ∈ Gl, HasG w x.a x.g ∧ x.g.l.length ≤ 30 := fun x hx => (HGG.out x hx).has (by
    have h1 := HA.out
    have h2 := HGL.out
    rw [List.take_of_length_le (by omega)] at h1
    exact List.all_eq_true.1 h1 x hx)
  have HFE := Lib.hid hfe
  clear hfe HA hn hlt GA GB hB1
  obtain ⟨wo, rfl⟩ : ∃ wo : World, wo = wr := ⟨_, rfl⟩
  go_wp2
  go_loopw [8, 9] (fun q _ wr => ∃ n : Nat, n ≤ alen ∧ q = .int .i64 n ∧ (∀ x ∈ A.take n, ∀ y ∈ B, x.1.g ≠ y.1.g) ∧ Below w.heap.size w wr) (fun q _ _ => alen - (intOf q).toNat)
  case atStart => exact ⟨0, by omega, rfl, fun x hx => (by simp at hx), hB⟩
  case round =>
  clear hB
  obtain ⟨n, hn, rfl, hna, hB⟩ := hrel
  have HNA := Lib.hid hna
  clear hna
  by_cases hlt : n < alen
  · have hlt' : (n : Int) < (alen : Int) := by omega
    obtain ⟨ab, aoff, rfl, hab, hax⟩ := HAR.out.2.2 (by omega)
    have hkl : n < A.length := by rw [HAL.out]; exact hlt
    obtain ⟨wp, rfl⟩ : ∃ wp : World, wp = wr := ⟨_, rfl⟩
    go_wp2
    go_loopw [9] (fun q wr => ∃ k : Nat, k ≤ blen ∧ q = .int .i64 k ∧ (∀ y ∈ B.take k, A[n].1.g ≠ y.1.g) ∧ Below w.heap.size w wr) (fun q _ => blen - (intOf q).toNat)
    case atStart => exact ⟨0, by omega, rfl, fun y hy => (by simp at hy), hB⟩
    case round =>
    clear hB
    obtain ⟨k, hk, rfl, hkb, hB⟩ := hrel
    have HKB := Lib.hid hkb
    clear hkb
    by_cases hlt2 : k < blen
    · have hlt2' : (k : Int) < (blen : Int) := by omega
      obtain ⟨bb, boff, rfl, hbb, hbx⟩ := HBR.out.2.2 (by omega)
      have hkl2 : k < B.length := by rw [HBL.out]; exact hlt2
      obtain ⟨a0, -⟩ := part_at10 hab hB hax hkl
      obtain ⟨b0, -⟩ := part_at10 hbb hB hbx hkl2
      have HT := Lib.hid (show A[n].1.g ≠ B[k].1.g → ∀ y ∈ B.take (k + 1), A[n].1.g ≠ y.1.g from fun h y hy => by
        rw [List.take_succ_eq_append_getElem hkl2] at hy
        rcases List.mem_append.1 hy with hy | hy
        · exact HKB.out y hy
        · rw [List.mem_singleton.1 hy]; exact h)
      clear hbx HKB
      generalize B[k].1.g = bg at *
      generalize A[n].1.g = ag at *
      by_cases he : ag = bg
      · subst he
        clear HT
        go_wp2
        go_region
        go_wp2
        go_ret
        exact ⟨rfl, hB.drew⟩
      · have he' : (ag == bg) = false := by rw [beq_eq_false_iff_ne]; exact he
        have HT2 := Lib.hid (HT.out he)
        clear HT he
        go_wp2
        go_region
        go_wp2
        go_roundw
        case rel => exact ⟨k + 1, by omega, by go_num, HT2.out, hB.drew⟩
        case measure => simp [intOf]; omega
    have hOk : k = blen := by omega
    subst k
    have hge2 : ¬ (blen : Int) < (blen : Int) := by omega
    have HT := Lib.hid (show ∀ x ∈ A.take (n + 1), ∀ y ∈ B, x.1.g ≠ y.1.g from fun x hx y hy => by
      have h1 := HKB.out
      have h2 := HBL.out
      rw [List.take_of_length_le (by omega)] at h1
      rw [List.take_succ_eq_append_getElem hkl] at hx
      rcases List.mem_append.1 hx with hx | hx
      · exact HNA.out x hx y hy
      · rw [List.mem_singleton.1 hx]; exact h1 y hy)
    clear HKB HNA
    go_wp2
    go_roundw
    case rel => exact ⟨n + 1, by omega, by go_num, HT.out, hB⟩
    case measure => simp [intOf]; omega
  have hOn : n = alen := by omega
  subst n
  have hge : ¬ (alen : Int) < (alen : Int) := by omega
  have hdis : ∀ x ∈ A, ∀ y ∈ B, x.1.g ≠ y.1.g := by
    have h1 := HNA.out
    have h2 := HAL.out
    rw [List.take_of_length_le (by omega)] at h1
    exact h1
  have hLen : (Gl.map GV.g).length ≤ 6 := by rw [List.length_map, HGL.out]; exact h6
  have hOK : manOK 30 (ofL (Gl.map GV.g)) := ofL_ok _ (fun g hg => by obtain ⟨x, hx, rfl⟩ := List.mem_map.1 hg; exact (HFE.out x hx).2)
  have GO := Lib.hid (fun W (hB : Below w.heap.size w W) => ms_of hB ga glen gcap Gl HGL.out (by omega) (HGR.out.below hB) (fun x hx => ⟨(HFE.out x hx).1.below hB, (HGG.out x hx).1.1⟩))
  generalize ofL (Gl.map GV.g) = M at *
  have hap := apart_same (a := A) (b := B) hOK (by have := HAL.out; have := HBL.out; have := HPA.out.2.1; have := HPB.out.2.1; omega) HPA.out.2.2.1 HPB.out.2.2.1 hdis
  have hOKa := manDo_ok (ps := A) hOK (by have := HAL.out; have := HPA.out.2.1; omega) HPA.out.2.2.1
  have hOKb := manDo_ok (ps := B) hOK (by have := HBL.out; have := HPB.out.2.1; omega) HPB.out.2.2.1
  have hOKz := manDo_ok (ps := B) hOKa (by have := HAL.out; have := HBL.out; have := HPA.out.2.1; have := HPB.out.2.1; omega) HPB.out.2.2.1
  have GD1 := Lib.hid (fun W d (h : MS w d M W) => ms_do h hOK aa alen acap A (HPA.out.1.below h.bel) (by have := HPA.out.2.1; omega) HPA.out.2.2.2)
  have GD2 := Lib.hid (fun W d (h : MS w d (manDo M A) W) => ms_do h hOKa ba blen bcap B (HPB.out.1.below h.bel) (by have := HAL.out; have := HPA.out.2.1; have := HPB.out.2.1; omega) HPB.out.2.2.2)
  have GD3 := Lib.hid (fun W d (h : MS w d M W) => ms_do h hOK ba blen bcap B (HPB.out.1.below h.bel) (by have := HPB.out.2.1; omega) HPB.out.2.2.2)
  have GD4 := Lib.hid (fun W d (h : MS w d (manDo M B) W) => ms_do h hOKb aa alen acap A (HPA.out.1.below h.bel) (by have := HBL.out; have := HPA.out.2.1; have := HPB.out.2.1; omega) HPA.out.2.2.2)
  rw [hap.2.1] at GD2
  rw [hap.1, ← hap.2.2] at GD4
  have GS := Lib.hid (fun W d c (h : MS w d (manDo (manDo M A) B) W) (hc : MS w c (manDo (manDo M A) B) W) => (show Gives Tryz.prog 28 #[.pointer (some ⟨d, 0, none⟩), .pointer (some ⟨c, 0, none⟩)] W (.bool true) from by have := ms_same h hc hOKz hOKz; rwa [decide_eq_true rfl] at this))
  have GC := Lib.hid (fun W d (h : MS w d M W) => (show Calls Tryz.prog 14 #[.pointer (some ⟨d, 0, none⟩)] W fun e w' => ∃ c, e = .returned (.pointer (some ⟨c, 0, none⟩)) ∧ c ≠ d ∧ MS w c M w' ∧ MS w d M w' from (ms_copy h).mono fun e w' ⟨c, h1, h2, h3, h4⟩ => ⟨c, h1, fun k => by have := h.lt; omega, h3, h.below h4⟩))
  clear hap hdis hLen hOK hOKa hOKb hOKz HGR HGG HGL HAR HBR HAL HBL HPA HPB HFE HNA hn hlt
  generalize manDo (manDo M A) B = MZ at *
  generalize manDo M A = MA at *
  generalize manDo M B = MB at *
  generalize manT M A = tA at *
  generalize manT M B = tB at *
  go_wp2_with (first
    | (go_at_call 12; ((with_reducible refine (GO.out _ hB).mono ?_); rintro e w3 ⟨d, rfl, -, hM, -⟩; clear hB))
    | (go_at_call 14; ((with_reducible refine (GC.out _ _ hM).mono ?_); rintro e w4 ⟨c, rfl, hcd, hC, hM4⟩; clear hM))
    | (go_at_call 19; ((with_reducible refine (GD1.out _ _ hM4).mono ?_); rintro e w5 ⟨rfl, hM5, hF⟩; replace hC := hC.other hM4 (Ne.symm hcd) hF; clear hM4 hF))
    | (go_at_call 19; ((with_reducible refine (GD2.out _ _ hM5).mono ?_); rintro e w6 ⟨rfl, hM6, hF⟩; replace hC := hC.other hM5 (Ne.symm hcd) hF; clear hM5 hF))
    | (go_at_call 19; ((with_reducible refine (GD3.out _ _ hC).mono ?_); rintro e w7 ⟨rfl, hC7, hF⟩; have hM7 := hM6.other hC hcd hF; clear hM6 hC hF))
    | (go_at_call 19; ((with_reducible refine (GD4.out _ _ hC7).mono ?_); rintro e w8 ⟨rfl, hC8, hF⟩; have hM8 := hM7.other hC7 hcd hF; clear hM7 hC7 hF))
    | (go_at_call 28; ((with_reducible refine (GS.out _ _ _ hM8 hC8).mono ?_); rintro e w9 ⟨rfl, hB9⟩; have hBz := bel2 hM8.bel hB9)))
  go_ret
  exact ⟨by simp, hBz⟩

theorem walk (w : World) (ga : Option Addr) (glen gcap : Nat) (Gl : List GV) (hGl : Gl.length = glen) (hgc : glen ≤ gcap) (hgr : RowV w ga glen 7 (gvCells Gl)) (hgg : ∀ x ∈ Gl, GoodG w x.g x.a) (aa : Option Addr) (alen acap : Nat) (A : List PL) (hAl : A.length = alen) (hac : alen ≤ acap) (har : RowV w aa alen 10 (partCells A)) (hag : ∀ x ∈ A, GoodP w x) (ba : Option Addr) (blen bcap : Nat) (B : List PL) (hBl : B.length = blen) (hbc : blen ≤ bcap) (hbr : RowV w ba blen 10 (partCells B)) (hbg : ∀ x ∈ B, GoodP w x) : Calls Tryz.prog 5 #[.slice ga glen gcap, .slice aa alen acap, .slice ba blen bcap] w fun e w' => e = .returned (.bool true) ∧ Below w.heap.size w w' := by
  by_cases h6 : 6 < glen
  · exact apart_many w ga glen gcap Gl hGl hgc hgr hgg aa alen acap A hAl hac har hag ba blen bcap B hBl hbc hbr hbg h6
  have h6' : glen ≤ 6 := by omega
  cases hfa : fewPs6 A
  · exact apart_a w ga glen gcap Gl hGl hgc hgr hgg aa alen acap A hAl hac har hag ba blen bcap B hBl hbc hbr hbg h6' hfa
  cases hfb : fewPs6 B
  · exact apart_b w ga glen gcap Gl hGl hgc hgr hgg aa alen acap A hAl hac har hag ba blen bcap B hBl hbc hbr hbg h6' hfa hfb
  exact apart_all w ga glen gcap Gl hGl hgc hgr hgg aa alen acap A hAl hac har hag ba blen bcap B hBl hbc hbr hbg h6' hfa hfb

set_option maxRecDepth 100000 in
theorem lifted (os : Os) (started : os.Started) (H : Type) (enc : TypeId × Value → H) :
    ReturnsInHanded {} Tryz.checked os 5 .any (Rows.manyApartSpec.pre6 enc Tryz.prog Tryz.f5 Rows.manyApartRow.domain false) (Rows.manyApartSpec.post enc Tryz.prog Tryz.f5 false true false false) := by
  refine returnsInHanded_of_change (C := Tryz.checked) Tryz.own started (by kernel_rfl) Tryz.func5
    (ChangeSpec.witness6 (enc := enc) (C := Tryz.checked) false ⟨#[], #[.slice none 0 0, .slice none 0 0, .slice none 0 0], []⟩ 8 (by kernel_rfl) (by kernel_rfl) (by kernel_rfl) (by kernel_rfl)) ?_
  intro W base args ds gs before hval hW _ _
  refine law_contract (T := 4) (n := 3) Tryz.laid Tryz.underlying4 rfl rfl ⟨rfl, fun H ds h => by match ds, h with | [_, _, _], _ => rfl⟩ (of_all (by kernel_rfl)) hW ?_
  intro ps hA
  rw [Tryz.params5] at hA hval
  obtain ⟨v0, vs0, d0, ds0, p0, q0, hargs, rfl, rfl, h0, r0⟩ := trodAll_cons hA
  obtain ⟨v1, vs1, d1, ds1, p1, q1, rfl, rfl, rfl, h1, r1⟩ := trodAll_cons r0
  obtain ⟨v2, vs2, d2, ds2, p2, q2, rfl, rfl, rfl, h2, r2⟩ := trodAll_cons r1
  obtain ⟨rfl, rfl, rfl⟩ := trodAll_nil r2
  obtain rfl : args = #[v0, v1, v2] := by cases args; simp_all
  obtain ⟨s0, l0, c0, rfl⟩ := okWide_slice Tryz.underlying22 (hval 0 22 v0 rfl rfl)
  obtain ⟨zs0, e0, g0, w0, b0⟩ := open_groups h0
  obtain ⟨s1, l1, c1, rfl⟩ := okWide_slice Tryz.underlying37 (hval 1 37 v1 rfl rfl)
  obtain ⟨zs1, e1, g1, w1, b1⟩ := open_parts h1
  obtain ⟨s2, l2, c2, rfl⟩ := okWide_slice Tryz.underlying37 (hval 2 37 v2 rfl rfl)
  obtain ⟨zs2, e2, g2, w2, b2⟩ := open_parts h2
  exact walk W s0 l0 c0 zs0 e0 g0 w0 b0 s1 l1 c1 zs1 e1 g1 w1 b1 s2 l2 c2 zs2 e2 g2 w2 b2

theorem holds : Rows.ManyApartSaid :=
  OpenClaim.holds_of_wide 5 Tryz.f5 rfl rfl rfl rfl rfl rfl rfl ⟨rfl, rfl, rfl, rfl, rfl⟩ rfl rfl rfl rfl rfl (by kernel_rfl) Tryz.func5 (by kernel_rfl)
    (of_decide_eq_true (by kernel_rfl)) (by unfold Func.isWrapper; first | (rw [if_pos (by decide +kernel)]; kernel_rfl) | (rw [if_neg (by decide +kernel)]; exact ⟨rfl, rfl⟩))
    (fun os started H enc _ => lifted os started H enc)
end Go.Proofs.YtmmhghoapejaeaaGreat.manyApart
