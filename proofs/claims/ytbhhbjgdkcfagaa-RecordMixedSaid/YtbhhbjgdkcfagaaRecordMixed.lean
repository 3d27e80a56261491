/- Law RecordMixed: for every input the call answers true; its arguments read as they did. No condition. -/
import Derived.Deep.AppendLies
import Derived.Test.YtbhhbjgdkcfagaaLaw
import Derived.Test.YtbhhbjgdkcfagaaRecs
import Derived.Test.YtbhhbjgdkcfagaaRefIs6
namespace Go.Proofs.Ytbhhbjgdkcfagaa.recordMixed
open Go.ChangeShapes Go.WideShapes Go.ChangeAt Go.RowKit Go.Shelf
open Go.ChangeMaps (open_string shut_string)
set_option linter.unusedVariables false
attribute [local go_sem] Oper.semAt_some wide_fn wide_round_fn


theorem goodP_below {w W : World} {x : PL} (h : GoodP w x) (hB : Below w.heap.size w W) : GoodP W x := ⟨h.1, h.2.1, h.2.2.1.below hB, h.2.2.2⟩
def selB (x : PL) : Bool := isB x.1 x.2 && !(decide (x.1.k = 6))
def sel (L : List PL) (k : Nat) : List PL := (L.take k).filter selB
theorem sel_yes {L : List PL} {k : Nat} (hk : k < L.length) (h : selB L[k] = true) : sel L (k + 1) = sel L k ++ [L[k]] := by
  unfold sel; rw [List.take_succ_eq_append_getElem hk, List.filter_append]; simp [h]
theorem sel_no {L : List PL} {k : Nat} (hk : k < L.length) (h : selB L[k] = false) : sel L (k + 1) = sel L k := by
  unfold sel; rw [List.take_succ_eq_append_getElem hk, List.filter_append]; simp [h]
theorem sel_len (L : List PL) (k : Nat) : (sel L k).length ≤ k := by
  unfold sel; exact Nat.le_trans (List.length_filter_le _ _) (List.length_take_le _ _)
theorem sel_mem {L : List PL} {k : Nat} {x : PL} (h : x ∈ sel L k) : x ∈ L ∧ selB x = true := by
  unfold sel at h; have := List.mem_filter.1 h; exact ⟨List.mem_of_mem_take this.1, this.2⟩
theorem sel_rec {s : Int} {M : List PL} (hs : 1 ≤ s ∧ s ≤ 1125899906842624) (h : ∀ x ∈ M, selB x = true) : recB s M = (decide (1 ≤ M.length) && decide (M.length ≤ 4)) := by
  have hf : fwdOf M = false := by
    cases M with
    | nil => rfl
    | cons x r => have := h x List.mem_cons_self; simp only [selB, Bool.and_eq_true, Bool.not_eq_true'] at this; exact this.2
  have ha : M.all (okR (fwdOf M)) = true := by
    rw [List.all_eq_true, hf]
    intro x hx
    have := h x hx
    simp only [selB, Bool.and_eq_true, Bool.not_eq_true'] at this
    simp only [okR, this.1, this.2]; rfl
  unfold recB; rw [ha, decide_eq_true hs.1, decide_eq_true hs.2]; simp
def headF : PL := (⟨0, 6, none, 0, 0, 0, 0, 0, 0, 0, false, true⟩, [])
theorem headF_ok : recB 1 [headF] = true := by kernel_rfl
theorem mixed_no {s : Int} {x : PL} (h : selB x = true) : recB s [x, headF] = false := by
  simp only [selB, Bool.and_eq_true, Bool.not_eq_true'] at h
  rw [Bool.eq_false_iff, Ne, recB_iff]
  rintro ⟨_, _, ha⟩
  have h1 : fwdOf [x, headF] = false := h.2
  have h2 := ha headF (by simp)
  rw [h1] at h2
  have h3 : okR false headF = false := by kernel_rfl
  rw [h3] at h2; cases h2

theorem own_type_ne {W : World} {base : Nat} {e : TypeId} {size n c g Z : Nat} {xs : List Value} {cs : Array Value} {T : TypeId} {fr : Nat × Nat} (h : W.ownsRow base e size (.slice (some ⟨g, 0, none⟩) n c) n xs) (hq : W.heap[Z]? = some (.cells cs T fr)) (hT : T ≠ e) : g ≠ Z := by
  rintro rfl
  rcases h.2 with ⟨hv, _⟩ | ⟨g9, cap9, cur9, hv, _, hgg, _⟩
  · cases hv
  · cases hv
    rw [hq] at hgg
    injection hgg with hgg
    injection hgg with _ hty
    exact hT hty
theorem rowV_fr5 {W W' : World} {T : Nat → Prop} {g n sz : Nat} {xs : List Value} (h : RowV W (some ⟨g, 0, none⟩) n sz xs) (hF : FrameT T W W') (hT : ¬ T g) : RowV W' (some ⟨g, 0, none⟩) n sz xs := by
  refine ⟨h.1, h.2.1, fun h0 => ?_⟩
  obtain ⟨b, off, e, hb, hx⟩ := h.2.2 h0
  cases e
  exact ⟨g, 0, rfl, Nat.lt_of_lt_of_le hb hF.size, fun j hj => (World.cell?_of_block (hF.block g hb hT)).trans (hx j hj)⟩
theorem row_tail {W : World} {g : Nat} {A B : List Value} (hA : A.length = 10) (hB : B.length = 10) (h : RowV W (some ⟨g, 0, none⟩) 2 10 (A ++ B)) : RowV W (some ⟨g, 10, none⟩) 1 10 B := by
  refine ⟨by rw [hB], by unfold maxLen; omega, fun _ => ?_⟩
  obtain ⟨b, off, e, hb, hx⟩ := h.2.2 (by omega)
  cases e
  refine ⟨g, 10, rfl, hb, fun j hj => ?_⟩
  have := hx (10 + j) (by rw [List.length_append]; omega)
  rw [List.getElem_append_right (by omega)] at this
  rw [show 10 + j = 0 + (10 + j) by omega, this]
  congr 2
  omega
theorem addr_add (b o j : Nat) : (⟨b, o, none⟩ : Addr).add j = ⟨b, o + j, none⟩ := by unfold Addr.add; split <;> simp_all
set_option maxRecDepth 100000 in
set_option maxHeartbeats 8000000 in
theorem mixed_few (w : World) (a : Option Addr) (len cap : Nat) (L : List PL) (hL : L.length = len) (hrow : RowV w a len 10 (partCells L)) (hg : ∀ x ∈ L, GoodP w x) (nn : Nat) (hnn : nn < 256) (hf : fewPs L = true) :
    Calls Try.prog 3 #[.slice a len cap, .int .u8 nn] w fun e w' => e = .returned (.bool true) ∧ Below w.heap.size w w' := by
  obtain ⟨i0, hi, hz0, hz1, hz2⟩ := info_parts infoPart
  have GK := Lib.hid rec_known
  have GF := Lib.hid (fun W (hB : Below w.heap.size w W) => fewPs_any a len cap L W hL (hrow.below hB) (fun x hx => goodP_below (hg x hx) hB))
  rw [hf] at GF
  have H := fewPs_has hL hrow hg hf
  have h6 : len ≤ 6 := by simp only [fewPs, Bool.and_eq_true, decide_eq_true_eq] at hf; omega
  have HE := Lib.hid H.2.2.2
  have HL := Lib.hid hL
  have hcs := hrow.2.2
  clear hg hrow hL H hf
  go_enter Try.func3, Try.ntmps3
  go_wp2_with (first
    | (go_at_call 5; ((with_reducible refine (GK.out _).mono ?_); rintro e w1 ⟨rfl, hB1⟩))
    | (go_at_call 6; ((with_reducible refine (GF.out _ hB1).mono ?_); rintro e w2 ⟨rfl, hB2⟩; have hA2 := bel2 hB1 hB2)))
  go_loopw [5, 6] (fun sv si wr => ∃ (k : Nat) (v : Value), k ≤ len ∧ si = .int .i64 k ∧ v = sv ∧ wr.ownsRow w.heap.size 30 10 v (sel L k).length (partCells (sel L k)) ∧ Below w.heap.size w wr) (fun _ si _ => len - (intOf si).toNat)
  case atStart => exact ⟨0, _, by omega, rfl, rfl, World.ownsRow_nil _ _ _ _, hA2⟩
  case round =>
    obtain ⟨k, v, hk, rfl, rfl, hown, hB⟩ := hrel
    have hsz := hB.size
    clear hB1 hB2 hA2
    by_cases hlt : k < len
    · obtain ⟨b, off, rfl, hb, hx⟩ := hcs (by omega)
      have hkl : k < L.length := by rw [HL.out]; exact hlt
      obtain ⟨c0, c1, c2, c3, c4, c5, c6, c7, c8, c9⟩ := part_at10 hb hB hx hkl
      have hEk := HE.out L[k] (List.getElem_mem hkl)
      have HY := Lib.hid (fun h => sel_yes hkl h)
      have HNo := Lib.hid (fun h => sel_no hkl h)
      have hgn := sel_len L k
      have hbw : b < wr.heap.size := Nat.lt_of_lt_of_le hb hB.size
      have hk0 : (0 : Int) ≤ (k : Int) := by omega
      have hk1 : (k : Int) < (len : Int) := by omega
      clear hx hcs hb HE
      generalize L[k] = x at *
      obtain ⟨p, l⟩ := x
      dsimp only at *
      have GI := Lib.hid (fun W (hW : Below w.heap.size w W) => refIs_any p l W (hEk.below hW))
      have HO := Lib.hid (show selB (p, l) = (isB p l && !(decide (p.k = 6))) from rfl)
      have HC := Lib.hid (partCells_snoc (sel L k) (p, l))
      generalize hi9 : isB p l = bi at *
      clear hi9
      obtain ⟨pg, pk, pa, plen, pcap, pht, phv, phc, pi, pt, pm, ph⟩ := p
      dsimp only [PartC.val, PartC.arr] at *
      clear hEk
      cases bi
      · have HY2 := Lib.hid (HNo.out HO.out)
        clear HY HNo
        go_wp2_with (go_at_call 7; ((with_reducible refine (GI.out _ hB).mono ?_); rintro e w4 ⟨rfl, hX⟩; replace hown := ownsRow_below (n := 0) hown hX; replace hB := bel2 hB hX; clear hX))
        go_roundw
        case rel => exact ⟨k + 1, _, by omega, by go_num, rfl, by rw [HY2.out]; exact hown, hB⟩
        case measure => simp [intOf]; omega
      · by_cases h6k : pk = 6
        · subst h6k
          have HY2 := Lib.hid (HNo.out (HO.out.trans (by simp)))
          clear HY HNo
          go_wp2_with (go_at_call 7; ((with_reducible refine (GI.out _ hB).mono ?_); rintro e w4 ⟨rfl, hX⟩; replace hown := ownsRow_below (n := 0) hown hX; replace hB := bel2 hB hX; replace c0 := (hX.cell (p := ⟨b, off + k * 10, none⟩) hbw).trans c0; replace c1 := (hX.cell (p := ⟨b, off + k * 10 + 1, none⟩) hbw).trans c1; replace c2 := (hX.cell (p := ⟨b, off + k * 10 + 2, none⟩) hbw).trans c2; replace c3 := (hX.cell (p := ⟨b, off + k * 10 + 3, none⟩) hbw).trans c3; replace c4 := (hX.cell (p := ⟨b, off + k * 10 + 4, none⟩) hbw).trans c4; replace c5 := (hX.cell (p := ⟨b, off + k * 10 + 5, none⟩) hbw).trans c5; replace c6 := (hX.cell (p := ⟨b, off + k * 10 + 6, none⟩) hbw).trans c6; replace c7 := (hX.cell (p := ⟨b, off + k * 10 + 7, none⟩) hbw).trans c7; replace c8 := (hX.cell (p := ⟨b, off + k * 10 + 8, none⟩) hbw).trans c8; replace c9 := (hX.cell (p := ⟨b, off + k * 10 + 9, none⟩) hbw).trans c9; replace hbw := Nat.lt_of_lt_of_le hbw hX.size; clear hX))
          go_roundw
          case rel => exact ⟨k + 1, _, by omega, by go_num, rfl, by rw [HY2.out]; exact hown, hB⟩
          case measure => simp [intOf]; omega
        · have h6b : (pk == 6) = false := by simpa using h6k
          have HY2 := Lib.hid (HY.out (HO.out.trans (by simp [h6k])))
          have HGL := Lib.hid (show (sel L (k + 1)).length = (sel L k).length + 1 by rw [HY2.out]; simp)
          rw [← HY2.out] at HC
          clear HY HNo h6k
          go_wp2_with (first
            | (go_at_call 7; ((with_reducible refine (GI.out _ hB).mono ?_); rintro e w4 ⟨rfl, hX⟩; replace hown := ownsRow_below (n := 0) hown hX; replace hB := bel2 hB hX; replace c0 := (hX.cell (p := ⟨b, off + k * 10, none⟩) hbw).trans c0; replace c1 := (hX.cell (p := ⟨b, off + k * 10 + 1, none⟩) hbw).trans c1; replace c2 := (hX.cell (p := ⟨b, off + k * 10 + 2, none⟩) hbw).trans c2; replace c3 := (hX.cell (p := ⟨b, off + k * 10 + 3, none⟩) hbw).trans c3; replace c4 := (hX.cell (p := ⟨b, off + k * 10 + 4, none⟩) hbw).trans c4; replace c5 := (hX.cell (p := ⟨b, off + k * 10 + 5, none⟩) hbw).trans c5; replace c6 := (hX.cell (p := ⟨b, off + k * 10 + 6, none⟩) hbw).trans c6; replace c7 := (hX.cell (p := ⟨b, off + k * 10 + 7, none⟩) hbw).trans c7; replace c8 := (hX.cell (p := ⟨b, off + k * 10 + 8, none⟩) hbw).trans c8; replace c9 := (hX.cell (p := ⟨b, off + k * 10 + 9, none⟩) hbw).trans c9; replace hbw := Nat.lt_of_lt_of_le hbw hX.size; have hs4 := hB.size; clear hX))
            | (at_builtin; refine wpList_append_own _ rfl _ _ 22 rfl w.heap.size 30 i0 (.agg #[.int .i64 0, .int .i64 0, .slice none 0 0, .int .i64 0, .int .i64 0, .int .i64 0, .int .i64 0, .int .i64 0, .bool false, .bool false]) 10 88 Try.underlying22 hi hz0 hz1 hz2 rfl (by decide) _ _ _ rfl (hown.alloc _) ⟨w4.heap.size, 0, none⟩ 1 1 [.int .i64 pg, .int .i64 pk, .slice pa plen pcap, .int .i64 pht, .int .i64 phv, .int .i64 phc, .int .i64 pi, .int .i64 pt, .bool pm, .bool ph] rfl rfl (news_new _ _ _) (by simp [Value.oneCell']) (by unfold maxLen; omega) (by omega) (by simp; omega) ?_; intro v' w5 hown5 hgrow _; have hB5 := ((hB.trans ((bel_alloc (Below.refl w4.heap.size w4) (.cells #[.int .i64 pg, .int .i64 pk, .slice pa plen pcap, .int .i64 pht, .int .i64 phv, .int .i64 phc, .int .i64 pi, .int .i64 pt, .bool pm, .bool ph] 30)).mono hB.size)).grown hgrow (by simp; omega) (fun k hk => ownBlock_ge hown hk))))
          go_roundw
          case rel => exact ⟨k + 1, _, by omega, by go_num, rfl, by rw [HGL.out, HC.out]; exact hown5, hB5⟩
          case measure => simp [intOf]; omega
    · obtain rfl : k = len := by omega
      have hgn := sel_len L k
      have HM := Lib.hid (show ∀ x ∈ sel L k, selB x = true ∧ HasE w x.1 x.2 from fun x hx => ⟨(sel_mem hx).2, HE.out x (sel_mem hx).1⟩)
      generalize sel L k = M at *
      clear hcs HE
      have HR := Lib.hid (sel_rec (s := (nn : Int) + 1) (M := M) (by omega) (fun x hx => (HM.out x hx).1))
      obtain ⟨m, hm⟩ : ∃ m, M.length = m := ⟨_, rfl⟩
      have hrow9 := hown
      rw [hm] at hown hgn
      obtain ⟨va, vc, rfl, hvc, hrv⟩ := rowV_own hown
      have HP := Lib.hid (fun W (hW : Below wr.heap.size wr W) => (show HasP W va m M from ⟨hm, by omega, hrv.below hW, fun x hx => (HM.out x hx).2.below (hB.trans (hW.mono hB.size))⟩))
      have hA := bel_alloc (Below.refl wr.heap.size wr) (.cells #[.int .i64 ((nn : Int) + 1), .slice va m vc] 32)
      rcases (by omega : m = 0 ∨ (1 ≤ m ∧ m ≤ 4) ∨ 4 < m) with h0 | ⟨h1, h4⟩ | h4
      · subst h0
        have GI := Lib.hid (fun W (hW : Below wr.heap.size wr W) => (show Gives Try.prog 8 #[.agg #[.int .i64 ((nn : Int) + 1), .slice va 0 vc]] W (.bool false) from by have := recIs_any ((nn : Int) + 1) va 0 vc M W (HP.out W hW); rwa [show recB ((nn : Int) + 1) M = false by rw [HR.out, hm]; rfl] at this))
        clear hm hrow9
        go_wp2_with (go_at_call 8; ((with_reducible refine (GI.out _ hA).mono ?_); rintro e w5 ⟨rfl, hX⟩))
        go_ret
        exact ⟨by simp, hB.trans ((bel2 hA hX).mono hB.size)⟩
      · obtain ⟨⟨⟨pg, pk, pa, plen, pcap, pht, phv, phc, pi, pt, pm, ph⟩, l0⟩, M', rfl⟩ : ∃ x0 M', M = x0 :: M' := by
          cases M with
          | nil => simp at hm; omega
          | cons x r => exact ⟨x, r, rfl⟩
        obtain ⟨bg, og, rfl, hbg, hxg⟩ := hrv.2.2 (by omega)
        have HN := Lib.hid (fun W (hW : Below wr.heap.size wr W) j u (hj : [.int .i64 pg, .int .i64 pk, .slice pa plen pcap, .int .i64 pht, .int .i64 phv, .int .i64 phc, .int .i64 pi, .int .i64 pt, .bool pm, .bool ph][j]? = some u) => (show W.cell? ((⟨bg, og, none⟩ : Addr).add j) = some u from by
          have hj10 : j < 10 := (List.getElem?_eq_some_iff.1 hj).1
          have := part_at hbg hW hxg (k := 0) (by simp) j u hj10 hj
          rw [addr_add]; simpa using this))
        have GI := Lib.hid (fun W (hW : Below wr.heap.size wr W) => (show Gives Try.prog 8 #[.agg #[.int .i64 ((nn : Int) + 1), .slice (some ⟨bg, og, none⟩) m vc]] W (.bool true) from by have := recIs_any ((nn : Int) + 1) (some ⟨bg, og, none⟩) m vc _ W (HP.out W hW); rwa [show recB ((nn : Int) + 1) ((⟨pg, pk, pa, plen, pcap, pht, phv, phc, pi, pt, pm, ph⟩, l0) :: M') = true by rw [HR.out, hm]; rw [decide_eq_true h1, decide_eq_true h4]; rfl] at this))
        have HX0 := Lib.hid (HM.out _ List.mem_cons_self)
        have hm1 : (1 : Int) ≤ (m : Int) := by omega
        have hc1 : (1 : Int) ≤ (vc : Int) := by omega
        have hml : (m : Int) ≤ (vc : Int) := by omega
        have hm4 : (m : Int) ≤ 4 := by omega
        have hmz : ((m : Int) == 0) = false := by rw [beq_eq_false_iff_ne]; omega
        have hHm := Lib.hid hm
        have Hrow9 := Lib.hid hrow9
        have Hxg := Lib.hid hxg
        clear hm hrow9 hown hrv hxg
        go_wp2_with (go_at_call 8; ((with_reducible refine (GI.out _ hA).mono ?_); rintro e w5 ⟨rfl, hX⟩))
        have x0c : w5.cell? ⟨wr.heap.size, 0, none⟩ = some (.int .i64 ((nn : Int) + 1)) := blk_cell hX 0
        have hA5 := bel2 hA hX
        have hlt5 : wr.heap.size < w5.heap.size := Nat.lt_of_lt_of_le (by simp) hX.size
        have hbg5 : bg < w5.heap.size := Nat.lt_of_lt_of_le hbg hA5.size
        have HN5 := Lib.hid (HN.out w5 hA5)
        clear hA hX
        have HNW := Lib.hid (fun W (hW : Below w5.heap.size w5 W) => HN.out W (bel2 hA5 hW))
        have n1 : wr.heap.size ≠ w5.heap.size := by omega
        have n2 : w5.heap.size ≠ wr.heap.size := by omega
        have n3 : wr.heap.size ≠ w5.heap.size + 1 := by omega
        have n4 : w5.heap.size + 1 ≠ wr.heap.size := by omega
        go_region_held3 (fun W' => W'.cell? ⟨wr.heap.size, 0, none⟩ = some (.int .i64 ((nn : Int) + 1))) (go_keep) (first
          | (refine step_append_lies _ (by rfl) _ _ _ (by rfl) w5.heap.size 30 i0 _ 10 88 Try.underlying22 hi hz0 hz1 hz2 rfl (by decide) (.slice none 0 0) 0 [] (by rfl) (World.ownsRow_nil _ _ _ _) ⟨bg, og, none⟩ 1 vc [.int .i64 pg, .int .i64 pk, .slice pa plen pcap, .int .i64 pht, .int .i64 phv, .int .i64 phc, .int .i64 pi, .int .i64 pt, .bool pm, .bool ph] (by rfl) (by rfl) (HNW.out _ (show Below w5.heap.size w5 _ from by first | exact (Below.refl _ _).drew | exact (bel_alloc (Below.refl _ _) _).drew | exact (bel_alloc (bel_alloc (Below.refl _ _) _) _).drew | exact bel_alloc (Below.refl _ _).drew _ | exact bel_alloc (bel_alloc (Below.refl _ _).drew _) _)) (by simp [Value.oneCell']) (by omega) (by unfold maxLen; omega) (by omega) (Below.size (show Below w5.heap.size w5 _ from by first | exact (Below.refl _ _).drew | exact (bel_alloc (Below.refl _ _) _).drew | exact (bel_alloc (bel_alloc (Below.refl _ _) _) _).drew | exact bel_alloc (Below.refl _ _).drew _ | exact bel_alloc (bel_alloc (Below.refl _ _).drew _) _)) _ rfl ?_; intro g1 c1 w7 hown7 hgrow7 hat7 hlt7; replace hown7 : w7.ownsRow w5.heap.size 30 10 (.slice (some ⟨g1, 0, none⟩) 1 c1) 1 [.int .i64 pg, .int .i64 pk, .slice pa plen pcap, .int .i64 pht, .int .i64 phv, .int .i64 phc, .int .i64 pi, .int .i64 pt, .bool pm, .bool ph] := hown7; have hX7 : Below w5.heap.size w5 w7 := Below.grown (show Below w5.heap.size w5 _ from by first | exact (Below.refl _ _).drew | exact (bel_alloc (Below.refl _ _) _).drew | exact (bel_alloc (bel_alloc (Below.refl _ _) _) _).drew | exact bel_alloc (Below.refl _ _).drew _ | exact bel_alloc (bel_alloc (Below.refl _ _).drew _) _) hgrow7 (Below.size (show Below w5.heap.size w5 _ from by first | exact (Below.refl _ _).drew | exact (bel_alloc (Below.refl _ _) _).drew | exact (bel_alloc (bel_alloc (Below.refl _ _) _) _).drew | exact bel_alloc (Below.refl _ _).drew _ | exact bel_alloc (bel_alloc (Below.refl _ _).drew _) _)) (fun k hk => by simp [Value.ownBlock] at hk); have HG1 := Lib.hid (hat7.resolve_left (by simp [Value.ownBlock])); clear hat7; (try (have fb0 : w7.heap[w5.heap.size]? = some (.cells #[.int .i64 0, .int .i64 6, .slice none 0 0, .int .i64 0, .int .i64 0, .int .i64 0, .int .i64 0, .int .i64 0, .bool false, .bool true] 30 (0, 0)) := (hgrow7.block (w5.heap.size) (by simp <;> omega) (by simp [Value.ownBlock])).trans (by first | exact World.alloc_heap_new w5 _ | exact two_a w5 _ _ _ _))); (try (have fb1 : w7.heap[w5.heap.size + 1]? = some (.cells #[.int .i64 0, .int .i64 6, .slice none 0 0, .int .i64 0, .int .i64 0, .int .i64 0, .int .i64 0, .int .i64 0, .bool false, .bool true] 30 (0, 0)) := (hgrow7.block (w5.heap.size + 1) (by simp <;> omega) (by simp [Value.ownBlock])).trans (by first | exact two_b w5 _ _ _ _))); (try (have rz0 : w7.heap[w5.heap.size]? = some (.cells #[.int .i64 0, .slice none 0 0] 32 (0, 0)) := (hgrow7.block (w5.heap.size) (by simp <;> omega) (by simp [Value.ownBlock])).trans (by first | exact World.alloc_heap_new w5 _ | exact two_a w5 _ _ _ _))); (try (have rz1 : w7.heap[w5.heap.size + 1]? = some (.cells #[.int .i64 0, .slice none 0 0] 32 (0, 0)) := (hgrow7.block (w5.heap.size + 1) (by simp <;> omega) (by simp [Value.ownBlock])).trans (by first | exact two_b w5 _ _ _ _))); have y7 := (hX7.cell (p := ⟨wr.heap.size, 0, none⟩) hlt5).trans x0c; have hs7 := hX7.size)
          | (refine step_append_lies _ (by rfl) _ _ _ (by rfl) w5.heap.size 30 i0 _ 10 88 Try.underlying22 hi hz0 hz1 hz2 rfl (by decide) (.slice (some ⟨g1, 0, none⟩) 1 c1) 1 [.int .i64 pg, .int .i64 pk, .slice pa plen pcap, .int .i64 pht, .int .i64 phv, .int .i64 phc, .int .i64 pi, .int .i64 pt, .bool pm, .bool ph] (by rfl) (by first | exact hown7 | exact hown7.alloc _ | exact (hown7.alloc _).alloc _) ⟨w5.heap.size, 0, none⟩ 1 1 [.int .i64 0, .int .i64 6, .slice none 0 0, .int .i64 0, .int .i64 0, .int .i64 0, .int .i64 0, .int .i64 0, .bool false, .bool true] (by rfl) (by rfl) (World.news_of_block (cs := #[.int .i64 0, .int .i64 6, .slice none 0 0, .int .i64 0, .int .i64 0, .int .i64 0, .int .i64 0, .int .i64 0, .bool false, .bool true]) (by first | exact fb0 | exact ((bel_alloc (Below.refl w7.heap.size w7) _).block _ (heap_lt fb0)).trans fb0)) (by simp [Value.oneCell']) (by omega) (by unfold maxLen; omega) (by omega) (Below.size (show Below w5.heap.size w5 _ from by first | exact hX7 | exact bel_alloc hX7 _ | exact bel_alloc (bel_alloc hX7 _) _)) _ rfl ?_; intro g2 c2 w9 hown9 hgrow9 hat9 hlt9; have hX9 : Below w5.heap.size w5 w9 := Below.grown (show Below w5.heap.size w5 _ from by first | exact hX7 | exact bel_alloc hX7 _ | exact bel_alloc (bel_alloc hX7 _) _) hgrow9 (Below.size (show Below w5.heap.size w5 _ from by first | exact hX7 | exact bel_alloc hX7 _ | exact bel_alloc (bel_alloc hX7 _) _)) (fun k hk => ownBlock_ge hown7 hk); (try (have qa : w9.heap[w5.heap.size]? = some (.cells #[.int .i64 0, .slice none 0 0] 32 (0, 0)) := (hgrow9.block (w5.heap.size) (by first | (have := heap_lt rz0; simp <;> omega) | (have := heap_lt rz1; simp <;> omega) | (simp <;> omega)) (by simp [Value.ownBlock]; first | omega | (have hg1 := HG1.out; simp at hg1; omega))).trans (by first | exact rz0 | exact ((bel_alloc (Below.refl w7.heap.size w7) _).block _ (heap_lt rz0)).trans rz0); have ra0 := cell_of_row _ _ 0 _ _ _ qa; have ra1 := cell_of_row _ _ 1 _ _ _ qa; have ra2 := frozen_of_row _ _ 0 _ _ qa; have ra3 := frozen_of_row _ _ 1 _ _ qa)); (try (have qb : w9.heap[w5.heap.size + 1]? = some (.cells #[.int .i64 0, .slice none 0 0] 32 (0, 0)) := (hgrow9.block (w5.heap.size + 1) (by first | (have := heap_lt rz0; simp <;> omega) | (have := heap_lt rz1; simp <;> omega) | (simp <;> omega)) (by simp [Value.ownBlock]; first | omega | (have hg1 := HG1.out; simp at hg1; omega))).trans (by first | exact rz1); have rb0 := cell_of_row _ _ 0 _ _ _ qb; have rb1 := cell_of_row _ _ 1 _ _ _ qb; have rb2 := frozen_of_row _ _ 0 _ _ qb; have rb3 := frozen_of_row _ _ 1 _ _ qb)); (try (have qc : w9.heap[w7.heap.size]? = some (.cells #[.int .i64 0, .slice none 0 0] 32 (0, 0)) := (hgrow9.block (w7.heap.size) (by first | (have := heap_lt rz0; simp <;> omega) | (have := heap_lt rz1; simp <;> omega) | (simp <;> omega)) (by simp [Value.ownBlock]; first | omega | (have hg1 := HG1.out; simp at hg1; omega))).trans (by first | exact World.alloc_heap_new w7 _ | exact two_a w7 _ _ _ _); have rc0 := cell_of_row _ _ 0 _ _ _ qc; have rc1 := cell_of_row _ _ 1 _ _ _ qc; have rc2 := frozen_of_row _ _ 0 _ _ qc; have rc3 := frozen_of_row _ _ 1 _ _ qc)); (try (have qd : w9.heap[w7.heap.size + 1]? = some (.cells #[.int .i64 0, .slice none 0 0] 32 (0, 0)) := (hgrow9.block (w7.heap.size + 1) (by first | (have := heap_lt rz0; simp <;> omega) | (have := heap_lt rz1; simp <;> omega) | (simp <;> omega)) (by simp [Value.ownBlock]; first | omega | (have hg1 := HG1.out; simp at hg1; omega))).trans (by first | exact two_b w7 _ _ _ _); have rd0 := cell_of_row _ _ 0 _ _ _ qd; have rd1 := cell_of_row _ _ 1 _ _ _ qd; have rd2 := frozen_of_row _ _ 0 _ _ qd; have rd3 := frozen_of_row _ _ 1 _ _ qd)); have rz9 := World.alloc_heap_new w9 (.cells #[.int .i64 0, .slice none 0 0] 32); have re0 := cell_of_row _ _ 0 _ _ _ rz9; have re1 := cell_of_row _ _ 1 _ _ _ rz9; have re2 := frozen_of_row _ _ 0 _ _ rz9; have re3 := frozen_of_row _ _ 1 _ _ rz9; have m5 : wr.heap.size ≠ w9.heap.size := (by have := hX9.size; omega); have m6 : w9.heap.size ≠ wr.heap.size := (by have := hX9.size; omega); have y9 := (hX9.cell (p := ⟨wr.heap.size, 0, none⟩) hlt5).trans x0c; have m1 : wr.heap.size ≠ w7.heap.size := (by omega); have m2 : w7.heap.size ≠ wr.heap.size := (by omega); have m3 : wr.heap.size ≠ w7.heap.size + 1 := (by omega); have m4 : w7.heap.size + 1 ≠ wr.heap.size := (by omega))
          | (refine step_append_lies _ (by rfl) _ _ _ (by rfl) w5.heap.size 30 i0 _ 10 88 Try.underlying22 hi hz0 hz1 hz2 rfl (by decide) (.slice (some ⟨g1, 0, none⟩) 1 c1) 1 [.int .i64 pg, .int .i64 pk, .slice pa plen pcap, .int .i64 pht, .int .i64 phv, .int .i64 phc, .int .i64 pi, .int .i64 pt, .bool pm, .bool ph] (by rfl) (by first | exact hown7 | exact hown7.alloc _ | exact (hown7.alloc _).alloc _) ⟨w5.heap.size + 1, 0, none⟩ 1 1 [.int .i64 0, .int .i64 6, .slice none 0 0, .int .i64 0, .int .i64 0, .int .i64 0, .int .i64 0, .int .i64 0, .bool false, .bool true] (by rfl) (by rfl) (World.news_of_block (cs := #[.int .i64 0, .int .i64 6, .slice none 0 0, .int .i64 0, .int .i64 0, .int .i64 0, .int .i64 0, .int .i64 0, .bool false, .bool true]) (by first | exact fb1)) (by simp [Value.oneCell']) (by omega) (by unfold maxLen; omega) (by omega) (Below.size (show Below w5.heap.size w5 _ from by first | exact hX7 | exact bel_alloc hX7 _ | exact bel_alloc (bel_alloc hX7 _) _)) _ rfl ?_; intro g2 c2 w9 hown9 hgrow9 hat9 hlt9; have hX9 : Below w5.heap.size w5 w9 := Below.grown (show Below w5.heap.size w5 _ from by first | exact hX7 | exact bel_alloc hX7 _ | exact bel_alloc (bel_alloc hX7 _) _) hgrow9 (Below.size (show Below w5.heap.size w5 _ from by first | exact hX7 | exact bel_alloc hX7 _ | exact bel_alloc (bel_alloc hX7 _) _)) (fun k hk => ownBlock_ge hown7 hk); (try (have qa : w9.heap[w5.heap.size]? = some (.cells #[.int .i64 0, .slice none 0 0] 32 (0, 0)) := (hgrow9.block (w5.heap.size) (by first | (have := heap_lt rz0; simp <;> omega) | (have := heap_lt rz1; simp <;> omega) | (simp <;> omega)) (by simp [Value.ownBlock]; first | omega | (have hg1 := HG1.out; simp at hg1; omega))).trans (by first | exact rz0 | exact ((bel_alloc (Below.refl w7.heap.size w7) _).block _ (heap_lt rz0)).trans rz0); have ra0 := cell_of_row _ _ 0 _ _ _ qa; have ra1 := cell_of_row _ _ 1 _ _ _ qa; have ra2 := frozen_of_row _ _ 0 _ _ qa; have ra3 := frozen_of_row _ _ 1 _ _ qa)); (try (have qb : w9.heap[w5.heap.size + 1]? = some (.cells #[.int .i64 0, .slice none 0 0] 32 (0, 0)) := (hgrow9.block (w5.heap.size + 1) (by first | (have := heap_lt rz0; simp <;> omega) | (have := heap_lt rz1; simp <;> omega) | (simp <;> omega)) (by simp [Value.ownBlock]; first | omega | (have hg1 := HG1.out; simp at hg1; omega))).trans (by first | exact rz1); have rb0 := cell_of_row _ _ 0 _ _ _ qb; have rb1 := cell_of_row _ _ 1 _ _ _ qb; have rb2 := frozen_of_row _ _ 0 _ _ qb; have rb3 := frozen_of_row _ _ 1 _ _ qb)); (try (have qc : w9.heap[w7.heap.size]? = some (.cells #[.int .i64 0, .slice none 0 0] 32 (0, 0)) := (hgrow9.block (w7.heap.size) (by first | (have := heap_lt rz0; simp <;> omega) | (have := heap_lt rz1; simp <;> omega) | (simp <;> omega)) (by simp [Value.ownBlock]; first | omega | (have hg1 := HG1.out; simp at hg1; omega))).trans (by first | exact World.alloc_heap_new w7 _ | exact two_a w7 _ _ _ _); have rc0 := cell_of_row _ _ 0 _ _ _ qc; have rc1 := cell_of_row _ _ 1 _ _ _ qc; have rc2 := frozen_of_row _ _ 0 _ _ qc; have rc3 := frozen_of_row _ _ 1 _ _ qc)); (try (have qd : w9.heap[w7.heap.size + 1]? = some (.cells #[.int .i64 0, .slice none 0 0] 32 (0, 0)) := (hgrow9.block (w7.heap.size + 1) (by first | (have := heap_lt rz0; simp <;> omega) | (have := heap_lt rz1; simp <;> omega) | (simp <;> omega)) (by simp [Value.ownBlock]; first | omega | (have hg1 := HG1.out; simp at hg1; omega))).trans (by first | exact two_b w7 _ _ _ _); have rd0 := cell_of_row _ _ 0 _ _ _ qd; have rd1 := cell_of_row _ _ 1 _ _ _ qd; have rd2 := frozen_of_row _ _ 0 _ _ qd; have rd3 := frozen_of_row _ _ 1 _ _ qd)); have rz9 := World.alloc_heap_new w9 (.cells #[.int .i64 0, .slice none 0 0] 32); have re0 := cell_of_row _ _ 0 _ _ _ rz9; have re1 := cell_of_row _ _ 1 _ _ _ rz9; have re2 := frozen_of_row _ _ 0 _ _ rz9; have re3 := frozen_of_row _ _ 1 _ _ rz9; have m5 : wr.heap.size ≠ w9.heap.size := (by have := hX9.size; omega); have m6 : w9.heap.size ≠ wr.heap.size := (by have := hX9.size; omega); have y9 := (hX9.cell (p := ⟨wr.heap.size, 0, none⟩) hlt5).trans x0c; have m1 : wr.heap.size ≠ w7.heap.size := (by omega); have m2 : w7.heap.size ≠ wr.heap.size := (by omega); have m3 : wr.heap.size ≠ w7.heap.size + 1 := (by omega); have m4 : w7.heap.size + 1 ≠ wr.heap.size := (by omega))
          | (refine step_append_lies _ (by rfl) _ _ _ (by rfl) w5.heap.size 30 i0 _ 10 88 Try.underlying22 hi hz0 hz1 hz2 rfl (by decide) (.slice (some ⟨g1, 0, none⟩) 1 c1) 1 [.int .i64 pg, .int .i64 pk, .slice pa plen pcap, .int .i64 pht, .int .i64 phv, .int .i64 phc, .int .i64 pi, .int .i64 pt, .bool pm, .bool ph] (by rfl) (by first | exact hown7 | exact hown7.alloc _ | exact (hown7.alloc _).alloc _) ⟨w7.heap.size, 0, none⟩ 1 1 [.int .i64 0, .int .i64 6, .slice none 0 0, .int .i64 0, .int .i64 0, .int .i64 0, .int .i64 0, .int .i64 0, .bool false, .bool true] (by rfl) (by rfl) (World.news_of_block (cs := #[.int .i64 0, .int .i64 6, .slice none 0 0, .int .i64 0, .int .i64 0, .int .i64 0, .int .i64 0, .int .i64 0, .bool false, .bool true]) (by first | exact World.alloc_heap_new w7 _ | exact two_a w7 _ _ _ _)) (by simp [Value.oneCell']) (by omega) (by unfold maxLen; omega) (by omega) (Below.size (show Below w5.heap.size w5 _ from by first | exact hX7 | exact bel_alloc hX7 _ | exact bel_alloc (bel_alloc hX7 _) _)) _ rfl ?_; intro g2 c2 w9 hown9 hgrow9 hat9 hlt9; have hX9 : Below w5.heap.size w5 w9 := Below.grown (show Below w5.heap.size w5 _ from by first | exact hX7 | exact bel_alloc hX7 _ | exact bel_alloc (bel_alloc hX7 _) _) hgrow9 (Below.size (show Below w5.heap.size w5 _ from by first | exact hX7 | exact bel_alloc hX7 _ | exact bel_alloc (bel_alloc hX7 _) _)) (fun k hk => ownBlock_ge hown7 hk); (try (have qa : w9.heap[w5.heap.size]? = some (.cells #[.int .i64 0, .slice none 0 0] 32 (0, 0)) := (hgrow9.block (w5.heap.size) (by first | (have := heap_lt rz0; simp <;> omega) | (have := heap_lt rz1; simp <;> omega) | (simp <;> omega)) (by simp [Value.ownBlock]; first | omega | (have hg1 := HG1.out; simp at hg1; omega))).trans (by first | exact rz0 | exact ((bel_alloc (Below.refl w7.heap.size w7) _).block _ (heap_lt rz0)).trans rz0); have ra0 := cell_of_row _ _ 0 _ _ _ qa; have ra1 := cell_of_row _ _ 1 _ _ _ qa; have ra2 := frozen_of_row _ _ 0 _ _ qa; have ra3 := frozen_of_row _ _ 1 _ _ qa)); (try (have qb : w9.heap[w5.heap.size + 1]? = some (.cells #[.int .i64 0, .slice none 0 0] 32 (0, 0)) := (hgrow9.block (w5.heap.size + 1) (by first | (have := heap_lt rz0; simp <;> omega) | (have := heap_lt rz1; simp <;> omega) | (simp <;> omega)) (by simp [Value.ownBlock]; first | omega | (have hg1 := HG1.out; simp at hg1; omega))).trans (by first | exact rz1); have rb0 := cell_of_row _ _ 0 _ _ _ qb; have rb1 := cell_of_row _ _ 1 _ _ _ qb; have rb2 := frozen_of_row _ _ 0 _ _ qb; have rb3 := frozen_of_row _ _ 1 _ _ qb)); (try (have qc : w9.heap[w7.heap.size]? = some (.cells #[.int .i64 0, .slice none 0 0] 32 (0, 0)) := (hgrow9.block (w7.heap.size) (by first | (have := heap_lt rz0; simp <;> omega) | (have := heap_lt rz1; simp <;> omega) | (simp <;> omega)) (by simp [Value.ownBlock]; first | omega | (have hg1 := HG1.out; simp at hg1; omega))).trans (by first | exact World.alloc_heap_new w7 _ | exact two_a w7 _ _ _ _); have rc0 := cell_of_row _ _ 0 _ _ _ qc; have rc1 := cell_of_row _ _ 1 _ _ _ qc; have rc2 := frozen_of_row _ _ 0 _ _ qc; have rc3 := frozen_of_row _ _ 1 _ _ qc)); (try (have qd : w9.heap[w7.heap.size + 1]? = some (.cells #[.int .i64 0, .slice none 0 0] 32 (0, 0)) := (hgrow9.block (w7.heap.size + 1) (by first | (have := heap_lt rz0; simp <;> omega) | (have := heap_lt rz1; simp <;> omega) | (simp <;> omega)) (by simp [Value.ownBlock]; first | omega | (have hg1 := HG1.out; simp at hg1; omega))).trans (by first | exact two_b w7 _ _ _ _); have rd0 := cell_of_row _ _ 0 _ _ _ qd; have rd1 := cell_of_row _ _ 1 _ _ _ qd; have rd2 := frozen_of_row _ _ 0 _ _ qd; have rd3 := frozen_of_row _ _ 1 _ _ qd)); have rz9 := World.alloc_heap_new w9 (.cells #[.int .i64 0, .slice none 0 0] 32); have re0 := cell_of_row _ _ 0 _ _ _ rz9; have re1 := cell_of_row _ _ 1 _ _ _ rz9; have re2 := frozen_of_row _ _ 0 _ _ rz9; have re3 := frozen_of_row _ _ 1 _ _ rz9; have m5 : wr.heap.size ≠ w9.heap.size := (by have := hX9.size; omega); have m6 : w9.heap.size ≠ wr.heap.size := (by have := hX9.size; omega); have y9 := (hX9.cell (p := ⟨wr.heap.size, 0, none⟩) hlt5).trans x0c; have m1 : wr.heap.size ≠ w7.heap.size := (by omega); have m2 : w7.heap.size ≠ wr.heap.size := (by omega); have m3 : wr.heap.size ≠ w7.heap.size + 1 := (by omega); have m4 : w7.heap.size + 1 ≠ wr.heap.size := (by omega))
          | (refine step_append_lies _ (by rfl) _ _ _ (by rfl) w5.heap.size 30 i0 _ 10 88 Try.underlying22 hi hz0 hz1 hz2 rfl (by decide) (.slice (some ⟨g1, 0, none⟩) 1 c1) 1 [.int .i64 pg, .int .i64 pk, .slice pa plen pcap, .int .i64 pht, .int .i64 phv, .int .i64 phc, .int .i64 pi, .int .i64 pt, .bool pm, .bool ph] (by rfl) (by first | exact hown7 | exact hown7.alloc _ | exact (hown7.alloc _).alloc _) ⟨w7.heap.size + 1, 0, none⟩ 1 1 [.int .i64 0, .int .i64 6, .slice none 0 0, .int .i64 0, .int .i64 0, .int .i64 0, .int .i64 0, .int .i64 0, .bool false, .bool true] (by rfl) (by rfl) (World.news_of_block (cs := #[.int .i64 0, .int .i64 6, .slice none 0 0, .int .i64 0, .int .i64 0, .int .i64 0, .int .i64 0, .int .i64 0, .bool false, .bool true]) (by first | exact two_b w7 _ _ _ _)) (by simp [Value.oneCell']) (by omega) (by unfold maxLen; omega) (by omega) (Below.size (show Below w5.heap.size w5 _ from by first | exact hX7 | exact bel_alloc hX7 _ | exact bel_alloc (bel_alloc hX7 _) _)) _ rfl ?_; intro g2 c2 w9 hown9 hgrow9 hat9 hlt9; have hX9 : Below w5.heap.size w5 w9 := Below.grown (show Below w5.heap.size w5 _ from by first | exact hX7 | exact bel_alloc hX7 _ | exact bel_alloc (bel_alloc hX7 _) _) hgrow9 (Below.size (show Below w5.heap.size w5 _ from by first | exact hX7 | exact bel_alloc hX7 _ | exact bel_alloc (bel_alloc hX7 _) _)) (fun k hk => ownBlock_ge hown7 hk); (try (have qa : w9.heap[w5.heap.size]? = some (.cells #[.int .i64 0, .slice none 0 0] 32 (0, 0)) := (hgrow9.block (w5.heap.size) (by first | (have := heap_lt rz0; simp <;> omega) | (have := heap_lt rz1; simp <;> omega) | (simp <;> omega)) (by simp [Value.ownBlock]; first | omega | (have hg1 := HG1.out; simp at hg1; omega))).trans (by first | exact rz0 | exact ((bel_alloc (Below.refl w7.heap.size w7) _).block _ (heap_lt rz0)).trans rz0); have ra0 := cell_of_row _ _ 0 _ _ _ qa; have ra1 := cell_of_row _ _ 1 _ _ _ qa; have ra2 := frozen_of_row _ _ 0 _ _ qa; have ra3 := frozen_of_row _ _ 1 _ _ qa)); (try (have qb : w9.heap[w5.heap.size + 1]? = some (.cells #[.int .i64 0, .slice none 0 0] 32 (0, 0)) := (hgrow9.block (w5.heap.size + 1) (by first | (have := heap_lt rz0; simp <;> omega) | (have := heap_lt rz1; simp <;> omega) | (simp <;> omega)) (by simp [Value.ownBlock]; first | omega | (have hg1 := HG1.out; simp at hg1; omega))).trans (by first | exact rz1); have rb0 := cell_of_row _ _ 0 _ _ _ qb; have rb1 := cell_of_row _ _ 1 _ _ _ qb; have rb2 := frozen_of_row _ _ 0 _ _ qb; have rb3 := frozen_of_row _ _ 1 _ _ qb)); (try (have qc : w9.heap[w7.heap.size]? = some (.cells #[.int .i64 0, .slice none 0 0] 32 (0, 0)) := (hgrow9.block (w7.heap.size) (by first | (have := heap_lt rz0; simp <;> omega) | (have := heap_lt rz1; simp <;> omega) | (simp <;> omega)) (by simp [Value.ownBlock]; first | omega | (have hg1 := HG1.out; simp at hg1; omega))).trans (by first | exact World.alloc_heap_new w7 _ | exact two_a w7 _ _ _ _); have rc0 := cell_of_row _ _ 0 _ _ _ qc; have rc1 := cell_of_row _ _ 1 _ _ _ qc; have rc2 := frozen_of_row _ _ 0 _ _ qc; have rc3 := frozen_of_row _ _ 1 _ _ qc)); (try (have qd : w9.heap[w7.heap.size + 1]? = some (.cells #[.int .i64 0, .slice none 0 0] 32 (0, 0)) := (hgrow9.block (w7.heap.size + 1) (by first | (have := heap_lt rz0; simp <;> omega) | (have := heap_lt rz1; simp <;> omega) | (simp <;> omega)) (by simp [Value.ownBlock]; first | omega | (have hg1 := HG1.out; simp at hg1; omega))).trans (by first | exact two_b w7 _ _ _ _); have rd0 := cell_of_row _ _ 0 _ _ _ qd; have rd1 := cell_of_row _ _ 1 _ _ _ qd; have rd2 := frozen_of_row _ _ 0 _ _ qd; have rd3 := frozen_of_row _ _ 1 _ _ qd)); have rz9 := World.alloc_heap_new w9 (.cells #[.int .i64 0, .slice none 0 0] 32); have re0 := cell_of_row _ _ 0 _ _ _ rz9; have re1 := cell_of_row _ _ 1 _ _ _ rz9; have re2 := frozen_of_row _ _ 0 _ _ rz9; have re3 := frozen_of_row _ _ 1 _ _ rz9; have m5 : wr.heap.size ≠ w9.heap.size := (by have := hX9.size; omega); have m6 : w9.heap.size ≠ wr.heap.size := (by have := hX9.size; omega); have y9 := (hX9.cell (p := ⟨wr.heap.size, 0, none⟩) hlt5).trans x0c; have m1 : wr.heap.size ≠ w7.heap.size := (by omega); have m2 : w7.heap.size ≠ wr.heap.size := (by omega); have m3 : wr.heap.size ≠ w7.heap.size + 1 := (by omega); have m4 : w7.heap.size + 1 ≠ wr.heap.size := (by omega)))
        all_goals
          obtain ⟨ga9, ca9, hsl, hc2, hrw9⟩ := rowV_own hown9
          cases hsl
        all_goals first
          | (have hR := World.alloc_heap_new w9 (.cells #[.int .i64 ((nn : Int) + 1), .slice (some ⟨g2, 0, none⟩) 2 c2] 32)
             have hBz := bel_alloc (Below.refl w9.heap.size w9) (.cells #[.int .i64 ((nn : Int) + 1), .slice (some ⟨g2, 0, none⟩) 2 c2] 32)
             have hrow := hrw9.below hBz
             have hXz := bel2 hX9 hBz
             generalize (w9.alloc (.cells #[.int .i64 ((nn : Int) + 1), .slice (some ⟨g2, 0, none⟩) 2 c2] 32)) = wz at *
             obtain ⟨Zz, hZz⟩ : ∃ Zz, Zz = w9.heap.size := ⟨_, rfl⟩
             rw [← hZz] at hR ⊢
             clear hZz hBz)
          | (have hne := own_type_ne hown9 qd (by decide)
             have hR0 := Go.Joins.block_setCell qd (.int .i64 ((nn : Int) + 1)) (i := 0)
             have hR := Go.Joins.block_setCell hR0 (.slice (some ⟨g2, 0, none⟩) 2 c2) (i := 1)
             simp only [List.setIfInBounds_toArray, List.set_cons_succ, List.set_cons_zero] at hR
             have hF1 := FrameT.setCell w9 (w7.heap.size + 1) 0 (.int .i64 ((nn : Int) + 1))
             have hF2 := FrameT.setCell (w9.setCell ⟨w7.heap.size + 1, 0, none⟩ (.int .i64 ((nn : Int) + 1))) (w7.heap.size + 1) 1 (.slice (some ⟨g2, 0, none⟩) 2 c2)
             have hrow := rowV_fr5 (rowV_fr5 hrw9 hF1 hne) hF2 hne
             have hXz := (hX9.trans (hF1.toBelow hX9.size (fun k h => by omega))).trans (hF2.toBelow (by have := hX9.size; simpa using this) (fun k h => by omega))
             generalize ((w9.setCell ⟨w7.heap.size + 1, 0, none⟩ (.int .i64 ((nn : Int) + 1))).setCell ⟨w7.heap.size + 1, 1, none⟩ (.slice (some ⟨g2, 0, none⟩) 2 c2)) = wz at *
             obtain ⟨Zz, hZz⟩ : ∃ Zz, Zz = w7.heap.size + 1 := ⟨_, rfl⟩
             rw [← hZz] at hR ⊢
             clear hZz)
          | (have hne := own_type_ne hown9 qc (by decide)
             have hR0 := Go.Joins.block_setCell qc (.int .i64 ((nn : Int) + 1)) (i := 0)
             have hR := Go.Joins.block_setCell hR0 (.slice (some ⟨g2, 0, none⟩) 2 c2) (i := 1)
             simp only [List.setIfInBounds_toArray, List.set_cons_succ, List.set_cons_zero] at hR
             have hF1 := FrameT.setCell w9 (w7.heap.size) 0 (.int .i64 ((nn : Int) + 1))
             have hF2 := FrameT.setCell (w9.setCell ⟨w7.heap.size, 0, none⟩ (.int .i64 ((nn : Int) + 1))) (w7.heap.size) 1 (.slice (some ⟨g2, 0, none⟩) 2 c2)
             have hrow := rowV_fr5 (rowV_fr5 hrw9 hF1 hne) hF2 hne
             have hXz := (hX9.trans (hF1.toBelow hX9.size (fun k h => by omega))).trans (hF2.toBelow (by have := hX9.size; simpa using this) (fun k h => by omega))
             generalize ((w9.setCell ⟨w7.heap.size, 0, none⟩ (.int .i64 ((nn : Int) + 1))).setCell ⟨w7.heap.size, 1, none⟩ (.slice (some ⟨g2, 0, none⟩) 2 c2)) = wz at *
             obtain ⟨Zz, hZz⟩ : ∃ Zz, Zz = w7.heap.size := ⟨_, rfl⟩
             rw [← hZz] at hR ⊢
             clear hZz)
          | (have hne := own_type_ne hown9 qb (by decide)
             have hR0 := Go.Joins.block_setCell qb (.int .i64 ((nn : Int) + 1)) (i := 0)
             have hR := Go.Joins.block_setCell hR0 (.slice (some ⟨g2, 0, none⟩) 2 c2) (i := 1)
             simp only [List.setIfInBounds_toArray, List.set_cons_succ, List.set_cons_zero] at hR
             have hF1 := FrameT.setCell w9 (w5.heap.size + 1) 0 (.int .i64 ((nn : Int) + 1))
             have hF2 := FrameT.setCell (w9.setCell ⟨w5.heap.size + 1, 0, none⟩ (.int .i64 ((nn : Int) + 1))) (w5.heap.size + 1) 1 (.slice (some ⟨g2, 0, none⟩) 2 c2)
             have hrow := rowV_fr5 (rowV_fr5 hrw9 hF1 hne) hF2 hne
             have hXz := (hX9.trans (hF1.toBelow hX9.size (fun k h => by omega))).trans (hF2.toBelow (by have := hX9.size; simpa using this) (fun k h => by omega))
             generalize ((w9.setCell ⟨w5.heap.size + 1, 0, none⟩ (.int .i64 ((nn : Int) + 1))).setCell ⟨w5.heap.size + 1, 1, none⟩ (.slice (some ⟨g2, 0, none⟩) 2 c2)) = wz at *
             obtain ⟨Zz, hZz⟩ : ∃ Zz, Zz = w5.heap.size + 1 := ⟨_, rfl⟩
             rw [← hZz] at hR ⊢
             clear hZz)
          | (have hne := own_type_ne hown9 qa (by decide)
             have hR0 := Go.Joins.block_setCell qa (.int .i64 ((nn : Int) + 1)) (i := 0)
             have hR := Go.Joins.block_setCell hR0 (.slice (some ⟨g2, 0, none⟩) 2 c2) (i := 1)
             simp only [List.setIfInBounds_toArray, List.set_cons_succ, List.set_cons_zero] at hR
             have hF1 := FrameT.setCell w9 (w5.heap.size) 0 (.int .i64 ((nn : Int) + 1))
             have hF2 := FrameT.setCell (w9.setCell ⟨w5.heap.size, 0, none⟩ (.int .i64 ((nn : Int) + 1))) (w5.heap.size) 1 (.slice (some ⟨g2, 0, none⟩) 2 c2)
             have hrow := rowV_fr5 (rowV_fr5 hrw9 hF1 hne) hF2 hne
             have hXz := (hX9.trans (hF1.toBelow hX9.size (fun k h => by omega))).trans (hF2.toBelow (by have := hX9.size; simpa using this) (fun k h => by omega))
             generalize ((w9.setCell ⟨w5.heap.size, 0, none⟩ (.int .i64 ((nn : Int) + 1))).setCell ⟨w5.heap.size, 1, none⟩ (.slice (some ⟨g2, 0, none⟩) 2 c2)) = wz at *
             obtain ⟨Zz, hZz⟩ : ∃ Zz, Zz = w5.heap.size := ⟨_, rfl⟩
             rw [← hZz] at hR ⊢
             clear hZz)
        all_goals
          replace hrow : RowV wz (some ⟨g2, 0, none⟩) 2 10 ([.int .i64 pg, .int .i64 pk, .slice pa plen pcap, .int .i64 pht, .int .i64 phv, .int .i64 phc, .int .i64 pi, .int .i64 pt, .bool pm, .bool ph] ++ [.int .i64 0, .int .i64 6, .slice none 0 0, .int .i64 0, .int .i64 0, .int .i64 0, .int .i64 0, .int .i64 0, .bool false, .bool true]) := hrow
          have hrt := row_tail rfl rfl hrow
          have hBw5 : Below w.heap.size w wz := bel2 hB (bel2 hA5 hXz)
          have G1 := Lib.hid (fun W (hW : Below wz.heap.size wz W) => (show Gives Try.prog 8 #[.agg #[.int .i64 ((nn : Int) + 1), .slice (some ⟨g2, 0, none⟩) 2 c2]] W (.bool false) from by
            have := recIs_any ((nn : Int) + 1) (some ⟨g2, 0, none⟩) 2 c2 [(⟨pg, pk, pa, plen, pcap, pht, phv, phc, pi, pt, pm, ph⟩, l0), headF] W ⟨rfl, by omega, hrow.below hW, fun x hx => by
              rcases List.mem_cons.1 hx with rfl | hx
              · exact HX0.out.2.below (bel2 hBw5 hW)
              · rw [List.mem_singleton.1 hx]; exact hasE_nil rfl rfl⟩
            rwa [mixed_no HX0.out.1] at this))
          have G2 := Lib.hid (fun W (hW : Below wz.heap.size wz W) => (show Gives Try.prog 8 #[.agg #[.int .i64 0, .slice (some ⟨bg, og, none⟩) m vc]] W (.bool false) from by
            have := recIs_any 0 (some ⟨bg, og, none⟩) m vc _ W (HP.out W (bel2 hA5 (bel2 hXz hW)))
            rwa [recB_short (.inl (by omega))] at this))
          have G3 := Lib.hid (fun W (hW : Below wz.heap.size wz W) => (show Gives Try.prog 8 #[.agg #[.int .i64 1, .slice (some ⟨g2, 10, none⟩) 1 (c2 - 1)]] W (.bool true) from by
            have := recIs_any 1 (some ⟨g2, 10, none⟩) 1 (c2 - 1) [headF] W ⟨rfl, by omega, hrt.below hW, fun x hx => by rw [List.mem_singleton.1 hx]; exact hasE_nil rfl rfl⟩
            rwa [headF_ok] at this))
          have hc2' : (2 : Int) ≤ (c2 : Int) := by omega
          have hc3 : ¬ c2 = 1 := by omega
          have v0 : wz.cell? ⟨Zz, 0, none⟩ = _ := cell_of_row _ _ 0 _ _ _ hR
          have v1 : wz.cell? ⟨Zz, 1, none⟩ = _ := cell_of_row _ _ 1 _ _ _ hR
          clear hrow hrt hgrow9 hgrow7 hown9 hown7 y7 y9 x0c
          go_wp2_with (first
            | (go_at_call 8; ((with_reducible refine (G3.out _ hY2).mono ?_); rintro e u3 ⟨rfl, hU3⟩; have hY3 := bel2 hY2 hU3))
            | (go_at_call 8; ((with_reducible refine (G2.out _ hY1).mono ?_); rintro e u2 ⟨rfl, hU2⟩; have hY2 := bel2 hY1 hU2; have hR2 := (hY2.block _ (heap_lt hR)).trans hR; clear v0 v1; have v0 := cell_of_row _ _ 0 _ _ _ hR2; have v1 := cell_of_row _ _ 1 _ _ _ hR2))
            | (go_at_call 8; ((with_reducible refine (G1.out _ (Below.refl _ _)).mono ?_); rintro e u1 ⟨rfl, hU1⟩; have hY1 := hU1; have hR1 := (hY1.block _ (heap_lt hR)).trans hR; clear v0 v1; have v0 := cell_of_row _ _ 0 _ _ _ hR1; have v1 := cell_of_row _ _ 1 _ _ _ hR1)))
          go_ret
          exact ⟨by simp, bel2 hBw5 hY3⟩
      · obtain ⟨⟨⟨pg, pk, pa, plen, pcap, pht, phv, phc, pi, pt, pm, ph⟩, l0⟩, M', rfl⟩ : ∃ x0 M', M = x0 :: M' := by
          cases M with
          | nil => simp at hm; omega
          | cons x r => exact ⟨x, r, rfl⟩
        obtain ⟨bg, og, rfl, hbg, hxg⟩ := hrv.2.2 (by omega)
        have HN := Lib.hid (fun W (hW : Below wr.heap.size wr W) j u (hj : [.int .i64 pg, .int .i64 pk, .slice pa plen pcap, .int .i64 pht, .int .i64 phv, .int .i64 phc, .int .i64 pi, .int .i64 pt, .bool pm, .bool ph][j]? = some u) => (show W.cell? ((⟨bg, og, none⟩ : Addr).add j) = some u from by
          have hj10 : j < 10 := (List.getElem?_eq_some_iff.1 hj).1
          have := part_at hbg hW hxg (k := 0) (by simp) j u hj10 hj
          rw [addr_add]; simpa using this))
        have GI := Lib.hid (fun W (hW : Below wr.heap.size wr W) => (show Gives Try.prog 8 #[.agg #[.int .i64 ((nn : Int) + 1), .slice (some ⟨bg, og, none⟩) m vc]] W (.bool false) from by have := recIs_any ((nn : Int) + 1) (some ⟨bg, og, none⟩) m vc _ W (HP.out W hW); rwa [show recB ((nn : Int) + 1) ((⟨pg, pk, pa, plen, pcap, pht, phv, phc, pi, pt, pm, ph⟩, l0) :: M') = false by rw [HR.out, hm]; rw [decide_eq_false (show ¬ m ≤ 4 by omega)]; simp] at this))
        have HX0 := Lib.hid (HM.out _ List.mem_cons_self)
        have hm1 : (1 : Int) ≤ (m : Int) := by omega
        have hc1 : (1 : Int) ≤ (vc : Int) := by omega
        have hml : (m : Int) ≤ (vc : Int) := by omega
        have hm4 : (4 : Int) < (m : Int) := by omega
        have hmz : ((m : Int) == 0) = false := by rw [beq_eq_false_iff_ne]; omega
        have hHm := Lib.hid hm
        have Hrow9 := Lib.hid hrow9
        have Hxg := Lib.hid hxg
        clear hm hrow9 hown hrv hxg
        go_wp2_with (go_at_call 8; ((with_reducible refine (GI.out _ hA).mono ?_); rintro e w5 ⟨rfl, hX⟩))
        have x0c : w5.cell? ⟨wr.heap.size, 0, none⟩ = some (.int .i64 ((nn : Int) + 1)) := blk_cell hX 0
        have hA5 := bel2 hA hX
        have hlt5 : wr.heap.size < w5.heap.size := Nat.lt_of_lt_of_le (by simp) hX.size
        have hbg5 : bg < w5.heap.size := Nat.lt_of_lt_of_le hbg hA5.size
        have HN5 := Lib.hid (HN.out w5 hA5)
        clear hA hX
        have HNW := Lib.hid (fun W (hW : Below w5.heap.size w5 W) => HN.out W (bel2 hA5 hW))
        have n1 : wr.heap.size ≠ w5.heap.size := by omega
        have n2 : w5.heap.size ≠ wr.heap.size := by omega
        have n3 : wr.heap.size ≠ w5.heap.size + 1 := by omega
        have n4 : w5.heap.size + 1 ≠ wr.heap.size := by omega
        go_region_held3 (fun W' => W'.cell? ⟨wr.heap.size, 0, none⟩ = some (.int .i64 ((nn : Int) + 1))) (go_keep) (first
          | (refine step_append_lies _ (by rfl) _ _ _ (by rfl) w5.heap.size 30 i0 _ 10 88 Try.underlying22 hi hz0 hz1 hz2 rfl (by decide) (.slice none 0 0) 0 [] (by rfl) (World.ownsRow_nil _ _ _ _) ⟨bg, og, none⟩ 1 vc [.int .i64 pg, .int .i64 pk, .slice pa plen pcap, .int .i64 pht, .int .i64 phv, .int .i64 phc, .int .i64 pi, .int .i64 pt, .bool pm, .bool ph] (by rfl) (by rfl) (HNW.out _ (show Below w5.heap.size w5 _ from by first | exact (Below.refl _ _).drew | exact (bel_alloc (Below.refl _ _) _).drew | exact (bel_alloc (bel_alloc (Below.refl _ _) _) _).drew | exact bel_alloc (Below.refl _ _).drew _ | exact bel_alloc (bel_alloc (Below.refl _ _).drew _) _)) (by simp [Value.oneCell']) (by omega) (by unfold maxLen; omega) (by omega) (Below.size (show Below w5.heap.size w5 _ from by first | exact (Below.refl _ _).drew | exact (bel_alloc (Below.refl _ _) _).drew | exact (bel_alloc (bel_alloc (Below.refl _ _) _) _).drew | exact bel_alloc (Below.refl _ _).drew _ | exact bel_alloc (bel_alloc (Below.refl _ _).drew _) _)) _ rfl ?_; intro g1 c1 w7 hown7 hgrow7 hat7 hlt7; replace hown7 : w7.ownsRow w5.heap.size 30 10 (.slice (some ⟨g1, 0, none⟩) 1 c1) 1 [.int .i64 pg, .int .i64 pk, .slice pa plen pcap, .int .i64 pht, .int .i64 phv, .int .i64 phc, .int .i64 pi, .int .i64 pt, .bool pm, .bool ph] := hown7; have hX7 : Below w5.heap.size w5 w7 := Below.grown (show Below w5.heap.size w5 _ from by first | exact (Below.refl _ _).drew | exact (bel_alloc (Below.refl _ _) _).drew | exact (bel_alloc (bel_alloc (Below.refl _ _) _) _).drew | exact bel_alloc (Below.refl _ _).drew _ | exact bel_alloc (bel_alloc (Below.refl _ _).drew _) _) hgrow7 (Below.size (show Below w5.heap.size w5 _ from by first | exact (Below.refl _ _).drew | exact (bel_alloc (Below.refl _ _) _).drew | exact (bel_alloc (bel_alloc (Below.refl _ _) _) _).drew | exact bel_alloc (Below.refl _ _).drew _ | exact bel_alloc (bel_alloc (Below.refl _ _).drew _) _)) (fun k hk => by simp [Value.ownBlock] at hk); have HG1 := Lib.hid (hat7.resolve_left (by simp [Value.ownBlock])); clear hat7; (try (have fb0 : w7.heap[w5.heap.size]? = some (.cells #[.int .i64 0, .int .i64 6, .slice none 0 0, .int .i64 0, .int .i64 0, .int .i64 0, .int .i64 0, .int .i64 0, .bool false, .bool true] 30 (0, 0)) := (hgrow7.block (w5.heap.size) (by simp <;> omega) (by simp [Value.ownBlock])).trans (by first | exact World.alloc_heap_new w5 _ | exact two_a w5 _ _ _ _))); (try (have fb1 : w7.heap[w5.heap.size + 1]? = some (.cells #[.int .i64 0, .int .i64 6, .slice none 0 0, .int .i64 0, .int .i64 0, .int .i64 0, .int .i64 0, .int .i64 0, .bool false, .bool true] 30 (0, 0)) := (hgrow7.block (w5.heap.size + 1) (by simp <;> omega) (by simp [Value.ownBlock])).trans (by first | exact two_b w5 _ _ _ _))); (try (have rz0 : w7.heap[w5.heap.size]? = some (.cells #[.int .i64 0, .slice none 0 0] 32 (0, 0)) := (hgrow7.block (w5.heap.size) (by simp <;> omega) (by simp [Value.ownBlock])).trans (by first | exact World.alloc_heap_new w5 _ | exact two_a w5 _ _ _ _))); (try (have rz1 : w7.heap[w5.heap.size + 1]? = some (.cells #[.int .i64 0, .slice none 0 0] 32 (0, 0)) := (hgrow7.block (w5.heap.size + 1) (by simp <;> omega) (by simp [Value.ownBlock])).trans (by first | exact two_b w5 _ _ _ _))); have y7 := (hX7.cell (p := ⟨wr.heap.size, 0, none⟩) hlt5).trans x0c; have hs7 := hX7.size)
          | (refine step_append_lies _ (by rfl) _ _ _ (by rfl) w5.heap.size 30 i0 _ 10 88 Try.underlying22 hi hz0 hz1 hz2 rfl (by decide) (.slice (some ⟨g1, 0, none⟩) 1 c1) 1 [.int .i64 pg, .int .i64 pk, .slice pa plen pcap, .int .i64 pht, .int .i64 phv, .int .i64 phc, .int .i64 pi, .int .i64 pt, .bool pm, .bool ph] (by rfl) (by first | exact hown7 | exact hown7.alloc _ | exact (hown7.alloc _).alloc _) ⟨w5.heap.size, 0, none⟩ 1 1 [.int .i64 0, .int .i64 6, .slice none 0 0, .int .i64 0, .int .i64 0, .int .i64 0, .int .i64 0, .int .i64 0, .bool false, .bool true] (by rfl) (by rfl) (World.news_of_block (cs := #[.int .i64 0, .int .i64 6, .slice none 0 0, .int .i64 0, .int .i64 0, .int .i64 0, .int .i64 0, .int .i64 0, .bool false, .bool true]) (by first | exact fb0 | exact ((bel_alloc (Below.refl w7.heap.size w7) _).block _ (heap_lt fb0)).trans fb0)) (by simp [Value.oneCell']) (by omega) (by unfold maxLen; omega) (by omega) (Below.size (show Below w5.heap.size w5 _ from by first | exact hX7 | exact bel_alloc hX7 _ | exact bel_alloc (bel_alloc hX7 _) _)) _ rfl ?_; intro g2 c2 w9 hown9 hgrow9 hat9 hlt9; have hX9 : Below w5.heap.size w5 w9 := Below.grown (show Below w5.heap.size w5 _ from by first | exact hX7 | exact bel_alloc hX7 _ | exact bel_alloc (bel_alloc hX7 _) _) hgrow9 (Below.size (show Below w5.heap.size w5 _ from by first | exact hX7 | exact bel_alloc hX7 _ | exact bel_alloc (bel_alloc hX7 _) _)) (fun k hk => ownBlock_ge hown7 hk); (try (have qa : w9.heap[w5.heap.size]? = some (.cells #[.int .i64 0, .slice none 0 0] 32 (0, 0)) := (hgrow9.block (w5.heap.size) (by first | (have := heap_lt rz0; simp <;> omega) | (have := heap_lt rz1; simp <;> omega) | (simp <;> omega)) (by simp [Value.ownBlock]; first | omega | (have hg1 := HG1.out; simp at hg1; omega))).trans (by first | exact rz0 | exact ((bel_alloc (Below.refl w7.heap.size w7) _).block _ (heap_lt rz0)).trans rz0); have ra0 := cell_of_row _ _ 0 _ _ _ qa; have ra1 := cell_of_row _ _ 1 _ _ _ qa; have ra2 := frozen_of_row _ _ 0 _ _ qa; have ra3 := frozen_of_row _ _ 1 _ _ qa)); (try (have qb : w9.heap[w5.heap.size + 1]? = some (.cells #[.int .i64 0, .slice none 0 0] 32 (0, 0)) := (hgrow9.block (w5.heap.size + 1) (by first | (have := heap_lt rz0; simp <;> omega) | (have := heap_lt rz1; simp <;> omega) | (simp <;> omega)) (by simp [Value.ownBlock]; first | omega | (have hg1 := HG1.out; simp at hg1; omega))).trans (by first | exact rz1); have rb0 := cell_of_row _ _ 0 _ _ _ qb; have rb1 := cell_of_row _ _ 1 _ _ _ qb; have rb2 := frozen_of_row _ _ 0 _ _ qb; have rb3 := frozen_of_row _ _ 1 _ _ qb)); (try (have qc : w9.heap[w7.heap.size]? = some (.cells #[.int .i64 0, .slice none 0 0] 32 (0, 0)) := (hgrow9.block (w7.heap.size) (by first | (have := heap_lt rz0; simp <;> omega) | (have := heap_lt rz1; simp <;> omega) | (simp <;> omega)) (by simp [Value.ownBlock]; first | omega | (have hg1 := HG1.out; simp at hg1; omega))).trans (by first | exact World.alloc_heap_new w7 _ | exact two_a w7 _ _ _ _); have rc0 := cell_of_row _ _ 0 _ _ _ qc; have rc1 := cell_of_row _ _ 1 _ _ _ qc; have rc2 := frozen_of_row _ _ 0 _ _ qc; have rc3 := frozen_of_row _ _ 1 _ _ qc)); (try (have qd : w9.heap[w7.heap.size + 1]? = some (.cells #[.int .i64 0, .slice none 0 0] 32 (0, 0)) := (hgrow9.block (w7.heap.size + 1) (by first | (have := heap_lt rz0; simp <;> omega) | (have := heap_lt rz1; simp <;> omega) | (simp <;> omega)) (by simp [Value.ownBlock]; first | omega | (have hg1 := HG1.out; simp at hg1; omega))).trans (by first | exact two_b w7 _ _ _ _); have rd0 := cell_of_row _ _ 0 _ _ _ qd; have rd1 := cell_of_row _ _ 1 _ _ _ qd; have rd2 := frozen_of_row _ _ 0 _ _ qd; have rd3 := frozen_of_row _ _ 1 _ _ qd)); have rz9 := World.alloc_heap_new w9 (.cells #[.int .i64 0, .slice none 0 0] 32); have re0 := cell_of_row _ _ 0 _ _ _ rz9; have re1 := cell_of_row _ _ 1 _ _ _ rz9; have re2 := frozen_of_row _ _ 0 _ _ rz9; have re3 := frozen_of_row _ _ 1 _ _ rz9; have m5 : wr.heap.size ≠ w9.heap.size := (by have := hX9.size; omega); have m6 : w9.heap.size ≠ wr.heap.size := (by have := hX9.size; omega); have y9 := (hX9.cell (p := ⟨wr.heap.size, 0, none⟩) hlt5).trans x0c; have m1 : wr.heap.size ≠ w7.heap.size := (by omega); have m2 : w7.heap.size ≠ wr.heap.size := (by omega); have m3 : wr.heap.size ≠ w7.heap.size + 1 := (by omega); have m4 : w7.heap.size + 1 ≠ wr.heap.size := (by omega))
          | (refine step_append_lies _ (by rfl) _ _ _ (by rfl) w5.heap.size 30 i0 _ 10 88 Try.underlying22 hi hz0 hz1 hz2 rfl (by decide) (.slice (some ⟨g1, 0, none⟩) 1 c1) 1 [.int .i64 pg, .int .i64 pk, .slice pa plen pcap, .int .i64 pht, .int .i64 phv, .int .i64 phc, .int .i64 pi, .int .i64 pt, .bool pm, .bool ph] (by rfl) (by first | exact hown7 | exact hown7.alloc _ | exact (hown7.alloc _).alloc _) ⟨w5.heap.size + 1, 0, none⟩ 1 1 [.int .i64 0, .int .i64 6, .slice none 0 0, .int .i64 0, .int .i64 0, .int .i64 0, .int .i64 0, .int .i64 0, .bool false, .bool true] (by rfl) (by rfl) (World.news_of_block (cs := #[.int .i64 0, .int .i64 6, .slice none 0 0, .int .i64 0, .int .i64 0, .int .i64 0, .int .i64 0, .int .i64 0, .bool false, .bool true]) (by first | exact fb1)) (by simp [Value.oneCell']) (by omega) (by unfold maxLen; omega) (by omega) (Below.size (show Below w5.heap.size w5 _ from by first | exact hX7 | exact bel_alloc hX7 _ | exact bel_alloc (bel_alloc hX7 _) _)) _ rfl ?_; intro g2 c2 w9 hown9 hgrow9 hat9 hlt9; have hX9 : Below w5.heap.size w5 w9 := Below.grown (show Below w5.heap.size w5 _ from by first | exact hX7 | exact bel_alloc hX7 _ | exact bel_alloc (bel_alloc hX7 _) _) hgrow9 (Below.size (show Below w5.heap.size w5 _ from by first | exact hX7 | exact bel_alloc hX7 _ | exact bel_alloc (bel_alloc hX7 _) _)) (fun k hk => ownBlock_ge hown7 hk); (try (have qa : w9.heap[w5.heap.size]? = some (.cells #[.int .i64 0, .slice none 0 0] 32 (0, 0)) := (hgrow9.block (w5.heap.size) (by first | (have := heap_lt rz0; simp <;> omega) | (have := heap_lt rz1; simp <;> omega) | (simp <;> omega)) (by simp [Value.ownBlock]; first | omega | (have hg1 := HG1.out; simp at hg1; omega))).trans (by first | exact rz0 | exact ((bel_alloc (Below.refl w7.heap.size w7) _).block _ (heap_lt rz0)).trans rz0); have ra0 := cell_of_row _ _ 0 _ _ _ qa; have ra1 := cell_of_row _ _ 1 _ _ _ qa; have ra2 := frozen_of_row _ _ 0 _ _ qa; have ra3 := frozen_of_row _ _ 1 _ _ qa)); (try (have qb : w9.heap[w5.heap.size + 1]? = some (.cells #[.int .i64 0, .slice none 0 0] 32 (0, 0)) := (hgrow9.block (w5.heap.size + 1) (by first | (have := heap_lt rz0; simp <;> omega) | (have := heap_lt rz1; simp <;> omega) | (simp <;> omega)) (by simp [Value.ownBlock]; first | omega | (have hg1 := HG1.out; simp at hg1; omega))).trans (by first | exact rz1); have rb0 := cell_of_row _ _ 0 _ _ _ qb; have rb1 := cell_of_row _ _ 1 _ _ _ qb; have rb2 := frozen_of_row _ _ 0 _ _ qb; have rb3 := frozen_of_row _ _ 1 _ _ qb)); (try (have qc : w9.heap[w7.heap.size]? = some (.cells #[.int .i64 0, .slice none 0 0] 32 (0, 0)) := (hgrow9.block (w7.heap.size) (by first | (have := heap_lt rz0; simp <;> omega) | (have := heap_lt rz1; simp <;> omega) | (simp <;> omega)) (by simp [Value.ownBlock]; first | omega | (have hg1 := HG1.out; simp at hg1; omega))).trans (by first | exact World.alloc_heap_new w7 _ | exact two_a w7 _ _ _ _); have rc0 := cell_of_row _ _ 0 _ _ _ qc; have rc1 := cell_of_row _ _ 1 _ _ _ qc; have rc2 := frozen_of_row _ _ 0 _ _ qc; have rc3 := frozen_of_row _ _ 1 _ _ qc)); (try (have qd : w9.heap[w7.heap.size + 1]? = some (.cells #[.int .i64 0, .slice none 0 0] 32 (0, 0)) := (hgrow9.block (w7.heap.size + 1) (by first | (have := heap_lt rz0; simp <;> omega) | (have := heap_lt rz1; simp <;> omega) | (simp <;> omega)) (by simp [Value.ownBlock]; first | omega | (have hg1 := HG1.out; simp at hg1; omega))).trans (by first | exact two_b w7 _ _ _ _); have rd0 := cell_of_row _ _ 0 _ _ _ qd; have rd1 := cell_of_row _ _ 1 _ _ _ qd; have rd2 := frozen_of_row _ _ 0 _ _ qd; have rd3 := frozen_of_row _ _ 1 _ _ qd)); have rz9 := World.alloc_heap_new w9 (.cells #[.int .i64 0, .slice none 0 0] 32); have re0 := cell_of_row _ _ 0 _ _ _ rz9; have re1 := cell_of_row _ _ 1 _ _ _ rz9; have re2 := frozen_of_row _ _ 0 _ _ rz9; have re3 := frozen_of_row _ _ 1 _ _ rz9; have m5 : wr.heap.size ≠ w9.heap.size := (by have := hX9.size; omega); have m6 : w9.heap.size ≠ wr.heap.size := (by have := hX9.size; omega); have y9 := (hX9.cell (p := ⟨wr.heap.size, 0, none⟩) hlt5).trans x0c; have m1 : wr.heap.size ≠ w7.heap.size := (by omega); have m2 : w7.heap.size ≠ wr.heap.size := (by omega); have m3 : wr.heap.size ≠ w7.heap.size + 1 := (by omega); have m4 : w7.heap.size + 1 ≠ wr.heap.size := (by omega))
          | (refine step_append_lies _ (by rfl) _ _ _ (by rfl) w5.heap.size 30 i0 _ 10 88 Try.underlying22 hi hz0 hz1 hz2 rfl (by decide) (.slice (some ⟨g1, 0, none⟩) 1 c1) 1 [.int .i64 pg, .int .i64 pk, .slice pa plen pcap, .int .i64 pht, .int .i64 phv, .int .i64 phc, .int .i64 pi, .int .i64 pt, .bool pm, .bool ph] (by rfl) (by first | exact hown7 | exact hown7.alloc _ | exact (hown7.alloc _).alloc _) ⟨w7.heap.size, 0, none⟩ 1 1 [.int .i64 0, .int .i64 6, .slice none 0 0, .int .i64 0, .int .i64 0, .int .i64 0, .int .i64 0, .int .i64 0, .bool false, .bool true] (by rfl) (by rfl) (World.news_of_block (cs := #[.int .i64 0, .int .i64 6, .slice none 0 0, .int .i64 0, .int .i64 0, .int .i64 0, .int .i64 0, .int .i64 0, .bool false, .bool true]) (by first | exact World.alloc_heap_new w7 _ | exact two_a w7 _ _ _ _)) (by simp [Value.oneCell']) (by omega) (by unfold maxLen; omega) (by omega) (Below.size (show Below w5.heap.size w5 _ from by first | exact hX7 | exact bel_alloc hX7 _ | exact bel_alloc (bel_alloc hX7 _) _)) _ rfl ?_; intro g2 c2 w9 hown9 hgrow9 hat9 hlt9; have hX9 : Below w5.heap.size w5 w9 := Below.grown (show Below w5.heap.size w5 _ from by first | exact hX7 | exact bel_alloc hX7 _ | exact bel_alloc (bel_alloc hX7 _) _) hgrow9 (Below.size (show Below w5.heap.size w5 _ from by first | exact hX7 | exact bel_alloc hX7 _ | exact bel_alloc (bel_alloc hX7 _) _)) (fun k hk => ownBlock_ge hown7 hk); (try (have qa : w9.heap[w5.heap.size]? = some (.cells #[.int .i64 0, .slice none 0 0] 32 (0, 0)) := (hgrow9.block (w5.heap.size) (by first | (have := heap_lt rz0; simp <;> omega) | (have := heap_lt rz1; simp <;> omega) | (simp <;> omega)) (by simp [Value.ownBlock]; first | omega | (have hg1 := HG1.out; simp at hg1; omega))).trans (by first | exact rz0 | exact ((bel_alloc (Below.refl w7.heap.size w7) _).block _ (heap_lt rz0)).trans rz0); have ra0 := cell_of_row _ _ 0 _ _ _ qa; have ra1 := cell_of_row _ _ 1 _ _ _ qa; have ra2 := frozen_of_row _ _ 0 _ _ qa; have ra3 := frozen_of_row _ _ 1 _ _ qa)); (try (have qb : w9.heap[w5.heap.size + 1]? = some (.cells #[.int .i64 0, .slice none 0 0] 32 (0, 0)) := (hgrow9.block (w5.heap.size + 1) (by first | (have := heap_lt rz0; simp <;> omega) | (have := heap_lt rz1; simp <;> omega) | (simp <;> omega)) (by simp [Value.ownBlock]; first | omega | (have hg1 := HG1.out; simp at hg1; omega))).trans (by first | exact rz1); have rb0 := cell_of_row _ _ 0 _ _ _ qb; have rb1 := cell_of_row _ _ 1 _ _ _ qb; have rb2 := frozen_of_row _ _ 0 _ _ qb; have rb3 := frozen_of_row _ _ 1 _ _ qb)); (try (have qc : w9.heap[w7.heap.size]? = some (.cells #[.int .i64 0, .slice none 0 0] 32 (0, 0)) := (hgrow9.block (w7.heap.size) (by first | (have := heap_lt rz0; simp <;> omega) | (have := heap_lt rz1; simp <;> omega) | (simp <;> omega)) (by simp [Value.ownBlock]; first | omega | (have hg1 := HG1.out; simp at hg1; omega))).trans (by first | exact World.alloc_heap_new w7 _ | exact two_a w7 _ _ _ _); have rc0 := cell_of_row _ _ 0 _ _ _ qc; have rc1 := cell_of_row _ _ 1 _ _ _ qc; have rc2 := frozen_of_row _ _ 0 _ _ qc; have rc3 := frozen_of_row _ _ 1 _ _ qc)); (try (have qd : w9.heap[w7.heap.size + 1]? = some (.cells #[.int .i64 0, .slice none 0 0] 32 (0, 0)) := (hgrow9.block (w7.heap.size + 1) (by first | (have := heap_lt rz0; simp <;> omega) | (have := heap_lt rz1; simp <;> omega) | (simp <;> omega)) (by simp [Value.ownBlock]; first | omega | (have hg1 := HG1.out; simp at hg1; omega))).trans (by first | exact two_b w7 _ _ _ _); have rd0 := cell_of_row _ _ 0 _ _ _ qd; have rd1 := cell_of_row _ _ 1 _ _ _ qd; have rd2 := frozen_of_row _ _ 0 _ _ qd; have rd3 := frozen_of_row _ _ 1 _ _ qd)); have rz9 := World.alloc_heap_new w9 (.cells #[.int .i64 0, .slice none 0 0] 32); have re0 := cell_of_row _ _ 0 _ _ _ rz9; have re1 := cell_of_row _ _ 1 _ _ _ rz9; have re2 := frozen_of_row _ _ 0 _ _ rz9; have re3 := frozen_of_row _ _ 1 _ _ rz9; have m5 : wr.heap.size ≠ w9.heap.size := (by have := hX9.size; omega); have m6 : w9.heap.size ≠ wr.heap.size := (by have := hX9.size; omega); have y9 := (hX9.cell (p := ⟨wr.heap.size, 0, none⟩) hlt5).trans x0c; have m1 : wr.heap.size ≠ w7.heap.size := (by omega); have m2 : w7.heap.size ≠ wr.heap.size := (by omega); have m3 : wr.heap.size ≠ w7.heap.size + 1 := (by omega); have m4 : w7.heap.size + 1 ≠ wr.heap.size := (by omega))
          | (refine step_append_lies _ (by rfl) _ _ _ (by rfl) w5.heap.size 30 i0 _ 10 88 Try.underlying22 hi hz0 hz1 hz2 rfl (by decide) (.slice (some ⟨g1, 0, none⟩) 1 c1) 1 [.int .i64 pg, .int .i64 pk, .slice pa plen pcap, .int .i64 pht, .int .i64 phv, .int .i64 phc, .int .i64 pi, .int .i64 pt, .bool pm, .bool ph] (by rfl) (by first | exact hown7 | exact hown7.alloc _ | exact (hown7.alloc _).alloc _) ⟨w7.heap.size + 1, 0, none⟩ 1 1 [.int .i64 0, .int .i64 6, .slice none 0 0, .int .i64 0, .int .i64 0, .int .i64 0, .int .i64 0, .int .i64 0, .bool false, .bool true] (by rfl) (by rfl) (World.news_of_block (cs := #[.int .i64 0, .int .i64 6, .slice none 0 0, .int .i64 0, .int .i64 0, .int .i64 0, .int .i64 0, .int .i64 0, .bool false, .bool true]) (by first | exact two_b w7 _ _ _ _)) (by simp [Value.oneCell']) (by omega) (by unfold maxLen; omega) (by omega) (Below.size (show Below w5.heap.size w5 _ from by first | exact hX7 | exact bel_alloc hX7 _ | exact bel_alloc (bel_alloc hX7 _) _)) _ rfl ?_; intro g2 c2 w9 hown9 hgrow9 hat9 hlt9; have hX9 : Below w5.heap.size w5 w9 := Below.grown (show Below w5.heap.size w5 _ from by first | exact hX7 | exact bel_alloc hX7 _ | exact bel_alloc (bel_alloc hX7 _) _) hgrow9 (Below.size (show Below w5.heap.size w5 _ from by first | exact hX7 | exact bel_alloc hX7 _ | exact bel_alloc (bel_alloc hX7 _) _)) (fun k hk => ownBlock_ge hown7 hk); (try (have qa : w9.heap[w5.heap.size]? = some (.cells #[.int .i64 0, .slice none 0 0] 32 (0, 0)) := (hgrow9.block (w5.heap.size) (by first | (have := heap_lt rz0; simp <;> omega) | (have := heap_lt rz1; simp <;> omega) | (simp <;> omega)) (by simp [Value.ownBlock]; first | omega | (have hg1 := HG1.out; simp at hg1; omega))).trans (by first | exact rz0 | exact ((bel_alloc (Below.refl w7.heap.size w7) _).block _ (heap_lt rz0)).trans rz0); have ra0 := cell_of_row _ _ 0 _ _ _ qa; have ra1 := cell_of_row _ _ 1 _ _ _ qa; have ra2 := frozen_of_row _ _ 0 _ _ qa; have ra3 := frozen_of_row _ _ 1 _ _ qa)); (try (have qb : w9.heap[w5.heap.size + 1]? = some (.cells #[.int .i64 0, .slice none 0 0] 32 (0, 0)) := (hgrow9.block (w5.heap.size + 1) (by first | (have := heap_lt rz0; simp <;> omega) | (have := heap_lt rz1; simp <;> omega) | (simp <;> omega)) (by simp [Value.ownBlock]; first | omega | (have hg1 := HG1.out; simp at hg1; omega))).trans (by first | exact rz1); have rb0 := cell_of_row _ _ 0 _ _ _ qb; have rb1 := cell_of_row _ _ 1 _ _ _ qb; have rb2 := frozen_of_row _ _ 0 _ _ qb; have rb3 := frozen_of_row _ _ 1 _ _ qb)); (try (have qc : w9.heap[w7.heap.size]? = some (.cells #[.int .i64 0, .slice none 0 0] 32 (0, 0)) := (hgrow9.block (w7.heap.size) (by first | (have := heap_lt rz0; simp <;> omega) | (have := heap_lt rz1; simp <;> omega) | (simp <;> omega)) (by simp [Value.ownBlock]; first | omega | (have hg1 := HG1.out; simp at hg1; omega))).trans (by first | exact World.alloc_heap_new w7 _ | exact two_a w7 _ _ _ _); have rc0 := cell_of_row _ _ 0 _ _ _ qc; have rc1 := cell_of_row _ _ 1 _ _ _ qc; have rc2 := frozen_of_row _ _ 0 _ _ qc; have rc3 := frozen_of_row _ _ 1 _ _ qc)); (try (have qd : w9.heap[w7.heap.size + 1]? = some (.cells #[.int .i64 0, .slice none 0 0] 32 (0, 0)) := (hgrow9.block (w7.heap.size + 1) (by first | (have := heap_lt rz0; simp <;> omega) | (have := heap_lt rz1; simp <;> omega) | (simp <;> omega)) (by simp [Value.ownBlock]; first | omega | (have hg1 := HG1.out; simp at hg1; omega))).trans (by first | exact two_b w7 _ _ _ _); have rd0 := cell_of_row _ _ 0 _ _ _ qd; have rd1 := cell_of_row _ _ 1 _ _ _ qd; have rd2 := frozen_of_row _ _ 0 _ _ qd; have rd3 := frozen_of_row _ _ 1 _ _ qd)); have rz9 := World.alloc_heap_new w9 (.cells #[.int .i64 0, .slice none 0 0] 32); have re0 := cell_of_row _ _ 0 _ _ _ rz9; have re1 := cell_of_row _ _ 1 _ _ _ rz9; have re2 := frozen_of_row _ _ 0 _ _ rz9; have re3 := frozen_of_row _ _ 1 _ _ rz9; have m5 : wr.heap.size ≠ w9.heap.size := (by have := hX9.size; omega); have m6 : w9.heap.size ≠ wr.heap.size := (by have := hX9.size; omega); have y9 := (hX9.cell (p := ⟨wr.heap.size, 0, none⟩) hlt5).trans x0c; have m1 : wr.heap.size ≠ w7.heap.size := (by omega); have m2 : w7.heap.size ≠ wr.heap.size := (by omega); have m3 : wr.heap.size ≠ w7.heap.size + 1 := (by omega); have m4 : w7.heap.size + 1 ≠ wr.heap.size := (by omega)))
        all_goals
          obtain ⟨ga9, ca9, hsl, hc2, hrw9⟩ := rowV_own hown9
          cases hsl
        all_goals first
          | (have hR := World.alloc_heap_new w9 (.cells #[.int .i64 ((nn : Int) + 1), .slice (some ⟨g2, 0, none⟩) 2 c2] 32)
             have hBz := bel_alloc (Below.refl w9.heap.size w9) (.cells #[.int .i64 ((nn : Int) + 1), .slice (some ⟨g2, 0, none⟩) 2 c2] 32)
             have hrow := hrw9.below hBz
             have hXz := bel2 hX9 hBz
             generalize (w9.alloc (.cells #[.int .i64 ((nn : Int) + 1), .slice (some ⟨g2, 0, none⟩) 2 c2] 32)) = wz at *
             obtain ⟨Zz, hZz⟩ : ∃ Zz, Zz = w9.heap.size := ⟨_, rfl⟩
             rw [← hZz] at hR ⊢
             clear hZz hBz)
          | (have hne := own_type_ne hown9 qd (by decide)
             have hR0 := Go.Joins.block_setCell qd (.int .i64 ((nn : Int) + 1)) (i := 0)
             have hR := Go.Joins.block_setCell hR0 (.slice (some ⟨g2, 0, none⟩) 2 c2) (i := 1)
             simp only [List.setIfInBounds_toArray, List.set_cons_succ, List.set_cons_zero] at hR
             have hF1 := FrameT.setCell w9 (w7.heap.size + 1) 0 (.int .i64 ((nn : Int) + 1))
             have hF2 := FrameT.setCell (w9.setCell ⟨w7.heap.size + 1, 0, none⟩ (.int .i64 ((nn : Int) + 1))) (w7.heap.size + 1) 1 (.slice (some ⟨g2, 0, none⟩) 2 c2)
             have hrow := rowV_fr5 (rowV_fr5 hrw9 hF1 hne) hF2 hne
             have hXz := (hX9.trans (hF1.toBelow hX9.size (fun k h => by omega))).trans (hF2.toBelow (by have := hX9.size; simpa using this) (fun k h => by omega))
             generalize ((w9.setCell ⟨w7.heap.size + 1, 0, none⟩ (.int .i64 ((nn : Int) + 1))).setCell ⟨w7.heap.size + 1, 1, none⟩ (.slice (some ⟨g2, 0, none⟩) 2 c2)) = wz at *
             obtain ⟨Zz, hZz⟩ : ∃ Zz, Zz = w7.heap.size + 1 := ⟨_, rfl⟩
             rw [← hZz] at hR ⊢
             clear hZz)
          | (have hne := own_type_ne hown9 qc (by decide)
             have hR0 := Go.Joins.block_setCell qc (.int .i64 ((nn : Int) + 1)) (i := 0)
             have hR := Go.Joins.block_setCell hR0 (.slice (some ⟨g2, 0, none⟩) 2 c2) (i := 1)
             simp only [List.setIfInBounds_toArray, List.set_cons_succ, List.set_cons_zero] at hR
             have hF1 := FrameT.setCell w9 (w7.heap.size) 0 (.int .i64 ((nn : Int) + 1))
             have hF2 := FrameT.setCell (w9.setCell ⟨w7.heap.size, 0, none⟩ (.int .i64 ((nn : Int) + 1))) (w7.heap.size) 1 (.slice (some ⟨g2, 0, none⟩) 2 c2)
             have hrow := rowV_fr5 (rowV_fr5 hrw9 hF1 hne) hF2 hne
             have hXz := (hX9.trans (hF1.toBelow hX9.size (fun k h => by omega))).trans (hF2.toBelow (by have := hX9.size; simpa using this) (fun k h => by omega))
             generalize ((w9.setCell ⟨w7.heap.size, 0, none⟩ (.int .i64 ((nn : Int) + 1))).setCell ⟨w7.heap.size, 1, none⟩ (.slice (some ⟨g2, 0, none⟩) 2 c2)) = wz at *
             obtain ⟨Zz, hZz⟩ : ∃ Zz, Zz = w7.heap.size := ⟨_, rfl⟩
             rw [← hZz] at hR ⊢
             clear hZz)
          | (have hne := own_type_ne hown9 qb (by decide)
             have hR0 := Go.Joins.block_setCell qb (.int .i64 ((nn : Int) + 1)) (i := 0)
             have hR := Go.Joins.block_setCell hR0 (.slice (some ⟨g2, 0, none⟩) 2 c2) (i := 1)
             simp only [List.setIfInBounds_toArray, List.set_cons_succ, List.set_cons_zero] at hR
             have hF1 := FrameT.setCell w9 (w5.heap.size + 1) 0 (.int .i64 ((nn : Int) + 1))
             have hF2 := FrameT.setCell (w9.setCell ⟨w5.heap.size + 1, 0, none⟩ (.int .i64 ((nn : Int) + 1))) (w5.heap.size + 1) 1 (.slice (some ⟨g2, 0, none⟩) 2 c2)
             have hrow := rowV_fr5 (rowV_fr5 hrw9 hF1 hne) hF2 hne
             have hXz := (hX9.trans (hF1.toBelow hX9.size (fun k h => by omega))).trans (hF2.toBelow (by have := hX9.size; simpa using this) (fun k h => by omega))
             generalize ((w9.setCell ⟨w5.heap.size + 1, 0, none⟩ (.int .i64 ((nn : Int) + 1))).setCell ⟨w5.heap.size + 1, 1, none⟩ (.slice (some ⟨g2, 0, none⟩) 2 c2)) = wz at *
             obtain ⟨Zz, hZz⟩ : ∃ Zz, Zz = w5.heap.size + 1 := ⟨_, rfl⟩
             rw [← hZz] at hR ⊢
             clear hZz)
          | (have hne := own_type_ne hown9 qa (by decide)
             have hR0 := Go.Joins.block_setCell qa (.int .i64 ((nn : Int) + 1)) (i := 0)
             have hR := Go.Joins.block_setCell hR0 (.slice (some ⟨g2, 0, none⟩) 2 c2) (i := 1)
             simp only [List.setIfInBounds_toArray, List.set_cons_succ, List.set_cons_zero] at hR
             have hF1 := FrameT.setCell w9 (w5.heap.size) 0 (.int .i64 ((nn : Int) + 1))
             have hF2 := FrameT.setCell (w9.setCell ⟨w5.heap.size, 0, none⟩ (.int .i64 ((nn : Int) + 1))) (w5.heap.size) 1 (.slice (some ⟨g2, 0, none⟩) 2 c2)
             have hrow := rowV_fr5 (rowV_fr5 hrw9 hF1 hne) hF2 hne
             have hXz := (hX9.trans (hF1.toBelow hX9.size (fun k h => by omega))).trans (hF2.toBelow (by have := hX9.size; simpa using this) (fun k h => by omega))
             generalize ((w9.setCell ⟨w5.heap.size, 0, none⟩ (.int .i64 ((nn : Int) + 1))).setCell ⟨w5.heap.size, 1, none⟩ (.slice (some ⟨g2, 0, none⟩) 2 c2)) = wz at *
             obtain ⟨Zz, hZz⟩ : ∃ Zz, Zz = w5.heap.size := ⟨_, rfl⟩
             rw [← hZz] at hR ⊢
             clear hZz)
        all_goals
          replace hrow : RowV wz (some ⟨g2, 0, none⟩) 2 10 ([.int .i64 pg, .int .i64 pk, .slice pa plen pcap, .int .i64 pht, .int .i64 phv, .int .i64 phc, .int .i64 pi, .int .i64 pt, .bool pm, .bool ph] ++ [.int .i64 0, .int .i64 6, .slice none 0 0, .int .i64 0, .int .i64 0, .int .i64 0, .int .i64 0, .int .i64 0, .bool false, .bool true]) := hrow
          have hrt := row_tail rfl rfl hrow
          have hBw5 : Below w.heap.size w wz := bel2 hB (bel2 hA5 hXz)
          have G1 := Lib.hid (fun W (hW : Below wz.heap.size wz W) => (show Gives Try.prog 8 #[.agg #[.int .i64 ((nn : Int) + 1), .slice (some ⟨g2, 0, none⟩) 2 c2]] W (.bool false) from by
            have := recIs_any ((nn : Int) + 1) (some ⟨g2, 0, none⟩) 2 c2 [(⟨pg, pk, pa, plen, pcap, pht, phv, phc, pi, pt, pm, ph⟩, l0), headF] W ⟨rfl, by omega, hrow.below hW, fun x hx => by
              rcases List.mem_cons.1 hx with rfl | hx
              · exact HX0.out.2.below (bel2 hBw5 hW)
              · rw [List.mem_singleton.1 hx]; exact hasE_nil rfl rfl⟩
            rwa [mixed_no HX0.out.1] at this))
          have G2 := Lib.hid (fun W (hW : Below wz.heap.size wz W) => (show Gives Try.prog 8 #[.agg #[.int .i64 0, .slice (some ⟨bg, og, none⟩) m vc]] W (.bool false) from by
            have := recIs_any 0 (some ⟨bg, og, none⟩) m vc _ W (HP.out W (bel2 hA5 (bel2 hXz hW)))
            rwa [recB_short (.inl (by omega))] at this))
          have G3 := Lib.hid (fun W (hW : Below wz.heap.size wz W) => (show Gives Try.prog 8 #[.agg #[.int .i64 1, .slice (some ⟨g2, 10, none⟩) 1 (c2 - 1)]] W (.bool true) from by
            have := recIs_any 1 (some ⟨g2, 10, none⟩) 1 (c2 - 1) [headF] W ⟨rfl, by omega, hrt.below hW, fun x hx => by rw [List.mem_singleton.1 hx]; exact hasE_nil rfl rfl⟩
            rwa [headF_ok] at this))
          have hc2' : (2 : Int) ≤ (c2 : Int) := by omega
          have hc3 : ¬ c2 = 1 := by omega
          have v0 : wz.cell? ⟨Zz, 0, none⟩ = _ := cell_of_row _ _ 0 _ _ _ hR
          have v1 : wz.cell? ⟨Zz, 1, none⟩ = _ := cell_of_row _ _ 1 _ _ _ hR
          clear hrow hrt hgrow9 hgrow7 hown9 hown7 y7 y9 x0c
          go_wp2_with (first
            | (go_at_call 8; ((with_reducible refine (G3.out _ hY2).mono ?_); rintro e u3 ⟨rfl, hU3⟩; have hY3 := bel2 hY2 hU3))
            | (go_at_call 8; ((with_reducible refine (G2.out _ hY1).mono ?_); rintro e u2 ⟨rfl, hU2⟩; have hY2 := bel2 hY1 hU2; have hR2 := (hY2.block _ (heap_lt hR)).trans hR; clear v0 v1; have v0 := cell_of_row _ _ 0 _ _ _ hR2; have v1 := cell_of_row _ _ 1 _ _ _ hR2))
            | (go_at_call 8; ((with_reducible refine (G1.out _ (Below.refl _ _)).mono ?_); rintro e u1 ⟨rfl, hU1⟩; have hY1 := hU1; have hR1 := (hY1.block _ (heap_lt hR)).trans hR; clear v0 v1; have v0 := cell_of_row _ _ 0 _ _ _ hR1; have v1 := cell_of_row _ _ 1 _ _ _ hR1)))
          go_ret
          exact ⟨by simp, bel2 hBw5 hY3⟩

theorem walk (w : World) (a : Option Addr) (len cap : Nat) (L : List PL) (hL : L.length = len) (hc : len ≤ cap) (hrow : RowV w a len 10 (partCells L)) (hg : ∀ x ∈ L, GoodP w x) (nn : Nat) (hnn : nn < 256) :
    Calls Try.prog 3 #[.slice a len cap, .int .u8 nn] w fun e w' => e = .returned (.bool true) ∧ Below w.heap.size w w' := by
  cases hf : fewPs L
  · have GK := Lib.hid rec_known
    have GF := Lib.hid (fun W (hB : Below w.heap.size w W) => fewPs_any a len cap L W hL (hrow.below hB) (fun x hx => goodP_below (hg x hx) hB))
    rw [hf] at GF
    clear hg hrow hL hf
    go_enter Try.func3, Try.ntmps3
    go_wp2_with (first
      | (go_at_call 5; ((with_reducible refine (GK.out _).mono ?_); rintro e w1 ⟨rfl, hB1⟩))
      | (go_at_call 6; ((with_reducible refine (GF.out _ hB1).mono ?_); rintro e w2 ⟨rfl, hB2⟩)))
    go_ret
    exact ⟨by simp, bel2 hB1 hB2⟩
  · exact mixed_few w a len cap L hL hrow hg nn hnn hf

set_option maxRecDepth 100000 in
theorem lifted (os : Os) (started : os.Started) (H : Type) (enc : TypeId × Value → H) :
    ReturnsInHanded {} Try.checked os 3 .any (Rows.recordMixedSpec.pre6 enc Try.prog Try.f3 Rows.recordMixedRow.domain false) (Rows.recordMixedSpec.post enc Try.prog Try.f3 false true false false) := by
  refine returnsInHanded_of_change (C := Try.checked) Try.own started (by kernel_rfl) Try.func3
    (ChangeSpec.witness6 (enc := enc) (C := Try.checked) false ⟨#[], #[.slice none 0 0, .int .u8 0], []⟩ 8 (by kernel_rfl) (by kernel_rfl) (by kernel_rfl) (by kernel_rfl)) ?_
  intro W base args ds gs before hval hW _ _
  refine law_contract (T := 4) (n := 2) Try.laid Try.underlying4 rfl rfl ⟨rfl, fun H ds h => by match ds, h with | [_, _], _ => rfl⟩ (of_all (by kernel_rfl)) hW ?_
  intro ps hA
  rw [Try.params3] at hA hval
  obtain ⟨v0, vs0, d0, ds0, p0, q0, hargs, rfl, rfl, h0, r0⟩ := trodAll_cons hA
  obtain ⟨v1, vs1, d1, ds1, p1, q1, rfl, rfl, rfl, h1, r1⟩ := trodAll_cons r0
  obtain ⟨rfl, rfl, rfl⟩ := trodAll_nil r1
  obtain rfl : args = #[v0, v1] := by cases args; simp_all
  obtain ⟨s0, l0, c0, rfl⟩ := okWide_slice Try.underlying22 (hval 0 22 v0 rfl rfl)
  obtain ⟨zs0, e0, g0, w0, b0⟩ := open_parts h0
  obtain ⟨a1, rfl, rfl, rfl, w1⟩ := open_int Try.underlying5 (hval 1 5 v1 rfl rfl) h1
  obtain ⟨n1, rfl, b1⟩ := nat_of_u8 w1
  exact walk W s0 l0 c0 zs0 e0 g0 w0 b0 n1 b1

theorem holds : Rows.RecordMixedSaid :=
  OpenClaim.holds_of_wide 3 Try.f3 rfl rfl rfl rfl rfl rfl rfl ⟨rfl, rfl, rfl, rfl, rfl⟩ rfl rfl rfl rfl rfl (by kernel_rfl) Try.func3 (by kernel_rfl)
    (of_decide_eq_true (by kernel_rfl)) (by unfold Func.isWrapper; first | (rw [if_pos (by decide +kernel)]; kernel_rfl) | (rw [if_neg (by decide +kernel)]; exact ⟨rfl, rfl⟩))
    (fun os started H enc _ => lifted os started H enc)

end Go.Proofs.Ytbhhbjgdkcfagaa.recordMixed
