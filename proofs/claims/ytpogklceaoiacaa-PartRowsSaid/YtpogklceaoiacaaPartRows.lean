/- Law PartRows: for every input the call answers true; its arguments read as they did. No condition. -/
import Derived.Test.YtpogklceaoiacaaLaw
import Derived.Test.YtpogklceaoiacaaKnown4
import Derived.Test.YtpogklceaoiacaaOpenParts
import Derived.Test.YtpogklceaoiacaaReadBack
import Derived.Test.YtpogklceaoiacaaRefSame
import Derived.Test.YtpogklceaoiacaaQuietC
namespace Go.Proofs.Ytpogklceaoiacaa.partRows
open Go.ChangeShapes Go.WideShapes Go.ChangeAt Go.RowKit Go.Shelf
open Go.ChangeMaps (open_string shut_string)
set_option linter.unusedVariables false
attribute [local go_sem] Oper.semAt_some wide_fn wide_round_fn


theorem infoPart : (Try.prog.info? 26).map (fun i => (i.zero, i.size, i.bytes)) = some (some (.agg #[.int .i64 0, .int .i64 0, .slice none 0 0, .int .i64 0, .int .i64 0, .int .i64 0, .int .i64 0, .int .i64 0, .bool false, .bool false]), 10, 88) := by kernel_rfl
def okP (x : PL) : Bool := isB x.1 x.2
def bytP (x : PL) : List UInt8 := bytesL x.1 x.2
def allB (M : List PL) : List UInt8 := M.flatMap bytP
def goods (L : List PL) (k : Nat) : List PL := (L.take k).filter okP
theorem goods_zero (L : List PL) : goods L 0 = [] := rfl
theorem goods_yes {L : List PL} {k : Nat} (hk : k < L.length) (h : okP L[k] = true) : goods L (k + 1) = goods L k ++ [L[k]] := by
  unfold goods; rw [List.take_succ_eq_append_getElem hk, List.filter_append]; simp [h]
theorem goods_no {L : List PL} {k : Nat} (hk : k < L.length) (h : okP L[k] = false) : goods L (k + 1) = goods L k := by
  unfold goods; rw [List.take_succ_eq_append_getElem hk, List.filter_append]; simp [h]
theorem allB_snoc (M : List PL) (x : PL) : allB (M ++ [x]) = allB M ++ bytP x := by simp [allB]
theorem goods_len (L : List PL) (k : Nat) : (goods L k).length ≤ k := by
  unfold goods; exact Nat.le_trans (List.length_filter_le _ _) (List.length_take_le _ _)
theorem bytP_len {x : PL} (hl : x.2.length = x.1.len) (h : okP x = true) : (bytP x).length ≤ 600 := by
  obtain ⟨_, _, _, h6, hen⟩ := isB_bounds hl h
  have h1 := text_len x.1.k x.2 (fun e he => (entryB_bd (hen e he)).2.2)
  unfold bytP bytesL
  simp only [List.length_append]
  have h2 := putL_len [x.1.g, x.1.k]
  have h3 : (putL (headN x.1 x.2)).length ≤ 63 := by
    refine Nat.le_trans (putL_len _) ?_
    have : (headN x.1 x.2).length ≤ 7 := by
      unfold headN
      split
      · simp
      · split
        · simp
        · split
          · simp
          · split
            · exact fwdN_len _
            · simp
    omega
  have h4 : x.2.length ≤ 6 := by omega
  simp only [List.length_cons, List.length_nil] at h2
  omega
/-- What is left of the bytes from the k-th part on. -/
theorem rest_at {M : List PL} {k : Nat} (hk : k < M.length) {S : ByteArray} (hS : S.data.toList = allB M) (h : okP M[k] = true) : S.extract (allB (M.take k)).length S.size = bytesS M[k].1 M[k].2 ++ ⟨(allB (M.drop (k + 1))).toArray⟩ := by
  have e1 : bytesS M[k].1 M[k].2 = ⟨(bytP M[k]).toArray⟩ := by unfold bytesS; rw [if_pos (show isB M[k].1 M[k].2 = true from h)]; rfl
  rw [e1]
  apply ByteArray.ext
  rw [ByteArray.data_extract]
  apply Array.toList_inj.mp
  have h1 : allB M = allB (M.take k) ++ (bytP M[k] ++ allB (M.drop (k + 1))) := by
    have h2 : M = M.take k ++ (M[k] :: M.drop (k + 1)) := by rw [List.getElem_cons_drop hk, List.take_append_drop]
    have h3 : allB (M.take k ++ (M[k] :: M.drop (k + 1))) = allB (M.take k) ++ (bytP M[k] ++ allB (M.drop (k + 1))) := by simp only [allB, List.flatMap_append, List.flatMap_cons]
    rw [← h2] at h3; exact h3
  have h3 : S.data.toList.length = S.size := by simp
  simp only [Array.toList_extract, ByteArray.data_append, Array.toList_append, List.extract_eq_take_drop]
  rw [hS, h1, List.drop_left, List.take_of_length_le]
  have h4 : (allB M).length = S.size := by rw [← hS]; exact h3
  rw [← h4, h1]; simp
theorem allB_take {M : List PL} {k : Nat} (hk : k < M.length) : (allB (M.take (k + 1))).length = (allB (M.take k)).length + (bytP M[k]).length := by
  rw [List.take_succ_eq_append_getElem hk, allB_snoc, List.length_append]
theorem allB_le (M : List PL) (k : Nat) : (allB (M.take k)).length ≤ (allB M).length := by
  have h2 : M = M.take k ++ M.drop k := (List.take_append_drop k M).symm
  have h : allB M = allB (M.take k) ++ allB (M.drop k) := by
    have h3 : allB (M.take k ++ M.drop k) = allB (M.take k) ++ allB (M.drop k) := by simp only [allB, List.flatMap_append]
    rw [← h2] at h3; exact h3
  rw [h, List.length_append]; omega
theorem goods_mem {L : List PL} {k : Nat} {x : PL} (h : x ∈ goods L k) : x ∈ L.take k ∧ okP x = true := by
  unfold goods at h; exact List.mem_filter.1 h
theorem few_len {l : List EntryC} (h : fewB l = true) : l.length ≤ 8 := by
  simp only [fewB, Bool.and_eq_true, decide_eq_true_eq] at h; exact h.2

theorem cells10_above {w W : World} {b o : Nat} {v0 v1 v2 v3 v4 v5 v6 v7 v8 v9 : Value} (hs : b < w.heap.size) (c0 : w.cell? ⟨b, o, none⟩ = some v0) (c1 : w.cell? ⟨b, o + 1, none⟩ = some v1) (c2 : w.cell? ⟨b, o + 2, none⟩ = some v2) (c3 : w.cell? ⟨b, o + 3, none⟩ = some v3) (c4 : w.cell? ⟨b, o + 4, none⟩ = some v4) (c5 : w.cell? ⟨b, o + 5, none⟩ = some v5) (c6 : w.cell? ⟨b, o + 6, none⟩ = some v6) (c7 : w.cell? ⟨b, o + 7, none⟩ = some v7) (c8 : w.cell? ⟨b, o + 8, none⟩ = some v8) (c9 : w.cell? ⟨b, o + 9, none⟩ = some v9) (hW : Above w W) :
    W.cell? ⟨b, o, none⟩ = some v0 ∧ W.cell? ⟨b, o + 1, none⟩ = some v1 ∧ W.cell? ⟨b, o + 2, none⟩ = some v2 ∧ W.cell? ⟨b, o + 3, none⟩ = some v3 ∧ W.cell? ⟨b, o + 4, none⟩ = some v4 ∧ W.cell? ⟨b, o + 5, none⟩ = some v5 ∧ W.cell? ⟨b, o + 6, none⟩ = some v6 ∧ W.cell? ⟨b, o + 7, none⟩ = some v7 ∧ W.cell? ⟨b, o + 8, none⟩ = some v8 ∧ W.cell? ⟨b, o + 9, none⟩ = some v9 :=
  ⟨(Below.cell hW (p := ⟨b, o, none⟩) hs).trans c0, (Below.cell hW (p := ⟨b, o + 1, none⟩) hs).trans c1, (Below.cell hW (p := ⟨b, o + 2, none⟩) hs).trans c2, (Below.cell hW (p := ⟨b, o + 3, none⟩) hs).trans c3, (Below.cell hW (p := ⟨b, o + 4, none⟩) hs).trans c4, (Below.cell hW (p := ⟨b, o + 5, none⟩) hs).trans c5, (Below.cell hW (p := ⟨b, o + 6, none⟩) hs).trans c6, (Below.cell hW (p := ⟨b, o + 7, none⟩) hs).trans c7, (Below.cell hW (p := ⟨b, o + 8, none⟩) hs).trans c8, (Below.cell hW (p := ⟨b, o + 9, none⟩) hs).trans c9⟩

set_option maxRecDepth 100000 in
set_option maxHeartbeats 8000000 in
theorem rows_some (w : World) (a : Option Addr) (len cap : Nat) (L : List PL) (hL : L.length = len) (h15 : len ≤ 15) (hrow : RowV w a len 10 (partCells L)) (hg : ∀ x ∈ L, GoodP w x) :
    Calls Try.prog 7 #[.slice a len cap] w fun e w' => e = .returned (.bool true) ∧ Below w.heap.size w w' := by
  obtain ⟨i0, hi, hz0, hz1, hz2⟩ := info_parts infoPart
  have GK := Lib.hid part_known
  have HG := Lib.hid hg
  have HL := Lib.hid hL
  have hcs := hrow.2.2
  clear hg hrow hL
  go_enter Try.func7, Try.ntmps7
  go_wp2_with (go_at_call 15; ((with_reducible refine (GK.out _).mono ?_); rintro e w1 ⟨rfl, hB1⟩))
  go_loopw [3, 4, 5, 6, 7] (fun sS sm si _ _ wr => ∃ (k : Nat) (S : ByteArray) (v : Value), k ≤ len ∧ si = .int .i64 k ∧ sS = .string S ∧ v = sm ∧ S.data.toList = allB (goods L k) ∧ S.size ≤ 600 * k ∧ (∀ x ∈ L.take k, fewB x.2 = true) ∧ wr.ownsRow w.heap.size 26 10 v (goods L k).length (partCells (goods L k)) ∧ Below w.heap.size w wr) (fun _ _ si _ _ _ => len - (intOf si).toNat)
  case atStart => exact ⟨0, ⟨#[]⟩, _, by omega, rfl, rfl, rfl, rfl, by decide, fun x hx => by simp at hx, World.ownsRow_nil _ _ _ _, hB1⟩
  case round =>
    obtain ⟨k, S, v, hk, rfl, rfl, rfl, hS, hz, hfw, hown, hB⟩ := hrel
    have hsz := hB.size
    by_cases hlt : k < len
    · obtain ⟨b, off, rfl, hb, hx⟩ := hcs (by omega)
      have hkl : k < L.length := by rw [HL.out]; exact hlt
      obtain ⟨c0, c1, c2, c3, c4, c5, c6, c7, c8, c9⟩ := part_at10 hb hB hx hkl
      obtain ⟨hgp, hgl, hgr, hge⟩ := HG.out L[k] (List.getElem_mem hkl)
      have HY := Lib.hid (fun h => goods_yes hkl h)
      have HNo := Lib.hid (fun h => goods_no hkl h)
      have HBL := Lib.hid (fun (h : okP L[k] = true) => bytP_len (x := L[k]) hgl h)
      have HFW := Lib.hid (show fewB L[k].2 = true → ∀ x ∈ L.take (k + 1), fewB x.2 = true from fun h x hx => by
        rw [List.take_succ_eq_append_getElem hkl] at hx
        rcases List.mem_append.1 hx with h1 | h1
        · exact hfw x h1
        · simp at h1; rw [h1]; exact h)
      have hgn := goods_len L k
      have HS := Lib.hid hS
      have hbw : b < wr.heap.size := Nat.lt_of_lt_of_le hb hB.size
      have hbo : b < w.heap.size := hb
      clear hx hcs hS hfw hb
      generalize L[k] = x at *
      obtain ⟨p, l⟩ := x
      dsimp only at *
      have GF := Lib.hid (fun W (hB : Below w.heap.size w W) => few_any p l W hgl (hgr.below hB) (fun e he => (hge e he).2.2))
      have hk0 : (0 : Int) ≤ (k : Int) := by omega
      have hk1 : (k : Int) < (len : Int) := by omega
      by_cases hf : fewB l = true
      · have hE : ∀ W, Below w.heap.size w W → HasE W p l := fun W hB => ⟨hgl, by have := few_len hf; omega, hgr.below hB⟩
        have HFW2 := Lib.hid (HFW.out hf)
        rw [hf] at GF
        by_cases hI : isB p l = true
        · have GB := Lib.hid (fun W (hB : Below w.heap.size w W) => (show Gives Try.prog 17 #[p.val] W (.tuple #[.string ⟨(bytesL p l).toArray⟩, .int .i64 0]) from by have := bytes_any p l W (hE W hB); unfold bytesS bytesE at this; rw [if_pos hI, if_pos hI] at this; exact this))
          have GI := Lib.hid (fun W (hB : Below w.heap.size w W) => is_any p l W (hE W hB))
          rw [hI] at GI
          have HY2 := Lib.hid (HY.out hI)
          have hbl := HBL.out hI
          have HC := Lib.hid (partCells_snoc (goods L k) (p, l))
          rw [← HY2.out] at HC
          have hXs : (⟨(bytesL p l).toArray⟩ : ByteArray).size ≤ 600 := hbl
          have HX := Lib.hid (show (⟨(bytesL p l).toArray⟩ : ByteArray).data.toList = bytP (p, l) from rfl)
          generalize (⟨(bytesL p l).toArray⟩ : ByteArray) = X at *
          have HSN := Lib.hid (show (S ++ X).data.toList = allB (goods L (k + 1)) by rw [HY2.out, allB_snoc, ← HS.out, ← HX.out]; simp)
          have hgl2 : (goods L (k + 1)).length = (goods L k).length + 1 := by rw [HY2.out]; simp
          have HGL := Lib.hid hgl2
          obtain ⟨pg, pk, pa, plen, pcap, pht, phv, phc, pi, pt, pm, ph⟩ := p
          dsimp only [PartC.val, PartC.arr] at *
          clear hE hgr hge hgp hgl hI hf hbl HBL HFW HY HNo HY2 hgl2
          go_wp2_with (first
            | (go_at_call 16; ((with_reducible refine (GF.out _ hB).mono ?_); rintro e w2 ⟨rfl, hX⟩; replace hown := ownsRow_below (n := 0) hown hX; replace hB := bel2 hB hX; replace c0 := (hX.cell (p := ⟨b, off + k * 10, none⟩) hbw).trans c0; replace c1 := (hX.cell (p := ⟨b, off + k * 10 + 1, none⟩) hbw).trans c1; replace c2 := (hX.cell (p := ⟨b, off + k * 10 + 2, none⟩) hbw).trans c2; replace c3 := (hX.cell (p := ⟨b, off + k * 10 + 3, none⟩) hbw).trans c3; replace c4 := (hX.cell (p := ⟨b, off + k * 10 + 4, none⟩) hbw).trans c4; replace c5 := (hX.cell (p := ⟨b, off + k * 10 + 5, none⟩) hbw).trans c5; replace c6 := (hX.cell (p := ⟨b, off + k * 10 + 6, none⟩) hbw).trans c6; replace c7 := (hX.cell (p := ⟨b, off + k * 10 + 7, none⟩) hbw).trans c7; replace c8 := (hX.cell (p := ⟨b, off + k * 10 + 8, none⟩) hbw).trans c8; replace c9 := (hX.cell (p := ⟨b, off + k * 10 + 9, none⟩) hbw).trans c9; replace hbw := Nat.lt_of_lt_of_le hbw hX.size; clear hX))
            | (go_at_call 17; ((with_reducible refine (GB.out _ hB).mono ?_); rintro e w3 ⟨rfl, hX⟩; replace hown := ownsRow_below (n := 0) hown hX; replace hB := bel2 hB hX; replace c0 := (hX.cell (p := ⟨b, off + k * 10, none⟩) hbw).trans c0; replace c1 := (hX.cell (p := ⟨b, off + k * 10 + 1, none⟩) hbw).trans c1; replace c2 := (hX.cell (p := ⟨b, off + k * 10 + 2, none⟩) hbw).trans c2; replace c3 := (hX.cell (p := ⟨b, off + k * 10 + 3, none⟩) hbw).trans c3; replace c4 := (hX.cell (p := ⟨b, off + k * 10 + 4, none⟩) hbw).trans c4; replace c5 := (hX.cell (p := ⟨b, off + k * 10 + 5, none⟩) hbw).trans c5; replace c6 := (hX.cell (p := ⟨b, off + k * 10 + 6, none⟩) hbw).trans c6; replace c7 := (hX.cell (p := ⟨b, off + k * 10 + 7, none⟩) hbw).trans c7; replace c8 := (hX.cell (p := ⟨b, off + k * 10 + 8, none⟩) hbw).trans c8; replace c9 := (hX.cell (p := ⟨b, off + k * 10 + 9, none⟩) hbw).trans c9; replace hbw := Nat.lt_of_lt_of_le hbw hX.size; clear hX))
            | (go_at_call 20; ((with_reducible refine (GI.out _ hB).mono ?_); rintro e w4 ⟨rfl, hX⟩; replace hown := ownsRow_below (n := 0) hown hX; replace hB := bel2 hB hX; replace c0 := (hX.cell (p := ⟨b, off + k * 10, none⟩) hbw).trans c0; replace c1 := (hX.cell (p := ⟨b, off + k * 10 + 1, none⟩) hbw).trans c1; replace c2 := (hX.cell (p := ⟨b, off + k * 10 + 2, none⟩) hbw).trans c2; replace c3 := (hX.cell (p := ⟨b, off + k * 10 + 3, none⟩) hbw).trans c3; replace c4 := (hX.cell (p := ⟨b, off + k * 10 + 4, none⟩) hbw).trans c4; replace c5 := (hX.cell (p := ⟨b, off + k * 10 + 5, none⟩) hbw).trans c5; replace c6 := (hX.cell (p := ⟨b, off + k * 10 + 6, none⟩) hbw).trans c6; replace c7 := (hX.cell (p := ⟨b, off + k * 10 + 7, none⟩) hbw).trans c7; replace c8 := (hX.cell (p := ⟨b, off + k * 10 + 8, none⟩) hbw).trans c8; replace c9 := (hX.cell (p := ⟨b, off + k * 10 + 9, none⟩) hbw).trans c9; replace hbw := Nat.lt_of_lt_of_le hbw hX.size; have hs4 := hB.size; clear hX))
            | (at_builtin; refine wpList_append_own _ rfl _ _ 45 rfl w.heap.size 26 i0 (.agg #[.int .i64 0, .int .i64 0, .slice none 0 0, .int .i64 0, .int .i64 0, .int .i64 0, .int .i64 0, .int .i64 0, .bool false, .bool false]) 10 88 Try.underlying45 hi hz0 hz1 hz2 rfl (by decide) _ _ _ rfl (hown.alloc _) ⟨w4.heap.size, 0, none⟩ 1 1 [.int .i64 pg, .int .i64 pk, .slice pa plen pcap, .int .i64 pht, .int .i64 phv, .int .i64 phc, .int .i64 pi, .int .i64 pt, .bool pm, .bool ph] rfl rfl (news_new _ _ _) (by simp [Value.oneCell']) (by unfold maxLen; omega) (by omega) (by simp; omega) ?_; intro v' w5 hown5 hgrow _; have hB5 := ((hB.trans ((bel_alloc (Below.refl w4.heap.size w4) (.cells #[.int .i64 pg, .int .i64 pk, .slice pa plen pcap, .int .i64 pht, .int .i64 phv, .int .i64 phc, .int .i64 pi, .int .i64 pt, .bool pm, .bool ph] 26)).mono hB.size)).grown hgrow (by simp; omega) (fun k hk => ownBlock_ge hown hk))))
          go_roundw
          case rel => exact ⟨k + 1, _, _, by omega, by go_num, rfl, rfl, HSN.out, by rw [ByteArray.size_append]; omega, HFW2.out, by rw [HGL.out, HC.out]; exact hown5, hB5⟩
          case measure => simp [intOf]; omega
        · have hI := Bool.eq_false_iff.2 hI
          have GB := Lib.hid (fun W (hB : Below w.heap.size w W) => bytes_no p l W (hE W hB) hI)
          have GI := Lib.hid (fun W (hB : Below w.heap.size w W) => is_any p l W (hE W hB))
          rw [hI] at GI
          have HY2 := Lib.hid (HNo.out hI)
          obtain ⟨pg, pk, pa, plen, pcap, pht, phv, phc, pi, pt, pm, ph⟩ := p
          dsimp only [PartC.val, PartC.arr] at *
          clear hE hgr hge hgp hgl hI hf HBL HFW HY HNo
          go_wp2_with (first
            | (go_at_call 16; ((with_reducible refine (GF.out _ hB).mono ?_); rintro e w2 ⟨rfl, hX⟩; replace hown := ownsRow_below (n := 0) hown hX; replace hB := bel2 hB hX; replace c0 := (hX.cell (p := ⟨b, off + k * 10, none⟩) hbw).trans c0; replace c1 := (hX.cell (p := ⟨b, off + k * 10 + 1, none⟩) hbw).trans c1; replace c2 := (hX.cell (p := ⟨b, off + k * 10 + 2, none⟩) hbw).trans c2; replace c3 := (hX.cell (p := ⟨b, off + k * 10 + 3, none⟩) hbw).trans c3; replace c4 := (hX.cell (p := ⟨b, off + k * 10 + 4, none⟩) hbw).trans c4; replace c5 := (hX.cell (p := ⟨b, off + k * 10 + 5, none⟩) hbw).trans c5; replace c6 := (hX.cell (p := ⟨b, off + k * 10 + 6, none⟩) hbw).trans c6; replace c7 := (hX.cell (p := ⟨b, off + k * 10 + 7, none⟩) hbw).trans c7; replace c8 := (hX.cell (p := ⟨b, off + k * 10 + 8, none⟩) hbw).trans c8; replace c9 := (hX.cell (p := ⟨b, off + k * 10 + 9, none⟩) hbw).trans c9; replace hbw := Nat.lt_of_lt_of_le hbw hX.size; clear hX))
            | (go_at_call 17; ((with_reducible refine (GB.out _ hB).mono ?_); rintro e w3 ⟨rfl, hX⟩; replace hown := ownsRow_below (n := 0) hown hX; replace hB := bel2 hB hX; replace c0 := (hX.cell (p := ⟨b, off + k * 10, none⟩) hbw).trans c0; replace c1 := (hX.cell (p := ⟨b, off + k * 10 + 1, none⟩) hbw).trans c1; replace c2 := (hX.cell (p := ⟨b, off + k * 10 + 2, none⟩) hbw).trans c2; replace c3 := (hX.cell (p := ⟨b, off + k * 10 + 3, none⟩) hbw).trans c3; replace c4 := (hX.cell (p := ⟨b, off + k * 10 + 4, none⟩) hbw).trans c4; replace c5 := (hX.cell (p := ⟨b, off + k * 10 + 5, none⟩) hbw).trans c5; replace c6 := (hX.cell (p := ⟨b, off + k * 10 + 6, none⟩) hbw).trans c6; replace c7 := (hX.cell (p := ⟨b, off + k * 10 + 7, none⟩) hbw).trans c7; replace c8 := (hX.cell (p := ⟨b, off + k * 10 + 8, none⟩) hbw).trans c8; replace c9 := (hX.cell (p := ⟨b, off + k * 10 + 9, none⟩) hbw).trans c9; replace hbw := Nat.lt_of_lt_of_le hbw hX.size; clear hX))
            | (go_at_call 20; ((with_reducible refine (GI.out _ hB).mono ?_); rintro e w4 ⟨rfl, hX⟩; replace hown := ownsRow_below (n := 0) hown hX; replace hB := bel2 hB hX; replace c0 := (hX.cell (p := ⟨b, off + k * 10, none⟩) hbw).trans c0; replace c1 := (hX.cell (p := ⟨b, off + k * 10 + 1, none⟩) hbw).trans c1; replace c2 := (hX.cell (p := ⟨b, off + k * 10 + 2, none⟩) hbw).trans c2; replace c3 := (hX.cell (p := ⟨b, off + k * 10 + 3, none⟩) hbw).trans c3; replace c4 := (hX.cell (p := ⟨b, off + k * 10 + 4, none⟩) hbw).trans c4; replace c5 := (hX.cell (p := ⟨b, off + k * 10 + 5, none⟩) hbw).trans c5; replace c6 := (hX.cell (p := ⟨b, off + k * 10 + 6, none⟩) hbw).trans c6; replace c7 := (hX.cell (p := ⟨b, off + k * 10 + 7, none⟩) hbw).trans c7; replace c8 := (hX.cell (p := ⟨b, off + k * 10 + 8, none⟩) hbw).trans c8; replace c9 := (hX.cell (p := ⟨b, off + k * 10 + 9, none⟩) hbw).trans c9; replace hbw := Nat.lt_of_lt_of_le hbw hX.size; clear hX)))
          go_roundw
          case rel => exact ⟨k + 1, _, _, by omega, by go_num, rfl, rfl, by rw [HY2.out]; exact HS.out, by omega, HFW2.out, by rw [HY2.out]; exact hown, hB⟩
          case measure => simp [intOf]; omega
      · rw [Bool.eq_false_iff.2 hf] at GF
        obtain ⟨pg, pk, pa, plen, pcap, pht, phv, phc, pi, pt, pm, ph⟩ := p
        dsimp only [PartC.val, PartC.arr] at *
        go_wp2_with (go_at_call 16; ((with_reducible refine (GF.out _ hB).mono ?_); rintro e w2 ⟨rfl, hX⟩; replace hB := bel2 hB hX))
        go_ret
        exact ⟨by simp, hB⟩
    · obtain rfl : k = len := by omega
      have hgn := goods_len L k
      have HM := Lib.hid (show ∀ x ∈ goods L k, okP x = true ∧ ∀ W, Below w.heap.size w W → HasE W x.1 x.2 from fun x hx => by
        obtain ⟨h1, h2⟩ := goods_mem hx
        obtain ⟨g1, g2, g3, g4⟩ := HG.out x (List.mem_of_mem_take h1)
        exact ⟨h2, fun W hB => ⟨g2, by have := few_len (hfw x h1); omega, g3.below hB⟩⟩)
      have HS := Lib.hid hS
      generalize goods L k = M at *
      obtain ⟨va, vc, rfl, hvc, hrow⟩ := rowV_own hown
      have hms := hrow.2.2
      have hSz1 : S.size = (allB M).length := by rw [← hS]; simp
      have hSz2 : (allB M).length ≤ S.size := by omega
      have hSz := Lib.hid hSz1
      clear hSz1
      clear hS hown hrow hfw hcs
      have hwr := hB
      obtain ⟨wo, rfl⟩ : ∃ wo : World, wo = wr := ⟨_, rfl⟩
      go_wp2
      go_loopw [8, 9, 10, 11, 12] (fun sat si _ _ _ wr => ∃ (j : Nat), j ≤ M.length ∧ si = .int .i64 j ∧ sat = .int .i64 ((allB (M.take j)).length : Nat) ∧ Below wo.heap.size wo wr) (fun _ si _ _ _ _ => M.length - (intOf si).toNat)
      case atStart => exact ⟨0, by omega, rfl, rfl, Below.refl _ _⟩
      case round =>
        obtain ⟨j, hj, rfl, rfl, hBr⟩ := hrel
        have hle := allB_le M j
        by_cases hjl : j < M.length
        · obtain ⟨b, off, rfl, hb, hx⟩ := hms (by omega)
          obtain ⟨c0, c1, c2, c3, c4, c5, c6, c7, c8, c9⟩ := part_at10 hb hBr hx hjl
          obtain ⟨hok, hHE⟩ := HM.out M[j] (List.getElem_mem hjl)
          have HT := Lib.hid (allB_take hjl)
          have hbt := read_back M[j].1 M[j].2 (hHE wo hwr).1 hok _ _ (rest_at hjl HS.out hok)
          have hbS : (bytesS M[j].1 M[j].2).size = (bytP M[j]).length := by unfold bytesS; rw [if_pos (show isB M[j].1 M[j].2 = true from hok)]; rfl
          rw [hbS] at hbt
          have hbw : b < wr.heap.size := Nat.lt_of_lt_of_le hb hBr.size
          have hat : (((allB (M.take (j + 1))).length : Nat) : Int) = ((allB (M.take j)).length : Nat) + ((bytP M[j]).length : Nat) := by rw [HT.out]; push_cast; rfl
          have hle2 := allB_le M (j + 1)
          rw [HT.out] at hle2
          have HAT := Lib.hid hat
          clear hx hms hat hbS
          generalize (allB (M.take j)).length = A at *
          generalize (bytP M[j]).length = nb at *
          have G1 := Lib.hid (fun W => partRead_at (S.extract A S.size) _ _ _ (by have h9 : (S.extract A S.size).size ≤ S.size := (by simp); omega) hbt W)
          generalize M[j] = x at *
          obtain ⟨p, l⟩ := x
          dsimp only at *
          have HSM := Lib.hid (fun (W : World) (a' : Option Addr) (c' : Nat) (h1 : HasE W (ReadC.part ⟨p.g, p.k, l, p.ht, p.hv, p.hc, p.i, p.t, p.m, p.h⟩ a' c') l) (h2 : Below w.heap.size w W) => (show Gives Try.prog 24 #[(ReadC.part ⟨p.g, p.k, l, p.ht, p.hv, p.hc, p.i, p.t, p.m, p.h⟩ a' c').val, p.val] W (.bool true) from by have := refSame_any (ReadC.part ⟨p.g, p.k, l, p.ht, p.hv, p.hc, p.i, p.t, p.m, p.h⟩ a' c') p l l W h1 (hHE W h2); rwa [show sameB (ReadC.part ⟨p.g, p.k, l, p.ht, p.hv, p.hc, p.i, p.t, p.m, p.h⟩ a' c') p l l = true from sameB_iff.2 ⟨rfl, rfl, rfl, ⟨rfl, rfl, rfl⟩, rfl, rfl, rfl, rfl⟩] at this))
          obtain ⟨pg, pk, pa, plen, pcap, pht, phv, phc, pi, pt, pm, ph⟩ := p
          dsimp only [ReadC.part, PartC.val, PartC.arr] at *
          clear hHE hok hbt
          have hmin : min (A : Int) (S.size : Int) = A := by omega
          have hA0 : (0 : Int) ≤ (A : Int) := by omega
          have hA1 : (A : Int) ≤ (S.size : Int) := by omega
          have hj0 : (0 : Int) ≤ (j : Int) := by omega
          have hj1 : (j : Int) < (M.length : Int) := by omega
          have hn1 : (A : Int) + (nb : Int) ≤ 1000000 := by omega
          go_wp2_with (go_at_call 25; ((with_reducible refine (G1.out _).mono ?_); rintro e w2 ⟨ra, rc, rfl, hE, hX⟩; have hA := bel_alloc (Below.refl w2.heap.size w2) (.cells #[.int .i64 pg, .int .i64 pk, .slice ra l.length rc, .int .i64 pht, .int .i64 phv, .int .i64 phc, .int .i64 pi, .int .i64 pt, .bool pm, .bool ph] 26); have hE2 := hE.below hA; have hp2 := World.alloc_heap_new w2 (.cells #[.int .i64 pg, .int .i64 pk, .slice ra l.length rc, .int .i64 pht, .int .i64 phv, .int .i64 phc, .int .i64 pi, .int .i64 pt, .bool pm, .bool ph] 26); replace hX := bel2 hX hA; clear hA hE; replace hBr := bel2 hBr hX; replace c0 := (hX.cell (p := ⟨b, off + j * 10, none⟩) hbw).trans c0; replace c1 := (hX.cell (p := ⟨b, off + j * 10 + 1, none⟩) hbw).trans c1; replace c2 := (hX.cell (p := ⟨b, off + j * 10 + 2, none⟩) hbw).trans c2; replace c3 := (hX.cell (p := ⟨b, off + j * 10 + 3, none⟩) hbw).trans c3; replace c4 := (hX.cell (p := ⟨b, off + j * 10 + 4, none⟩) hbw).trans c4; replace c5 := (hX.cell (p := ⟨b, off + j * 10 + 5, none⟩) hbw).trans c5; replace c6 := (hX.cell (p := ⟨b, off + j * 10 + 6, none⟩) hbw).trans c6; replace c7 := (hX.cell (p := ⟨b, off + j * 10 + 7, none⟩) hbw).trans c7; replace c8 := (hX.cell (p := ⟨b, off + j * 10 + 8, none⟩) hbw).trans c8; replace c9 := (hX.cell (p := ⟨b, off + j * 10 + 9, none⟩) hbw).trans c9; replace hbw := Nat.lt_of_lt_of_le hbw hX.size; clear hX))
          have hw2 := hwr.trans (hBr.mono hwr.size)
          have hs2 := heap_ltP hp2
          have HS9 := Lib.hid (fun W (hW : Above (w2.alloc (.cells #[.int .i64 pg, .int .i64 pk, .slice ra l.length rc, .int .i64 pht, .int .i64 phv, .int .i64 phc, .int .i64 pi, .int .i64 pt, .bool pm, .bool ph] 26)) W) => And.intro (arr10 ((Below.block hW _ hs2).trans hp2)) (cells10_above hbw c0 c1 c2 c3 c4 c5 c6 c7 c8 c9 hW))
          refine wp_region_below (by kernel_rfl) (by kernel_rfl) ?_
          repeat (first
            | (refine BigFrame.wpQuiet_skip (by rfl) ?_; (try simp only [Act.put, List.setIfInBounds_toArray, List.set_cons_zero, List.set_cons_succ]))
            | (refine BigFrame.wpQuiet_want (by rfl) (fun K hK => ?_); apply Exists.intro; refine ⟨fun W hW => ?_, hK _ ?_⟩; (focus (have hWB : Below _ _ W := hW; obtain ⟨⟨y0, y1, y2, y3, y4, y5, y6, y7, y8, y9⟩, z0, z1, z2, z3, z4, z5, z6, z7, z8, z9⟩ := HS9.out _ hW; go_simp; (first | done | with_reducible rfl | (go_at_call 24; with_reducible exact gives_above hW (HSM.out _ _ _ (hE2.below hWB) (bel2 hw2 hWB))) | (rw [if_neg (by omega)]; go_simp; (first | done | with_reducible rfl))))); clear hK K; (try simp only [Act.put, List.setIfInBounds_toArray, List.set_cons_zero, List.set_cons_succ])))
          refine wpQuiet_nil ?_
          intro w9 hB9
          replace hB9 : Below _ _ w9 := hB9
          replace hBr := bel2 hBr hB9
          go_wp2
          go_roundw
          case rel => exact ⟨j + 1, by omega, by go_num, by rw [HAT.out], hBr⟩
          case measure => simp [intOf]; omega
        · obtain rfl : j = M.length := by omega
          have HTT := Lib.hid (show (allB (M.take M.length)).length = S.size by rw [List.take_length, hSz.out])
          rw [HTT.out]
          go_wp2
          go_ret
          exact ⟨by simp, hwr.trans (hBr.mono hwr.size)⟩

theorem walk (w : World) (a : Option Addr) (len cap : Nat) (L : List PL) (hL : L.length = len) (hc : len ≤ cap) (hrow : RowV w a len 10 (partCells L)) (hg : ∀ x ∈ L, GoodP w x) :
    Calls Try.prog 7 #[.slice a len cap] w fun e w' => e = .returned (.bool true) ∧ Below w.heap.size w w' := by
  by_cases h15 : len ≤ 15
  · exact rows_some w a len cap L hL h15 hrow hg
  · have GK := Lib.hid part_known
    have hz' : 15 < len := by omega
    have hm := hrow.2.1
    unfold maxLen at hm
    go_enter Try.func7, Try.ntmps7
    go_wp2_with (go_at_call 15; ((with_reducible refine (GK.out _).mono ?_); rintro e w1 ⟨rfl, hB1⟩))
    go_ret
    exact ⟨by simp, hB1⟩

set_option maxRecDepth 100000 in
theorem lifted (os : Os) (started : os.Started) (H : Type) (enc : TypeId × Value → H) :
    ReturnsInHanded {} Try.checked os 7 .any (Rows.partRowsSpec.pre6 enc Try.prog Try.f7 Rows.partRowsRow.domain false) (Rows.partRowsSpec.post enc Try.prog Try.f7 false true false false) := by
  refine returnsInHanded_of_change (C := Try.checked) Try.own started (by kernel_rfl) Try.func7
    (ChangeSpec.witness6 (enc := enc) (C := Try.checked) false ⟨#[], #[.slice none 0 0], []⟩ 8 (by kernel_rfl) (by kernel_rfl) (by kernel_rfl) (by kernel_rfl)) ?_
  intro W base args ds gs before hval hW _ _
  refine law_contract (T := 4) (n := 1) Try.laid Try.underlying4 rfl rfl ⟨rfl, fun H ds h => by match ds, h with | [_], _ => rfl⟩ (of_all (by kernel_rfl)) hW ?_
  intro ps hA
  rw [Try.params7] at hA hval
  obtain ⟨v0, vs0, d0, ds0, p0, q0, hargs, rfl, rfl, h0, r0⟩ := trodAll_cons hA
  obtain ⟨rfl, rfl, rfl⟩ := trodAll_nil r0
  obtain rfl : args = #[v0] := by cases args; simp_all
  obtain ⟨s0, l0, c0, rfl⟩ := okWide_slice Try.underlying45 (hval 0 45 v0 rfl rfl)
  obtain ⟨zs0, e0, g0, w0, b0⟩ := open_parts h0
  exact walk W s0 l0 c0 zs0 e0 g0 w0 b0

theorem holds : Rows.PartRowsSaid :=
  OpenClaim.holds_of_wide 7 Try.f7 rfl rfl rfl rfl rfl rfl rfl ⟨rfl, rfl, rfl, rfl, rfl⟩ rfl rfl rfl rfl rfl (by kernel_rfl) Try.func7 (by kernel_rfl)
    (of_decide_eq_true (by kernel_rfl)) (by unfold Func.isWrapper; first | (rw [if_pos (by decide +kernel)]; kernel_rfl) | (rw [if_neg (by decide +kernel)]; exact ⟨rfl, rfl⟩))
    (fun os started H enc _ => lifted os started H enc)

end Go.Proofs.Ytpogklceaoiacaa.partRows
