/- Law RecordRows: for every input the call answers true; its arguments read as they did. No condition. -/
import Derived.Test.YtpogklceaoiacaaLaw
import Derived.Test.YtpogklceaoiacaaRecs
import Derived.Test.YtpogklceaoiacaaRecRefs
import Derived.Test.YtpogklceaoiacaaRowsX
namespace Go.Proofs.Ytpogklceaoiacaa.recordRows
open Go.ChangeShapes Go.WideShapes Go.ChangeAt Go.RowKit Go.Shelf
open Go.ChangeMaps (open_string shut_string)
set_option linter.unusedVariables false
attribute [local go_sem] Oper.semAt_some wide_fn wide_round_fn


theorem goodP_below {w W : World} {x : PL} (h : GoodP w x) (hB : Below w.heap.size w W) : GoodP W x := ⟨h.1, h.2.1, h.2.2.1.below hB, h.2.2.2⟩
theorem infoRec : (Try.prog.info? 53).map (fun i => (i.zero, i.size, i.bytes)) = some (some (.agg #[.int .i64 0, .slice none 0 0]), 2, 32) := by kernel_rfl
theorem infoI : (Try.prog.info? 3).map (fun i => (i.zero, i.size, i.bytes)) = some (some (.int .i64 0), 1, 8) := by kernel_rfl
def okX (x : RL) : Bool := recB x.1.s x.2
def bytX (x : RL) : List UInt8 := (recS x.1.s x.2).data.toList
def allX (M : List RL) : List UInt8 := M.flatMap bytX
def goodX (L : List RL) (k : Nat) : List RL := (L.take k).filter okX
def endV (M : List RL) : List Value := (List.range M.length).map fun j => .int .i64 ((allX (M.take (j + 1))).length : Nat)
theorem allX_snoc (M : List RL) (x : RL) : allX (M ++ [x]) = allX M ++ bytX x := by simp [allX]
theorem endV_len (M : List RL) : (endV M).length = M.length := by simp [endV]
theorem endV_at {M : List RL} {j : Nat} (h : j < (endV M).length) : (endV M)[j] = .int .i64 ((allX (M.take (j + 1))).length : Nat) := by simp [endV]
theorem endV_snoc (M : List RL) (x : RL) : endV (M ++ [x]) = endV M ++ [.int .i64 ((allX M).length + (bytX x).length : Nat)] := by
  unfold endV
  rw [List.length_append, List.length_singleton, List.range_succ, List.map_append, List.map_singleton]
  congr 1
  · refine List.map_congr_left fun j hj => ?_
    have : j < M.length := List.mem_range.1 hj
    rw [List.take_append_of_le_length (by omega)]
  · rw [List.take_of_length_le (by simp), allX_snoc, List.length_append]
theorem goodX_yes {L : List RL} {k : Nat} (hk : k < L.length) (h : okX L[k] = true) : goodX L (k + 1) = goodX L k ++ [L[k]] := by
  unfold goodX; rw [List.take_succ_eq_append_getElem hk, List.filter_append]; simp [h]
theorem goodX_no {L : List RL} {k : Nat} (hk : k < L.length) (h : okX L[k] = false) : goodX L (k + 1) = goodX L k := by
  unfold goodX; rw [List.take_succ_eq_append_getElem hk, List.filter_append]; simp [h]
theorem goodX_len (L : List RL) (k : Nat) : (goodX L k).length ≤ k := by
  unfold goodX; exact Nat.le_trans (List.length_filter_le _ _) (List.length_take_le _ _)
theorem goodX_mem {L : List RL} {k : Nat} {x : RL} (h : x ∈ goodX L k) : x ∈ L.take k ∧ okX x = true := by
  unfold goodX at h; exact List.mem_filter.1 h
theorem recCells_snoc (M : List RL) (x : RL) : recCells (M ++ [x]) = recCells M ++ [.int .i64 x.1.s, .slice x.1.a x.1.len x.1.cap] := by simp [recCells]
theorem allX_cut {M : List RL} {k : Nat} (hk : k < M.length) : allX M = allX (M.take k) ++ (bytX M[k] ++ allX (M.drop (k + 1))) := by
  have e : M = M.take k ++ (M[k] :: M.drop (k + 1)) := by rw [List.getElem_cons_drop hk, List.take_append_drop]
  have e2 := congrArg allX e
  simp only [allX, List.flatMap_append, List.flatMap_cons] at e2
  exact e2
theorem allX_take {M : List RL} {k : Nat} (hk : k < M.length) : allX (M.take (k + 1)) = allX (M.take k) ++ bytX M[k] := by
  rw [List.take_succ_eq_append_getElem hk, allX_snoc]
theorem set_left {A B C : List UInt8} {m : Nat} {x : UInt8} (h1 : A.length ≤ m) (h2 : m < A.length + B.length) : ((A ++ (B ++ C)).set m x).drop A.length = B.set (m - A.length) x ++ C := by
  rw [List.drop_set, if_neg (by omega), List.drop_left, List.set_append_left _ _ (by omega)]
theorem set_right {A B C : List UInt8} {m : Nat} {x : UInt8} (h2 : A.length + B.length ≤ m) : ((A ++ (B ++ C)).set m x).drop A.length = B ++ C.set (m - A.length - B.length) x := by
  rw [List.drop_set, if_neg (by omega), List.drop_left, List.set_append_right _ _ (by omega)]
theorem string_from {P : Program} {src dst e : TypeId} (hs : P.underlying src = some (.slice e)) (he : P.underlying e = some (.int .u8)) (hd : P.underlying dst = some .string) {W : World} {g : Nat} {l : List UInt8} (h : BytesAt W g l) (k n cap : Nat) (hn : (l.drop k).length = n) :
    (convert src dst (.slice (some ⟨g, k, none⟩) n cap)).run P W = .ok (.string (mkBA (l.drop k))) W := by
  subst hn
  refine run_convert_bytes_back W src dst e _ cap (l.drop k) hs he hd fun j hj => ?_
  have hk : k + j < l.length := by rw [List.length_drop] at hj; omega
  rw [add_off, h.cell (k + j) hk, List.getElem_drop]
theorem xor_u8 (x y : UInt8) : bits .xor .u8 (x.toNat : Int) (y.toNat : Int) = ((x ^^^ y).toNat : Int) := by
  have hx := x.toNat_lt
  have hy := y.toNat_lt
  show IntKind.u8.wrap ((BitVec.ofInt 8 (x.toNat : Int) ^^^ BitVec.ofInt 8 (y.toNat : Int)).toNat : Int) = _
  have h1 : (BitVec.ofInt 8 (x.toNat : Int)).toNat = x.toNat := by rw [BitVec.toNat_ofInt]; omega
  have h2 : (BitVec.ofInt 8 (y.toNat : Int)).toNat = y.toNat := by rw [BitVec.toNat_ofInt]; omega
  have hxy : x.toNat ^^^ y.toNat < 256 := Nat.xor_lt_two_pow (n := 8) hx hy
  rw [BitVec.toNat_xor, h1, h2, UInt8.toNat_xor]
  simp [IntKind.wrap, IntKind.bits, IntKind.signed]; omega
/-- What is read from the k-th record on: it, or (the byte turned lies in it) nothing. -/
theorem rest_read {M : List RL} {k m : Nat} (hk : k < M.length) (hok : okX M[k] = true) (hl : ∀ x ∈ M[k].2, x.2.length = x.1.len) (hm : m < (allX M).length) (y : UInt8) (hA : y = 0 ∨ (allX (M.take k)).length ≤ m) :
    recM (mkBA (((allX M).set m ((allX M)[m] ^^^ y)).drop (allX (M.take k)).length)) = if y ≠ 0 ∧ m < (allX (M.take (k + 1))).length then (0, [], 0, 4) else (M[k].1.s, M[k].2.map core, (recS M[k].1.s M[k].2).size, 1) := by
  have hc := allX_cut hk
  have ht := congrArg List.length (allX_take hk)
  rw [List.length_append] at ht
  by_cases hy : y = 0
  · subst hy
    rw [if_neg (fun h => h.1 rfl), show (allX M)[m] ^^^ 0 = (allX M)[m] by simp, List.set_getElem_self, hc, List.drop_left]
    exact recM_whole hl hok _
  · have hA := hA.resolve_left hy
    by_cases h2 : m < (allX (M.take (k + 1))).length
    · rw [if_pos ⟨hy, h2⟩]
      have hi : m - (allX (M.take k)).length < (bytX M[k]).length := by omega
      have hx : (allX M)[m] = (bytX M[k])[m - (allX (M.take k)).length] := by
        have : (allX M)[m]? = (bytX M[k])[m - (allX (M.take k)).length]? := by
          rw [hc, List.getElem?_append_right hA, List.getElem?_append_left hi]
        rw [List.getElem?_eq_getElem hm, List.getElem?_eq_getElem hi] at this
        exact Option.some.inj this
      rw [hx]
      generalize hz : (bytX M[k])[m - (allX (M.take k)).length] ^^^ y = z
      rw [hc, set_left hA (by omega), ← hz]
      exact recM_turned hl hok _ hi y hy _
    · rw [if_neg (fun h => h2 h.2)]
      generalize (allX M)[m] ^^^ y = z
      rw [hc, set_right (by omega)]
      exact recM_whole hl hok _

attribute [local irreducible] wpQuiet
set_option maxRecDepth 100000 in
set_option maxHeartbeats 8000000 in
theorem rows_some (w : World) (a : Option Addr) (len cap : Nat) (L : List RL) (hL : L.length = len) (h10 : len ≤ 10) (hrow : RowV w a len 2 (recCells L)) (hg : ∀ x ∈ L, GoodR w x.1 x.2) (at_ : Nat) (hat : at_ < 65536) (y : UInt8) :
    Calls Try.prog 14 #[.slice a len cap, .int .u16 at_, .int .u8 y.toNat] w fun e w' => e = .returned (.bool true) ∧ Below w.heap.size w w' := by
  obtain ⟨i0, hi, hz0, hz1, hz2⟩ := info_parts infoRec
  obtain ⟨j0, hj0, hy0, hy1, hy2⟩ := info_parts infoI
  have GK := Lib.hid rec_known
  have HG := Lib.hid hg
  have HL := Lib.hid hL
  have hcs := hrow.2.2
  clear hg hrow hL
  go_enter Try.func14, Try.ntmps14
  go_wp2_with (go_at_call 27; ((with_reducible refine (GK.out _).mono ?_); rintro e w1 ⟨rfl, hB1⟩))
  go_loopw [7, 8, 9, 10, 11, 12] (fun sS sm se si _ _ wr => ∃ (k : Nat) (S : ByteArray) (v u : Value), k ≤ len ∧ si = .int .i64 k ∧ sS = .string S ∧ v = sm ∧ u = se ∧ S.data.toList = allX (goodX L k) ∧ S.size ≤ 2000 * k ∧ (∀ x ∈ L.take k, fewPs x.2 = true) ∧ wr.ownsRow w.heap.size 53 2 v (goodX L k).length (recCells (goodX L k)) ∧ wr.ownsRow w.heap.size 3 1 u (goodX L k).length (endV (goodX L k)) ∧ Below w.heap.size w wr) (fun _ _ _ si _ _ _ => len - (intOf si).toNat)
  case atStart => exact ⟨0, ⟨#[]⟩, _, _, by omega, rfl, rfl, rfl, rfl, rfl, by decide, fun x hx => by simp at hx, World.ownsRow_nil _ _ _ _, World.ownsRow_nil _ _ _ _, hB1⟩
  case round =>
    obtain ⟨k, S, v, u, hk, rfl, rfl, rfl, rfl, hS, hz, hfw, hown, houn, hB⟩ := hrel
    have hsz := hB.size
    by_cases hlt : k < len
    · obtain ⟨b, off, rfl, hb, hx⟩ := hcs (by omega)
      have hkl : k < L.length := by rw [HL.out]; exact hlt
      obtain ⟨c0, c1⟩ := rec_at hb hB hx hkl
      obtain ⟨_, hgl, _, hgr, hge⟩ := HG.out L[k] (List.getElem_mem hkl)
      have HY := Lib.hid (fun h => goodX_yes hkl h)
      have HNo := Lib.hid (fun h => goodX_no hkl h)
      have HFW := Lib.hid (show fewPs L[k].2 = true → ∀ x ∈ L.take (k + 1), fewPs x.2 = true from fun h x hx => by
        rw [List.take_succ_eq_append_getElem hkl] at hx
        rcases List.mem_append.1 hx with h1 | h1
        · exact hfw x h1
        · simp at h1; rw [h1]; exact h)
      have hgn := goodX_len L k
      have HS := Lib.hid hS
      have hbw : b < wr.heap.size := Nat.lt_of_lt_of_le hb hB.size
      clear hx hcs hS hfw hb
      generalize L[k] = x at *
      obtain ⟨⟨s1, a1, len1, cap1⟩, P⟩ := x
      dsimp only at *
      have GF := Lib.hid (fun W (hW : Below w.heap.size w W) => fewPs_any a1 len1 cap1 P W hgl (hgr.below hW) (fun x hx => goodP_below (hge x hx) hW))
      have hk0 : (0 : Int) ≤ (k : Int) := by omega
      have hk1 : (k : Int) < (len : Int) := by omega
      cases hf : fewPs P
      · rw [hf] at GF
        clear hgr hge hgl hf HFW HY HNo
        go_wp2_with (go_at_call 28; ((with_reducible refine (GF.out _ hB).mono ?_); rintro e w2 ⟨rfl, hX⟩; replace hB := bel2 hB hX))
        go_ret
        exact ⟨by simp, hB⟩
      · have H : HasP w a1 len1 P := fewPs_has hgl hgr hge hf
        have hlen : ∀ x ∈ P, x.2.length = x.1.len := fun x hx => (H.2.2.2 x hx).1
        have HFW2 := Lib.hid (HFW.out hf)
        rw [hf] at GF
        cases hok : recB s1 P
        · have GB := Lib.hid (fun W (hW : Below w.heap.size w W) => (show Gives Try.prog 29 #[.agg #[.int .i64 s1, .slice a1 len1 cap1]] W (.tuple #[.string ⟨#[]⟩, .int .i64 11]) from by have := recBytes_any s1 a1 len1 cap1 P W (H.below hW); rwa [recS_no hok, recE_no hok] at this))
          have HY2 := Lib.hid (HNo.out hok)
          clear hgr hge hgl hf HFW HY HNo H hlen hok
          go_wp2_with (first
            | (go_at_call 28; ((with_reducible refine (GF.out _ hB).mono ?_); rintro e w2 ⟨rfl, hX⟩; replace hown := ownsRow_below (n := 0) hown hX; replace houn := ownsRow_below (n := 0) houn hX; replace hB := bel2 hB hX; replace c0 := (hX.cell (p := ⟨b, off + k * 2, none⟩) hbw).trans c0; replace c1 := (hX.cell (p := ⟨b, off + k * 2 + 1, none⟩) hbw).trans c1; replace hbw := Nat.lt_of_lt_of_le hbw hX.size; clear hX))
            | (go_at_call 29; ((with_reducible refine (GB.out _ hB).mono ?_); rintro e w3 ⟨rfl, hX⟩; replace hown := ownsRow_below (n := 0) hown hX; replace houn := ownsRow_below (n := 0) houn hX; replace hB := bel2 hB hX; replace c0 := (hX.cell (p := ⟨b, off + k * 2, none⟩) hbw).trans c0; replace c1 := (hX.cell (p := ⟨b, off + k * 2 + 1, none⟩) hbw).trans c1; replace hbw := Nat.lt_of_lt_of_le hbw hX.size; clear hX)))
          go_roundw
          case rel => exact ⟨k + 1, _, _, _, by omega, by go_num, rfl, rfl, rfl, by rw [HY2.out]; exact HS.out, by omega, HFW2.out, by rw [HY2.out]; exact hown, by rw [HY2.out]; exact houn, hB⟩
          case measure => simp [intOf]; omega
        · have GB := Lib.hid (fun W (hW : Below w.heap.size w W) => (show Gives Try.prog 29 #[.agg #[.int .i64 s1, .slice a1 len1 cap1]] W (.tuple #[.string (recS s1 P), .int .i64 0]) from by have := recBytes_any s1 a1 len1 cap1 P W (H.below hW); rwa [recE_ok hok] at this))
          have HY2 := Lib.hid (HY.out hok)
          have hXl := (recS_len hlen hok).2.1
          have HC := Lib.hid (recCells_snoc (goodX L k) (⟨s1, a1, len1, cap1⟩, P))
          have HE := Lib.hid (endV_snoc (goodX L k) (⟨s1, a1, len1, cap1⟩, P))
          rw [← HY2.out] at HC HE
          have HX := Lib.hid (show (recS s1 P).data.toList = bytX (⟨s1, a1, len1, cap1⟩, P) from rfl)
          have HGL := Lib.hid (show (goodX L (k + 1)).length = (goodX L k).length + 1 by rw [HY2.out]; simp)
          have HSN := Lib.hid (show (S ++ recS s1 P).data.toList = allX (goodX L (k + 1)) by rw [HY2.out, allX_snoc, ← HS.out, ← HX.out]; simp)
          have HSZ := Lib.hid (show (allX (goodX L k)).length = S.size by rw [← HS.out]; simp)
          have HXZ := Lib.hid (show (bytX (⟨s1, a1, len1, cap1⟩, P)).length = (recS s1 P).size by rw [← HX.out]; simp)
          rw [HSZ.out, HXZ.out] at HE
          clear hgr hge hgl hf HFW HY HNo H hlen hok HSZ HXZ HX
          generalize recS s1 P = X at *
          have hSX : (S.size : Int) + (X.size : Int) ≤ 22000 := by omega
          have hnil : ∀ v : Value, v.ownBlock = v.ownBlock := fun _ => rfl
          clear hnil
          go_wp2_with (first
            | (go_at_call 28; ((with_reducible refine (GF.out _ hB).mono ?_); rintro e w2 ⟨rfl, hX⟩; replace hown := ownsRow_below (n := 0) hown hX; replace houn := ownsRow_below (n := 0) houn hX; replace hB := bel2 hB hX; replace c0 := (hX.cell (p := ⟨b, off + k * 2, none⟩) hbw).trans c0; replace c1 := (hX.cell (p := ⟨b, off + k * 2 + 1, none⟩) hbw).trans c1; replace hbw := Nat.lt_of_lt_of_le hbw hX.size; clear hX))
            | (go_at_call 29; ((with_reducible refine (GB.out _ hB).mono ?_); rintro e w3 ⟨rfl, hX⟩; replace hown := ownsRow_below (n := 0) hown hX; replace houn := ownsRow_below (n := 0) houn hX; replace hB := bel2 hB hX; replace c0 := (hX.cell (p := ⟨b, off + k * 2, none⟩) hbw).trans c0; replace c1 := (hX.cell (p := ⟨b, off + k * 2 + 1, none⟩) hbw).trans c1; replace hbw := Nat.lt_of_lt_of_le hbw hX.size; have hs3 := hB.size; clear hX))
            | (at_builtin; refine wpList_append_own _ rfl _ _ 65 rfl w.heap.size 53 i0 (.agg #[.int .i64 0, .slice none 0 0]) 2 32 Try.underlying65 hi hz0 hz1 hz2 rfl (by decide) _ _ _ rfl (hown.alloc _) ⟨w3.heap.size, 0, none⟩ 1 1 [.int .i64 s1, .slice a1 len1 cap1] rfl rfl (news_new _ _ _) (by simp [Value.oneCell']) (by unfold maxLen; omega) (by omega) (by simp; omega) ?_; intro v' w5 hown5 hgrow _; have hA3 := bel_alloc (Below.refl w3.heap.size w3) (.cells #[.int .i64 s1, .slice a1 len1 cap1] 53); have houn5 := (ownsRow_below (n := 0) houn hA3).kept hgrow (rows_apart (ownsRow_below (n := 0) houn hA3) (ownsRow_below (n := 0) hown hA3) (by decide)); have hB5 := ((hB.trans (hA3.mono hB.size)).grown hgrow (by simp; omega) (fun k hk => ownBlock_ge hown hk)); have hs5 := hB5.size; clear hA3 hgrow)
            | (at_builtin; refine wpList_append_own _ rfl _ _ 66 rfl w.heap.size 3 j0 (.int .i64 0) 1 8 Try.underlying66 hj0 hy0 hy1 hy2 rfl (by decide) _ _ _ rfl (houn5.alloc _) ⟨w5.heap.size, 0, none⟩ 1 1 [.int .i64 ((S.size : Int) + (X.size : Int))] rfl rfl (news_new _ _ _) (by simp [Value.oneCell']) (by unfold maxLen; omega) (by omega) (by simp; omega) ?_; intro u' w6 houn6 hgrow _; have hA5 := bel_alloc (Below.refl w5.heap.size w5) (.cells #[.int .i64 ((S.size : Int) + (X.size : Int))] 3); have hown6 := (ownsRow_below (n := 0) hown5 hA5).kept hgrow (rows_apart (ownsRow_below (n := 0) hown5 hA5) (ownsRow_below (n := 0) houn5 hA5) (by decide)); have hB6 := ((hB5.trans (hA5.mono hB5.size)).grown hgrow (by simp; omega) (fun k hk => ownBlock_ge houn5 hk)); clear hA5 hgrow))
          go_roundw
          case rel => exact ⟨k + 1, _, _, _, by omega, by go_num, rfl, rfl, rfl, HSN.out, by rw [ByteArray.size_append]; omega, HFW2.out, by rw [HGL.out, HC.out]; exact hown6, by rw [HGL.out, HE.out]; exact houn6, hB6⟩
          case measure => simp [intOf]; omega
    · obtain rfl : k = len := by omega
      obtain ⟨w0, rfl⟩ : ∃ w0 : World, w0 = wr := ⟨_, rfl⟩
      have hgn := goodX_len L k
      have HM := Lib.hid (show ∀ x ∈ goodX L k, okX x = true ∧ ∀ W, Below w.heap.size w W → HasP W x.1.a x.1.len x.2 from fun x hx => by
        obtain ⟨h1, h2⟩ := goodX_mem hx
        obtain ⟨_, g2, _, g3, g4⟩ := HG.out x (List.mem_of_mem_take h1)
        exact ⟨h2, fun W hW => (fewPs_has g2 g3 g4 (hfw x h1)).below hW⟩)
      generalize goodX L k = M at *
      obtain ⟨va, vc, rfl, hvc, hrow⟩ := rowV_own hown
      obtain ⟨ua, uc, rfl, huc, hrou⟩ := rowV_own houn
      have hms := hrow.2.2
      have hes := hrou.2.2
      have HSL := Lib.hid (show (allX M).length = S.size by rw [← hS]; simp)
      have HS := Lib.hid hS
      clear hS hown houn hrow hrou hfw hcs hB1
      by_cases hS0 : S.size < 1
      · have t0 : ((S.size : Int) == 0) = true := by rw [beq_iff_eq]; omega
        go_wp2
        go_ret
        exact ⟨by simp, hB⟩
      · have t0 : ((S.size : Int) == 0) = false := by rw [beq_eq_false_iff_ne]; omega
        obtain ⟨m, hm⟩ : ∃ m, m = at_ % S.size := ⟨_, rfl⟩
        have hml : m < S.size := by rw [hm]; exact Nat.mod_lt _ (by omega)
        have hmi : (at_ : Int) % (S.size : Int) = (m : Int) := by rw [hm]; omega
        have hm2 : (m : Int) < (S.size : Int) := by omega
        have hm0 : (0 : Int) ≤ (m : Int) := by omega
        have hSp : (0 : Int) < (S.size : Int) := by omega
        have hSn : (S.size : Int) ≤ 20000 := by omega
        clear hm hS0
        obtain ⟨bc, w4, hbc, hcv, hB4, hby⟩ := bytes_of (P := Try.prog) (src := 9) (dst := 48) Try.underlying9 Try.underlying48 Try.underlying5 S w0
        rw [HS.out] at hby
        have hkl : m < (allX M).length := by rw [HSL.out]; exact hml
        have hC4 := bel2 hB hB4
        obtain ⟨d, hd⟩ : ∃ d : UInt8, d = (allX M)[m] := ⟨_, rfl⟩
        have hcell : w4.cell? ⟨w0.heap.size, m, none⟩ = some (.int .u8 d.toNat) := by rw [hd]; exact hby.cell _ hkl
        have hfro := hby.frozen _ hkl
        have hxv := xor_u8 d y
        have HZ := Lib.hid (show (allX M)[m] ^^^ y = d ^^^ y by rw [hd])
        generalize d ^^^ y = z at *
        clear hd
        have hA4 : Below w0.heap.size w0 (w4.setCell ⟨w0.heap.size, m, none⟩ (.int .u8 z.toNat)) := hB4.setCell (p := ⟨w0.heap.size, m, none⟩) (Nat.le_refl _) (vb z)
        have HYo := Lib.hid (show BytesAt (w4.setCell ⟨w0.heap.size, m, none⟩ (.int .u8 z.toNat)) w0.heap.size ((allX M).set m ((allX M)[m] ^^^ y)) from by rw [HZ.out]; exact (hby.set _ hkl z))
        have HAo := Lib.hid (show Below w0.heap.size w0 (w4.setCell ⟨w0.heap.size, m, none⟩ (.int .u8 z.toNat)) from hA4)
        clear hA4 hby hC4 hB4 HZ
        go_wp2
        generalize (w4.setCell ⟨w0.heap.size, m, none⟩ (.int .u8 z.toNat)) = wo at *
        have HMI := Lib.hid hmi
        clear hxv hcell hfro hcv hmi
        have hBo := bel2 hB HAo.out
        have hso := hBo.size
        go_loopw [15, 16, 17, 18, 19] (fun sf si _ _ _ wr => ∃ (j : Nat), j ≤ M.length ∧ si = .int .i64 j ∧ sf = .int .i64 ((allX (M.take j)).length : Nat) ∧ (y = 0 ∨ (allX (M.take j)).length ≤ m) ∧ Below wo.heap.size wo wr) (fun _ si _ _ _ _ => M.length - (intOf si).toNat)
        case atStart => exact ⟨0, by omega, rfl, rfl, .inr (Nat.zero_le _), Below.refl _ _⟩
        case round =>
          obtain ⟨j, hj, rfl, rfl, hym, hBr⟩ := hrel
          by_cases hjl : j < M.length
          · obtain ⟨b, off, rfl, hb, hx⟩ := hms (by omega)
            obtain ⟨gb, go, rfl, hgb, hgx⟩ := hes (by omega)
            have hB0r := bel2 HAo.out hBr
            obtain ⟨c0, c1⟩ := rec_at hb hB0r hx hjl
            have e0 : wr.cell? ⟨gb, go + j, none⟩ = some (.int .i64 ((allX (M.take (j + 1))).length : Nat)) := by
              have := (hB0r.cell (p := ⟨gb, go + j, none⟩) hgb).trans (hgx j (by rw [endV_len]; exact hjl))
              rwa [endV_at] at this
            obtain ⟨hok, hHP⟩ := HM.out M[j] (List.getElem_mem hjl)
            have HP := Lib.hid hHP
            have hrd := rest_read hjl hok (fun x hx => ((hHP _ (Below.refl _ _)).2.2.2 x hx).1) hkl y hym
            have hat := congrArg List.length (allX_take hjl)
            have hle := congrArg List.length (allX_cut hjl)
            rw [List.length_append] at hat
            rw [List.length_append, List.length_append, HSL.out] at hle
            have hbz : (bytX M[j]).length = (recS M[j].1.s M[j].2).size := by unfold bytX; simp
            have hYA := HYo.out.below hBr
            have hTl : (((allX M).set m ((allX M)[m] ^^^ y)).drop (allX (M.take j)).length).length = S.size - (allX (M.take j)).length := by rw [List.length_drop, List.length_set, HSL.out]
            have hcv := string_from (P := Try.prog) (src := 48) (dst := 9) Try.underlying48 Try.underlying5 Try.underlying9 hYA (allX (M.take j)).length (S.size - (allX (M.take j)).length) (bc - (allX (M.take j)).length) hTl
            rw [hbz] at hat hle
            have hq := recS_min hok
            have hle2 : (allX (M.take j)).length + (recS M[j].1.s M[j].2).size ≤ S.size := by omega
            have HAT := Lib.hid (show (((allX (M.take (j + 1))).length : Nat) : Int) = ((allX (M.take j)).length : Int) + ((recS M[j].1.s M[j].2).size : Int) by rw [hat]; push_cast; rfl)
            rw [HAT.out] at e0
            have HNX := Lib.hid (show (y = 0 ∨ (allX (M.take j)).length + (recS M[j].1.s M[j].2).size ≤ m) → (y = 0 ∨ (allX (M.take (j + 1))).length ≤ m) by rw [hat]; exact id)
            rw [hat] at hrd
            have HGX := Lib.hid (fun W (hW : Below w.heap.size w W) a len cap L (hP : HasP W a len L) (hL : L.map core = M[j].2.map core) => (show Gives Try.prog 34 #[.agg #[.int .i64 M[j].1.s, .slice a len cap], .agg #[.int .i64 M[j].1.s, .slice M[j].1.a M[j].1.len M[j].1.cap]] W (.bool true) from by have := refSameR_any M[j].1.s M[j].1.s a M[j].1.a len M[j].1.len cap M[j].1.cap L M[j].2 W hP (HP.out W hW); rwa [sameR_iff.2 ⟨rfl, hL⟩] at this))
            generalize hT : mkBA (((allX M).set m ((allX M)[m] ^^^ y)).drop (allX (M.take j)).length) = T at *
            have hTs : T.size ≤ 20000 := by rw [← hT, mkBA_size, hTl]; omega
            clear hT hTl hYA hok hHP hat hle hbz
            generalize (allX (M.take j)).length = A at *
            generalize M[j] = x at *
            obtain ⟨⟨s1, a1, len1, cap1⟩, P⟩ := x
            dsimp only at *
            generalize (recS s1 P).size = nb at *
            have hmin : min (A : Int) (S.size : Int) = A := by omega
            have hA1 : (A : Int) ≤ (S.size : Int) := by omega
            have hA2 : (A : Int) ≤ (bc : Int) := by omega
            have hAn : (A : Int) + (nb : Int) ≤ 20000 := by omega
            have hwr : IntKind.i64.wrap ((A : Int) + (nb : Int)) = (A : Int) + (nb : Int) := IntWalk.i64_in _ (by omega)
            have hwr0 : (0 : Int) ≤ (A : Int) + (nb : Int) := by omega
            have hbw : b < wr.heap.size := Nat.lt_of_lt_of_le hb hB0r.size
            have hgw : gb < wr.heap.size := Nat.lt_of_lt_of_le hgb hB0r.size
            have hws := bel2 hBo hBr
            clear hx hgx hms hes hB0r hb hgb
            by_cases hbad : y ≠ 0 ∧ m < A + nb
            · rw [if_pos hbad] at hrd
              have hyz : ((y.toNat : Int) != 0) = true := by rw [bne_iff_ne]; intro h; exact hbad.1 (UInt8.toNat_inj.1 (by simpa using h))
              have hyz2 : ((y.toNat : Int) == 0) = false := by rw [beq_eq_false_iff_ne]; intro h; exact hbad.1 (UInt8.toNat_inj.1 (by simpa using h))
              have hlt : decide ((at_ : Int) % (S.size : Int) < (A : Int) + (nb : Int)) = true := by rw [decide_eq_true_iff, HMI.out]; omega
              have GR := Lib.hid (fun W => recRead_at T 0 [] 0 4 (by omega) hrd W)
              clear hrd hbad HNX HGX
              go_wp2_with (go_at_call 36; ((with_reducible refine (GR.out _).mono ?_); rintro e w5 ⟨a3, len3, cap3, L3, rfl, _, _, hX⟩; replace hX := bel2 hX (bel_alloc (Below.refl w5.heap.size w5) (.cells #[.int .i64 0, .slice a3 len3 cap3] 53)); replace e0 := (hX.cell (p := ⟨gb, go + j, none⟩) hgw).trans e0; replace hws := bel2 hws hX; clear hX))
              go_ret
              exact ⟨by simp, hws⟩
            · rw [if_neg hbad] at hrd
              have HN2 := Lib.hid (HNX.out (by by_cases h : y = 0; exact .inl h; exact .inr (by have : ¬ m < A + nb := fun h2 => hbad ⟨h, h2⟩; omega)))
              have GR := Lib.hid (fun W => recRead_at T s1 (P.map core) nb 1 (by omega) hrd W)
              clear hrd HNX
              by_cases hy0 : y = 0
              · have hyz : ((y.toNat : Int) != 0) = false := by rw [hy0]; rfl
                have hyz2 : ((y.toNat : Int) == 0) = true := by rw [hy0]; rfl
                clear hbad hy0 hym
                go_wp2_with (go_at_call 36; ((with_reducible refine (GR.out _).mono ?_); rintro e w5 ⟨a3, len3, cap3, L3, rfl, hP3, hL3, hX⟩; replace hX := bel2 hX (bel_alloc (Below.refl w5.heap.size w5) (.cells #[.int .i64 s1, .slice a3 len3 cap3] 53)); replace hP3 := hP3.below (bel_alloc (Below.refl w5.heap.size w5) (.cells #[.int .i64 s1, .slice a3 len3 cap3] 53)); have hx := World.alloc_heap_new w5 (.cells #[.int .i64 s1, .slice a3 len3 cap3] 53); have x0 : (w5.alloc (.cells #[.int .i64 s1, .slice a3 len3 cap3] 53)).cell? ⟨w5.heap.size, 0, none⟩ = some (.int .i64 s1) := cell_of_row _ _ 0 _ _ _ hx; have x1 : (w5.alloc (.cells #[.int .i64 s1, .slice a3 len3 cap3] 53)).cell? ⟨w5.heap.size, 1, none⟩ = some (.slice a3 len3 cap3) := cell_of_row _ _ 1 _ _ _ hx; replace e0 := (hX.cell (p := ⟨gb, go + j, none⟩) hgw).trans e0; replace hgw := Nat.lt_of_lt_of_le hgw hX.size; replace c0 := (hX.cell (p := ⟨b, off + j * 2, none⟩) hbw).trans c0; replace c1 := (hX.cell (p := ⟨b, off + j * 2 + 1, none⟩) hbw).trans c1; replace hbw := Nat.lt_of_lt_of_le hbw hX.size; replace hws := bel2 hws hX; replace hBr := bel2 hBr hX; have HL3 := Lib.hid hL3; have HP3 := Lib.hid hP3; clear hX hL3 hP3))
                have HS9 := Lib.hid (fun W (hW : Above (w5.alloc (.cells #[.int .i64 s1, .slice a3 len3 cap3] 53)) W) => And.intro ((Below.cell hW (p := ⟨w5.heap.size, 0, none⟩) (heap_lt hx)).trans x0) (And.intro ((Below.cell hW (p := ⟨w5.heap.size, 1, none⟩) (heap_lt hx)).trans x1) (And.intro ((Below.cell hW (p := ⟨b, off + j * 2, none⟩) hbw).trans c0) (And.intro ((Below.cell hW (p := ⟨b, off + j * 2 + 1, none⟩) hbw).trans c1) ((Below.cell hW (p := ⟨gb, go + j, none⟩) hgw).trans e0)))))
                clear hx x0 x1 c0 c1
                refine wp_region_below (by kernel_rfl) (by kernel_rfl) ?_
                repeat (first
                  | (refine BigFrame.wpQuiet_skip (by rfl) ?_; (try simp only [Act.put, List.setIfInBounds_toArray, List.set_cons_zero, List.set_cons_succ]))
                  | (refine BigFrame.wpQuiet_want (by rfl) (fun K hK => ?_); apply Exists.intro; refine ⟨fun W hW => ?_, hK _ ?_⟩; (focus (have hWB : Below _ _ W := hW; obtain ⟨z0, z1, z2, z3, z4⟩ := HS9.out _ hW; go_simp; (first | done | with_reducible rfl | (go_at_call 34; with_reducible exact gives_above hW (HGX.out _ (bel2 hws hWB) _ _ _ _ (HP3.out.below hWB) HL3.out)) | (rw [if_neg (by omega)]; go_simp; (first | done | with_reducible rfl))))); clear hK K; (try simp only [Act.put, List.setIfInBounds_toArray, List.set_cons_zero, List.set_cons_succ])))
                refine wpQuiet_nil ?_
                intro w9 hB9
                replace hB9 : Below _ _ w9 := hB9
                replace e0 := (hB9.cell (p := ⟨gb, go + j, none⟩) hgw).trans e0
                replace hBr := bel2 hBr hB9
                go_wp2
                go_roundw
                case rel => exact ⟨j + 1, by omega, by go_num, by rw [HAT.out], HN2.out, hBr⟩
                case measure => simp [intOf]; omega
              · have hyz : ((y.toNat : Int) != 0) = true := by rw [bne_iff_ne]; intro h; exact hy0 (UInt8.toNat_inj.1 (by simpa using h))
                have hyz2 : ((y.toNat : Int) == 0) = false := by rw [beq_eq_false_iff_ne]; intro h; exact hy0 (UInt8.toNat_inj.1 (by simpa using h))
                have hlt : decide ((at_ : Int) % (S.size : Int) < (A : Int) + (nb : Int)) = false := by rw [decide_eq_false_iff_not, HMI.out]; have : ¬ m < A + nb := fun h2 => hbad ⟨hy0, h2⟩; omega
                clear hbad hy0 hym
                go_wp2_with (go_at_call 36; ((with_reducible refine (GR.out _).mono ?_); rintro e w5 ⟨a3, len3, cap3, L3, rfl, hP3, hL3, hX⟩; replace hX := bel2 hX (bel_alloc (Below.refl w5.heap.size w5) (.cells #[.int .i64 s1, .slice a3 len3 cap3] 53)); replace hP3 := hP3.below (bel_alloc (Below.refl w5.heap.size w5) (.cells #[.int .i64 s1, .slice a3 len3 cap3] 53)); have hx := World.alloc_heap_new w5 (.cells #[.int .i64 s1, .slice a3 len3 cap3] 53); have x0 : (w5.alloc (.cells #[.int .i64 s1, .slice a3 len3 cap3] 53)).cell? ⟨w5.heap.size, 0, none⟩ = some (.int .i64 s1) := cell_of_row _ _ 0 _ _ _ hx; have x1 : (w5.alloc (.cells #[.int .i64 s1, .slice a3 len3 cap3] 53)).cell? ⟨w5.heap.size, 1, none⟩ = some (.slice a3 len3 cap3) := cell_of_row _ _ 1 _ _ _ hx; replace e0 := (hX.cell (p := ⟨gb, go + j, none⟩) hgw).trans e0; replace hgw := Nat.lt_of_lt_of_le hgw hX.size; replace c0 := (hX.cell (p := ⟨b, off + j * 2, none⟩) hbw).trans c0; replace c1 := (hX.cell (p := ⟨b, off + j * 2 + 1, none⟩) hbw).trans c1; replace hbw := Nat.lt_of_lt_of_le hbw hX.size; replace hws := bel2 hws hX; replace hBr := bel2 hBr hX; have HL3 := Lib.hid hL3; have HP3 := Lib.hid hP3; clear hX hL3 hP3))
                have HS9 := Lib.hid (fun W (hW : Above (w5.alloc (.cells #[.int .i64 s1, .slice a3 len3 cap3] 53)) W) => And.intro ((Below.cell hW (p := ⟨w5.heap.size, 0, none⟩) (heap_lt hx)).trans x0) (And.intro ((Below.cell hW (p := ⟨w5.heap.size, 1, none⟩) (heap_lt hx)).trans x1) (And.intro ((Below.cell hW (p := ⟨b, off + j * 2, none⟩) hbw).trans c0) (And.intro ((Below.cell hW (p := ⟨b, off + j * 2 + 1, none⟩) hbw).trans c1) ((Below.cell hW (p := ⟨gb, go + j, none⟩) hgw).trans e0)))))
                clear hx x0 x1 c0 c1
                refine wp_region_below (by kernel_rfl) (by kernel_rfl) ?_
                repeat (first
                  | (refine BigFrame.wpQuiet_skip (by rfl) ?_; (try simp only [Act.put, List.setIfInBounds_toArray, List.set_cons_zero, List.set_cons_succ]))
                  | (refine BigFrame.wpQuiet_want (by rfl) (fun K hK => ?_); apply Exists.intro; refine ⟨fun W hW => ?_, hK _ ?_⟩; (focus (have hWB : Below _ _ W := hW; obtain ⟨z0, z1, z2, z3, z4⟩ := HS9.out _ hW; go_simp; (first | done | with_reducible rfl | (go_at_call 34; with_reducible exact gives_above hW (HGX.out _ (bel2 hws hWB) _ _ _ _ (HP3.out.below hWB) HL3.out)) | (rw [if_neg (by omega)]; go_simp; (first | done | with_reducible rfl))))); clear hK K; (try simp only [Act.put, List.setIfInBounds_toArray, List.set_cons_zero, List.set_cons_succ])))
                refine wpQuiet_nil ?_
                intro w9 hB9
                replace hB9 : Below _ _ w9 := hB9
                replace e0 := (hB9.cell (p := ⟨gb, go + j, none⟩) hgw).trans e0
                replace hBr := bel2 hBr hB9
                go_wp2
                go_roundw
                case rel => exact ⟨j + 1, by omega, by go_num, by rw [HAT.out], HN2.out, hBr⟩
                case measure => simp [intOf]; omega
          · obtain rfl : j = M.length := by omega
            go_wp2
            go_ret
            exact ⟨by simp, bel2 hBo hBr⟩

theorem walk (w : World) (a : Option Addr) (len cap : Nat) (L : List RL) (hL : L.length = len) (hc : len ≤ cap) (hrow : RowV w a len 2 (recCells L)) (hg : ∀ x ∈ L, GoodR w x.1 x.2) (at_ : Nat) (hat : at_ < 65536) (b : Nat) (hb : b < 256) :
    Calls Try.prog 14 #[.slice a len cap, .int .u16 at_, .int .u8 b] w fun e w' => e = .returned (.bool true) ∧ Below w.heap.size w w' := by
  obtain ⟨y, rfl⟩ : ∃ y : UInt8, b = y.toNat := ⟨UInt8.ofNat b, by rw [UInt8.toNat_ofNat']; omega⟩
  by_cases h10 : len ≤ 10
  · exact rows_some w a len cap L hL h10 hrow hg at_ hat y
  · have GK := Lib.hid rec_known
    have hz' : 10 < len := by omega
    have hm := hrow.2.1
    unfold maxLen at hm
    go_enter Try.func14, Try.ntmps14
    go_wp2_with (go_at_call 27; ((with_reducible refine (GK.out _).mono ?_); rintro e w1 ⟨rfl, hB1⟩))
    go_ret
    exact ⟨by simp, hB1⟩

set_option maxRecDepth 100000 in
theorem lifted (os : Os) (started : os.Started) (H : Type) (enc : TypeId × Value → H) :
    ReturnsInHanded {} Try.checked os 14 .any (Rows.recordRowsSpec.pre6 enc Try.prog Try.f14 Rows.recordRowsRow.domain false) (Rows.recordRowsSpec.post enc Try.prog Try.f14 false true false false) := by
  refine returnsInHanded_of_change (C := Try.checked) Try.own started (by kernel_rfl) Try.func14
    (ChangeSpec.witness6 (enc := enc) (C := Try.checked) false ⟨#[], #[.slice none 0 0, .int .u16 0, .int .u8 0], []⟩ 8 (by kernel_rfl) (by kernel_rfl) (by kernel_rfl) (by kernel_rfl)) ?_
  intro W base args ds gs before hval hW _ _
  refine law_contract (T := 4) (n := 3) Try.laid Try.underlying4 rfl rfl ⟨rfl, fun H ds h => by match ds, h with | [_, _, _], _ => rfl⟩ (of_all (by kernel_rfl)) hW ?_
  intro ps hA
  rw [Try.params14] at hA hval
  obtain ⟨v0, vs0, d0, ds0, p0, q0, hargs, rfl, rfl, h0, r0⟩ := trodAll_cons hA
  obtain ⟨v1, vs1, d1, ds1, p1, q1, rfl, rfl, rfl, h1, r1⟩ := trodAll_cons r0
  obtain ⟨v2, vs2, d2, ds2, p2, q2, rfl, rfl, rfl, h2, r2⟩ := trodAll_cons r1
  obtain ⟨rfl, rfl, rfl⟩ := trodAll_nil r2
  obtain rfl : args = #[v0, v1, v2] := by cases args; simp_all
  obtain ⟨s0, l0, c0, rfl⟩ := okWide_slice Try.underlying65 (hval 0 65 v0 rfl rfl)
  obtain ⟨zs0, e0, g0, w0, b0⟩ := open_records h0
  obtain ⟨a1, rfl, rfl, rfl, w1⟩ := open_int Try.underlying50 (hval 1 50 v1 rfl rfl) h1
  obtain ⟨a2, rfl, rfl, rfl, w2⟩ := open_int Try.underlying5 (hval 2 5 v2 rfl rfl) h2
  obtain ⟨n1, rfl, b1⟩ := nat_of_u16 w1
  obtain ⟨n2, rfl, b2⟩ := nat_of_u8 w2
  exact walk W s0 l0 c0 zs0 e0 g0 w0 b0 n1 b1 n2 b2

theorem holds : Rows.RecordRowsSaid :=
  OpenClaim.holds_of_wide 14 Try.f14 rfl rfl rfl rfl rfl rfl rfl ⟨rfl, rfl, rfl, rfl, rfl⟩ rfl rfl rfl rfl rfl (by kernel_rfl) Try.func14 (by kernel_rfl)
    (of_decide_eq_true (by kernel_rfl)) (by unfold Func.isWrapper; first | (rw [if_pos (by decide +kernel)]; kernel_rfl) | (rw [if_neg (by decide +kernel)]; exact ⟨rfl, rfl⟩))
    (fun os started H enc _ => lifted os started H enc)

end Go.Proofs.Ytpogklceaoiacaa.recordRows
