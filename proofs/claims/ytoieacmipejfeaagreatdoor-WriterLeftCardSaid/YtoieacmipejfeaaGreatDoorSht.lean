/- Sht, ShtB, ShtR, ShtM, ShtD: in one text. -/
import Derived.Test.YtoieacmipejfeaaGreatDoorBuilder
import Derived.Test.YtoieacmipejfeaaGreatDoorGet
import Derived.Test.YtoieacmipejfeaaGreatDoorRef
import Derived.Test.YtoieacmipejfeaaGreatDoorCrc
import Derived.Test.YtoieacmipejfeaaGreatDoorVictim
import Derived.Test.YtoieacmipejfeaaGreatDoorRowV
import Derived.Test.YtoieacmipejfeaaGreatDoorKnown8
/- A sheet's numbers as plain data; sheet.Is, sheet.Bytes, the document's Is, Bytes. -/
namespace Go.Proofs.YtoieacmipejfeaaGreatDoor
open Go.RowKit Go.Shelf
set_option linter.unusedVariables false
attribute [local go_sem] Oper.semAt_some wide_fn wide_round_fn

/-- Numbers rise, from more than a on, up to the greatest that may be. -/
def isA : Int → List Int → Bool
  | _, [] => true
  | a, x :: r => decide (a < x) && decide (x ≤ 99999999) && isA x r
def shB (l : List Int) : Bool := decide (1 ≤ l.length) && decide (l.length ≤ 200) && isA 0 l
def shL (l : List Int) : List UInt8 := sevL l.length ++ l.flatMap fun x => sevL x.toNat
def shS (l : List Int) : List UInt8 := eigL (crcM 0#32 (shL l)).toNat ++ shL l
def shY (l : List Int) : ByteArray := if shB l then ⟨(shS l).toArray⟩ else ⟨#[]⟩
def shE (l : List Int) : Int := if shB l then 0 else 11
theorem isA_drop {zs : List Int} {k : Nat} (h : k < zs.length) (a : Int) : isA a (zs.drop k) = (decide (a < zs[k]) && decide (zs[k] ≤ 99999999) && isA zs[k] (zs.drop (k + 1))) := by
  rw [List.drop_eq_getElem_cons h]; rfl
theorem isA_bd : ∀ {l : List Int} {a : Int}, isA a l = true → ∀ x ∈ l, a < x ∧ x ≤ 99999999
  | [], _, _, _, h => by cases h
  | y :: r, a, h, x, hx => by
    simp only [isA, Bool.and_eq_true, decide_eq_true_eq] at h
    rcases List.mem_cons.1 hx with rfl | hx
    · exact h.1
    · have := isA_bd h.2 x hx; omega
theorem shL_len {l : List Int} : (shL l).length ≤ 9 + 9 * l.length := by
  unfold shL
  rw [List.length_append]
  have h1 := sevL_len l.length
  have h2 : ∀ m : List Int, (m.flatMap fun x => sevL x.toNat).length ≤ 9 * m.length := fun m => by
    induction m with
    | nil => exact Nat.le_refl _
    | cons x r ih =>
      rw [List.flatMap_cons, List.length_append, List.length_cons]
      have := sevL_len x.toNat
      omega
  have := h2 l
  omega
set_option maxRecDepth 100000 in
set_option maxHeartbeats 1000000 in
theorem shIs_any (a : Option Addr) (len cap : Nat) (zs : List Int) (w : World) (h : RowI .i64 w a len zs) : Gives Tryz.prog 46 #[.slice a len cap] w (.bool (shB zs)) := by
  obtain ⟨hl, hm, -, hc⟩ := h
  unfold maxLen at hm
  unfold Gives
  by_cases h0 : len < 1
  · have HE := Lib.hid (show shB zs = false by unfold shB; rw [hl]; simp; omega)
    have hi : (len : Int) < 1 := by omega
    clear h0 hc hl
    go_enter Tryz.func46, Tryz.ntmps46
    go_wp2
    go_ret
    exact ⟨by rw [HE.out]; rfl, Below.refl _ _⟩
  by_cases h1 : 200 < len
  · have HE := Lib.hid (show shB zs = false by unfold shB; rw [hl]; simp; omega)
    have hi : (200 : Int) < (len : Int) := by omega
    clear h0 h1 hc hl
    go_enter Tryz.func46, Tryz.ntmps46
    go_wp2
    go_ret
    exact ⟨by rw [HE.out]; rfl, Below.refl _ _⟩
  have HS := Lib.hid (show shB zs = isA 0 zs by unfold shB; rw [hl]; simp; omega)
  have hi0 : (1 : Int) ≤ (len : Int) := by omega
  have hi1 : (len : Int) ≤ 200 := by omega
  have HL := Lib.hid hl
  clear h0 h1 hl
  go_enter Tryz.func46, Tryz.ntmps46
  go_wp2
  go_loopw [3, 16] (fun sa si wr => ∃ (k : Nat) (ah : Int), k ≤ len ∧ si = .int .i64 k ∧ sa = .int .i64 ah ∧ isA ah (zs.drop k) = isA 0 zs ∧ wr = w) (fun _ si _ => len - (intOf si).toNat)
  case atStart => exact ⟨0, 0, by omega, rfl, rfl, rfl, rfl⟩
  case round =>
    obtain ⟨k, ah, hk, rfl, rfl, hA, rfl⟩ := hrel
    have HA := Lib.hid hA
    clear hA
    by_cases hlt : k < len
    · obtain ⟨b, off, rfl, hb, hcc⟩ := hc (by omega)
      have hkl : k < zs.length := by rw [HL.out]; exact hlt
      have c := hcc k hkl
      have hki : (k : Int) < (len : Int) := by omega
      have HD := Lib.hid (isA_drop hkl ah)
      generalize zs[k] = x at *
      clear hcc hc
      by_cases h1 : x ≤ ah
      · have HE := Lib.hid (show isA 0 zs = false by rw [← HA.out, HD.out]; simp; omega)
        go_wp2
        go_ret
        exact ⟨by rw [HS.out, HE.out]; rfl, Below.refl _ _⟩
      · have h1' : ah < x := by omega
        by_cases h2 : 99999999 < x
        · have HE := Lib.hid (show isA 0 zs = false by rw [← HA.out, HD.out]; simp; omega)
          clear h1
          go_wp2
          go_ret
          exact ⟨by rw [HS.out, HE.out]; rfl, Below.refl _ _⟩
        · have h2' : x ≤ 99999999 := by omega
          have HE := Lib.hid (show isA x (zs.drop (k + 1)) = isA 0 zs by rw [← HA.out, HD.out, decide_eq_true h1', decide_eq_true h2']; rfl)
          clear h1 h2
          go_wp2
          exact ⟨⟨k + 1, x, by omega, by go_num, rfl, HE.out, trivial⟩, by simp [intOf]; omega⟩
    · obtain rfl : k = len := by omega
      have HE := Lib.hid (show isA 0 zs = true by rw [← HA.out, List.drop_eq_nil_of_le (by rw [HL.out]; omega)]; rfl)
      clear hc hlt hk
      go_wp2
      go_ret
      exact ⟨by rw [HS.out, HE.out]; rfl, Below.refl _ _⟩

end Go.Proofs.YtoieacmipejfeaaGreatDoor

/- sheet.Bytes: a builder that is read twice. -/
namespace Go.Proofs.YtoieacmipejfeaaGreatDoor
open Go.RowKit Go.Shelf
set_option linter.unusedVariables false
attribute [local go_sem] Oper.semAt_some wide_fn wide_round_fn

/-- A builder whose bytes may bear a mark. -/
def BuiltF (B b : Nat) (l : List UInt8) (w : World) : Prop := ∃ p g cap cur fr, B ≤ b ∧ B ≤ g ∧ g ≠ b ∧ w.heap[b]? = some (.cells #[p, .slice (some ⟨g, 0, none⟩) l.length cap] 118 (0, 0)) ∧ w.heap[g]? = some (.cells cur 5 fr) ∧ l.length ≤ cap ∧ cap ≤ maxLen ∧ cur.size = cap ∧ cur.toList.take l.length = Lib.byteCells l
theorem BuiltF.of {B b : Nat} {l : List UInt8} {w : World} (h : Builds B b (Lib.byteCells l) w) (h0 : l ≠ []) : BuiltF B b l w := by
  obtain ⟨p, hB, v, hbk, hown, hne⟩ : ∃ p, BuiltAt B b p (Lib.byteCells l) w := by
    rcases h with h | h
    · exact ⟨_, h⟩
    · exact ⟨_, h⟩
  have hl0 : l.length ≠ 0 := by simpa using h0
  rw [Lib.byteCells_length] at hown
  rcases hown.2 with ⟨_, hz⟩ | ⟨g, cap, cur, hv, hg, hh, hn, hm, hs, ht⟩
  · exact absurd hz hl0
  · subst hv
    refine ⟨p, g, cap, cur, (0, 0), hB, hg, fun e => hne (by rw [e]; rfl), hbk, hh, hn, hm, by omega, by rw [Nat.mul_one] at ht; exact ht⟩
theorem BuiltF.below {B b : Nat} {l : List UInt8} {w w' : World} (h : BuiltF B b l w) (hB : Below w.heap.size w w') : BuiltF B b l w' := by
  obtain ⟨p, g, cap, cur, fr, h1, h2, h3, h4, h5, r⟩ := h
  exact ⟨p, g, cap, cur, fr, h1, h2, h3, (hB.block b (Array.getElem?_eq_some_iff.1 h4).1).trans h4, (hB.block g (Array.getElem?_eq_some_iff.1 h5).1).trans h5, r⟩
theorem freeze_at {w : World} {g n : Nat} {cur : Array Value} {T : TypeId} {fr : Nat × Nat} (h : w.heap[g]? = some (.cells cur T fr)) : ∃ fr', (w.freeze ⟨g, 0, none⟩ n).heap[g]? = some (.cells cur T fr') := by
  obtain ⟨lo, hi⟩ := fr
  unfold World.freeze
  split
  · exact ⟨(lo, hi), h⟩
  · refine ⟨if lo == hi then (0, 0 + n) else (min lo 0, max hi (0 + n)), ?_⟩
    simp only [Array.getElem?_modify]
    rw [if_pos trivial, h]
    rfl
theorem freeze_other {w : World} {g n k : Nat} (h : g ≠ k) : (w.freeze ⟨g, 0, none⟩ n).heap[k]? = w.heap[k]? := by
  unfold World.freeze
  split
  · rfl
  · simp only [Array.getElem?_modify]
    rw [if_neg h]
set_option maxHeartbeats 1000000 in
set_option maxRecDepth 100000 in
theorem string_fz (B b : Nat) (l : List UInt8) (w : World) (h : BuiltF B b l w) (h0 : l ≠ []) :
    Calls Tryz.prog 74 #[.pointer (some ⟨b, 0, none⟩)] w fun e w' => e = .returned (.string ⟨l.toArray⟩) ∧ BuiltF B b l w' ∧ Below B w w' := by
  obtain ⟨p, g, cap, cur, fr, hB, hbg, hgb, hbk, hg, hnc, hcm, hcs, htake⟩ := h
  have hl0 : l.length ≠ 0 := by simpa using h0
  have hg' : w.drew.heap[g]? = some (.cells cur 5 fr) := hg
  have c1 : w.drew.cell? ⟨b, 1, none⟩ = some (.slice (some ⟨g, 0, none⟩) l.length cap) := by
    have : w.drew.heap[b]? = some (.cells #[p, .slice (some ⟨g, 0, none⟩) l.length cap] 118 (0, 0)) := hbk
    rw [Lib.cell_of_heap this]; rfl
  have hSD : (Builtin.unsafeSliceData_ #[55] 129 #[.slice (some ⟨g, 0, none⟩) l.length cap]).run Tryz.prog w.drew = .ok (.pointer (some ⟨g, 0, none⟩)) w.drew :=
    Lib.run_unsafeSliceData_row _ _ _ _ _ _ (by omega)
  have hUS : (Builtin.unsafeString_ #[129, 3] 9 #[.pointer (some ⟨g, 0, none⟩), .int .i64 l.length]).run Tryz.prog w.drew = .ok (.string ⟨l.toArray⟩) (w.drew.freeze ⟨g, 0, none⟩ l.length) := by
    refine Lib.run_unsafeString_row w.drew 129 3 9 5 Tryz.underlying129 bldExtra.cellsByte g cur.size (by simp [World.shape?, hg']) l h0 (by omega) (by unfold maxLen at hcm; omega) ?_
    intro j x hx
    have hj : j < l.length := (List.getElem?_eq_some_iff.1 hx).1
    rw [add_off, Nat.zero_add, Lib.cell_of_heap hg']
    have : cur[j]? = (cur.toList.take l.length)[j]? := by rw [List.getElem?_take_of_lt hj]; simp
    rw [this, htake]
    simp [Lib.byteCells, hx]
  obtain ⟨fr', hfr⟩ := freeze_at (n := l.length) hg'
  have hob := freeze_other (w := w.drew) (n := l.length) hgb
  have HE := Lib.hid (show BuiltF B b l (w.drew.freeze ⟨g, 0, none⟩ l.length) ∧ Below B w (w.drew.freeze ⟨g, 0, none⟩ l.length) from
    ⟨⟨p, g, cap, cur, fr', hB, hbg, hgb, hob.trans hbk, hfr, hnc, hcm, hcs, htake⟩, Lib.below_freeze (Below.drew (Below.refl B w)) (p := ⟨g, 0, none⟩) hbg l.length⟩)
  clear htake hg hg' hbk hfr hob
  go_enter Tryz.func74, Tryz.ntmps74
  go_wp2
  go_region
  all_goals (go_wp2; go_ret; exact ⟨rfl, HE.out⟩)
theorem byteCells_appS (l m : List UInt8) : Lib.byteCells (l ++ m) = Lib.byteCells l ++ Lib.byteCells m := by simp [Lib.byteCells]
theorem byteCells_lenS (l : List UInt8) : (Lib.byteCells l).length = l.length := by simp [Lib.byteCells]
theorem shL_take {zs : List Int} {k : Nat} (h : k < zs.length) : ((zs.take (k + 1)).flatMap fun x => sevL x.toNat) = ((zs.take k).flatMap fun x => sevL x.toNat) ++ sevL zs[k].toNat := by
  rw [List.take_succ_eq_append_getElem h, List.flatMap_append]; simp
theorem flat_lenS (m : List Int) : (m.flatMap fun x => sevL x.toNat).length ≤ 9 * m.length := by
  induction m with
  | nil => exact Nat.le_refl _
  | cons x r ih =>
    rw [List.flatMap_cons, List.length_append, List.length_cons]
    have := sevL_len x.toNat
    omega
theorem strCells_list (l : List UInt8) : Lib.strCells ⟨l.toArray⟩ = Lib.byteCells l := by simp [Lib.strCells, Lib.byteCells]
set_option maxRecDepth 100000 in
set_option maxHeartbeats 2000000 in
theorem shBytes_any (a : Option Addr) (len cap : Nat) (zs : List Int) (w : World) (h : RowI .i64 w a len zs) : Gives Tryz.prog 59 #[.slice a len cap] w (.tuple #[.string (shY zs), .int .i64 (shE zs)]) := by
  have GI := Lib.hid (shIs_any a len cap zs w h)
  unfold Gives
  cases hs : shB zs
  · have HE := Lib.hid (show shY zs = ⟨#[]⟩ ∧ shE zs = 11 by unfold shY shE; rw [hs]; exact ⟨rfl, rfl⟩)
    rw [hs] at GI
    clear h hs
    go_enter Tryz.func59, Tryz.ntmps59
    go_wp2_with (go_at_call 46; ((with_reducible refine GI.out.mono ?_); rintro e w1 ⟨rfl, hB1⟩))
    go_ret2
    rw [HE.out.1, HE.out.2]; exact ⟨rfl, hB1⟩
  · have HE := Lib.hid (show shY zs = ⟨(shS zs).toArray⟩ ∧ shE zs = 0 by unfold shY shE; rw [hs]; exact ⟨rfl, rfl⟩)
    rw [hs] at GI
    obtain ⟨hl, hm, hwf, hc⟩ := h
    have h200 : len ≤ 200 := by
      unfold shB at hs
      simp only [Bool.and_eq_true, decide_eq_true_eq] at hs
      omega
    have hA : isA 0 zs = true := by
      unfold shB at hs
      simp only [Bool.and_eq_true] at hs
      exact hs.2
    have hbd := Lib.hid (isA_bd hA)
    have HL := Lib.hid hl
    have GP := Lib.hid (fun (n : Int) (hn : n < 9223372036854775808) W => put_any n hn W)
    have hll := shL_len (l := zs)
    have hlz : (shL zs).length < 9223372036854775808 := by omega
    have hne : shL zs ≠ [] := by
      unfold shL
      intro e
      have h1 := congrArg List.length e
      rw [List.length_append, List.length_nil] at h1
      have h2 := sevL_pos zs.length
      omega
    have GO := Lib.hid (fun W => of_any ⟨(shL zs).toArray⟩ (by show (shL zs).toArray.size < _; simpa using hlz) W)
    have GF := Lib.hid (fun W => fixed_any (crcM 0#32 (shL zs)).toNat (crcM 0#32 (shL zs)).isLt W)
    have hcat : (⟨(eigL (crcM 0#32 (shL zs)).toNat).toArray⟩ : ByteArray) ++ ⟨(shL zs).toArray⟩ = ⟨(shS zs).toArray⟩ := by
      apply ByteArray.ext
      rw [ByteArray.data_append]
      simp [shS]
    have hsz : (⟨(eigL (crcM 0#32 (shL zs)).toNat).toArray⟩ : ByteArray).size + (⟨(shL zs).toArray⟩ : ByteArray).size ≤ 4000 := by
      show (eigL _).toArray.size + (shL zs).toArray.size ≤ 4000
      simp only [List.size_toArray]
      have : (eigL (crcM 0#32 (shL zs)).toNat).length = 4 := rfl
      omega
    have hl0 : (len : Int) < 9223372036854775808 := by omega
    have hcat' := hcat
    have Hne := Lib.hid hne
    have GW := Lib.hid (fun (b : Nat) (l : List UInt8) (hl : l.length ≤ 100) (bs : List UInt8) (hb : bs.length ≤ 10000) W (h : Builds w.heap.size b (Lib.byteCells bs) W) (hW : w.heap.size ≤ W.heap.size) => (show Calls Tryz.prog 70 #[.pointer (some ⟨b, 0, none⟩), .string ⟨l.toArray⟩] W fun e w' => (∃ x, e = .returned x) ∧ Builds w.heap.size b (Lib.byteCells (bs ++ l)) w' ∧ Below w.heap.size W w' from by
      have hsl : (⟨l.toArray⟩ : ByteArray).size = l.length := by show l.toArray.size = _; simp
      refine (writeString_any w.heap.size b (Lib.byteCells bs) ⟨l.toArray⟩ W h (by rw [byteCells_lenS, hsl]; omega) hW).mono ?_
      rintro e w' ⟨rfl, h1, h2, -⟩
      refine ⟨⟨_, rfl⟩, ?_, h2⟩
      rw [byteCells_appS, ← strCells_list l]
      exact .inr h1))
    have hsv := sevL_len len
    have HT := Lib.hid (fun (k : Nat) (h : k < zs.length) => shL_take h)
    have HFl := Lib.hid (fun k => Nat.le_trans (flat_lenS (zs.take k)) (Nat.mul_le_mul_left 9 (List.length_take_le k zs)))
    have HEnd := Lib.hid (show shL zs = sevL len ++ zs.flatMap fun x => sevL x.toNat by unfold shL; rw [hl])
    generalize hSL : shL zs = SL at *
    generalize hSS : shS zs = SS at *
    generalize (crcM 0#32 SL).toNat = cr at *
    clear hs hl hwf hA hll hne hSL hSS
    go_enter Tryz.func59, Tryz.ntmps59
    go_wp2_with (first
      | (go_at_call 46; ((with_reducible refine GI.out.mono ?_); rintro e w1 ⟨rfl, hB1⟩; have HB0 := Lib.hid (show Builds w.heap.size w1.heap.size (Lib.byteCells []) (w1.alloc (.cells #[.pointer none, .slice none 0 0] 118)) from .inl ⟨hB1.size, .slice none 0 0, World.alloc_heap_new w1 _, World.ownsRow_nil _ _ _ _, by simp [Value.ownBlock]⟩); have hBa := bel_alloc hB1 (.cells #[.pointer none, .slice none 0 0] 118)))
      | (go_at_call 71; ((with_reducible refine (GP.out _ hl0 _).mono ?_); rintro e w2 ⟨rfl, hB2⟩; have HB2 := Lib.hid (Builds.kept HB0.out hB2); have hBb := bel2 hBa hB2))
      | (go_at_call 70; ((with_reducible refine (GW.out _ _ ?h1 [] ?h2 _ HB2.out hBb.size).mono ?_); (case h1 => omega); (case h2 => exact Nat.zero_le _); rintro e w3 ⟨⟨x3, rfl⟩, h3, hB3⟩; have HB3 := Lib.hid h3; have hBc := hBb.trans hB3; clear h3)))
    have hb1 := hB1.size
    generalize w1.heap.size = b at *
    clear hB1 hBa hB2 HB0 HB2 hBb hB3
    go_loopw [19] (fun si wr => ∃ k : Nat, k ≤ len ∧ si = .int .i64 k ∧ Builds w.heap.size b (Lib.byteCells (sevL len ++ (zs.take k).flatMap fun x => sevL x.toNat)) wr ∧ Below w.heap.size w wr) (fun si _ => len - (intOf si).toNat)
    case atStart => exact ⟨0, by omega, rfl, by simpa using HB3.out, hBc⟩
    case round =>
      obtain ⟨k, hk, rfl, hBu, hB⟩ := hrel
      have HBu := Lib.hid hBu
      clear hBu
      by_cases hlt : k < len
      · obtain ⟨bb, off, rfl, hbb, hcc⟩ := hc (by omega)
        have hkl : k < zs.length := by rw [HL.out]; exact hlt
        have c := (hB.cell (p := ⟨bb, off + k, none⟩) hbb).trans (hcc k hkl)
        have hki : (k : Int) < (len : Int) := by omega
        have HTk := Lib.hid (show (sevL len ++ (zs.take (k + 1)).flatMap fun x => sevL x.toNat) = (sevL len ++ (zs.take k).flatMap fun x => sevL x.toNat) ++ sevL zs[k].toNat by rw [HT.out k hkl, List.append_assoc])
        have hx := hbd.out zs[k] (List.getElem_mem _)
        have hfl := HFl.out k
        generalize zs[k] = x at *
        have hx9 : x < 9223372036854775808 := by omega
        have hsx := sevL_len x.toNat
        have hpre : (sevL len ++ (zs.take k).flatMap fun x => sevL x.toNat).length ≤ 10000 := by rw [List.length_append]; omega
        generalize (sevL len ++ (zs.take k).flatMap fun x => sevL x.toNat) = pre at *
        have hszw := hB.size
        clear hcc hc
        go_wp2_with (first
          | (go_at_call 71; ((with_reducible refine (GP.out _ hx9 _).mono ?_); rintro e w4 ⟨rfl, hB4⟩; have HB4 := Lib.hid (Builds.kept HBu.out hB4); have hBd := bel2 hB hB4))
          | (go_at_call 70; ((with_reducible refine (GW.out _ _ ?h1 _ hpre _ HB4.out hBd.size).mono ?_); (case h1 => omega); rintro e w5 ⟨⟨x5, rfl⟩, h5, hB5⟩; have HB5 := Lib.hid h5; clear h5)))
        go_roundw
        case rel => exact ⟨k + 1, by omega, by go_num, by rw [HTk.out]; exact HB5.out, hBd.trans hB5⟩
        case measure => simp [intOf]; omega
      · obtain rfl : k = len := by omega
        have hbf : BuiltF w.heap.size b SL wr := by
          have h1 := HBu.out
          rw [List.take_of_length_le (by rw [HL.out]; exact Nat.le_refl _), ← HEnd.out] at h1
          exact .of h1 Hne.out
        have HBf := Lib.hid hbf
        clear hlt hk hc hbf
        go_wp2_with (first
          | (go_at_call 74; ((with_reducible refine (string_fz _ _ _ _ HBf.out Hne.out).mono ?_); rintro e w6 ⟨rfl, h6, hB6⟩; have HB6 := Lib.hid h6; clear HBf h6))
          | (go_at_call 73; ((with_reducible refine (GO.out _).mono ?_); rintro e w7 ⟨rfl, hB7⟩; have HB7 := Lib.hid (HB6.out.below hB7); clear HB6))
          | (go_at_call 72; ((with_reducible refine (GF.out _).mono ?_); rintro e w8 ⟨rfl, hB8⟩; have HB8 := Lib.hid (HB7.out.below hB8); clear HB7))
          | (go_at_call 74; ((with_reducible refine (string_fz _ _ _ _ HB8.out Hne.out).mono ?_); rintro e w9 ⟨rfl, h9, hB9⟩; clear HB8 h9)))
        go_ret2
        rw [HE.out.1, HE.out.2]
        refine ⟨rfl, ?_⟩
        have h1 := hB.trans hB6
        have h2 := h1.trans (hB7.mono h1.size)
        exact (h2.trans (hB8.mono h2.size)).trans hB9

end Go.Proofs.YtoieacmipejfeaaGreatDoor

/- sheet.numbers, sheet.Read. -/
namespace Go.Proofs.YtoieacmipejfeaaGreatDoor
open Go.RowKit Go.Shelf
set_option linter.unusedVariables false
attribute [local go_sem] Oper.semAt_some wide_fn wide_round_fn

/-- At most n numbers that stand in l, one behind the other. -/
def nums : Nat → List UInt8 → List Nat
  | 0, _ => []
  | n + 1, l => if (getL l).2.2 = 0 then (getL l).1 :: nums n (l.drop (getL l).2.1) else []
theorem nums_len : ∀ (n : Nat) (l : List UInt8), (nums n l).length ≤ n
  | 0, _ => Nat.le_refl _
  | n + 1, l => by
    unfold nums
    split
    · have := nums_len n (l.drop (getL l).2.1)
      rw [List.length_cons]; omega
    · exact Nat.zero_le _
theorem nums_bd : ∀ (n : Nat) (l : List UInt8), ∀ x ∈ nums n l, x < 9223372036854775808
  | 0, _, _, h => by cases h
  | n + 1, l, x, h => by
    unfold nums at h
    split at h
    · rcases List.mem_cons.1 h with rfl | h
      · exact (getL_bound l).1
      · exact nums_bd n _ x h
    · cases h
theorem drop_ba (L : ByteArray) (k : Nat) : (L.extract k L.size).data.toList = L.data.toList.drop k := by
  simp only [ByteArray.data_extract, Array.toList_extract, List.extract_eq_take_drop]
  rw [List.take_of_length_le]
  rw [List.length_drop, Array.length_toList]
  exact Nat.le_refl _
/-- What a sheet's bytes tell: the numbers; whether it is one. -/
def rdG (s : ByteArray) : Nat × Nat × Nat := getL (s.data.toList.drop 4)
def rdL (s : ByteArray) : List Int := (nums (rdG s).1 (s.data.toList.drop (4 + (rdG s).2.1))).map Int.ofNat
def rdHead (s : ByteArray) : Bool := decide (4 ≤ s.size) && decide ((rdG s).2.2 = 0) && decide ((rdG s).1 ≤ 200)
def rdOk (s : ByteArray) : Bool := rdHead s && shB (rdL s) && decide (shY (rdL s) = s)
def ReadPostS (w : World) (s : ByteArray) (e : Ending) (w' : World) : Prop := ∃ v, e = .returned (.tuple #[v, .int .i64 (if rdOk s then 0 else 21)]) ∧ w'.ownsRow w.heap.size 3 1 v (if rdOk s then rdL s else []).length (intsV (if rdOk s then rdL s else [])) ∧ Below w.heap.size w w'
theorem rd_no {w w' : World} {s : ByteArray} (h : rdOk s = false) (hB : Below w.heap.size w w') : ReadPostS w s (.returned (.tuple #[.slice none 0 0, .int .i64 21])) w' := by
  unfold ReadPostS
  rw [h]
  exact ⟨_, rfl, World.ownsRow_nil _ _ _ _, hB⟩
theorem infoIntS : (Tryz.prog.info? 3).map (fun i => (i.zero, i.size, i.bytes)) = some (some (.int .i64 0), 1, 8) := by kernel_rfl
end Go.Proofs.YtoieacmipejfeaaGreatDoor

/- sheet.Read at whatever bytes. -/
namespace Go.Proofs.YtoieacmipejfeaaGreatDoor
open Go.RowKit Go.Shelf
set_option linter.unusedVariables false
attribute [local go_sem] Oper.semAt_some wide_fn wide_round_fn

theorem own_baseS {W : World} {B B' : Nat} {e : TypeId} {sz n : Nat} {v : Value} {xs : List Value} (h : W.ownsRow B e sz v n xs) (hB : B' ≤ B) : W.ownsRow B' e sz v n xs := by
  refine ⟨h.1, ?_⟩
  rcases h.2 with h2 | ⟨g, cap, cur, hv, hb, r⟩
  · exact .inl h2
  · exact .inr ⟨g, cap, cur, hv, Nat.le_trans hB hb, r⟩
theorem own_shutS {W : World} {base : Nat} {e : TypeId} {size : Nat} {v : Value} {k : Nat} {xs : List Value} (h : W.ownsRow base e size v k xs) {D : Nat} {o : Obj} (hD : W.heap[D]? = some o) (hc : o.isCells = false) (o' : Obj) : (W.putObj D o').ownsRow base e size v k xs := by
  refine ⟨h.1, ?_⟩
  rcases h.2 with h2 | ⟨g, cap, cur, hv, hg, hh, r⟩
  · exact .inl h2
  · refine .inr ⟨g, cap, cur, hv, hg, (World.putObj_heap_other (fun e => ?_)).trans hh, r⟩
    rw [e, hD] at hh
    cases hh
    cases hc
theorem intsV_snoc (l : List Nat) (x : Nat) : intsV ((l ++ [x]).map Int.ofNat) = intsV (l.map Int.ofNat) ++ [.int .i64 x] := by simp [intsV]
end Go.Proofs.YtoieacmipejfeaaGreatDoor

/- ladelaw9.same; sheet.Load, sheet.Save. -/
namespace Go.Proofs.YtoieacmipejfeaaGreatDoor
open Go.RowKit Go.Shelf
set_option linter.unusedVariables false
attribute [local go_sem] Oper.semAt_some wide_fn wide_round_fn

/-! ### Load -/
def shN : ByteArray := ⟨#[115, 104, 101, 101, 116]⟩
def loE (D : PD) : Int := if askE D ⟨#[115, 104, 101, 101, 116]⟩ ≠ 0 then askE D ⟨#[115, 104, 101, 101, 116]⟩ else if rdOk (readB D ⟨#[115, 104, 101, 101, 116]⟩) then 0 else 21
def loL (D : PD) : List Int := if askE D ⟨#[115, 104, 101, 101, 116]⟩ = 0 ∧ rdOk (readB D ⟨#[115, 104, 101, 101, 116]⟩) = true then rdL (readB D ⟨#[115, 104, 101, 101, 116]⟩) else []
theorem get_mem {D : PD} {s : ByteArray} {f : PF} (h : getK PF.n D.L s = some f) : f.b.length ≤ usedL D.L := used_mem (getK_some h).1
theorem read_size (D : PD) (s : ByteArray) : (readB D s).size ≤ usedL D.L := by
  unfold readB
  split
  · cases h : getK PF.n D.L s with
    | none => exact Nat.zero_le _
    | some f => show f.b.toArray.size ≤ _; have := get_mem h; simpa using this
  · exact Nat.zero_le _
/-! ### Save -/
def sa1 (D : PD) : PD := removeD D ⟨#[115, 104, 101, 101, 116, 46, 110, 101, 119]⟩
def sa2 (D : PD) : PD := createD (sa1 D) ⟨#[115, 104, 101, 101, 116, 46, 110, 101, 119]⟩
def sa3 (D : PD) (b : ByteArray) : PD := appendD (sa2 D) ⟨#[115, 104, 101, 101, 116, 46, 110, 101, 119]⟩ b
def sa4 (D : PD) (b : ByteArray) : PD := syncD (sa3 D b) ⟨#[115, 104, 101, 101, 116, 46, 110, 101, 119]⟩
def sa5 (D : PD) (b : ByteArray) : PD := renameD (sa4 D b) ⟨#[115, 104, 101, 101, 116, 46, 110, 101, 119]⟩ ⟨#[115, 104, 101, 101, 116]⟩
def saB (D : PD) (b : ByteArray) : PD × Int :=
  if askE D ⟨#[115, 104, 101, 101, 116, 46, 110, 101, 119]⟩ = 18 then (D, 18)
  else if createE (sa1 D) ⟨#[115, 104, 101, 101, 116, 46, 110, 101, 119]⟩ ≠ 0 then (sa2 D, createE (sa1 D) ⟨#[115, 104, 101, 101, 116, 46, 110, 101, 119]⟩)
  else if appendE (sa2 D) ⟨#[115, 104, 101, 101, 116, 46, 110, 101, 119]⟩ b ≠ 0 then (sa3 D b, appendE (sa2 D) ⟨#[115, 104, 101, 101, 116, 46, 110, 101, 119]⟩ b)
  else if askE (sa3 D b) ⟨#[115, 104, 101, 101, 116, 46, 110, 101, 119]⟩ ≠ 0 then (sa4 D b, askE (sa3 D b) ⟨#[115, 104, 101, 101, 116, 46, 110, 101, 119]⟩)
  else (sa5 D b, askE (sa4 D b) ⟨#[115, 104, 101, 101, 116, 46, 110, 101, 119]⟩)
def saR (D : PD) (l : List Int) : PD × Int := if shB l then saB D (shY l) else (D, 11)
theorem askE_cases (D : PD) (s : ByteArray) : askE D s = 0 ∨ askE D s = 18 ∨ askE D s = 19 := by
  by_cases h : askE D s = 0
  · exact .inl h
  · exact .inr (askE_ne h)
theorem shY_size (l : List Int) : (shY l).size ≤ 2000 := by
  unfold shY
  split
  · rename_i h
    show (shS l).toArray.size ≤ _
    simp only [List.size_toArray]
    unfold shS
    rw [List.length_append]
    have h1 := shL_len (l := l)
    have h2 : (eigL (crcM 0#32 (shL l)).toNat).length = 4 := rfl
    have h3 : l.length ≤ 200 := by unfold shB at h; simp only [Bool.and_eq_true, decide_eq_true_eq] at h; exact h.1.2
    omega
  · exact Nat.zero_le _
set_option maxRecDepth 100000 in
set_option maxHeartbeats 4000000 in
theorem saveO {w W : World} {d n : Nat} {D : PD} (h : One w d D W) (hf : Fit D n) (hn : n ≤ 900000) (a : Option Addr) (len cap : Nat) (zs : List Int) (hz : RowI .i64 W a len zs) : Calls Tryz.prog 42 #[.pointer (some ⟨d, 0, none⟩), .slice a len cap] W fun e w' => e = .returned (.int .i64 (saR D zs).2) ∧ One w d (saR D zs).1 w' := by
  have GB := Lib.hid (shBytes_any a len cap zs W hz)
  have HO := Lib.hid h
  unfold Gives at GB
  have hp := h.ris
  cases hs : shB zs
  · have HR := Lib.hid (show saR D zs = (D, 11) by unfold saR; rw [hs]; rfl)
    have hE : shE zs = 11 := by unfold shE; rw [hs]; rfl
    rw [hE] at GB
    generalize shY zs = b at *
    clear h hf hz hs hE hp
    go_enter Tryz.func42, Tryz.ntmps42
    go_wp2_with (go_at_call 59; ((with_reducible refine GB.out.mono ?_); rintro e w1 ⟨rfl, hB1⟩; have hO0 := One.below HO.out hB1))
    go_ret
    rw [HR.out]
    exact ⟨rfl, hO0⟩
  · have hR : saR D zs = saB D (shY zs) := by unfold saR; rw [hs]; rfl
    have hE : shE zs = 0 := by unfold shE; rw [hs]; rfl
    have hbs := shY_size zs
    rw [hE] at GB
    rw [hR]
    generalize shY zs = b at *
    clear hz hs hE hR
    have hf1 : Fit (sa1 D) (n + 1) := hf.remove _
    have hf2 : Fit (sa2 D) (n + 2) := hf1.create _
    have G1 := Lib.hid (fun W1 (h1 : One w d D W1) => (show Calls Tryz.prog 43 #[.pointer (some ⟨d, 0, none⟩), .string ⟨#[115, 104, 101, 101, 116, 46, 110, 101, 119]⟩] W1 fun e w' => e = .returned (.int .i64 (askE D ⟨#[115, 104, 101, 101, 116, 46, 110, 101, 119]⟩)) ∧ One w d (sa1 D) w' from removeO h1 hf (by omega) ⟨#[115, 104, 101, 101, 116, 46, 110, 101, 119]⟩ (by decide)))
    have G2 := Lib.hid (fun W1 (h1 : One w d (sa1 D) W1) => (show Calls Tryz.prog 29 #[.pointer (some ⟨d, 0, none⟩), .string ⟨#[115, 104, 101, 101, 116, 46, 110, 101, 119]⟩] W1 fun e w' => e = .returned (.int .i64 (createE (sa1 D) ⟨#[115, 104, 101, 101, 116, 46, 110, 101, 119]⟩)) ∧ One w d (sa2 D) w' from createO h1 hf1 (by omega) ⟨#[115, 104, 101, 101, 116, 46, 110, 101, 119]⟩ (by decide)))
    have G3 := Lib.hid (fun W1 (h1 : One w d (sa2 D) W1) => (show Calls Tryz.prog 30 #[.pointer (some ⟨d, 0, none⟩), .string ⟨#[115, 104, 101, 101, 116, 46, 110, 101, 119]⟩, .string b] W1 fun e w' => e = .returned (.int .i64 (appendE (sa2 D) ⟨#[115, 104, 101, 101, 116, 46, 110, 101, 119]⟩ b)) ∧ One w d (sa3 D b) w' from appendO h1 hf2 (by omega) ⟨#[115, 104, 101, 101, 116, 46, 110, 101, 119]⟩ b (by decide) (by omega)))
    have G4 := Lib.hid (fun W1 (h1 : One w d (sa3 D b) W1) (hf3 : Fit (sa3 D b) (n + 3)) => (show Calls Tryz.prog 39 #[.pointer (some ⟨d, 0, none⟩), .string ⟨#[115, 104, 101, 101, 116, 46, 110, 101, 119]⟩] W1 fun e w' => e = .returned (.int .i64 (askE (sa3 D b) ⟨#[115, 104, 101, 101, 116, 46, 110, 101, 119]⟩)) ∧ One w d (sa4 D b) w' from syncO h1 hf3 (by omega) ⟨#[115, 104, 101, 101, 116, 46, 110, 101, 119]⟩ (by decide)))
    have G5 := Lib.hid (fun W1 (h1 : One w d (sa4 D b) W1) (hf4 : Fit (sa4 D b) (n + 4)) => (show Calls Tryz.prog 60 #[.pointer (some ⟨d, 0, none⟩), .string ⟨#[115, 104, 101, 101, 116, 46, 110, 101, 119]⟩, .string ⟨#[115, 104, 101, 101, 116]⟩] W1 fun e w' => e = .returned (.int .i64 (askE (sa4 D b) ⟨#[115, 104, 101, 101, 116, 46, 110, 101, 119]⟩)) ∧ One w d (sa5 D b) w' from renameO h1 hf4 (by omega) ⟨#[115, 104, 101, 101, 116, 46, 110, 101, 119]⟩ ⟨#[115, 104, 101, 101, 116]⟩ (by decide) (by decide)))
    have HF2 := Lib.hid hf2
    clear h hf hf1 hf2 hp
    rcases askE_cases D ⟨#[115, 104, 101, 101, 116, 46, 110, 101, 119]⟩ with e1 | e1 | e1
    · by_cases e2 : createE (sa1 D) ⟨#[115, 104, 101, 101, 116, 46, 110, 101, 119]⟩ = 0
      · by_cases e3 : appendE (sa2 D) ⟨#[115, 104, 101, 101, 116, 46, 110, 101, 119]⟩ b = 0
        · by_cases e4 : askE (sa3 D b) ⟨#[115, 104, 101, 101, 116, 46, 110, 101, 119]⟩ = 0
          · have HR := Lib.hid (show saB D b = (sa5 D b, askE (sa4 D b) ⟨#[115, 104, 101, 101, 116, 46, 110, 101, 119]⟩) by unfold saB; rw [if_neg (by rw [e1]; decide), if_neg (by simp [e2]), if_neg (by simp [e3]), if_neg (by simp [e4])])
            rw [e1] at G1
            rw [e2] at G2
            rw [e3] at G3
            rw [e4] at G4
            generalize askE (sa4 D b) ⟨#[115, 104, 101, 101, 116, 46, 110, 101, 119]⟩ = e5 at *
            clear e1 e2 e3 e4
            go_enter Tryz.func42, Tryz.ntmps42
            go_wp2_with (first
              | (go_at_call 59; ((with_reducible refine GB.out.mono ?_); rintro e w1 ⟨rfl, hB1⟩; have hO0 := One.below HO.out hB1))
              | (go_at_call 43; ((with_reducible refine (G1.out _ hO0).mono ?_); rintro e w2 ⟨rfl, hO1⟩; clear hO0))
              | (go_at_call 29; ((with_reducible refine (G2.out _ hO1).mono ?_); rintro e w3 ⟨rfl, hO2⟩; clear hO1))
              | (go_at_call 30; ((with_reducible refine (G3.out _ hO2).mono ?_); rintro e w4 ⟨rfl, hO3⟩; have hf3 := Lib.hid (show Fit (sa3 D b) (n + 3) from HF2.out.append (ris_names (One.ris hO2)) ⟨#[115, 104, 101, 101, 116, 46, 110, 101, 119]⟩ b); clear hO2))
              | (go_at_call 39; ((with_reducible refine (G4.out _ hO3 hf3.out).mono ?_); rintro e w5 ⟨rfl, hO4⟩; have hf4 := Lib.hid (show Fit (sa4 D b) (n + 4) from hf3.out.sync ⟨#[115, 104, 101, 101, 116, 46, 110, 101, 119]⟩); clear hO3))
              | (go_at_call 60; ((with_reducible refine (G5.out _ hO4 hf4.out).mono ?_); rintro e w6 ⟨rfl, hO5⟩; clear hO4)))
            go_ret
            rw [HR.out]
            exact ⟨rfl, hO5⟩
          · have HR := Lib.hid (show saB D b = (sa4 D b, askE (sa3 D b) ⟨#[115, 104, 101, 101, 116, 46, 110, 101, 119]⟩) by unfold saB; rw [if_neg (by rw [e1]; decide), if_neg (by simp [e2]), if_neg (by simp [e3]), if_pos e4])
            rw [e1] at G1
            rw [e2] at G2
            rw [e3] at G3
            generalize askE (sa3 D b) ⟨#[115, 104, 101, 101, 116, 46, 110, 101, 119]⟩ = er at *
            clear e1 e2 e3 G5
            go_enter Tryz.func42, Tryz.ntmps42
            go_wp2_with (first
              | (go_at_call 59; ((with_reducible refine GB.out.mono ?_); rintro e w1 ⟨rfl, hB1⟩; have hO0 := One.below HO.out hB1))
              | (go_at_call 43; ((with_reducible refine (G1.out _ hO0).mono ?_); rintro e w2 ⟨rfl, hO1⟩; clear hO0))
              | (go_at_call 29; ((with_reducible refine (G2.out _ hO1).mono ?_); rintro e w3 ⟨rfl, hO2⟩; clear hO1))
              | (go_at_call 30; ((with_reducible refine (G3.out _ hO2).mono ?_); rintro e w4 ⟨rfl, hO3⟩; have hf3 := Lib.hid (show Fit (sa3 D b) (n + 3) from HF2.out.append (ris_names (One.ris hO2)) ⟨#[115, 104, 101, 101, 116, 46, 110, 101, 119]⟩ b); clear hO2))
              | (go_at_call 39; ((with_reducible refine (G4.out _ hO3 hf3.out).mono ?_); rintro e w5 ⟨rfl, hO4⟩; have hf4 := Lib.hid (show Fit (sa4 D b) (n + 4) from hf3.out.sync ⟨#[115, 104, 101, 101, 116, 46, 110, 101, 119]⟩); clear hO3)))
            go_ret
            rw [HR.out]
            exact ⟨rfl, hO4⟩
        · have HR := Lib.hid (show saB D b = (sa3 D b, appendE (sa2 D) ⟨#[115, 104, 101, 101, 116, 46, 110, 101, 119]⟩ b) by unfold saB; rw [if_neg (by rw [e1]; decide), if_neg (by simp [e2]), if_pos e3])
          rw [e1] at G1
          rw [e2] at G2
          generalize appendE (sa2 D) ⟨#[115, 104, 101, 101, 116, 46, 110, 101, 119]⟩ b = er at *
          clear e1 e2 G4 G5
          go_enter Tryz.func42, Tryz.ntmps42
          go_wp2_with (first
            | (go_at_call 59; ((with_reducible refine GB.out.mono ?_); rintro e w1 ⟨rfl, hB1⟩; have hO0 := One.below HO.out hB1))
            | (go_at_call 43; ((with_reducible refine (G1.out _ hO0).mono ?_); rintro e w2 ⟨rfl, hO1⟩; clear hO0))
            | (go_at_call 29; ((with_reducible refine (G2.out _ hO1).mono ?_); rintro e w3 ⟨rfl, hO2⟩; clear hO1))
            | (go_at_call 30; ((with_reducible refine (G3.out _ hO2).mono ?_); rintro e w4 ⟨rfl, hO3⟩; have hf3 := Lib.hid (show Fit (sa3 D b) (n + 3) from HF2.out.append (ris_names (One.ris hO2)) ⟨#[115, 104, 101, 101, 116, 46, 110, 101, 119]⟩ b); clear hO2)))
          go_ret
          rw [HR.out]
          exact ⟨rfl, hO3⟩
      · have HR := Lib.hid (show saB D b = (sa2 D, createE (sa1 D) ⟨#[115, 104, 101, 101, 116, 46, 110, 101, 119]⟩) by unfold saB; rw [if_neg (by rw [e1]; decide), if_pos e2])
        rw [e1] at G1
        generalize createE (sa1 D) ⟨#[115, 104, 101, 101, 116, 46, 110, 101, 119]⟩ = er at *
        clear e1 G3 G4 G5
        go_enter Tryz.func42, Tryz.ntmps42
        go_wp2_with (first
          | (go_at_call 59; ((with_reducible refine GB.out.mono ?_); rintro e w1 ⟨rfl, hB1⟩; have hO0 := One.below HO.out hB1))
          | (go_at_call 43; ((with_reducible refine (G1.out _ hO0).mono ?_); rintro e w2 ⟨rfl, hO1⟩; clear hO0))
          | (go_at_call 29; ((with_reducible refine (G2.out _ hO1).mono ?_); rintro e w3 ⟨rfl, hO2⟩; clear hO1)))
        go_ret
        rw [HR.out]
        exact ⟨rfl, hO2⟩
    · have HR := Lib.hid (show saB D b = (D, 18) by unfold saB; rw [if_pos e1])
      have HS := Lib.hid (show sa1 D = D by unfold sa1 removeD; rw [if_neg (by rw [e1]; decide)])
      rw [e1] at G1
      clear e1 G2 G3 G4 G5
      go_enter Tryz.func42, Tryz.ntmps42
      go_wp2_with (first
        | (go_at_call 59; ((with_reducible refine GB.out.mono ?_); rintro e w1 ⟨rfl, hB1⟩; have hO0 := One.below HO.out hB1))
        | (go_at_call 43; ((with_reducible refine (G1.out _ hO0).mono ?_); rintro e w2 ⟨rfl, hO1⟩; clear hO0)))
      go_ret
      rw [HR.out]
      exact ⟨rfl, by have := hO1; rwa [HS.out] at this⟩
    · by_cases e2 : createE (sa1 D) ⟨#[115, 104, 101, 101, 116, 46, 110, 101, 119]⟩ = 0
      · by_cases e3 : appendE (sa2 D) ⟨#[115, 104, 101, 101, 116, 46, 110, 101, 119]⟩ b = 0
        · by_cases e4 : askE (sa3 D b) ⟨#[115, 104, 101, 101, 116, 46, 110, 101, 119]⟩ = 0
          · have HR := Lib.hid (show saB D b = (sa5 D b, askE (sa4 D b) ⟨#[115, 104, 101, 101, 116, 46, 110, 101, 119]⟩) by unfold saB; rw [if_neg (by rw [e1]; decide), if_neg (by simp [e2]), if_neg (by simp [e3]), if_neg (by simp [e4])])
            rw [e1] at G1
            rw [e2] at G2
            rw [e3] at G3
            rw [e4] at G4
            generalize askE (sa4 D b) ⟨#[115, 104, 101, 101, 116, 46, 110, 101, 119]⟩ = e5 at *
            clear e1 e2 e3 e4
            go_enter Tryz.func42, Tryz.ntmps42
            go_wp2_with (first
              | (go_at_call 59; ((with_reducible refine GB.out.mono ?_); rintro e w1 ⟨rfl, hB1⟩; have hO0 := One.below HO.out hB1))
              | (go_at_call 43; ((with_reducible refine (G1.out _ hO0).mono ?_); rintro e w2 ⟨rfl, hO1⟩; clear hO0))
              | (go_at_call 29; ((with_reducible refine (G2.out _ hO1).mono ?_); rintro e w3 ⟨rfl, hO2⟩; clear hO1))
              | (go_at_call 30; ((with_reducible refine (G3.out _ hO2).mono ?_); rintro e w4 ⟨rfl, hO3⟩; have hf3 := Lib.hid (show Fit (sa3 D b) (n + 3) from HF2.out.append (ris_names (One.ris hO2)) ⟨#[115, 104, 101, 101, 116, 46, 110, 101, 119]⟩ b); clear hO2))
              | (go_at_call 39; ((with_reducible refine (G4.out _ hO3 hf3.out).mono ?_); rintro e w5 ⟨rfl, hO4⟩; have hf4 := Lib.hid (show Fit (sa4 D b) (n + 4) from hf3.out.sync ⟨#[115, 104, 101, 101, 116, 46, 110, 101, 119]⟩); clear hO3))
              | (go_at_call 60; ((with_reducible refine (G5.out _ hO4 hf4.out).mono ?_); rintro e w6 ⟨rfl, hO5⟩; clear hO4)))
            go_ret
            rw [HR.out]
            exact ⟨rfl, hO5⟩
          · have HR := Lib.hid (show saB D b = (sa4 D b, askE (sa3 D b) ⟨#[115, 104, 101, 101, 116, 46, 110, 101, 119]⟩) by unfold saB; rw [if_neg (by rw [e1]; decide), if_neg (by simp [e2]), if_neg (by simp [e3]), if_pos e4])
            rw [e1] at G1
            rw [e2] at G2
            rw [e3] at G3
            generalize askE (sa3 D b) ⟨#[115, 104, 101, 101, 116, 46, 110, 101, 119]⟩ = er at *
            clear e1 e2 e3 G5
            go_enter Tryz.func42, Tryz.ntmps42
            go_wp2_with (first
              | (go_at_call 59; ((with_reducible refine GB.out.mono ?_); rintro e w1 ⟨rfl, hB1⟩; have hO0 := One.below HO.out hB1))
              | (go_at_call 43; ((with_reducible refine (G1.out _ hO0).mono ?_); rintro e w2 ⟨rfl, hO1⟩; clear hO0))
              | (go_at_call 29; ((with_reducible refine (G2.out _ hO1).mono ?_); rintro e w3 ⟨rfl, hO2⟩; clear hO1))
              | (go_at_call 30; ((with_reducible refine (G3.out _ hO2).mono ?_); rintro e w4 ⟨rfl, hO3⟩; have hf3 := Lib.hid (show Fit (sa3 D b) (n + 3) from HF2.out.append (ris_names (One.ris hO2)) ⟨#[115, 104, 101, 101, 116, 46, 110, 101, 119]⟩ b); clear hO2))
              | (go_at_call 39; ((with_reducible refine (G4.out _ hO3 hf3.out).mono ?_); rintro e w5 ⟨rfl, hO4⟩; have hf4 := Lib.hid (show Fit (sa4 D b) (n + 4) from hf3.out.sync ⟨#[115, 104, 101, 101, 116, 46, 110, 101, 119]⟩); clear hO3)))
            go_ret
            rw [HR.out]
            exact ⟨rfl, hO4⟩
        · have HR := Lib.hid (show saB D b = (sa3 D b, appendE (sa2 D) ⟨#[115, 104, 101, 101, 116, 46, 110, 101, 119]⟩ b) by unfold saB; rw [if_neg (by rw [e1]; decide), if_neg (by simp [e2]), if_pos e3])
          rw [e1] at G1
          rw [e2] at G2
          generalize appendE (sa2 D) ⟨#[115, 104, 101, 101, 116, 46, 110, 101, 119]⟩ b = er at *
          clear e1 e2 G4 G5
          go_enter Tryz.func42, Tryz.ntmps42
          go_wp2_with (first
            | (go_at_call 59; ((with_reducible refine GB.out.mono ?_); rintro e w1 ⟨rfl, hB1⟩; have hO0 := One.below HO.out hB1))
            | (go_at_call 43; ((with_reducible refine (G1.out _ hO0).mono ?_); rintro e w2 ⟨rfl, hO1⟩; clear hO0))
            | (go_at_call 29; ((with_reducible refine (G2.out _ hO1).mono ?_); rintro e w3 ⟨rfl, hO2⟩; clear hO1))
            | (go_at_call 30; ((with_reducible refine (G3.out _ hO2).mono ?_); rintro e w4 ⟨rfl, hO3⟩; have hf3 := Lib.hid (show Fit (sa3 D b) (n + 3) from HF2.out.append (ris_names (One.ris hO2)) ⟨#[115, 104, 101, 101, 116, 46, 110, 101, 119]⟩ b); clear hO2)))
          go_ret
          rw [HR.out]
          exact ⟨rfl, hO3⟩
      · have HR := Lib.hid (show saB D b = (sa2 D, createE (sa1 D) ⟨#[115, 104, 101, 101, 116, 46, 110, 101, 119]⟩) by unfold saB; rw [if_neg (by rw [e1]; decide), if_pos e2])
        rw [e1] at G1
        generalize createE (sa1 D) ⟨#[115, 104, 101, 101, 116, 46, 110, 101, 119]⟩ = er at *
        clear e1 G3 G4 G5
        go_enter Tryz.func42, Tryz.ntmps42
        go_wp2_with (first
          | (go_at_call 59; ((with_reducible refine GB.out.mono ?_); rintro e w1 ⟨rfl, hB1⟩; have hO0 := One.below HO.out hB1))
          | (go_at_call 43; ((with_reducible refine (G1.out _ hO0).mono ?_); rintro e w2 ⟨rfl, hO1⟩; clear hO0))
          | (go_at_call 29; ((with_reducible refine (G2.out _ hO1).mono ?_); rintro e w3 ⟨rfl, hO2⟩; clear hO1)))
        go_ret
        rw [HR.out]
        exact ⟨rfl, hO2⟩

end Go.Proofs.YtoieacmipejfeaaGreatDoor
