/- sheet.Bytes: a builder that is read twice. -/
import Derived.Test.YtieekahlknmkfaaSht
import Derived.Test.YtieekahlknmkfaaCodeMath
namespace Go.Proofs.Ytieekahlknmkfaa
open Go.RowKit Go.Shelf
set_option linter.unusedVariables false
attribute [local go_sem] Oper.semAt_some wide_fn wide_round_fn

/-- A builder whose bytes may bear a mark. -/
def BuiltF (B b : Nat) (l : List UInt8) (w : World) : Prop := ∃ p g cap cur fr, B ≤ b ∧ B ≤ g ∧ g ≠ b ∧ w.heap[b]? = some (.cells #[p, .slice (some ⟨g, 0, none⟩) l.length cap] 99 (0, 0)) ∧ w.heap[g]? = some (.cells cur 5 fr) ∧ l.length ≤ cap ∧ cap ≤ maxLen ∧ cur.size = cap ∧ cur.toList.take l.length = Lib.byteCells l
theorem BuiltF.of {B b : Nat} {l : List UInt8} {w : World} (h : Builds B b (Lib.byteCells l) w) (h0 : l ≠ []) : BuiltF B b l w := by
  obtain ⟨p, hB, v, hbk, hown, hne⟩ : ∃ p, BuiltAt B b p (Lib.byteCells l) w := by
    rcases h with h | h
    · exact ⟨_, h⟩
    · exact ⟨_, h⟩
  have hl0 : l.length ≠ 0 := by simpa using h0
  rw [Lib.byteCells_length] at hown
  rcases hown.2 with ⟨_, hz⟩ | ⟨g, cap, cur, hv, hg, hh, hn, hm, hs, ht⟩
  · exact absurd hz hl0
  · subst hv
    refine ⟨p, g, cap, cur, (0, 0), hB, hg, fun e => hne (by rw [e]; rfl), hbk, hh, hn, hm, by omega, by rw [Nat.mul_one] at ht; exact ht⟩
theorem BuiltF.below {B b : Nat} {l : List UInt8} {w w' : World} (h : BuiltF B b l w) (hB : Below w.heap.size w w') : BuiltF B b l w' := by
  obtain ⟨p, g, cap, cur, fr, h1, h2, h3, h4, h5, r⟩ := h
  exact ⟨p, g, cap, cur, fr, h1, h2, h3, (hB.block b (Array.getElem?_eq_some_iff.1 h4).1).trans h4, (hB.block g (Array.getElem?_eq_some_iff.1 h5).1).trans h5, r⟩
theorem freeze_at {w : World} {g n : Nat} {cur : Array Value} {T : TypeId} {fr : Nat × Nat} (h : w.heap[g]? = some (.cells cur T fr)) : ∃ fr', (w.freeze ⟨g, 0, none⟩ n).heap[g]? = some (.cells cur T fr') := by
  obtain ⟨lo, hi⟩ := fr
  unfold World.freeze
  split
  · exact ⟨(lo, hi), h⟩
  · refine ⟨if lo == hi then (0, 0 + n) else (min lo 0, max hi (0 + n)), ?_⟩
    simp only [Array.getElem?_modify]
    rw [if_pos trivial, h]
    rfl
theorem freeze_other {w : World} {g n k : Nat} (h : g ≠ k) : (w.freeze ⟨g, 0, none⟩ n).heap[k]? = w.heap[k]? := by
  unfold World.freeze
  split
  · rfl
  · simp only [Array.getElem?_modify]
    rw [if_neg h]
set_option maxHeartbeats 1000000 in
set_option maxRecDepth 100000 in
theorem string_fz (B b : Nat) (l : List UInt8) (w : World) (h : BuiltF B b l w) (h0 : l ≠ []) :
    Calls Try.prog 68 #[.pointer (some ⟨b, 0, none⟩)] w fun e w' => e = .returned (.string ⟨l.toArray⟩) ∧ BuiltF B b l w' ∧ Below B w w' := by
  obtain ⟨p, g, cap, cur, fr, hB, hbg, hgb, hbk, hg, hnc, hcm, hcs, htake⟩ := h
  have hl0 : l.length ≠ 0 := by simpa using h0
  have hg' : w.drew.heap[g]? = some (.cells cur 5 fr) := hg
  have c1 : w.drew.cell? ⟨b, 1, none⟩ = some (.slice (some ⟨g, 0, none⟩) l.length cap) := by
    have : w.drew.heap[b]? = some (.cells #[p, .slice (some ⟨g, 0, none⟩) l.length cap] 99 (0, 0)) := hbk
    rw [Lib.cell_of_heap this]; rfl
  have hSD : (Builtin.unsafeSliceData_ #[64] 127 #[.slice (some ⟨g, 0, none⟩) l.length cap]).run Try.prog w.drew = .ok (.pointer (some ⟨g, 0, none⟩)) w.drew :=
    Lib.run_unsafeSliceData_row _ _ _ _ _ _ (by omega)
  have hUS : (Builtin.unsafeString_ #[127, 3] 9 #[.pointer (some ⟨g, 0, none⟩), .int .i64 l.length]).run Try.prog w.drew = .ok (.string ⟨l.toArray⟩) (w.drew.freeze ⟨g, 0, none⟩ l.length) := by
    refine Lib.run_unsafeString_row w.drew 127 3 9 5 Try.underlying127 bldExtra.cellsByte g cur.size (by simp [World.shape?, hg']) l h0 (by omega) (by unfold maxLen at hcm; omega) ?_
    intro j x hx
    have hj : j < l.length := (List.getElem?_eq_some_iff.1 hx).1
    rw [add_off, Nat.zero_add, Lib.cell_of_heap hg']
    have : cur[j]? = (cur.toList.take l.length)[j]? := by rw [List.getElem?_take_of_lt hj]; simp
    rw [this, htake]
    simp [Lib.byteCells, hx]
  obtain ⟨fr', hfr⟩ := freeze_at (n := l.length) hg'
  have hob := freeze_other (w := w.drew) (n := l.length) hgb
  have HE := Lib.hid (show BuiltF B b l (w.drew.freeze ⟨g, 0, none⟩ l.length) ∧ Below B w (w.drew.freeze ⟨g, 0, none⟩ l.length) from
    ⟨⟨p, g, cap, cur, fr', hB, hbg, hgb, hob.trans hbk, hfr, hnc, hcm, hcs, htake⟩, Lib.below_freeze (Below.drew (Below.refl B w)) (p := ⟨g, 0, none⟩) hbg l.length⟩)
  clear htake hg hg' hbk hfr hob
  go_enter Try.func68, Try.ntmps68
  go_wp2
  go_region
  all_goals (go_wp2; go_ret; exact ⟨rfl, HE.out⟩)
theorem byteCells_appS (l m : List UInt8) : Lib.byteCells (l ++ m) = Lib.byteCells l ++ Lib.byteCells m := by simp [Lib.byteCells]
theorem byteCells_lenS (l : List UInt8) : (Lib.byteCells l).length = l.length := by simp [Lib.byteCells]
theorem shL_take {zs : List Int} {k : Nat} (h : k < zs.length) : ((zs.take (k + 1)).flatMap fun x => sevL x.toNat) = ((zs.take k).flatMap fun x => sevL x.toNat) ++ sevL zs[k].toNat := by
  rw [List.take_succ_eq_append_getElem h, List.flatMap_append]; simp
theorem flat_lenS (m : List Int) : (m.flatMap fun x => sevL x.toNat).length ≤ 9 * m.length := by
  induction m with
  | nil => exact Nat.le_refl _
  | cons x r ih =>
    rw [List.flatMap_cons, List.length_append, List.length_cons]
    have := sevL_len x.toNat
    omega
theorem strCells_list (l : List UInt8) : Lib.strCells ⟨l.toArray⟩ = Lib.byteCells l := by simp [Lib.strCells, Lib.byteCells]
set_option maxRecDepth 100000 in
set_option maxHeartbeats 2000000 in
theorem shBytes_any (a : Option Addr) (len cap : Nat) (zs : List Int) (w : World) (h : RowI .i64 w a len zs) : Gives Try.prog 36 #[.slice a len cap] w (.tuple #[.string (shY zs), .int .i64 (shE zs)]) := by
  have GI := Lib.hid (shIs_any a len cap zs w h)
  unfold Gives
  cases hs : shB zs
  · have HE := Lib.hid (show shY zs = ⟨#[]⟩ ∧ shE zs = 11 by unfold shY shE; rw [hs]; exact ⟨rfl, rfl⟩)
    rw [hs] at GI
    clear h hs
    go_enter Try.func36, Try.ntmps36
    go_wp2_with (go_at_call 37; ((with_reducible refine GI.out.mono ?_); rintro e w1 ⟨rfl, hB1⟩))
    go_ret2
    rw [HE.out.1, HE.out.2]; exact ⟨rfl, hB1⟩
  · have HE := Lib.hid (show shY zs = ⟨(shS zs).toArray⟩ ∧ shE zs = 0 by unfold shY shE; rw [hs]; exact ⟨rfl, rfl⟩)
    rw [hs] at GI
    obtain ⟨hl, hm, hwf, hc⟩ := h
    have h200 : len ≤ 200 := by
      unfold shB at hs
      simp only [Bool.and_eq_true, decide_eq_true_eq] at hs
      omega
    have hA : isA 0 zs = true := by
      unfold shB at hs
      simp only [Bool.and_eq_true] at hs
      exact hs.2
    have hbd := Lib.hid (isA_bd hA)
    have HL := Lib.hid hl
    have GP := Lib.hid (fun (n : Int) (hn : n < 9223372036854775808) W => put_any n hn W)
    have hll := shL_len (l := zs)
    have hlz : (shL zs).length < 9223372036854775808 := by omega
    have hne : shL zs ≠ [] := by
      unfold shL
      intro e
      have h1 := congrArg List.length e
      rw [List.length_append, List.length_nil] at h1
      have h2 := sevL_pos zs.length
      omega
    have GO := Lib.hid (fun W => of_any ⟨(shL zs).toArray⟩ (by show (shL zs).toArray.size < _; simpa using hlz) W)
    have GF := Lib.hid (fun W => fixed_any (crcM 0#32 (shL zs)).toNat (crcM 0#32 (shL zs)).isLt W)
    have hcat : (⟨(eigL (crcM 0#32 (shL zs)).toNat).toArray⟩ : ByteArray) ++ ⟨(shL zs).toArray⟩ = ⟨(shS zs).toArray⟩ := by
      apply ByteArray.ext
      rw [ByteArray.data_append]
      simp [shS]
    have hsz : (⟨(eigL (crcM 0#32 (shL zs)).toNat).toArray⟩ : ByteArray).size + (⟨(shL zs).toArray⟩ : ByteArray).size ≤ 4000 := by
      show (eigL _).toArray.size + (shL zs).toArray.size ≤ 4000
      simp only [List.size_toArray]
      have : (eigL (crcM 0#32 (shL zs)).toNat).length = 4 := rfl
      omega
    have hl0 : (len : Int) < 9223372036854775808 := by omega
    have hcat' := hcat
    have Hne := Lib.hid hne
    have GW := Lib.hid (fun (b : Nat) (l : List UInt8) (hl : l.length ≤ 100) (bs : List UInt8) (hb : bs.length ≤ 10000) W (h : Builds w.heap.size b (Lib.byteCells bs) W) (hW : w.heap.size ≤ W.heap.size) => (show Calls Try.prog 64 #[.pointer (some ⟨b, 0, none⟩), .string ⟨l.toArray⟩] W fun e w' => (∃ x, e = .returned x) ∧ Builds w.heap.size b (Lib.byteCells (bs ++ l)) w' ∧ Below w.heap.size W w' from by
      have hsl : (⟨l.toArray⟩ : ByteArray).size = l.length := by show l.toArray.size = _; simp
      refine (writeString_any w.heap.size b (Lib.byteCells bs) ⟨l.toArray⟩ W h (by rw [byteCells_lenS, hsl]; omega) hW).mono ?_
      rintro e w' ⟨rfl, h1, h2, -⟩
      refine ⟨⟨_, rfl⟩, ?_, h2⟩
      rw [byteCells_appS, ← strCells_list l]
      exact .inr h1))
    have hsv := sevL_len len
    have HT := Lib.hid (fun (k : Nat) (h : k < zs.length) => shL_take h)
    have HFl := Lib.hid (fun k => Nat.le_trans (flat_lenS (zs.take k)) (Nat.mul_le_mul_left 9 (List.length_take_le k zs)))
    have HEnd := Lib.hid (show shL zs = sevL len ++ zs.flatMap fun x => sevL x.toNat by unfold shL; rw [hl])
    generalize hSL : shL zs = SL at *
    generalize hSS : shS zs = SS at *
    generalize (crcM 0#32 SL).toNat = cr at *
    clear hs hl hwf hA hll hne hSL hSS
    go_enter Try.func36, Try.ntmps36
    go_wp2_with (first
      | (go_at_call 37; ((with_reducible refine GI.out.mono ?_); rintro e w1 ⟨rfl, hB1⟩; have HB0 := Lib.hid (show Builds w.heap.size w1.heap.size (Lib.byteCells []) (w1.alloc (.cells #[.pointer none, .slice none 0 0] 99)) from .inl ⟨hB1.size, .slice none 0 0, World.alloc_heap_new w1 _, World.ownsRow_nil _ _ _ _, by simp [Value.ownBlock]⟩); have hBa := bel_alloc hB1 (.cells #[.pointer none, .slice none 0 0] 99)))
      | (go_at_call 65; ((with_reducible refine (GP.out _ hl0 _).mono ?_); rintro e w2 ⟨rfl, hB2⟩; have HB2 := Lib.hid (Builds.kept HB0.out hB2); have hBb := bel2 hBa hB2))
      | (go_at_call 64; ((with_reducible refine (GW.out _ _ ?h1 [] ?h2 _ HB2.out hBb.size).mono ?_); (case h1 => omega); (case h2 => exact Nat.zero_le _); rintro e w3 ⟨⟨x3, rfl⟩, h3, hB3⟩; have HB3 := Lib.hid h3; have hBc := hBb.trans hB3; clear h3)))
    have hb1 := hB1.size
    generalize w1.heap.size = b at *
    clear hB1 hBa hB2 HB0 HB2 hBb hB3
    go_loopw [19] (fun si wr => ∃ k : Nat, k ≤ len ∧ si = .int .i64 k ∧ Builds w.heap.size b (Lib.byteCells (sevL len ++ (zs.take k).flatMap fun x => sevL x.toNat)) wr ∧ Below w.heap.size w wr) (fun si _ => len - (intOf si).toNat)
    case atStart => exact ⟨0, by omega, rfl, by simpa using HB3.out, hBc⟩
    case round =>
      obtain ⟨k, hk, rfl, hBu, hB⟩ := hrel
      have HBu := Lib.hid hBu
      clear hBu
      by_cases hlt : k < len
      · obtain ⟨bb, off, rfl, hbb, hcc⟩ := hc (by omega)
        have hkl : k < zs.length := by rw [HL.out]; exact hlt
        have c := (hB.cell (p := ⟨bb, off + k, none⟩) hbb).trans (hcc k hkl)
        have hki : (k : Int) < (len : Int) := by omega
        have HTk := Lib.hid (show (sevL len ++ (zs.take (k + 1)).flatMap fun x => sevL x.toNat) = (sevL len ++ (zs.take k).flatMap fun x => sevL x.toNat) ++ sevL zs[k].toNat by rw [HT.out k hkl, List.append_assoc])
        have hx := hbd.out zs[k] (List.getElem_mem _)
        have hfl := HFl.out k
        generalize zs[k] = x at *
        have hx9 : x < 9223372036854775808 := by omega
        have hsx := sevL_len x.toNat
        have hpre : (sevL len ++ (zs.take k).flatMap fun x => sevL x.toNat).length ≤ 10000 := by rw [List.length_append]; omega
        generalize (sevL len ++ (zs.take k).flatMap fun x => sevL x.toNat) = pre at *
        have hszw := hB.size
        clear hcc hc
        go_wp2_with (first
          | (go_at_call 65; ((with_reducible refine (GP.out _ hx9 _).mono ?_); rintro e w4 ⟨rfl, hB4⟩; have HB4 := Lib.hid (Builds.kept HBu.out hB4); have hBd := bel2 hB hB4))
          | (go_at_call 64; ((with_reducible refine (GW.out _ _ ?h1 _ hpre _ HB4.out hBd.size).mono ?_); (case h1 => omega); rintro e w5 ⟨⟨x5, rfl⟩, h5, hB5⟩; have HB5 := Lib.hid h5; clear h5)))
        go_roundw
        case rel => exact ⟨k + 1, by omega, by go_num, by rw [HTk.out]; exact HB5.out, hBd.trans hB5⟩
        case measure => simp [intOf]; omega
      · obtain rfl : k = len := by omega
        have hbf : BuiltF w.heap.size b SL wr := by
          have h1 := HBu.out
          rw [List.take_of_length_le (by rw [HL.out]; exact Nat.le_refl _), ← HEnd.out] at h1
          exact .of h1 Hne.out
        have HBf := Lib.hid hbf
        clear hlt hk hc hbf
        go_wp2_with (first
          | (go_at_call 68; ((with_reducible refine (string_fz _ _ _ _ HBf.out Hne.out).mono ?_); rintro e w6 ⟨rfl, h6, hB6⟩; have HB6 := Lib.hid h6; clear HBf h6))
          | (go_at_call 67; ((with_reducible refine (GO.out _).mono ?_); rintro e w7 ⟨rfl, hB7⟩; have HB7 := Lib.hid (HB6.out.below hB7); clear HB6))
          | (go_at_call 66; ((with_reducible refine (GF.out _).mono ?_); rintro e w8 ⟨rfl, hB8⟩; have HB8 := Lib.hid (HB7.out.below hB8); clear HB7))
          | (go_at_call 68; ((with_reducible refine (string_fz _ _ _ _ HB8.out Hne.out).mono ?_); rintro e w9 ⟨rfl, h9, hB9⟩; clear HB8 h9)))
        go_ret2
        rw [HE.out.1, HE.out.2]
        refine ⟨rfl, ?_⟩
        have h1 := hB.trans hB6
        have h2 := h1.trans (hB7.mono h1.size)
        exact (h2.trans (hB8.mono h2.size)).trans hB9

end Go.Proofs.Ytieekahlknmkfaa
