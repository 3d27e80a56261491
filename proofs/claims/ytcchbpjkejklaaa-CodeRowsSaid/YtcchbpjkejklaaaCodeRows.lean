/- Law CodeRows: for every input the call answers true; its arguments read as they did. No condition. -/
import Derived.Test.YtcchbpjkejklaaaLaw
import Derived.Test.YtcchbpjkejklaaaKnown1
import Derived.Test.YtcchbpjkejklaaaCodeMath
import Derived.Test.YtcchbpjkejklaaaReads
namespace Go.Proofs.Ytcchbpjkejklaaa.codeRows
open Go.ChangeShapes Go.WideShapes Go.ChangeAt Go.RowKit Go.Shelf
open Go.ChangeMaps (open_string shut_string)
set_option linter.unusedVariables false
attribute [local go_sem] Oper.semAt_some wide_fn wide_round_fn


def numsB (zs : List Int) : List UInt8 := (zs.map fun z => sevL z.toNat).flatten
def textB (s : ByteArray) : List UInt8 := sevL s.size ++ s.data.toList
def textsC (ss : List ByteArray) : List UInt8 := (ss.map textB).flatten
theorem flat_snoc {α : Type} (f : α → List UInt8) (zs : List α) (k : Nat) (h : k < zs.length) : ((zs.take (k + 1)).map f).flatten = ((zs.take k).map f).flatten ++ f zs[k] := by
  rw [List.take_succ_eq_append_getElem h, List.map_append, List.flatten_append]
  rw [List.map_cons, List.map_nil, List.flatten_cons, List.flatten_nil, List.append_nil]
theorem flat_cut {α : Type} (f : α → List UInt8) (zs : List α) (k : Nat) (h : k < zs.length) : (zs.map f).flatten = ((zs.take k).map f).flatten ++ (f zs[k] ++ ((zs.drop (k + 1)).map f).flatten) := by
  have e : zs = zs.take k ++ (zs[k] :: zs.drop (k + 1)) := by rw [List.getElem_cons_drop h, List.take_append_drop]
  have e2 := congrArg (fun l => (l.map f).flatten) e
  simp only [List.map_append, List.flatten_append, List.map_cons, List.flatten_cons] at e2
  exact e2
theorem numsB_snoc (zs : List Int) (k : Nat) (h : k < zs.length) : numsB (zs.take (k + 1)) = numsB (zs.take k) ++ sevL (zs[k]).toNat := flat_snoc (fun z : Int => sevL z.toNat) zs k h
theorem textsC_snoc (zs : List ByteArray) (k : Nat) (h : k < zs.length) : textsC (zs.take (k + 1)) = textsC (zs.take k) ++ textB zs[k] := flat_snoc textB zs k h
theorem numsB_cut (zs : List Int) (k : Nat) (h : k < zs.length) : numsB zs = numsB (zs.take k) ++ (sevL (zs[k]).toNat ++ numsB (zs.drop (k + 1))) := flat_cut (fun z : Int => sevL z.toNat) zs k h
theorem textsC_cut (zs : List ByteArray) (k : Nat) (h : k < zs.length) : textsC zs = textsC (zs.take k) ++ (textB zs[k] ++ textsC (zs.drop (k + 1))) := flat_cut textB zs k h
theorem numsB_len (zs : List Int) : (numsB zs).length ≤ 9 * zs.length := by
  induction zs with
  | nil => simp [numsB]
  | cons z zs ih => have := sevL_len z.toNat; simp [numsB] at *; omega
theorem textsC_len (ss : List ByteArray) (h : ∀ s ∈ ss, s.size ≤ 200) : (textsC ss).length ≤ 209 * ss.length := by
  induction ss with
  | nil => simp [textsC]
  | cons s ss ih =>
    have h1 := sevL_len s.size
    have h2 := h s (by simp)
    have h3 := ih (fun x hx => h x (by simp [hx]))
    simp only [textsC, List.map_cons, List.flatten_cons, List.length_append, textB, List.length_cons, ba_size] at *
    omega

theorem extract_list (l : List UInt8) (a n : Nat) (hn : n = l.length) : ((⟨l.toArray⟩ : ByteArray).extract a n).data.toList = l.drop a := by
  subst hn; simp
  exact List.take_of_length_le (by simp)
theorem get_cut (T pre : List UInt8) (q : Nat) (rest : List UInt8) (hT : T = pre ++ (sevL q ++ rest)) (hq : q < 9223372036854775808) (hl : T.length < 9223372036854775808) (w : World) :
    Gives Try.prog 16 #[.string ((⟨T.toArray⟩ : ByteArray).extract pre.length T.length)] w (.tuple #[.int .i64 q, .int .i64 (sevL q).length, .int .i64 0]) :=
  get_at _ q _ 0 (by rw [ByteArray.size_extract]; have : (⟨T.toArray⟩ : ByteArray).size = T.length := rfl; omega) (by rw [extract_list T _ _ rfl, hT, List.drop_left]; exact getL_sevL q rest hq) w
theorem texts_cut (T pre : List UInt8) (s : ByteArray) (rest : List UInt8) (hT : T = pre ++ (textB s ++ rest)) (hs : s.size ≤ 200) (hl : T.length < 9223372036854775808) (w : World) :
    Gives Try.prog 18 #[.string ((⟨T.toArray⟩ : ByteArray).extract pre.length T.length), .int .i64 200] w (.tuple #[.string s, .int .i64 (textB s).length, .int .i64 0]) := by
  have e : (⟨T.toArray⟩ : ByteArray).extract pre.length T.length = ⟨(sevL s.size).toArray⟩ ++ s ++ ⟨rest.toArray⟩ := by
    apply ByteArray.ext; apply Array.toList_inj.1
    rw [extract_list T _ _ rfl, hT, List.drop_left, ba_toList, ba_toList]; simp [textB]
  refine texts_at _ 200 s _ 0 (by rw [ByteArray.size_extract]; have : (⟨T.toArray⟩ : ByteArray).size = T.length := rfl; omega) ?_ w
  rw [e, textsB_most s _ 200 (by omega) (by omega)]
  simp [textB]

set_option maxRecDepth 100000 in
set_option maxHeartbeats 2000000 in
theorem walk (w : World) (a : Option Addr) (len cap : Nat) (zs : List Int) (hz : RowI .i64 w a len zs) (c : Option Addr) (len2 cap2 : Nat) (ss : List ByteArray) (hs : RowS w c len2 ss) :
    Calls Try.prog 5 #[.slice a len cap, .slice c len2 cap2] w fun e w' => e = .returned (.bool true) ∧ Below w.heap.size w w' := by
  obtain ⟨rfl, hml, hwz, hcz⟩ := hz
  obtain ⟨rfl, hms, hws, hcs⟩ := hs
  unfold maxLen at hml hms
  by_cases hbig : zs.length ≤ 20 ∧ ss.length ≤ 20
  · obtain ⟨h20, h20s⟩ := hbig
    go_enter Try.func5, Try.ntmps5
    go_wp2_with (go_at_call 15; refine (code_known _).mono ?_; rintro e w1 ⟨rfl, hB1⟩)
    have hn := numsB_len zs
    go_loopw [5, 6] (fun s i wr => ∃ k : Nat, k ≤ zs.length ∧ i = .int .i64 k ∧ s = .string ⟨(numsB (zs.take k)).toArray⟩ ∧ Below w.heap.size w wr) (fun _ i _ => zs.length - (intOf i).toNat)
    case atStart => exact ⟨0, by omega, rfl, by simp [numsB], hB1⟩
    case round =>
      obtain ⟨k, hk, rfl, rfl, hB⟩ := hrel
      by_cases hlt : k < zs.length
      · obtain ⟨b, off, rfl, hb, hc⟩ := hcz (by omega)
        have hck := (hB.cell (p := ⟨b, off + k, none⟩) hb).trans (hc k hlt)
        have hbd := bounds_i64 (hwz zs[k] (List.getElem_mem _))
        have hl1 := numsB_len (zs.take k)
        have hl2 := sevL_len (zs[k]).toNat
        have hsn := Lib.hid (numsB_snoc zs k hlt)
        have hz1 : (⟨(numsB (zs.take k)).toArray⟩ : ByteArray).size = (numsB (zs.take k)).length := rfl
        have hz2 : (⟨(sevL (zs[k]).toNat).toArray⟩ : ByteArray).size = (sevL (zs[k]).toNat).length := rfl
        have hl3 : (numsB (zs.take k)).length ≤ 180 := by simp at hl1; omega
        generalize numsB (zs.take k) = A at *
        go_wp2_with (go_at_call 22; refine (put_any _ hbd.2 _).mono ?_; rintro e w2 ⟨rfl, hB2⟩)
        go_roundw
        case rel => exact ⟨k + 1, by omega, by go_num, by rw [hsn.out, ← ba_append], hB.trans (hB2.mono hB.size)⟩
        case measure => simp [intOf]; omega
      · obtain rfl : k = zs.length := by omega
        rw [List.take_length]
        go_wp2
        have hB1 := hB
        clear hB hk hlt
        go_loopw [5, 7] (fun s i wr => ∃ k : Nat, k ≤ ss.length ∧ i = .int .i64 k ∧ s = .string ⟨(numsB zs ++ textsC (ss.take k)).toArray⟩ ∧ (∀ x ∈ ss.take k, x.size ≤ 200) ∧ Below w.heap.size w wr) (fun _ i _ => ss.length - (intOf i).toNat)
        case atStart => exact ⟨0, by omega, rfl, by simp [textsC], by simp, hB1⟩
        case round =>
          obtain ⟨k, hk, rfl, rfl, h200, hB⟩ := hrel
          by_cases hlt : k < ss.length
          · obtain ⟨b, off, rfl, hb, hc⟩ := hcs (by omega)
            have hck := (hB.cell (p := ⟨b, off + k, none⟩) hb).trans (hc k hlt)
            by_cases hsz : ss[k].size ≤ 200
            · have hl1 := textsC_len (ss.take k) h200
              have hsn := Lib.hid (textsC_snoc ss k hlt)
              have h200' := Lib.hid (show ∀ x ∈ ss.take (k + 1), x.size ≤ 200 by
                intro x hx
                rw [List.take_succ_eq_append_getElem hlt] at hx
                rcases List.mem_append.1 hx with hx | hx
                · exact h200 x hx
                · simp at hx; subst hx; exact hsz)
              have hl2 : (textsC (ss.take k)).length ≤ 4180 := by simp at hl1; omega
              clear hl1 h200
              have hl3 : (sevL ss[k].size).length ≤ 9 := sevL_len _
              obtain ⟨x, hx⟩ : ∃ x : ByteArray, x = ⟨(sevL ss[k].size).toArray⟩ ++ ss[k] := ⟨_, rfl⟩
              have hxs : x.size ≤ 209 := by rw [hx, ByteArray.size_append]; show (sevL ss[k].size).length + _ ≤ _; omega
              have X := Lib.hid (text_at ss[k] x (by omega) hx.symm)
              have hxt := Lib.hid (show textB ss[k] = x.data.toList by rw [hx, ba_toList]; simp [textB])
              have hAs : (⟨(numsB zs ++ textsC (ss.take k)).toArray⟩ : ByteArray).size = (numsB zs ++ textsC (ss.take k)).length := rfl
              have hAl : (numsB zs ++ textsC (ss.take k)).length ≤ 4400 := by rw [List.length_append]; omega
              have hA := Lib.hid (show numsB zs ++ textsC (ss.take (k + 1)) = (numsB zs ++ textsC (ss.take k)) ++ x.data.toList by rw [hsn.out, hxt.out, List.append_assoc])
              clear hx hl3 hl2
              generalize numsB zs ++ textsC (ss.take k) = A at *
              go_wp2_with (go_at_call 24; refine (X.out _).mono ?_; rintro e w2 ⟨rfl, hB2⟩)
              go_roundw
              case rel => exact ⟨k + 1, by omega, by go_num, by rw [hA.out, ← ba_append, ba_self], h200'.out, hB.trans (hB2.mono hB.size)⟩
              case measure => simp [intOf]; omega
            · have hsz' : 200 < ss[k].size := by omega
              go_wp2
              go_ret
              exact ⟨rfl, hB⟩
          · obtain rfl : k = ss.length := by omega
            rw [List.take_length] at h200 ⊢
            have hl1 := textsC_len ss h200
            obtain ⟨T, hT⟩ : ∃ T : List UInt8, T = numsB zs ++ textsC ss := ⟨_, rfl⟩
            have hTl : T.length ≤ 4400 := by rw [hT, List.length_append]; omega
            have hTl0 : T.length = (numsB zs).length + (textsC ss).length := by rw [hT, List.length_append]
            rw [← hT]
            have hTs : (⟨T.toArray⟩ : ByteArray).size = T.length := rfl
            have HT := Lib.hid hT
            have H200 := Lib.hid h200
            clear hT h200 hk hlt hl1 hTl0 hB1
            have hB1 := hB
            clear hB
            go_wp2
            go_loopw [8, 9] (fun at_ i wr => ∃ k : Nat, k ≤ zs.length ∧ i = .int .i64 k ∧ at_ = .int .i64 (numsB (zs.take k)).length ∧ Below w.heap.size w wr) (fun _ i _ => zs.length - (intOf i).toNat)
            case atStart => exact ⟨0, by omega, rfl, by simp [numsB], hB1⟩
            case round =>
              obtain ⟨k, hk, rfl, rfl, hB⟩ := hrel
              by_cases hlt : k < zs.length
              · obtain ⟨b, off, rfl, hb, hc⟩ := hcz (by omega)
                have hck := (hB.cell (p := ⟨b, off + k, none⟩) hb).trans (hc k hlt)
                have hbd := bounds_i64 (hwz zs[k] (List.getElem_mem _))
                have hcut := numsB_cut zs k hlt
                have hlen : (numsB (zs.take k)).length ≤ T.length := by rw [HT.out, hcut]; simp only [List.length_append]; omega
                have G := Lib.hid (get_cut T (numsB (zs.take k)) (zs[k]).toNat (numsB (zs.drop (k + 1)) ++ textsC ss) (by rw [HT.out, hcut, List.append_assoc, List.append_assoc]) (by omega) (by omega))
                have hl9 := sevL_len (zs[k]).toNat
                have hsn := Lib.hid (congrArg List.length (numsB_snoc zs k hlt))
                have hmax : (((zs[k]).toNat : Int) != (if 0 < zs[k] then zs[k] else 0)) = false := by
                  rw [bne_eq_false_iff_eq]; split <;> omega
                clear hcut
                generalize hq : (zs[k]).toNat = q at *
                clear hq
                generalize numsB (zs.take k) = A at *
                generalize sevL q = B at *
                go_wp2_with (go_at_call 16; refine (G.out _).mono ?_; rintro e w2 ⟨rfl, hB2⟩; have hck2 := (hB2.cell (p := ⟨b, off + k, none⟩) (Nat.lt_of_lt_of_le hb hB.size)).trans hck)
                exact ⟨⟨k + 1, by omega, by go_num, by rw [hsn.out, List.length_append]; go_num, hB.trans (hB2.mono hB.size)⟩, by simp [intOf]; omega⟩
              · obtain rfl : k = zs.length := by omega
                rw [List.take_length]
                have hlen : (numsB zs).length + (textsC ss).length = T.length := by rw [HT.out, List.length_append]
                have hB1 := hB
                clear hB hk hlt hcz
                go_wp2
                go_loopw [8, 13] (fun at_ i wr => ∃ k : Nat, k ≤ ss.length ∧ i = .int .i64 k ∧ at_ = .int .i64 ((numsB zs).length + (textsC (ss.take k)).length : Nat) ∧ Below w.heap.size w wr) (fun _ i _ => ss.length - (intOf i).toNat)
                case atStart => exact ⟨0, by omega, rfl, by simp [textsC], hB1⟩
                case round =>
                  obtain ⟨k, hk, rfl, rfl, hB⟩ := hrel
                  by_cases hlt : k < ss.length
                  · obtain ⟨b, off, rfl, hb, hc⟩ := hcs (by omega)
                    have hck := (hB.cell (p := ⟨b, off + k, none⟩) hb).trans (hc k hlt)
                    have hcut := textsC_cut ss k hlt
                    have hlen2 : (numsB zs).length + (textsC (ss.take k)).length ≤ T.length := by rw [← hlen, hcut]; simp only [List.length_append]; omega
                    have h2 : ss[k].size ≤ 200 := H200.out _ (List.getElem_mem _)
                    have G := Lib.hid (texts_cut T (numsB zs ++ textsC (ss.take k)) ss[k] (textsC (ss.drop (k + 1))) (by rw [HT.out, hcut, List.append_assoc]) h2 (by omega))
                    have hl9 : (textB ss[k]).length ≤ 209 := by have := sevL_len ss[k].size; simp only [textB, List.length_append, ba_size]; omega
                    have hsn := Lib.hid (congrArg List.length (textsC_snoc ss k hlt))
                    rw [List.length_append] at hsn G
                    clear hcut hlen
                    generalize textsC (ss.take k) = A at *
                    generalize textB ss[k] = B at *
                    generalize numsB zs = N at *
                    go_wp2_with (go_at_call 18; refine (G.out _).mono ?_; rintro e w2 ⟨rfl, hB2⟩; have hck2 := (hB2.cell (p := ⟨b, off + k, none⟩) (Nat.lt_of_lt_of_le hb hB.size)).trans hck)
                    exact ⟨⟨k + 1, by omega, by go_num, by rw [hsn.out]; go_num, hB.trans (hB2.mono hB.size)⟩, by simp [intOf]; omega⟩
                  · obtain rfl : k = ss.length := by omega
                    rw [List.take_length, hlen]
                    go_wp2
                    go_ret
                    exact ⟨by simp, hB⟩
  · by_cases h1 : zs.length ≤ 20
    · have h2 : 20 < ss.length := by omega
      go_enter Try.func5, Try.ntmps5
      go_wp2_with (go_at_call 15; refine (code_known _).mono ?_; rintro e w1 ⟨rfl, hB1⟩)
      go_ret
      exact ⟨rfl, hB1⟩
    · have h2 : 20 < zs.length := by omega
      go_enter Try.func5, Try.ntmps5
      go_wp2_with (go_at_call 15; refine (code_known _).mono ?_; rintro e w1 ⟨rfl, hB1⟩)
      go_ret
      exact ⟨rfl, hB1⟩


set_option maxRecDepth 100000 in
theorem lifted (os : Os) (started : os.Started) (H : Type) (enc : TypeId × Value → H) :
    ReturnsInHanded {} Try.checked os 5 .any (Rows.codeRowsSpec.pre6 enc Try.prog Try.f5 Rows.codeRowsRow.domain false) (Rows.codeRowsSpec.post enc Try.prog Try.f5 false true false false) := by
  refine returnsInHanded_of_change (C := Try.checked) Try.own started (by kernel_rfl) Try.func5
    (ChangeSpec.witness6 (enc := enc) (C := Try.checked) false ⟨#[], #[.slice none 0 0, .slice none 0 0], []⟩ 8 (by kernel_rfl) (by kernel_rfl) (by kernel_rfl) (by kernel_rfl)) ?_
  intro W base args ds gs before hval hW _ _
  refine law_contract (T := 4) (n := 2) Try.laid Try.underlying4 rfl rfl ⟨rfl, fun H ds h => by match ds, h with | [_, _], _ => rfl⟩ (of_all (by kernel_rfl)) hW ?_
  intro ps hA
  rw [Try.params5] at hA hval
  obtain ⟨v0, vs0, d0, ds0, p0, q0, hargs, rfl, rfl, h0, r0⟩ := trodAll_cons hA
  obtain ⟨v1, vs1, d1, ds1, p1, q1, rfl, rfl, rfl, h1, r1⟩ := trodAll_cons r0
  obtain ⟨rfl, rfl, rfl⟩ := trodAll_nil r1
  obtain rfl : args = #[v0, v1] := by cases args; simp_all
  obtain ⟨s0, l0, c0, rfl⟩ := okWide_slice Try.underlying41 (hval 0 41 v0 rfl rfl)
  obtain ⟨zs0, w0⟩ := isInts_of (k := .i64) Try.underlying41 Try.underlying3 (by kernel_rfl) h0
  obtain ⟨s1, l1, c1, rfl⟩ := okWide_slice Try.underlying42 (hval 1 42 v1 rfl rfl)
  obtain ⟨zs1, w1⟩ := isStrs_of Try.underlying42 Try.underlying9 (by kernel_rfl) h1
  exact walk W s0 l0 c0 _ (rowI_of w0) s1 l1 c1 _ (rowS_of w1)

theorem holds : Rows.CodeRowsSaid :=
  OpenClaim.holds_of_wide 5 Try.f5 rfl rfl rfl rfl rfl rfl rfl ⟨rfl, rfl, rfl, rfl, rfl⟩ rfl rfl rfl rfl rfl (by kernel_rfl) Try.func5 (by kernel_rfl)
    (of_decide_eq_true (by kernel_rfl)) (by unfold Func.isWrapper; first | (rw [if_pos (by decide +kernel)]; kernel_rfl) | (rw [if_neg (by decide +kernel)]; exact ⟨rfl, rfl⟩))
    (fun os started H enc _ => lifted os started H enc)
end Go.Proofs.Ytcchbpjkejklaaa.codeRows
