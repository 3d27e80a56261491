/- Law FrameRows: for every input the call answers true; its arguments read as they did. No condition. -/
import Derived.Test.YtcchbpjkejklaabLaw
import Derived.Test.YtcchbpjkejklaabKnown3
import Derived.Test.YtcchbpjkejklaabReads
namespace Go.Proofs.Ytcchbpjkejklaab.frameRows
open Go.ChangeShapes Go.WideShapes Go.ChangeAt Go.RowKit Go.Shelf
open Go.ChangeMaps (open_string shut_string)
set_option linter.unusedVariables false
attribute [local go_sem] Oper.semAt_some wide_fn wide_round_fn


def frm (s : ByteArray) : List UInt8 := if s.size < 1 then [] else (wrapB s).data.toList
def catB (ss : List ByteArray) : List UInt8 := (ss.map frm).flatten
theorem catB_snoc (zs : List ByteArray) (k : Nat) (h : k < zs.length) : catB (zs.take (k + 1)) = catB (zs.take k) ++ frm zs[k] := by
  unfold catB
  rw [List.take_succ_eq_append_getElem h, List.map_append, List.flatten_append]
  rw [List.map_cons, List.map_nil, List.flatten_cons, List.flatten_nil, List.append_nil]
theorem catB_cut (zs : List ByteArray) (k : Nat) (h : k < zs.length) : catB zs = catB (zs.take k) ++ (frm zs[k] ++ catB (zs.drop (k + 1))) := by
  have e : zs = zs.take k ++ (zs[k] :: zs.drop (k + 1)) := by rw [List.getElem_cons_drop h, List.take_append_drop]
  have e2 := congrArg (fun l => (l.map frm).flatten) e
  simp only [List.map_append, List.flatten_append, List.map_cons, List.flatten_cons] at e2
  exact e2
theorem frm_len (s : ByteArray) : (frm s).length ≤ s.size + 12 := by
  unfold frm; split
  · simp
  · rw [ba_size, wrapB_size]; exact Nat.le_refl _
theorem frm_none {s : ByteArray} (h : s.size < 1) : frm s = [] := if_pos h
theorem frm_some {s : ByteArray} (h : ¬ s.size < 1) : frm s = (wrapB s).data.toList := if_neg h
theorem catB_len (ss : List ByteArray) (h : ∀ s ∈ ss, s.size ≤ 200) : (catB ss).length ≤ 212 * ss.length := by
  induction ss with
  | nil => simp [catB]
  | cons s ss ih =>
    have h1 := frm_len s
    have h2 := h s (by simp)
    have h3 := ih (fun x hx => h x (by simp [hx]))
    simp only [catB, List.map_cons, List.flatten_cons, List.length_append, List.length_cons] at *
    omega
theorem extract_list (l : List UInt8) (a n : Nat) (hn : n = l.length) : ((⟨l.toArray⟩ : ByteArray).extract a n).data.toList = l.drop a := by
  subst hn; simp
  exact List.take_of_length_le (by simp)
theorem frame_cut (T pre : List UInt8) (s : ByteArray) (rest : List UInt8) (hT : T = pre ++ ((wrapB s).data.toList ++ rest)) (h1 : 1 ≤ s.size) (h2 : s.size ≤ 200) (hl : T.length < 9223372036854775808) (w : World) :
    Gives Try.prog 10 #[.string ((⟨T.toArray⟩ : ByteArray).extract pre.length T.length)] w (.tuple #[.string s, .int .i64 (s.size + 12 : Nat), .int .i64 1]) := by
  have e : (⟨T.toArray⟩ : ByteArray).extract pre.length T.length = wrapB s ++ ⟨rest.toArray⟩ := by
    apply ba_of_list
    rw [extract_list T _ _ rfl, hT, List.drop_left, ba_toList]
  refine read_at _ s _ 1 (by rw [ByteArray.size_extract]; have : (⟨T.toArray⟩ : ByteArray).size = T.length := rfl; omega) ?_ w
  rw [e]
  exact read_wrap s _ h1 (by omega)

set_option maxRecDepth 100000 in
set_option maxHeartbeats 2000000 in
theorem walk (w : World) (c : Option Addr) (len2 cap2 : Nat) (ss : List ByteArray) (hs : RowS w c len2 ss) (r : ByteArray) (hr : r.size ≤ maxLen) :
    Calls Try.prog 5 #[.slice c len2 cap2, .string r] w fun e w' => e = .returned (.bool true) ∧ Below w.heap.size w w' := by
  obtain ⟨rfl, hms, hws, hcs⟩ := hs
  unfold maxLen at hr hms
  by_cases hbig : ss.length ≤ 12 ∧ r.size ≤ 50
  · obtain ⟨h12, h50⟩ := hbig
    go_enter Try.func5, Try.ntmps5
    go_wp2_with (go_at_call 8; refine (frame_known _).mono ?_; rintro e w1 ⟨rfl, hB1⟩)
    go_loopw [5, 6] (fun s i wr => ∃ k : Nat, k ≤ ss.length ∧ i = .int .i64 k ∧ s = .string ⟨(catB (ss.take k)).toArray⟩ ∧ (∀ x ∈ ss.take k, x.size ≤ 200) ∧ Below w.heap.size w wr) (fun _ i _ => ss.length - (intOf i).toNat)
    case atStart => exact ⟨0, by omega, rfl, by simp [catB], by simp, hB1⟩
    case round =>
      obtain ⟨k, hk, rfl, rfl, h200, hB⟩ := hrel
      by_cases hlt : k < ss.length
      · obtain ⟨b, off, rfl, hb, hc⟩ := hcs (by omega)
        have hck := (hB.cell (p := ⟨b, off + k, none⟩) hb).trans (hc k hlt)
        by_cases hsz : ss[k].size ≤ 200
        · have hl1 := catB_len (ss.take k) h200
          have hsn := catB_snoc ss k hlt
          have h200' := Lib.hid (show ∀ x ∈ ss.take (k + 1), x.size ≤ 200 by
            intro x hx
            rw [List.take_succ_eq_append_getElem hlt] at hx
            rcases List.mem_append.1 hx with hx | hx
            · exact h200 x hx
            · simp at hx; subst hx; exact hsz)
          have hAl : (catB (ss.take k)).length ≤ 2600 := by simp at hl1; omega
          have hAs : (⟨(catB (ss.take k)).toArray⟩ : ByteArray).size = (catB (ss.take k)).length := rfl
          clear hl1 h200
          generalize catB (ss.take k) = A at *
          by_cases h0 : ss[k].size < 1
          · rw [frm_none h0, List.append_nil] at hsn
            have HA := Lib.hid hsn
            clear hsn
            generalize ss[k] = y at *
            obtain rfl : y = ⟨#[]⟩ := ByteArray.ext (Array.eq_empty_of_size_eq_zero (by show y.size = 0; omega))
            have hck2 := fun (w2 : World) (hB2 : Below wr.heap.size wr w2) => (hB2.cell (p := ⟨b, off + k, none⟩) (Nat.lt_of_lt_of_le hb hB.size)).trans hck
            have HC := Lib.hid hck2
            clear hck2
            go_wp2_with (go_at_call 9; ((with_reducible refine (wrap_empty _).mono ?_); rintro e w2 ⟨rfl, hB2⟩; have hck2 := HC.out w2 hB2))
            go_roundw
            case rel => exact ⟨k + 1, by omega, by go_num, by rw [HA.out]; simp [ba_append], h200'.out, hB.trans (hB2.mono hB.size)⟩
            case measure => simp [intOf]; omega
          · rw [frm_some h0] at hsn
            have HA := Lib.hid hsn
            have hne := notEmpty ss[k] (by omega)
            have hXs := wrapB_size ss[k]
            have G := Lib.hid (wrap_ok ss[k] (by omega) (by omega))
            have hXi : ((wrapB ss[k]).size : Int) ≤ 212 := by omega
            clear hsn hXs
            generalize wrapB ss[k] = X at *
            have HC := Lib.hid (fun (w2 : World) (hB2 : Below wr.heap.size wr w2) => (hB2.cell (p := ⟨b, off + k, none⟩) (Nat.lt_of_lt_of_le hb hB.size)).trans hck)
            go_wp2_with (go_at_call 9; ((with_reducible refine (G.out _).mono ?_); rintro e w2 ⟨rfl, hB2⟩; have hck2 := HC.out w2 hB2))
            go_roundw
            case rel => exact ⟨k + 1, by omega, by go_num, by rw [HA.out, ← ba_append, ba_self], h200'.out, hB.trans (hB2.mono hB.size)⟩
            case measure => simp [intOf]; omega
        · have hsz' : 200 < ss[k].size := by omega
          go_wp2
          go_ret
          exact ⟨rfl, hB⟩
      · obtain rfl : k = ss.length := by omega
        rw [List.take_length] at h200 ⊢
        have hl1 := catB_len ss h200
        obtain ⟨T, hT⟩ : ∃ T : List UInt8, T = catB ss ++ r.data.toList := ⟨_, rfl⟩
        have hTl0 : T.length = (catB ss).length + r.size := by rw [hT, List.length_append, ba_size]
        have hTl : T.length ≤ 2600 := by omega
        have hTs : (⟨T.toArray⟩ : ByteArray).size = T.length := rfl
        have hcat : (⟨(catB ss).toArray⟩ ++ r : ByteArray) = ⟨T.toArray⟩ := by rw [hT, ← ba_append, ba_self]
        have hl2 : (⟨(catB ss).toArray⟩ : ByteArray).size ≤ 2600 := by show (catB ss).length ≤ _; omega
        have HT := Lib.hid hT
        have HTL := Lib.hid hTl0
        have H200 := Lib.hid h200
        clear hT h200 hk hlt hl1 hTl0 hB1
        have hB1 := hB
        clear hB
        generalize hY : (⟨(catB ss).toArray⟩ : ByteArray) = Y at *
        clear hY
        generalize hZ : (⟨T.toArray⟩ : ByteArray) = Z at *
        have HZ := Lib.hid hZ
        have HTs := Lib.hid hTs
        clear hZ
        go_wp2
        go_loopw [9, 10] (fun at_ i wr => ∃ k : Nat, k ≤ ss.length ∧ i = .int .i64 k ∧ at_ = .int .i64 (catB (ss.take k)).length ∧ Below w.heap.size w wr) (fun _ i _ => ss.length - (intOf i).toNat)
        case atStart => exact ⟨0, by omega, rfl, by simp [catB], hB1⟩
        case round =>
          obtain ⟨k, hk, rfl, rfl, hB⟩ := hrel
          by_cases hlt : k < ss.length
          · obtain ⟨b, off, rfl, hb, hc⟩ := hcs (by omega)
            have hck := (hB.cell (p := ⟨b, off + k, none⟩) hb).trans (hc k hlt)
            have hcut := catB_cut ss k hlt
            have hlen : (catB (ss.take k)).length ≤ T.length := by rw [HT.out, hcut]; simp only [List.length_append]; omega
            have h2 : ss[k].size ≤ 200 := H200.out _ (List.getElem_mem _)
            have hsn := congrArg List.length (catB_snoc ss k hlt)
            rw [List.length_append] at hsn
            by_cases h0 : ss[k].size < 1
            · rw [frm_none h0] at hsn
              have HN := Lib.hid hsn
              clear hsn hcut
              generalize ss[k] = y at *
              obtain rfl : y = ⟨#[]⟩ := ByteArray.ext (Array.eq_empty_of_size_eq_zero (by show y.size = 0; omega))
              go_wp2
              exact ⟨⟨k + 1, by omega, by go_num, by rw [HN.out]; simp, hB⟩, by simp [intOf]; omega⟩
            · rw [frm_some h0] at hsn hcut
              rw [ba_size, wrapB_size] at hsn
              have G := frame_cut T (catB (ss.take k)) ss[k] (catB (ss.drop (k + 1)) ++ r.data.toList) (by rw [HT.out, hcut, List.append_assoc, List.append_assoc]) (by omega) h2 (by omega)
              rw [HZ.out] at G
              have hlenZ : (catB (ss.take k)).length ≤ Z.size := by rw [HTs.out]; exact hlen
              have hne := notEmpty ss[k] (by omega)
              have HN := Lib.hid hsn
              have HG := Lib.hid G
              clear hsn hcut G hlen
              have HC := Lib.hid (fun (w2 : World) (hB2 : Below wr.heap.size wr w2) => (hB2.cell (p := ⟨b, off + k, none⟩) (Nat.lt_of_lt_of_le hb hB.size)).trans hck)
              generalize catB (ss.take k) = A at *
              go_wp2_with (go_at_call 10; ((with_reducible refine (HG.out _).mono ?_); rintro e w2 ⟨rfl, hB2⟩; have hck2 := HC.out w2 hB2))
              exact ⟨⟨k + 1, by omega, by go_num, by rw [HN.out]; go_num, hB.trans (hB2.mono hB.size)⟩, by simp [intOf]; omega⟩
          · obtain rfl : k = ss.length := by omega
            rw [List.take_length]
            have hfin : ((Z.size : Int) - ((catB ss).length : Int) == (r.size : Int)) = true := by rw [beq_iff_eq, HTs.out, HTL.out]; omega
            have hle : (catB ss).length ≤ Z.size := by rw [HTs.out, HTL.out]; omega
            go_wp2
            go_ret
            exact ⟨by simp; have := HTL.out; omega, hB⟩
  · by_cases h1 : ss.length ≤ 12
    · have h2 : 50 < r.size := by omega
      go_enter Try.func5, Try.ntmps5
      go_wp2_with (go_at_call 8; refine (frame_known _).mono ?_; rintro e w1 ⟨rfl, hB1⟩)
      go_ret
      exact ⟨rfl, hB1⟩
    · have h2 : 12 < ss.length := by omega
      go_enter Try.func5, Try.ntmps5
      go_wp2_with (go_at_call 8; refine (frame_known _).mono ?_; rintro e w1 ⟨rfl, hB1⟩)
      go_ret
      exact ⟨rfl, hB1⟩

set_option maxRecDepth 100000 in
theorem lifted (os : Os) (started : os.Started) (H : Type) (enc : TypeId × Value → H) :
    ReturnsInHanded {} Try.checked os 5 .any (Rows.frameRowsSpec.pre6 enc Try.prog Try.f5 Rows.frameRowsRow.domain false) (Rows.frameRowsSpec.post enc Try.prog Try.f5 false true false false) := by
  refine returnsInHanded_of_change (C := Try.checked) Try.own started (by kernel_rfl) Try.func5
    (ChangeSpec.witness6 (enc := enc) (C := Try.checked) false ⟨#[], #[.slice none 0 0, .string ⟨#[]⟩], []⟩ 8 (by kernel_rfl) (by kernel_rfl) (by kernel_rfl) (by kernel_rfl)) ?_
  intro W base args ds gs before hval hW _ _
  refine law_contract (T := 4) (n := 2) Try.laid Try.underlying4 rfl rfl ⟨rfl, fun H ds h => by match ds, h with | [_, _], _ => rfl⟩ (of_all (by kernel_rfl)) hW ?_
  intro ps hA
  rw [Try.params5] at hA hval
  obtain ⟨v0, vs0, d0, ds0, p0, q0, hargs, rfl, rfl, h0, r0⟩ := trodAll_cons hA
  obtain ⟨v1, vs1, d1, ds1, p1, q1, rfl, rfl, rfl, h1, r1⟩ := trodAll_cons r0
  obtain ⟨rfl, rfl, rfl⟩ := trodAll_nil r1
  obtain rfl : args = #[v0, v1] := by cases args; simp_all
  obtain ⟨s0, l0, c0, rfl⟩ := okWide_slice Try.underlying35 (hval 0 35 v0 rfl rfl)
  obtain ⟨zs0, w0⟩ := isStrs_of Try.underlying35 Try.underlying9 (by kernel_rfl) h0
  obtain ⟨a1, rfl, rfl, rfl, w1⟩ := open_string Try.underlying9 (hval 1 9 v1 rfl rfl) h1
  exact walk W s0 l0 c0 _ (rowS_of w0) a1 w1

theorem holds : Rows.FrameRowsSaid :=
  OpenClaim.holds_of_wide 5 Try.f5 rfl rfl rfl rfl rfl rfl rfl ⟨rfl, rfl, rfl, rfl, rfl⟩ rfl rfl rfl rfl rfl (by kernel_rfl) Try.func5 (by kernel_rfl)
    (of_decide_eq_true (by kernel_rfl)) (by unfold Func.isWrapper; first | (rw [if_pos (by decide +kernel)]; kernel_rfl) | (rw [if_neg (by decide +kernel)]; exact ⟨rfl, rfl⟩))
    (fun os started H enc _ => lifted os started H enc)
end Go.Proofs.Ytcchbpjkejklaab.frameRows
