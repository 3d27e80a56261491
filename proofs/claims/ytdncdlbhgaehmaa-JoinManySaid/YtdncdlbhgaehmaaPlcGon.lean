/- The iterator of package place's gone. -/
import Derived.Test.YtdncdlbhgaehmaaPlc
import Derived.Test.YtdncdlbhgaehmaaTailIn
import Derived.Test.YtdncdlbhgaehmaaGrpDo
namespace Go.Proofs.Ytdncdlbhgaehmaa
open Go.RowKit Go.Shelf
set_option linter.unusedVariables false
set_option linter.unusedSimpArgs false
attribute [local go_sem] Oper.semAt_some wide_fn wide_round_fn
attribute [local irreducible] wpQuietIn

set_option maxRecDepth 100000 in
set_option maxHeartbeats 4000000 in
theorem gon_iter (Ba Bb : Nat) (a b : Option Addr) (ca cb : Nat) (al bl : List EntryC) (hma : al.length < 1000000) (hmb : bl.length < 1000000) (hra : Ris al) (hrb : Ris bl) (S : Nat → Prop) (hSa : S Ba) (hSb : S Bb) (hSa2 : ∀ k, inBlkE a al.length k → S k) (hSb2 : ∀ k, inBlkE b bl.length k → S k) (w0 : World)
    (hca : w0.cell? ⟨Ba, 0, none⟩ = some (.slice a al.length ca)) (hcbx : w0.cell? ⟨Bb, 0, none⟩ = some (.slice b bl.length cb)) (hwa : RowV w0 a al.length 3 (entryCells al)) (hwb : RowV w0 b bl.length 3 (entryCells bl)) :
    Iter Try.prog 96 #[.pointer (some ⟨Ba, 0, none⟩), .pointer (some ⟨Bb, 0, none⟩)] (fun i : Int => #[.int .i64 i]) (gonL al bl) S (fun _ => False) w0 := by
  intro L J Jx W hW hJs _ hY h0
  have hcl0 := hW.cell hca hSa
  have hcr0 := hW.cell hcbx hSb
  obtain ⟨hlen, hml, hcs⟩ := hwa
  obtain ⟨hlen2, hml2, hcs2⟩ := hwb
  have HRA := Lib.hid hra
  have HRB := Lib.hid hrb
  clear hca hcbx hra hrb
  refine callsIn_of_wp Try.func96 rfl trivial ?_ rfl
  simp only [Try.ntmps96, List.size_toArray, List.length_cons, List.length_nil, Nat.reduceAdd, Nat.reduceSub, Array.replicate_succ, Array.replicate_zero, List.push_toArray, List.append_toArray, List.nil_append, List.cons_append]
  gi_wp2
  gi_loopw [4, 9] (fun qk qi wr => ∃ (i k : Nat) (pre : List Int), i ≤ al.length ∧ k ≤ bl.length ∧ qk = .int .i64 k ∧ qi = .int .i64 i ∧ gonL al bl = pre ++ gonL (al.drop i) bl ∧ (∀ (j i' : Nat) (hj : j < k) (hjb : j < bl.length) (hi' : i ≤ i') (hia : i' < al.length), bl[j].i < al[i'].i) ∧ J pre wr ∧ Rd W.heap.size S W wr) (fun _ qi _ => al.length - (intOf qi).toNat)
  case atStart => exact ⟨0, 0, [], by omega, by omega, rfl, rfl, rfl, fun j i' hj => by omega, h0, Rd.refl _ _ _⟩
  case round =>
    obtain ⟨i, k, pre, hi, hk, rfl, rfl, hM, hlo, hJ, hR⟩ := hrel
    have HM := Lib.hid hM
    have HLO := Lib.hid hlo
    clear hM hlo
    by_cases hlt : i < al.length
    · obtain ⟨ba, oa, rfl, hba, hxa⟩ := hcs (by omega)
      have hSba := hSa2 ba ⟨ba, oa, rfl, by omega, rfl⟩
      have cell : ∀ q u, q < 3 → (al[i].cells)[q]? = some u → wr.cell? ⟨ba, oa + (i * 3 + q), none⟩ = some u := fun q u hq hu =>
        hR.cell (hW.cell (RowV.at_ (len := al.length) (sz := 3) hxa (by rw [entryCells, flat_at EntryC.cells 3 EntryC.len al i q (by omega) hq]; exact hu)) hSba) hSba
      have c0 : wr.cell? ⟨ba, oa + i * 3, none⟩ = some (.int .i64 al[i].i) := cell 0 _ (by decide) rfl
      have c1 : wr.cell? ⟨ba, oa + i * 3 + 1, none⟩ = some (.int .i64 al[i].t) := cell 1 _ (by decide) rfl
      have c2 : wr.cell? ⟨ba, oa + i * 3 + 2, none⟩ = some (.string al[i].d) := cell 2 _ (by decide) rfl
      have HM2 := Lib.hid (HM.out.trans (show pre ++ gonL (al.drop i) bl = pre ++ gonL (al[i] :: al.drop (i + 1)) bl by rw [List.drop_eq_getElem_cons hlt]))
      have HLI := Lib.hid (show ∀ (j : Nat) (hj : j < k) (hjb : j < bl.length), bl[j].i < (al[i]'hlt).i from fun j hj hjb => HLO.out j i hj hjb (Nat.le_refl _) hlt)
      have HUP := Lib.hid (show ∀ (i' : Nat) (hi' : i + 1 ≤ i') (hia : i' < al.length), (al[i]'hlt).i < al[i'].i from fun i' hi' hia => HRA.out i i' (by omega) hia)
      have hi0 : (0 : Int) ≤ (i : Int) := by omega
      have hil : (i : Int) < (al.length : Int) := by omega
      clear cell hxa hcs HM HLO
      generalize al[i] = f at *
      have hRA := hR.alloc (.cells #[.int .i64 f.i, .int .i64 f.t, .string f.d] 115)
      have hJA := hJs _ _ _ hJ (Moves.alloc wr (.cells #[.int .i64 f.i, .int .i64 f.t, .string f.d] 115))
      have hXb := World.alloc_heap_new wr (.cells #[.int .i64 f.i, .int .i64 f.t, .string f.d] 115)
      have hXs : W.heap.size ≤ wr.heap.size := hR.size
      gi_wp2
      clear c0 c1 c2 hJ hR
      obtain ⟨X, hX⟩ : ∃ X, X = wr.heap.size := ⟨_, rfl⟩
      generalize (wr.alloc (.cells #[.int .i64 f.i, .int .i64 f.t, .string f.d] 115)) = wa at *
      rw [← hX] at hXb hXs
      rw [← hX]
      clear hX
      gi_loopw [4] (fun qk wq => ∃ (k2 : Nat), k2 ≤ bl.length ∧ qk = .int .i64 k2 ∧ (∀ (j : Nat) (hj : j < k2) (hjb : j < bl.length), bl[j].i < f.i) ∧ J pre wq ∧ Rd W.heap.size S W wq ∧ wq.heap[X]? = some (.cells #[.int .i64 f.i, .int .i64 f.t, .string f.d] 115 (0, 0))) (fun qk _ => bl.length - (intOf qk).toNat)
      case atStart => exact ⟨k, hk, rfl, HLI.out, hJA, hRA, hXb⟩
      case round =>
        clear hJA hRA hXb
        obtain ⟨k2, hk2, rfl, hlo2, hJ2, hR2, hX2⟩ := hrel
        have HLO3 := Lib.hid hlo2
        have HLO2 := Lib.hid (show ∀ (j i' : Nat) (hj : j < k2) (hjb : j < bl.length) (hi' : i + 1 ≤ i') (hia : i' < al.length), bl[j].i < al[i'].i from fun j i' hj hjb hi' hia => by have h1 := HLO3.out j hj hjb; have h2 := HUP.out i' hi' hia; omega)
        clear hlo2
        have cB := hR2.cell hcr0 hSb
        have e0 := cell_of_row _ _ 0 _ _ _ hX2
        simp only [List.getElem?_toArray, List.getElem?_cons_zero, List.getElem?_cons_succ] at e0
        have hk0 : (0 : Int) ≤ (k2 : Int) := by omega
        by_cases hlt2 : k2 < bl.length
        · obtain ⟨bb, ob, rfl, hbb, hxb⟩ := hcs2 (by omega)
          have hSbb := hSb2 bb ⟨bb, ob, rfl, by omega, rfl⟩
          have cell : ∀ q u, q < 3 → (bl[k2].cells)[q]? = some u → wr.cell? ⟨bb, ob + (k2 * 3 + q), none⟩ = some u := fun q u hq hu =>
            hR2.cell (hW.cell (RowV.at_ (len := bl.length) (sz := 3) hxb (by rw [entryCells, flat_at EntryC.cells 3 EntryC.len bl k2 q (by omega) hq]; exact hu)) hSbb) hSbb
          have b0 : wr.cell? ⟨bb, ob + k2 * 3, none⟩ = some (.int .i64 bl[k2].i) := cell 0 _ (by decide) rfl
          have hkl : (k2 : Int) < (bl.length : Int) := by omega
          have HAN := Lib.hid (fun (h : f.i ≤ bl[k2].i) => any_at HRB.out (k := k2) (i := f.i) hk2 (fun j hj => HLO3.out j hj (by omega)) (fun _ => h))
          have HST := Lib.hid (show bl[k2].i < f.i → ∀ (j : Nat) (hj : j < k2 + 1) (hjb : j < bl.length), bl[j].i < f.i from fun h j hj hjb => by
            by_cases e : j = k2
            · subst e; exact h
            · exact HLO3.out j (by omega) hjb)
          rw [dif_pos hlt2] at HAN
          clear cell hxb hcs2
          generalize bl[k2] = y at *
          have HSW := Lib.hid (fun W' (hW' : Below wr.heap.size wr W') => And.intro ((hW'.cell (World.block_lt_of_cell? wr _ cB)).trans cB) (And.intro ((hW'.cell (World.block_lt_of_cell? wr _ b0)).trans b0) ((hW'.cell (World.block_lt_of_cell? wr _ e0)).trans e0)))
          clear cB b0 e0
          have HS := Lib.hid (fun W' (hW' : Above wr W') => HSW.out W' hW')
          by_cases hyf : y.i < f.i
          · have ht1 : decide (y.i < f.i) = true := decide_eq_true hyf
            have HST2 := Lib.hid (HST.out hyf)
            gi_wp2
            refine wpIn_region_below rfl (by kernel_rfl) (by kernel_rfl) ?_
            repeat (first
              | (refine BigFrame.wpQuietIn_skip (by first | quiet_asked_in | exact fun _ _ _ _ => trivial) (by rfl) ?_; (try simp only [Act.put, List.setIfInBounds_toArray, List.set_cons_zero, List.set_cons_succ]))
              | (refine BigFrame.wpQuietIn_want (by first | quiet_asked_in | exact fun _ _ _ _ => trivial) (by rfl) (fun K hK => ?_); apply Exists.intro; refine ⟨fun W hW => ?_, hK _ ?_⟩; (focus (obtain ⟨cB, b0, e0⟩ := HS.out _ hW; go_simp; (first | done | with_reducible rfl | (rw [if_neg (by omega)]; go_simp; (first | done | with_reducible rfl))))); clear hK K; (try simp only [Act.put, List.setIfInBounds_toArray, List.set_cons_zero, List.set_cons_succ])))
            refine wpQuietIn_nil ?_
            intro w5 hB5
            replace hB5 : Below wr.heap.size wr w5 := hB5
            obtain ⟨cB, b0, e0⟩ := HSW.out w5 hB5
            have hR5 := hR2.trans (.below hB5)
            have hX5 := (hB5.block _ (heap_lt hX2)).trans hX2
            gi_wp2
            go_roundw
            case rel => exact ⟨k2 + 1, by omega, by go_num, HST2.out, hJs _ _ _ hJ2 (Moves.below hB5), hR5, hX5⟩
            case measure => simp [intOf]; omega
          · have ht1 : decide (y.i < f.i) = false := decide_eq_false hyf
            have hyf' : f.i ≤ y.i := by omega
            have hne2 : ¬ (k2 : Int) = (bl.length : Int) := by omega
            have hne2b : ((k2 : Int) == (bl.length : Int)) = false := by rw [beq_eq_false_iff_ne]; exact hne2
            by_cases hye : y.i = f.i
            · have HX := Lib.hid (HM2.out.trans (show pre ++ gonL (f :: al.drop (i + 1)) bl = pre ++ gonL (al.drop (i + 1)) bl by rw [gonL_cons, HAN.out hyf', if_pos (decide_eq_true hye)]; rfl))
              have hyb : (y.i != f.i) = false := by simp [hye]
              gi_wp2
              refine wpIn_region_below rfl (by kernel_rfl) (by kernel_rfl) ?_
              repeat (first
                | (refine BigFrame.wpQuietIn_skip (by first | quiet_asked_in | exact fun _ _ _ _ => trivial) (by rfl) ?_; (try simp only [Act.put, List.setIfInBounds_toArray, List.set_cons_zero, List.set_cons_succ]))
                | (refine BigFrame.wpQuietIn_want (by first | quiet_asked_in | exact fun _ _ _ _ => trivial) (by rfl) (fun K hK => ?_); apply Exists.intro; refine ⟨fun W hW => ?_, hK _ ?_⟩; (focus (obtain ⟨cB, b0, e0⟩ := HS.out _ hW; go_simp; (first | done | with_reducible rfl | (rw [if_neg (by omega)]; go_simp; (first | done | with_reducible rfl))))); clear hK K; (try simp only [Act.put, List.setIfInBounds_toArray, List.set_cons_zero, List.set_cons_succ])))
              refine wpQuietIn_nil ?_
              intro w5 hB5
              replace hB5 : Below wr.heap.size wr w5 := hB5
              obtain ⟨cB, b0, e0⟩ := HSW.out w5 hB5
              gi_wp2
              refine wpIn_region_below rfl (by kernel_rfl) (by kernel_rfl) ?_
              repeat (first
                | (refine BigFrame.wpQuietIn_skip (by first | quiet_asked_in | exact fun _ _ _ _ => trivial) (by rfl) ?_; (try simp only [Act.put, List.setIfInBounds_toArray, List.set_cons_zero, List.set_cons_succ]))
                | (refine BigFrame.wpQuietIn_want (by first | quiet_asked_in | exact fun _ _ _ _ => trivial) (by rfl) (fun K hK => ?_); apply Exists.intro; refine ⟨fun W hW => ?_, hK _ ?_⟩; (focus (obtain ⟨cB, b0, e0⟩ := HSW.out _ (bel2 hB5 hW); go_simp; (first | done | with_reducible rfl | (rw [if_neg (by omega)]; go_simp; (first | done | with_reducible rfl))))); clear hK K; (try simp only [Act.put, List.setIfInBounds_toArray, List.set_cons_zero, List.set_cons_succ])))
              refine wpQuietIn_nil ?_
              intro w6 hB6
              replace hB6 : Below w5.heap.size w5 w6 := hB6
              have hB56 := bel2 hB5 hB6
              have hR6 := hR2.trans (.below hB56)
              gi_wp2
              go_roundw
              case rel => exact ⟨i + 1, k2, pre, by omega, by omega, rfl, by go_num, HX.out, HLO2.out, hJs _ _ _ hJ2 (Moves.below hB56), hR6⟩
              case measure => simp [intOf]; omega
            · have HX := Lib.hid (HM2.out.trans (show pre ++ gonL (f :: al.drop (i + 1)) bl = pre ++ f.i :: gonL (al.drop (i + 1)) bl by rw [gonL_cons, HAN.out hyf', if_neg (by rw [decide_eq_false hye]; decide)]; rfl))
              have hyb : (y.i != f.i) = true := by simp [hye]
              gi_wp2
              refine wpIn_region_below rfl (by kernel_rfl) (by kernel_rfl) ?_
              repeat (first
                | (refine BigFrame.wpQuietIn_skip (by first | quiet_asked_in | exact fun _ _ _ _ => trivial) (by rfl) ?_; (try simp only [Act.put, List.setIfInBounds_toArray, List.set_cons_zero, List.set_cons_succ]))
                | (refine BigFrame.wpQuietIn_want (by first | quiet_asked_in | exact fun _ _ _ _ => trivial) (by rfl) (fun K hK => ?_); apply Exists.intro; refine ⟨fun W hW => ?_, hK _ ?_⟩; (focus (obtain ⟨cB, b0, e0⟩ := HS.out _ hW; go_simp; (first | done | with_reducible rfl | (rw [if_neg (by omega)]; go_simp; (first | done | with_reducible rfl))))); clear hK K; (try simp only [Act.put, List.setIfInBounds_toArray, List.set_cons_zero, List.set_cons_succ])))
              refine wpQuietIn_nil ?_
              intro w5 hB5
              replace hB5 : Below wr.heap.size wr w5 := hB5
              obtain ⟨cB, b0, e0⟩ := HSW.out w5 hB5
              gi_wp2
              refine wpIn_region_tail 18 rfl (by kernel_rfl) (by kernel_rfl) (show Above w5 _ from (Below.refl _ _).drew) ?_
              simp only [List.take_succ_cons, List.take_zero, List.drop_succ_cons, List.drop_zero]
              repeat (first
                | (refine BigFrame.wpQuietIn_skip (by first | quiet_asked_in | exact fun _ _ _ _ => trivial) (by rfl) ?_; (try simp only [Act.put, List.setIfInBounds_toArray, List.set_cons_zero, List.set_cons_succ]))
                | (refine BigFrame.wpQuietIn_want (by first | quiet_asked_in | exact fun _ _ _ _ => trivial) (by rfl) (fun K hK => ?_); apply Exists.intro; refine ⟨fun W hW => ?_, hK _ ?_⟩; (focus (obtain ⟨cB, b0, e0⟩ := HSW.out _ (bel2 hB5 hW); go_simp; (first | done | with_reducible rfl | (rw [if_neg (by omega)]; go_simp; (first | done | with_reducible rfl))))); clear hK K; (try simp only [Act.put, List.setIfInBounds_toArray, List.set_cons_zero, List.set_cons_succ])))
              refine wpQuietIn_nil ?_
              intro w6 hB6
              have hB56 := bel2 hB5 hB6
              have hR6 := hR2.trans (.below hB56)
              obtain ⟨fn, tmps, assign, body, hy, hR1⟩ := hY pre _ _ w6 HX.out (hJs _ _ _ hJ2 (Moves.below hB56))
              (try dsimp only at hy)
              gi_wp2
              refine (roundIn_wide_n hR1).mono ?_
              rintro e W3 (⟨rfl, hJ3, hk3⟩ | ⟨rfl, hJx3⟩)
              · gi_wp2
                go_roundw
                case rel => exact ⟨i + 1, k2, pre ++ [f.i], by omega, by omega, rfl, by go_num, by rw [HX.out, List.append_assoc]; rfl, HLO2.out, hJ3, hR6.trans hk3⟩
                case measure => simp [intOf]; omega
              · gi_wp2
                refine bodyPost_ret (results_none rfl _ _ _) rfl ?_
                exact ⟨⟨_, rfl⟩, .inr ⟨_, _, _, HX.out, hJx3⟩⟩
        · obtain rfl : k2 = bl.length := by omega
          have HAN := any_at HRB.out (k := bl.length) (i := f.i) hk2 (fun j hj => HLO3.out j hj hj) (fun h => absurd h (Nat.lt_irrefl _))
          rw [dif_neg (Nat.lt_irrefl _)] at HAN
          have HX := Lib.hid (HM2.out.trans (show pre ++ gonL (f :: al.drop (i + 1)) bl = pre ++ f.i :: gonL (al.drop (i + 1)) bl by rw [gonL_cons, HAN, if_neg (by decide)]; rfl))
          clear HAN
          have HSW := Lib.hid (fun W' (hW' : Below wr.heap.size wr W') => And.intro ((hW'.cell (World.block_lt_of_cell? wr _ cB)).trans cB) ((hW'.cell (World.block_lt_of_cell? wr _ e0)).trans e0))
          clear cB e0
          have HS := Lib.hid (fun W' (hW' : Above wr W') => HSW.out W' hW')
          gi_wp2
          refine wpIn_region_below rfl (by kernel_rfl) (by kernel_rfl) ?_
          repeat (first
            | (refine BigFrame.wpQuietIn_skip (by first | quiet_asked_in | exact fun _ _ _ _ => trivial) (by rfl) ?_; (try simp only [Act.put, List.setIfInBounds_toArray, List.set_cons_zero, List.set_cons_succ]))
            | (refine BigFrame.wpQuietIn_want (by first | quiet_asked_in | exact fun _ _ _ _ => trivial) (by rfl) (fun K hK => ?_); apply Exists.intro; refine ⟨fun W hW => ?_, hK _ ?_⟩; (focus (obtain ⟨cB, e0⟩ := HS.out _ hW; go_simp; (first | done | with_reducible rfl | (rw [if_neg (by omega)]; go_simp; (first | done | with_reducible rfl))))); clear hK K; (try simp only [Act.put, List.setIfInBounds_toArray, List.set_cons_zero, List.set_cons_succ])))
          refine wpQuietIn_nil ?_
          intro w5 hB5
          replace hB5 : Below wr.heap.size wr w5 := hB5
          obtain ⟨cB, e0⟩ := HSW.out w5 hB5
          gi_wp2
          refine wpIn_region_tail 18 rfl (by kernel_rfl) (by kernel_rfl) (show Above w5 _ from (Below.refl _ _).drew) ?_
          simp only [List.take_succ_cons, List.take_zero, List.drop_succ_cons, List.drop_zero]
          repeat (first
            | (refine BigFrame.wpQuietIn_skip (by first | quiet_asked_in | exact fun _ _ _ _ => trivial) (by rfl) ?_; (try simp only [Act.put, List.setIfInBounds_toArray, List.set_cons_zero, List.set_cons_succ]))
            | (refine BigFrame.wpQuietIn_want (by first | quiet_asked_in | exact fun _ _ _ _ => trivial) (by rfl) (fun K hK => ?_); apply Exists.intro; refine ⟨fun W hW => ?_, hK _ ?_⟩; (focus (obtain ⟨cB, e0⟩ := HSW.out _ (bel2 hB5 hW); go_simp; (first | done | with_reducible rfl | (rw [if_neg (by omega)]; go_simp; (first | done | with_reducible rfl))))); clear hK K; (try simp only [Act.put, List.setIfInBounds_toArray, List.set_cons_zero, List.set_cons_succ])))
          refine wpQuietIn_nil ?_
          intro w6 hB6
          have hB56 := bel2 hB5 hB6
          have hR6 := hR2.trans (.below hB56)
          obtain ⟨fn, tmps, assign, body, hy, hR1⟩ := hY pre _ _ w6 HX.out (hJs _ _ _ hJ2 (Moves.below hB56))
          (try dsimp only at hy)
          gi_wp2
          refine (roundIn_wide_n hR1).mono ?_
          rintro e W3 (⟨rfl, hJ3, hk3⟩ | ⟨rfl, hJx3⟩)
          · gi_wp2
            go_roundw
            case rel => exact ⟨i + 1, bl.length, pre ++ [f.i], by omega, by omega, rfl, by go_num, by rw [HX.out, List.append_assoc]; rfl, HLO2.out, hJ3, hR6.trans hk3⟩
            case measure => simp [intOf]; omega
          · gi_wp2
            refine bodyPost_ret (results_none rfl _ _ _) rfl ?_
            exact ⟨⟨_, rfl⟩, .inr ⟨_, _, _, HX.out, hJx3⟩⟩
    · obtain rfl : i = al.length := by omega
      rw [List.drop_length] at HM
      have HE := Lib.hid (show gonL al bl = pre from HM.out.trans (List.append_nil _))
      gi_wp2
      refine bodyPost_end (results_none rfl _ _ _) rfl ?_
      exact ⟨⟨_, rfl⟩, .inl (by rw [HE.out]; exact hJ)⟩

end Go.Proofs.Ytdncdlbhgaehmaa
