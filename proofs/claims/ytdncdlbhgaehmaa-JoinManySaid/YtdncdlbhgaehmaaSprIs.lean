/- SprMrg, SprIs: in one text. -/
import Derived.Test.YtdncdlbhgaehmaaSprFind
import Derived.Test.YtdncdlbhgaehmaaIterK
import Derived.Test.YtdncdlbhgaehmaaTailIn
import Derived.Test.YtdncdlbhgaehmaaGrpDo
import Derived.Test.YtdncdlbhgaehmaaGrp
/- The iterator of package sparse's merged. -/
namespace Go.Proofs.Ytdncdlbhgaehmaa
open Go.RowKit Go.Shelf
set_option linter.unusedVariables false
attribute [local go_sem] Oper.semAt_some wide_fn wide_round_fn

attribute [local irreducible] wpQuietIn
theorem mrg_lt {e x : EntryC} {A B : List EntryC} (h : x.i < e.i) : mrg (e :: A) (x :: B) = x :: mrg (e :: A) B := by
  have h2 : x.i ≤ e.i := by omega
  simp [mrg, h2, h]
theorem mrg_eq {e x : EntryC} {A B : List EntryC} (h : x.i = e.i) : mrg (e :: A) (x :: B) = mrg (e :: A) B := by
  simp [mrg, h]
theorem mrg_gt {e : EntryC} {A B : List EntryC} (h : ∀ x, B.head? = some x → e.i < x.i) : mrg (e :: A) B = e :: mrg A B := by
  cases B with
  | nil => simp [mrg]
  | cons x B => have h2 : ¬ x.i ≤ e.i := by have := h x rfl; omega
                simp [mrg, h2]

set_option maxRecDepth 100000 in
set_option maxHeartbeats 4000000 in
theorem mrg_iter (Ba Bb : Nat) (a b : Option Addr) (ca cb : Nat) (al bl : List EntryC) (hma : al.length < 1000000) (hmb : bl.length < 1000000) (hcb : bl.length ≤ cb) (S V : Nat → Prop) (hSa : S Ba) (hSb : S Bb) (hSa2 : ∀ k, inBlkE a al.length k → S k) (hSb2 : ∀ k, inBlkE b bl.length k → S k) (w0 : World) (hSV : ∀ k, S k → ¬ V k ∧ k < w0.heap.size) (hV : ∀ k, V k → k < w0.heap.size)
    (hca : w0.cell? ⟨Ba, 0, none⟩ = some (.slice a al.length ca)) (hcbx : w0.cell? ⟨Bb, 0, none⟩ = some (.slice b bl.length cb)) (hra : RowV w0 a al.length 3 (entryCells al)) (hrb : RowV w0 b bl.length 3 (entryCells bl)) :
    IterU Try.prog 114 #[.pointer (some ⟨Ba, 0, none⟩), .pointer (some ⟨Bb, 0, none⟩)] EntryC.enc (mrg al bl) S V w0 := by
  intro L J Jx W hW hl0 hlW hJs _ hY h0
  have hU : ∀ k, S k → ¬ V k ∧ k ≠ L := fun k hk => ⟨(hSV k hk).1, by have := (hSV k hk).2; omega⟩
  have hX9 : ∀ k, W.heap.size ≤ k → ¬ V k ∧ k ≠ L := fun k hk => ⟨fun h => by have h1 := hV k h; have h2 := hW.size; omega, by omega⟩
  have hcl0 := hW.cell hca hSa
  have hcr0 := hW.cell hcbx hSb
  obtain ⟨hlen, hml, hcs⟩ := hra
  obtain ⟨hlen2, hml2, hcs2⟩ := hrb
  clear hca hcbx
  refine callsIn_of_wp Try.func114 rfl trivial ?_ rfl
  simp only [Try.ntmps114, List.size_toArray, List.length_cons, List.length_nil, Nat.reduceAdd, Nat.reduceSub, Array.replicate_succ, Array.replicate_zero, List.push_toArray, List.append_toArray, List.nil_append, List.cons_append]
  gi_wp2
  gi_loopw [4, 11] (fun qk qi wr => ∃ (i k : Nat) (pre : List EntryC), i ≤ al.length ∧ k ≤ bl.length ∧ qk = .int .i64 k ∧ qi = .int .i64 i ∧ mrg al bl = pre ++ mrg (al.drop i) (bl.drop k) ∧ J pre wr ∧ Rd W.heap.size (fun k => ¬ V k ∧ k ≠ L) W wr) (fun _ qi _ => al.length - (intOf qi).toNat)
  case atStart => exact ⟨0, 0, [], by omega, by omega, rfl, rfl, rfl, h0, Rd.refl _ _ _⟩
  case round =>
    obtain ⟨i, k, pre, hi, hk, rfl, rfl, hM, hJ, hR⟩ := hrel
    have HM := Lib.hid hM
    clear hM
    by_cases hlt : i < al.length
    · obtain ⟨ba, oa, rfl, hba, hxa⟩ := hcs (by omega)
      have hSba := hSa2 ba ⟨ba, oa, rfl, by omega, rfl⟩
      have cell : ∀ q u, q < 3 → (al[i].cells)[q]? = some u → wr.cell? ⟨ba, oa + (i * 3 + q), none⟩ = some u := fun q u hq hu =>
        hR.cell (hW.cell (RowV.at_ (len := al.length) (sz := 3) hxa (by rw [entryCells, flat_at EntryC.cells 3 EntryC.len al i q (by omega) hq]; exact hu)) hSba) (hU _ hSba)
      have c0 : wr.cell? ⟨ba, oa + i * 3, none⟩ = some (.int .i64 al[i].i) := cell 0 _ (by decide) rfl
      have c1 : wr.cell? ⟨ba, oa + i * 3 + 1, none⟩ = some (.int .i64 al[i].t) := cell 1 _ (by decide) rfl
      have c2 : wr.cell? ⟨ba, oa + i * 3 + 2, none⟩ = some (.string al[i].d) := cell 2 _ (by decide) rfl
      have HM2 := Lib.hid (HM.out.trans (show pre ++ mrg (al.drop i) (bl.drop k) = pre ++ mrg (al[i] :: al.drop (i + 1)) (bl.drop k) by rw [List.drop_eq_getElem_cons hlt]))
      have hi0 : (0 : Int) ≤ (i : Int) := by omega
      have hil : (i : Int) < (al.length : Int) := by omega
      clear cell hxa hcs HM
      generalize al[i] = f at *
      have hRA := hR.alloc (.cells #[.int .i64 f.i, .int .i64 f.t, .string f.d] 115)
      have hJA := hJs _ _ _ hJ (Moves.alloc wr (.cells #[.int .i64 f.i, .int .i64 f.t, .string f.d] 115))
      have hXb := World.alloc_heap_new wr (.cells #[.int .i64 f.i, .int .i64 f.t, .string f.d] 115)
      have hXs : W.heap.size ≤ wr.heap.size := hR.size
      gi_wp2
      clear c0 c1 c2 hJ hR
      obtain ⟨X, hX⟩ : ∃ X, X = wr.heap.size := ⟨_, rfl⟩
      generalize (wr.alloc (.cells #[.int .i64 f.i, .int .i64 f.t, .string f.d] 115)) = wa at *
      rw [← hX] at hXb hXs
      rw [← hX]
      clear hX
      gi_loopw [4] (fun qk wq => ∃ (k2 : Nat) (pre2 : List EntryC), k2 ≤ bl.length ∧ qk = .int .i64 k2 ∧ mrg al bl = pre2 ++ mrg (f :: al.drop (i + 1)) (bl.drop k2) ∧ J pre2 wq ∧ Rd W.heap.size (fun k => ¬ V k ∧ k ≠ L) W wq ∧ wq.heap[X]? = some (.cells #[.int .i64 f.i, .int .i64 f.t, .string f.d] 115 (0, 0))) (fun qk _ => bl.length - (intOf qk).toNat)
      case atStart => exact ⟨k, pre, hk, rfl, HM2.out, hJA, hRA, hXb⟩
      case round =>
        clear hJA hRA hXb HM2
        obtain ⟨k2, pre2, hk2, rfl, hM2, hJ2, hR2, hX2⟩ := hrel
        have HM2 := Lib.hid hM2
        clear hM2
        have cB := hR2.cell hcr0 (hU _ hSb)
        have e0 := cell_of_row _ _ 0 _ _ _ hX2
        have e1 := cell_of_row _ _ 1 _ _ _ hX2
        have e2 := cell_of_row _ _ 2 _ _ _ hX2
        simp only [List.getElem?_toArray, List.getElem?_cons_zero, List.getElem?_cons_succ] at e0 e1 e2
        have hk0 : (0 : Int) ≤ (k2 : Int) := by omega
        by_cases hlt2 : k2 < bl.length
        · obtain ⟨bb, ob, rfl, hbb, hxb⟩ := hcs2 (by omega)
          have hSbb := hSb2 bb ⟨bb, ob, rfl, by omega, rfl⟩
          have cell : ∀ q u, q < 3 → (bl[k2].cells)[q]? = some u → wr.cell? ⟨bb, ob + (k2 * 3 + q), none⟩ = some u := fun q u hq hu =>
            hR2.cell (hW.cell (RowV.at_ (len := bl.length) (sz := 3) hxb (by rw [entryCells, flat_at EntryC.cells 3 EntryC.len bl k2 q (by omega) hq]; exact hu)) hSbb) (hU _ hSbb)
          have b0 : wr.cell? ⟨bb, ob + k2 * 3, none⟩ = some (.int .i64 bl[k2].i) := cell 0 _ (by decide) rfl
          have b1 : wr.cell? ⟨bb, ob + k2 * 3 + 1, none⟩ = some (.int .i64 bl[k2].t) := cell 1 _ (by decide) rfl
          have b2 : wr.cell? ⟨bb, ob + k2 * 3 + 2, none⟩ = some (.string bl[k2].d) := cell 2 _ (by decide) rfl
          have HD := Lib.hid (List.drop_eq_getElem_cons hlt2)
          have hkl : (k2 : Int) < (bl.length : Int) := by omega
          clear cell hxb hcs2
          generalize bl[k2] = y at *
          have HSW := Lib.hid (fun W' (hW' : Below wr.heap.size wr W') => And.intro ((hW'.cell (World.block_lt_of_cell? wr _ cB)).trans cB) (And.intro ((hW'.cell (World.block_lt_of_cell? wr _ b0)).trans b0) (And.intro ((hW'.cell (World.block_lt_of_cell? wr _ b1)).trans b1) (And.intro ((hW'.cell (World.block_lt_of_cell? wr _ b2)).trans b2) (And.intro ((hW'.cell (World.block_lt_of_cell? wr _ e0)).trans e0) (And.intro ((hW'.cell (World.block_lt_of_cell? wr _ e1)).trans e1) ((hW'.cell (World.block_lt_of_cell? wr _ e2)).trans e2)))))))
          clear cB b0 b1 b2 e0 e1 e2
          have HS := Lib.hid (fun W' (hW' : Above wr W') => HSW.out W' hW')
          by_cases hyf : y.i ≤ f.i
          · have ht1 : decide (y.i ≤ f.i) = true := decide_eq_true hyf
            gi_wp2
            refine wpIn_region_below rfl (by kernel_rfl) (by kernel_rfl) ?_
            repeat (first
              | (refine BigFrame.wpQuietIn_skip (by first | quiet_asked_in | exact fun _ _ _ _ => trivial) (by rfl) ?_; (try simp only [Act.put, List.setIfInBounds_toArray, List.set_cons_zero, List.set_cons_succ]))
              | (refine BigFrame.wpQuietIn_want (by first | quiet_asked_in | exact fun _ _ _ _ => trivial) (by rfl) (fun K hK => ?_); apply Exists.intro; refine ⟨fun W hW => ?_, hK _ ?_⟩; (focus (obtain ⟨cB, b0, b1, b2, e0, e1, e2⟩ := HS.out _ hW; go_simp; (first | done | with_reducible rfl | (fail) | (rw [if_neg (by omega)]; go_simp; (first | done | with_reducible rfl))))); clear hK K; (try simp only [Act.put, List.setIfInBounds_toArray, List.set_cons_zero, List.set_cons_succ])))
            refine wpQuietIn_nil ?_
            intro w5 hB5
            replace hB5 : Below wr.heap.size wr w5 := hB5
            obtain ⟨cB, b0, b1, b2, e0, e1, e2⟩ := HSW.out w5 hB5
            by_cases hlt3 : y.i < f.i
            · have ht2 : decide (y.i < f.i) = true := decide_eq_true hlt3
              have HX := Lib.hid (HM2.out.trans (show pre2 ++ mrg (f :: al.drop (i + 1)) (bl.drop k2) = pre2 ++ y :: mrg (f :: al.drop (i + 1)) (bl.drop (k2 + 1)) by rw [HD.out, mrg_lt hlt3]))
              clear HM2 HD
              gi_wp2
              refine wpIn_region_tail 14 rfl (by kernel_rfl) (by kernel_rfl) (show Above w5 _ from (Below.refl _ _).drew) ?_
              simp only [List.take_succ_cons, List.take_zero, List.drop_succ_cons, List.drop_zero]
              repeat (first
                | (refine BigFrame.wpQuietIn_skip (by first | quiet_asked_in | exact fun _ _ _ _ => trivial) (by rfl) ?_; (try simp only [Act.put, List.setIfInBounds_toArray, List.set_cons_zero, List.set_cons_succ]))
                | (refine BigFrame.wpQuietIn_want (by first | quiet_asked_in | exact fun _ _ _ _ => trivial) (by rfl) (fun K hK => ?_); apply Exists.intro; refine ⟨fun W hW => ?_, hK _ ?_⟩; (focus (obtain ⟨cB, b0, b1, b2, e0, e1, e2⟩ := HSW.out _ (bel2 hB5 hW); go_simp; (first | done | with_reducible rfl | (fail) | (rw [if_neg (by omega)]; go_simp; (first | done | with_reducible rfl))))); clear hK K; (try simp only [Act.put, List.setIfInBounds_toArray, List.set_cons_zero, List.set_cons_succ])))
              refine wpQuietIn_nil ?_
              intro w6 hB6
              have hB56 := bel2 hB5 hB6
              have hR6 := hR2.trans (.below hB56)
              have hX6 := (hB56.block _ (heap_lt hX2)).trans hX2
              obtain ⟨fn, tmps, assign, body, hy, hR1⟩ := hY pre2 _ _ w6 HX.out (hJs _ _ _ hJ2 (Moves.below hB56))
              dsimp only [EntryC.enc, EntryC.val] at hy
              gi_wp2
              refine (roundIn_wide_n hR1).mono ?_
              rintro e W3 (⟨rfl, hJ3, hk3⟩ | ⟨rfl, hJx3⟩)
              · gi_wp2
                go_roundw
                case rel => exact ⟨k2 + 1, pre2 ++ [y], by omega, by go_num, by rw [HX.out, List.append_assoc]; rfl, hJ3, hR6.trans hk3, hk3.get hX6 (hX9 X hXs)⟩
                case measure => simp [intOf]; omega
              · gi_wp2
                refine bodyPost_ret (results_none rfl _ _ _) rfl ?_
                exact ⟨⟨_, rfl⟩, .inr ⟨_, _, _, HX.out, hJx3⟩⟩
            · replace hlt3 : f.i ≤ y.i := by omega
              have ht2 : decide (y.i < f.i) = false := decide_eq_false (by omega)
              have HX := Lib.hid (HM2.out.trans (show pre2 ++ mrg (f :: al.drop (i + 1)) (bl.drop k2) = pre2 ++ mrg (f :: al.drop (i + 1)) (bl.drop (k2 + 1)) by rw [HD.out, mrg_eq (by omega)]))
              clear HM2 HD
              gi_wp2
              refine wpIn_region_below rfl (by kernel_rfl) (by kernel_rfl) ?_
              repeat (first
                | (refine BigFrame.wpQuietIn_skip (by first | quiet_asked_in | exact fun _ _ _ _ => trivial) (by rfl) ?_; (try simp only [Act.put, List.setIfInBounds_toArray, List.set_cons_zero, List.set_cons_succ]))
                | (refine BigFrame.wpQuietIn_want (by first | quiet_asked_in | exact fun _ _ _ _ => trivial) (by rfl) (fun K hK => ?_); apply Exists.intro; refine ⟨fun W hW => ?_, hK _ ?_⟩; (focus (obtain ⟨cB, b0, b1, b2, e0, e1, e2⟩ := HSW.out _ (bel2 hB5 hW); go_simp; (first | done | with_reducible rfl | (fail) | (rw [if_neg (by omega)]; go_simp; (first | done | with_reducible rfl))))); clear hK K; (try simp only [Act.put, List.setIfInBounds_toArray, List.set_cons_zero, List.set_cons_succ])))
              refine wpQuietIn_nil ?_
              intro w6 hB6
              replace hB6 : Below w5.heap.size w5 w6 := hB6
              have hB56 := bel2 hB5 hB6
              have hR6 := hR2.trans (.below hB56)
              have hX6 := (hB56.block _ (heap_lt hX2)).trans hX2
              gi_wp2
              go_roundw
              case rel => exact ⟨k2 + 1, pre2, by omega, by go_num, HX.out, hJs _ _ _ hJ2 (Moves.below hB56), hR6, hX6⟩
              case measure => simp [intOf]; omega
          · replace hyf : f.i < y.i := by omega
            have ht1 : decide (y.i ≤ f.i) = false := decide_eq_false (by omega)
            have HX := Lib.hid (HM2.out.trans (show pre2 ++ mrg (f :: al.drop (i + 1)) (bl.drop k2) = pre2 ++ f :: mrg (al.drop (i + 1)) (bl.drop k2) by rw [mrg_gt (by rw [HD.out]; intro x hx; cases hx; exact hyf)]))
            clear HM2 HD
            gi_wp2
            refine wpIn_region_below rfl (by kernel_rfl) (by kernel_rfl) ?_
            repeat (first
              | (refine BigFrame.wpQuietIn_skip (by first | quiet_asked_in | exact fun _ _ _ _ => trivial) (by rfl) ?_; (try simp only [Act.put, List.setIfInBounds_toArray, List.set_cons_zero, List.set_cons_succ]))
              | (refine BigFrame.wpQuietIn_want (by first | quiet_asked_in | exact fun _ _ _ _ => trivial) (by rfl) (fun K hK => ?_); apply Exists.intro; refine ⟨fun W hW => ?_, hK _ ?_⟩; (focus (obtain ⟨cB, b0, b1, b2, e0, e1, e2⟩ := HS.out _ hW; go_simp; (first | done | with_reducible rfl | (fail) | (rw [if_neg (by omega)]; go_simp; (first | done | with_reducible rfl))))); clear hK K; (try simp only [Act.put, List.setIfInBounds_toArray, List.set_cons_zero, List.set_cons_succ])))
            refine wpQuietIn_nil ?_
            intro w5 hB5
            replace hB5 : Below wr.heap.size wr w5 := hB5
            obtain ⟨cB, b0, b1, b2, e0, e1, e2⟩ := HSW.out w5 hB5
            have hR5 := hR2.trans (.below hB5)
            obtain ⟨fn, tmps, assign, body, hy, hR1⟩ := hY pre2 _ _ w5 HX.out (hJs _ _ _ hJ2 (Moves.below hB5))
            dsimp only [EntryC.enc, EntryC.val] at hy
            gi_wp2
            refine (roundIn_wide_n hR1).mono ?_
            rintro e W3 (⟨rfl, hJ3, hk3⟩ | ⟨rfl, hJx3⟩)
            · gi_wp2
              go_roundw
              case rel => exact ⟨i + 1, k2, pre2 ++ [f], by omega, by omega, rfl, by go_num, by rw [HX.out, List.append_assoc]; rfl, hJ3, hR5.trans hk3⟩
              case measure => simp [intOf]; omega
            · gi_wp2
              refine bodyPost_ret (results_none rfl _ _ _) rfl ?_
              exact ⟨⟨_, rfl⟩, .inr ⟨_, _, _, HX.out, hJx3⟩⟩
        · obtain rfl : k2 = bl.length := by omega
          have HX := Lib.hid (HM2.out.trans (show pre2 ++ mrg (f :: al.drop (i + 1)) (bl.drop bl.length) = pre2 ++ f :: mrg (al.drop (i + 1)) (bl.drop bl.length) by rw [mrg_gt (by rw [List.drop_length]; intro x hx; cases hx)]))
          clear HM2
          have HSW := Lib.hid (fun W' (hW' : Below wr.heap.size wr W') => And.intro ((hW'.cell (World.block_lt_of_cell? wr _ cB)).trans cB) (And.intro ((hW'.cell (World.block_lt_of_cell? wr _ e0)).trans e0) (And.intro ((hW'.cell (World.block_lt_of_cell? wr _ e1)).trans e1) ((hW'.cell (World.block_lt_of_cell? wr _ e2)).trans e2))))
          clear cB e0 e1 e2
          have HS := Lib.hid (fun W' (hW' : Above wr W') => HSW.out W' hW')
          gi_wp2
          refine wpIn_region_below rfl (by kernel_rfl) (by kernel_rfl) ?_
          repeat (first
            | (refine BigFrame.wpQuietIn_skip (by first | quiet_asked_in | exact fun _ _ _ _ => trivial) (by rfl) ?_; (try simp only [Act.put, List.setIfInBounds_toArray, List.set_cons_zero, List.set_cons_succ]))
            | (refine BigFrame.wpQuietIn_want (by first | quiet_asked_in | exact fun _ _ _ _ => trivial) (by rfl) (fun K hK => ?_); apply Exists.intro; refine ⟨fun W hW => ?_, hK _ ?_⟩; (focus (obtain ⟨cB, e0, e1, e2⟩ := HS.out _ hW; go_simp; (first | done | with_reducible rfl | (fail) | (rw [if_neg (by omega)]; go_simp; (first | done | with_reducible rfl))))); clear hK K; (try simp only [Act.put, List.setIfInBounds_toArray, List.set_cons_zero, List.set_cons_succ])))
          refine wpQuietIn_nil ?_
          intro w5 hB5
          replace hB5 : Below wr.heap.size wr w5 := hB5
          obtain ⟨cB, e0, e1, e2⟩ := HSW.out w5 hB5
          have hR5 := hR2.trans (.below hB5)
          obtain ⟨fn, tmps, assign, body, hy, hR1⟩ := hY pre2 _ _ w5 HX.out (hJs _ _ _ hJ2 (Moves.below hB5))
          dsimp only [EntryC.enc, EntryC.val] at hy
          gi_wp2
          refine (roundIn_wide_n hR1).mono ?_
          rintro e W3 (⟨rfl, hJ3, hk3⟩ | ⟨rfl, hJx3⟩)
          · gi_wp2
            go_roundw
            case rel => exact ⟨i + 1, bl.length, pre2 ++ [f], by omega, by omega, rfl, by go_num, by rw [HX.out, List.append_assoc]; rfl, hJ3, hR5.trans hk3⟩
            case measure => simp [intOf]; omega
          · gi_wp2
            refine bodyPost_ret (results_none rfl _ _ _) rfl ?_
            exact ⟨⟨_, rfl⟩, .inr ⟨_, _, _, HX.out, hJx3⟩⟩
    · obtain rfl : i = al.length := by omega
      rw [List.drop_length] at HM
      have HM3 := Lib.hid (show mrg al bl = pre ++ bl.drop k from HM.out)
      clear HM hcs
      have cB := hR.cell hcr0 (hU _ hSb)
      have hk0 : (0 : Int) ≤ (k : Int) := by omega
      have hkI : (k : Int) ≤ (bl.length : Int) := by omega
      have hkC : (k : Int) ≤ (cb : Int) := by omega
      have hlC : (bl.length : Int) ≤ (cb : Int) := by omega
      by_cases hkl : k < bl.length
      · obtain ⟨bb, ob, rfl, hbb, hxb⟩ := hcs2 (by omega)
        have hSbb := hSb2 bb ⟨bb, ob, rfl, by omega, rfl⟩
        have n4 : ¬ cb = k := by omega
        gi_wp2
        clear cB
        gi_loopw [57] (fun q wr => ∃ (j : Nat) (pre3 : List EntryC), k + j ≤ bl.length ∧ q = .int .i64 j ∧ mrg al bl = pre3 ++ bl.drop (k + j) ∧ J pre3 wr ∧ Rd W.heap.size (fun k => ¬ V k ∧ k ≠ L) W wr) (fun q _ => bl.length - (intOf q).toNat)
        case atStart => exact ⟨0, pre, by omega, rfl, HM3.out, hJ, hR⟩
        case round =>
          clear hJ hR HM3
          obtain ⟨j, pre3, hj, rfl, hM3, hJ3, hR3⟩ := hrel
          have HM3 := Lib.hid hM3
          clear hM3
          by_cases hlt3 : k + j < bl.length
          · have cell : ∀ q u, q < 3 → (bl[k + j].cells)[q]? = some u → wr.cell? ⟨bb, ob + ((k + j) * 3 + q), none⟩ = some u := fun q u hq hu =>
              hR3.cell (hW.cell (RowV.at_ (len := bl.length) (sz := 3) hxb (by rw [entryCells, flat_at EntryC.cells 3 EntryC.len bl (k + j) q (by omega) hq]; exact hu)) hSbb) (hU _ hSbb)
            have b0 : wr.cell? ⟨bb, ob + k * 3 + j * 3, none⟩ = some (.int .i64 bl[k + j].i) := by have := cell 0 _ (by decide) rfl; rwa [show ob + ((k + j) * 3 + 0) = ob + k * 3 + j * 3 by omega] at this
            have b1 : wr.cell? ⟨bb, ob + k * 3 + j * 3 + 1, none⟩ = some (.int .i64 bl[k + j].t) := by have := cell 1 _ (by decide) rfl; rwa [show ob + ((k + j) * 3 + 1) = ob + k * 3 + j * 3 + 1 by omega] at this
            have b2 : wr.cell? ⟨bb, ob + k * 3 + j * 3 + 2, none⟩ = some (.string bl[k + j].d) := by have := cell 2 _ (by decide) rfl; rwa [show ob + ((k + j) * 3 + 2) = ob + k * 3 + j * 3 + 2 by omega] at this
            have HX := Lib.hid (HM3.out.trans (show pre3 ++ bl.drop (k + j) = pre3 ++ bl[k + j] :: bl.drop (k + j + 1) by rw [List.drop_eq_getElem_cons hlt3]))
            have hj0 : (0 : Int) ≤ (j : Int) := by omega
            have hjl : j < bl.length - k := by omega
            have hjL : (j : Int) < ((bl.length - k : Nat) : Int) := by omega
            clear cell hxb hcs2 HM3
            generalize bl[k + j] = y at *
            obtain ⟨fn, tmps, assign, body, hy, hR1⟩ := hY pre3 _ _ (wr.alloc (.cells #[.int .i64 y.i, .int .i64 y.t, .string y.d] 115)) HX.out (hJs _ _ _ hJ3 (Moves.alloc _ _))
            dsimp only [EntryC.enc, EntryC.val] at hy
            gi_wp2
            refine (roundIn_wide_n hR1).mono ?_
            rintro e W3 (⟨rfl, hJ4, hk3⟩ | ⟨rfl, hJx3⟩)
            · gi_wp2
              go_roundw
              case rel => exact ⟨j + 1, pre3 ++ [y], by omega, by go_num, by rw [HX.out, List.append_assoc]; rfl, hJ4, (hR3.alloc _).trans hk3⟩
              case measure => simp [intOf]; omega
            · gi_wp2
              refine bodyPost_ret (results_none rfl _ _ _) rfl ?_
              exact ⟨⟨_, rfl⟩, .inr ⟨_, _, _, HX.out, hJx3⟩⟩
          · have hje : k + j = bl.length := by omega
            have HE := Lib.hid (show mrg al bl = pre3 by rw [HM3.out, hje, List.drop_length, List.append_nil])
            have hjl : bl.length - k ≤ j := by omega
            have hjL : ((bl.length - k : Nat) : Int) ≤ (j : Int) := by omega
            clear HM3 hje
            gi_wp2
            refine bodyPost_end (results_none rfl _ _ _) rfl ?_
            exact ⟨⟨_, rfl⟩, .inl (by rw [HE.out]; exact hJ3)⟩
      · obtain rfl : k = bl.length := by omega
        have HE := Lib.hid (show mrg al bl = pre by rw [HM3.out, List.drop_length, List.append_nil])
        clear HM3
        gi_wp2
        all_goals
          gi_loopw [57] (fun q wr => q = .int .i64 0 ∧ J pre wr) (fun q _ => 0)
          case atStart => exact ⟨rfl, hJ⟩
          case round =>
            clear hJ hR
            obtain ⟨rfl, hJ4⟩ := hrel
            gi_wp2
            refine bodyPost_end (results_none rfl _ _ _) rfl ?_
            exact ⟨⟨_, rfl⟩, .inl (by rw [HE.out]; exact hJ4)⟩

end Go.Proofs.Ytdncdlbhgaehmaa

/- The contracts of package sparse's Is, Dense, merged. -/
namespace Go.Proofs.Ytdncdlbhgaehmaa
open Go.RowKit Go.Shelf
set_option linter.unusedVariables false
attribute [local go_sem] Oper.semAt_some wide_fn wide_round_fn

theorem isSp_nil {id fi te ht hv hc : Int} {l : List EntryC} (h : sprB l fi = true) : isSp ⟨id, fi, te, ht, hv, hc, l⟩ = isG ⟨id, fi, te, ht, hv, hc, []⟩ := by
  unfold isSp isG denseB; dsimp only; rw [h]
theorem isSp_no {g : GM} (h : sprB g.l g.fi = false) : isSp g = false := by
  unfold isSp; rw [h]; simp

set_option maxRecDepth 100000 in
set_option maxHeartbeats 4000000 in
theorem sprIs_any (id fi te ht hv hc : Int) (l : List EntryC) (a : Option Addr) (cap : Nat) (w : World) (hg : HasG w a ⟨id, fi, te, ht, hv, hc, l⟩) : Gives Try.prog 90 #[.agg #[.int .i64 id, .int .i64 fi, .int .i64 te, .int .i64 ht, .int .i64 hv, .int .i64 hc, .slice a l.length cap]] w (.bool (isSp ⟨id, fi, te, ht, hv, hc, l⟩)) := by
  have hm := hg.1
  have hcs := hg.2.2.2
  dsimp only at hm hcs
  have GG := Lib.hid (fun W => (show Gives Try.prog 112 #[.agg #[.int .i64 id, .int .i64 fi, .int .i64 te, .int .i64 ht, .int .i64 hv, .int .i64 hc, .slice none 0 0]] W (.bool (isG ⟨id, fi, te, ht, hv, hc, []⟩)) from grpIs_any id fi te ht hv hc [] none 0 W ⟨(by decide : 0 < 1000000), RowV.nil _ _ _⟩))
  have HA := Lib.hid (bel_alloc (Below.refl w.heap.size w) (.cells #[.int .i64 id, .int .i64 fi, .int .i64 te, .int .i64 ht, .int .i64 hv, .int .i64 hc, .slice a l.length cap] 65))
  clear hg
  unfold Gives
  go_enter Try.func90, Try.ntmps90
  go_wp2
  go_loopw [3, 11] (fun ls q wr => ∃ (k : Nat) (m : Int), k ≤ l.length ∧ q = .int .i64 k ∧ ls = .int .i64 m ∧ sprB l fi = sprB (l.drop k) m ∧ Below (w.alloc (.cells #[.int .i64 id, .int .i64 fi, .int .i64 te, .int .i64 ht, .int .i64 hv, .int .i64 hc, .slice a l.length cap] 65)).heap.size (w.alloc (.cells #[.int .i64 id, .int .i64 fi, .int .i64 te, .int .i64 ht, .int .i64 hv, .int .i64 hc, .slice a l.length cap] 65)) wr) (fun _ q _ => l.length - (intOf q).toNat)
  case atStart => exact ⟨0, fi, by omega, rfl, rfl, rfl, Below.refl _ _⟩
  case round =>
    obtain ⟨k, m, hk, rfl, rfl, hsp, hB⟩ := hrel
    have HSP := Lib.hid hsp
    clear hsp
    have hBw := bel2 HA.out hB
    have hGb := (hB.block w.heap.size (by simp)).trans (World.alloc_heap_new w (.cells #[.int .i64 id, .int .i64 fi, .int .i64 te, .int .i64 ht, .int .i64 hv, .int .i64 hc, .slice a l.length cap] 65))
    by_cases hlt : k < l.length
    · obtain ⟨b, off, rfl, hb, hx⟩ := hcs (by omega)
      obtain ⟨d0, d1, d2⟩ := entry_at hb hBw hx hlt
      have HT := Lib.hid (show sprB l fi = ((entryB l[k] && decide (m ≤ l[k].i)) && sprB (l.drop (k + 1)) (l[k].i + 1)) by rw [HSP.out, List.drop_eq_getElem_cons hlt]; rfl)
      have hk0 : (0 : Int) ≤ (k : Int) := by omega
      have hkl : (k : Int) < (l.length : Int) := by omega
      clear hx hcs HSP hGb
      generalize l[k] = x at *
      have GE := Lib.hid (isEntry_any x)
      have hbd := fun h => (entryB_bd (e := x) h).1
      obtain ⟨xi, xt, xd⟩ := x
      dsimp only [EntryC.val] at *
      cases he : entryB ⟨xi, xt, xd⟩
      · have HN := Lib.hid (isSp_no (g := ⟨id, fi, te, ht, hv, hc, l⟩) (by show sprB l fi = false; rw [HT.out, he]; rfl))
        rw [he] at GE
        clear HT hbd he
        go_wp2_with (go_at_call 88; ((with_reducible refine (GE.out _).mono ?_); rintro e w2 ⟨rfl, hB2⟩; have hA2 := bel2 (bel_alloc (Below.refl wr.heap.size wr) (.cells #[.int .i64 xi, .int .i64 xt, .string xd] 115)) hB2; have x0 : w2.cell? ⟨wr.heap.size, 0, none⟩ = some (.int .i64 xi) := blk_cell hB2 0))
        go_ret
        exact ⟨by rw [HN.out]; rfl, bel2 hBw hA2⟩
      · rw [he] at GE
        have hb9 := hbd he
        by_cases hmi : m ≤ xi
        · have HT2 := Lib.hid (show sprB l fi = sprB (l.drop (k + 1)) (xi + 1) by rw [HT.out, he, decide_eq_true hmi]; rfl)
          obtain ⟨hb1, hb2⟩ := hb9
          clear HT hbd he
          go_wp2_with (go_at_call 88; ((with_reducible refine (GE.out _).mono ?_); rintro e w2 ⟨rfl, hB2⟩; have hA2 := bel2 (bel_alloc (Below.refl wr.heap.size wr) (.cells #[.int .i64 xi, .int .i64 xt, .string xd] 115)) hB2; have x0 : w2.cell? ⟨wr.heap.size, 0, none⟩ = some (.int .i64 xi) := blk_cell hB2 0))
          go_roundw
          case rel => exact ⟨k + 1, xi + 1, by omega, by go_num, rfl, HT2.out, bel2 hB hA2⟩
          case measure => simp [intOf]; omega
        · have HN := Lib.hid (isSp_no (g := ⟨id, fi, te, ht, hv, hc, l⟩) (by show sprB l fi = false; rw [HT.out, decide_eq_false hmi]; simp))
          replace hmi : xi < m := by omega
          clear HT hbd he hb9
          go_wp2_with (go_at_call 88; ((with_reducible refine (GE.out _).mono ?_); rintro e w2 ⟨rfl, hB2⟩; have hA2 := bel2 (bel_alloc (Below.refl wr.heap.size wr) (.cells #[.int .i64 xi, .int .i64 xt, .string xd] 115)) hB2; have x0 : w2.cell? ⟨wr.heap.size, 0, none⟩ = some (.int .i64 xi) := blk_cell hB2 0))
          go_ret
          exact ⟨by rw [HN.out]; rfl, bel2 hBw hA2⟩
    · obtain rfl : k = l.length := by omega
      have HN := Lib.hid (isSp_nil (id := id) (te := te) (ht := ht) (hv := hv) (hc := hc) (show sprB l fi = true by rw [HSP.out, List.drop_length]; rfl))
      have hb7 := Go.Joins.block_setCell hGb (.slice none 0 0) (i := 6)
      simp only [List.setIfInBounds_toArray, List.set_cons_succ, List.set_cons_zero] at hb7
      have hbs := hBw.setCell (p := ⟨w.heap.size, 6, none⟩) (Nat.le_refl _) (.slice none 0 0)
      obtain ⟨g0, g1, g2, g3, g4, g5, g6, fg⟩ := cells7 hGb
      generalize isG ⟨id, fi, te, ht, hv, hc, []⟩ = bb at *
      clear HSP hcs
      go_wp2_with (go_at_call 112; ((with_reducible refine (GG.out _).mono ?_); rintro e w2 ⟨rfl, hB2⟩))
      go_ret
      exact ⟨by rw [HN.out]; rfl, bel2 hbs hB2⟩

set_option maxRecDepth 100000 in
set_option maxHeartbeats 4000000 in
theorem mrg_makes (a b : Option Addr) (ca cb : Nat) (al bl : List EntryC) (hma : al.length < 1000000) (hmb : bl.length < 1000000) (hcb : bl.length ≤ cb) (V : Nat → Prop) (w : World) (hV : ∀ k, V k → k < w.heap.size) (hVa : ∀ k, inBlkE a al.length k → ¬ V k) (hVb : ∀ k, inBlkE b bl.length k → ¬ V k) (hra : RowV w a al.length 3 (entryCells al)) (hrb : RowV w b bl.length 3 (entryCells bl)) :
    Calls Try.prog 94 #[.slice a al.length ca, .slice b bl.length cb] w fun e w' => ∃ lb, e = .returned (.func (.func 114) #[] lb) ∧ Below w.heap.size w w' ∧ IterU Try.prog 114 lb EntryC.enc (mrg al bl) (fun k => inBlkE a al.length k ∨ inBlkE b bl.length k ∨ span w.heap.size w'.heap.size k) V w' := by
  have h1 := (Boxed.new w 37 (.slice a al.length ca)).alloc (.cells #[.slice b bl.length cb] 37)
  have h2 := Boxed.new (w.alloc (.cells #[.slice a al.length ca] 37)) 37 (.slice b bl.length cb)
  rw [World.size_alloc] at h2
  have hB : Below w.heap.size w ((w.alloc (.cells #[.slice a al.length ca] 37)).alloc (.cells #[.slice b bl.length cb] 37)) := bel_alloc (bel_alloc (Below.refl _ _) _) _
  have hI := mrg_iter w.heap.size (w.heap.size + 1) a b ca cb al bl hma hmb hcb (fun k => inBlkE a al.length k ∨ inBlkE b bl.length k ∨ span w.heap.size ((w.alloc (.cells #[.slice a al.length ca] 37)).alloc (.cells #[.slice b bl.length cb] 37)).heap.size k) V (.inr (.inr ⟨by omega, by simp only [World.size_alloc]; omega⟩)) (.inr (.inr ⟨by omega, by simp only [World.size_alloc]; omega⟩)) (fun k h => .inl h) (fun k h => .inr (.inl h)) _
    (fun k hk => by
      rcases hk with h | h | h
      · exact ⟨hVa k h, Nat.lt_of_lt_of_le (inBlkE_lt hra h) hB.size⟩
      · exact ⟨hVb k h, Nat.lt_of_lt_of_le (inBlkE_lt hrb h) hB.size⟩
      · exact ⟨fun hv => by have h3 := hV k hv; have h4 := h.1; omega, h.2⟩)
    (fun k hk => Nat.lt_of_lt_of_le (hV k hk) hB.size) h1.cell h2.cell (hra.below hB) (hrb.below hB)
  have HI := Lib.hid hI
  have HB := Lib.hid hB
  clear hI hB h1 h2 hV hVa hVb hra hrb
  go_enter Try.func94, Try.ntmps94
  go_wp2
  go_ret
  exact ⟨_, rfl, HB.out, HI.out⟩

end Go.Proofs.Ytdncdlbhgaehmaa
