/- Law RecordBig: for every input the call answers true; its arguments read as they did. No condition. -/
import Derived.Test.YtbhhbjgdkcfagaaLaw
import Derived.Test.YtbhhbjgdkcfagaaRowsX
import Derived.Test.YtbhhbjgdkcfagaaRecs
import Derived.Test.YtbhhbjgdkcfagaaRecRefs
namespace Go.Proofs.Ytbhhbjgdkcfagaa.recordBig
open Go.ChangeShapes Go.WideShapes Go.ChangeAt Go.RowKit Go.Shelf
open Go.ChangeMaps (open_string shut_string)
set_option linter.unusedVariables false
attribute [local go_sem] Oper.semAt_some wide_fn wide_round_fn


set_option maxRecDepth 100000 in
set_option maxHeartbeats 4000000 in
theorem big_false (cu : UInt8) (w : World) : Calls Try.prog 4 #[.int .u8 cu.toNat, .bool false] w fun e w' => e = .returned (.bool true) ∧ Below w.heap.size w w' := by
  obtain ⟨i0, hi, hz0, hz1, hz2⟩ := info_parts infoPart
  obtain ⟨j0, hj, hy0, hy1, hy2⟩ := info_parts infoEntry
  obtain ⟨b0, bi, bz0, bz1, bz2⟩ := info_parts Try.infoU8
  have GK := Lib.hid rec_known
  have HM := Lib.hid (fun W => bytes_made (P := Try.prog) (t := 35) (e := 5) b0 Try.underlying35 bi bz0 bz1 bz2 40 (by decide) W)
  go_enter Try.func4, Try.ntmps4
  go_wp2_with (go_at_call 5; ((with_reducible refine (GK.out _).mono ?_); rintro e w1 ⟨rfl, hB1⟩; obtain ⟨w2, hmk0, hB2, hby⟩ := HM.out w1; have hmk : (Instr.makeSlice 35 (.int .i64 40) (.int .i64 40)).run Try.prog w1 = .ok (.slice (some ⟨w1.heap.size, 0, none⟩) 40 40) w2 := hmk0; clear hmk0))
  have hA := bel2 hB1 hB2
  have hg := hB1.size
  have HG := Lib.hid hby.lt
  clear hB1 hB2 hmk
  obtain ⟨g, hgg⟩ : ∃ g, g = w1.heap.size := ⟨_, rfl⟩
  rw [← hgg] at hby hg HG ⊢
  clear hgg w1
  rw [← filL_zero cu] at hby
  go_loopw [6] (fun i wr => ∃ j : Nat, j ≤ 40 ∧ i = .int .i64 j ∧ BytesAt wr g (filL cu j) ∧ Below w.heap.size w wr) (fun i _ => 40 - (intOf i).toNat)
  case atStart => exact ⟨0, by omega, rfl, hby, hA⟩
  case round =>
    obtain ⟨j, hj, rfl, hb, hB⟩ := hrel
    clear hby hA
    by_cases hlt : j < 40
    · have hk0 : (0 : Int) ≤ (j : Int) := by omega
      have hk1 : (j : Int) < 40 := by omega
      have c0 := hb.cell j (by rw [filL_len cu hj]; exact hlt)
      have f0 := hb.frozen j (by rw [filL_len cu hj]; exact hlt)
      have HN := Lib.hid (show BytesAt (wr.setCell ⟨g, j, none⟩ (vb cu)) g (filL cu (j + 1)) from by rw [← filL_set cu hlt]; exact hb.set j (by rw [filL_len cu hj]; exact hlt) cu)
      have HB := Lib.hid (hB.setCell (p := ⟨g, j, none⟩) hg (vb cu))
      clear hb hB
      go_wp2
      go_roundw
      case rel => exact ⟨j + 1, by omega, by go_num, HN.out, HB.out⟩
      case measure => simp [intOf]; omega
    · obtain rfl : j = 40 := by omega
      rw [filL_end] at hb
      clear hlt hj
      rw [show ((40 : Nat) : Int) = 40 from rfl]
      go_wp2
      have hX0 := World.alloc_heap_new wr (.cells #[.int .i64 1125899906842624, .slice none 0 0] 32)
      have hBW := bel_alloc (Below.refl wr.heap.size wr) (.cells #[.int .i64 1125899906842624, .slice none 0 0] 32)
      have hb2 := hb.below hBW
      have hB2 := hB.trans (hBW.mono hB.size)
      have hgX : g < wr.heap.size := hb.lt
      have hXs : (wr.alloc (.cells #[.int .i64 1125899906842624, .slice none 0 0] 32)).heap.size = wr.heap.size + 1 := by simp
      obtain ⟨wq, hwq⟩ : ∃ wq, wq = wr.alloc (.cells #[.int .i64 1125899906842624, .slice none 0 0] 32) := ⟨_, rfl⟩
      rw [← hwq] at hX0 hb2 hB2 hXs ⊢
      clear hwq hBW hb hB
      obtain ⟨X, hXX⟩ : ∃ X, X = wr.heap.size := ⟨_, rfl⟩
      rw [← hXX] at hX0 hgX hXs ⊢
      clear hXX wr
      have hC : w.heap.size ≤ g ∧ g < X ∧ X < X + 1 := by omega
      have HV0 := Lib.hid (show bigV w g X (X + 1) (bigD cu).data.toList (.slice none 0 0) [] wq from ⟨hX0, World.ownsRow_nil _ _ _ _, (fun x hx => by cases hx), hb2, hB2, by omega⟩)
      clear hX0 hb2 hB2 hXs
      go_loopw [8] (fun i W => ∃ (k : Nat) (v : Value) (pre : List PL), k ≤ 4 ∧ i = .int .i64 k ∧ pre.length = k ∧ (∀ x, x ∈ pre → ∃ a cap, x = (bigP false a cap, bigL cu 6)) ∧ bigV w g X (X + 1) (bigD cu).data.toList v pre W) (fun i _ => 4 - (intOf i).toNat)
      case atStart => exact ⟨0, _, [], by omega, rfl, rfl, (fun x hx => by cases hx), HV0.out⟩
      case round =>
        obtain ⟨k, v, pre, hk, rfl, hpl, hpre, hbig⟩ := hrel
        clear HV0 wq
        obtain ⟨wo, rfl⟩ : ∃ wo : World, wo = wr := ⟨_, rfl⟩
        have HPL := Lib.hid hpl
        have HPRE := Lib.hid hpre
        have HBIG := Lib.hid hbig
        have hvv : ∃ a c, v = .slice a k c := by obtain ⟨a, c, e, _⟩ := rowV_own hbig.2.1; exact ⟨a, c, by rw [e, hpl]⟩
        by_cases hlt : k < 4
        · clear hpl hpre hbig hvv
          have hdk : decide ((k : Int) < 4) = true := by rw [decide_eq_true_eq]; omega
          go_wp2
          clear hdk
          have hin0 : inV wo [.int .i64 999, .int .i64 1] [.int .i64 0, .int .i64 0, .int .i64 0, .int .i64 0, .int .i64 0, .bool false, .bool false] cu (.slice none 0 0) 0 (wo.alloc (.cells #[.int .i64 999, .int .i64 1, .slice none 0 0, .int .i64 0, .int .i64 0, .int .i64 0, .int .i64 0, .int .i64 0, .bool false, .bool false] 30)) := ⟨bel_alloc (Below.refl _ _) _, World.alloc_heap_new wo _, World.ownsRow_nil _ _ _ _, by simp⟩
          have HIN0 := Lib.hid hin0
          clear hin0
          go_loopw [10] (fun i W => ∃ (j : Nat) (v3 : Value), j ≤ 6 ∧ i = .int .i64 j ∧ inV wo [.int .i64 999, .int .i64 1] [.int .i64 0, .int .i64 0, .int .i64 0, .int .i64 0, .int .i64 0, .bool false, .bool false] cu v3 j W) (fun i _ => 6 - (intOf i).toNat)
          case atStart => exact ⟨0, _, by omega, rfl, HIN0.out⟩
          case round =>
            obtain ⟨j, v3, hj6, rfl, hin⟩ := hrel
            clear HIN0
            have HIN := Lib.hid hin
            obtain ⟨hBi, hP, hrow3, hs3⟩ := hin
            by_cases hltj : j < 6
            · have hcv0 := string_of (P := Try.prog) (src := 35) (dst := 9) Try.underlying35 Try.underlying5 Try.underlying9 (HBIG.out.below hBi).2.2.2.1 40 40 rfl
              have hcv : (convert 35 9 (.slice (some ⟨g, 0, none⟩) 40 40)).run Try.prog wr = .ok (.string (bigD cu)) wr := hcv0
              have c2 : wr.cell? ⟨wo.heap.size, 2, none⟩ = some v3 := cell_of_row _ _ 2 _ _ _ hP
              clear hcv0 hP hBi
              have HC := Lib.hid (show entryCells (bigL cu (j + 1)) = entryCells (bigL cu j) ++ [.int .i64 (1099511627767 + (j : Int)), .int .i64 1099511627776, .string (bigD cu)] by rw [bigL_snoc, entryCells_snoc]; rfl)
              go_wp2_with (at_builtin; refine wpList_append_own _ rfl _ _ 26 rfl (wo.heap.size + 1) 37 j0 (.agg #[.int .i64 0, .int .i64 0, .string ⟨#[]⟩]) 3 32 Try.underlying26 hj hy0 hy1 hy2 rfl (by decide) _ _ _ rfl (hrow3.alloc _) ⟨wr.heap.size, 0, none⟩ 1 1 [.int .i64 (1099511627767 + (j : Int)), .int .i64 1099511627776, .string (bigD cu)] rfl rfl (news_new _ _ _) (by simp [Value.oneCell']) (by unfold maxLen; omega) (by omega) (by simp; omega) ?_; intro v' w9 hown9 hgrow _; obtain ⟨g9, cap9, rfl⟩ := ownsRow_succ hown9; obtain ⟨hX9, hin9⟩ := inV_append HIN.out (bel_alloc (Below.refl wr.heap.size wr) (.cells #[.int .i64 (1099511627767 + (j : Int)), .int .i64 1099511627776, .string (bigD cu)] 37)) (by rw [HC.out]; exact hown9) hgrow; have cx9 : w9.cell? ⟨wo.heap.size, 2, none⟩ = some v3 := cell_of_row _ _ 2 _ _ _ hX9; have fx9 : w9.frozen? ⟨wo.heap.size, 2, none⟩ = false := frozen_of_row _ _ 2 _ _ hX9)
              go_roundw
              case rel => exact ⟨j + 1, _, by omega, by go_num, hin9⟩
              case measure => simp [intOf]; omega
            · obtain rfl : j = 6 := by omega
              obtain ⟨va, vc, rfl, _, hrv⟩ := rowV_own hrow3
              have hbig := HBIG.out.below hBi
              have HBW := Lib.hid hbig
              have c1 : wr.cell? ⟨X, 1, none⟩ = some v := cell_of_row _ _ 1 _ _ _ hbig.1
              have hrowP := hbig.2.1
              have hCs : X + 1 ≤ wr.heap.size := hbig.2.2.2.2.2
              have HEx := Lib.hid (show HasE wr (bigP false va vc) (bigL cu 6) from ⟨rfl, (by show 6 < 1000000; decide), hrv⟩)
              have HXo := Lib.hid (show ∀ q, inBlkE va 6 q → X + 1 ≤ q ∧ some q ≠ v.ownBlock from fun q ⟨g8, off, e, _, hk8⟩ => by
                subst e
                have h8 := (ownBlock_lt hrow3 (j := g8) rfl).2.1
                have h9 := HBIG.out.2.2.2.2.2
                exact ⟨by omega, fun e => by have := (ownBlock_lt HBIG.out.2.1 e).1; omega⟩)
              obtain ⟨d0, d1, d2, d3, d4, d5, d6, d7, d8, d9⟩ := arr10q (v2 := .slice va 6 vc) hP
              clear hltj hj6 hBi hP hrow3 hs3 hrv hbig
              rw [HPL.out] at hrowP
              go_wp2_with (at_builtin; (refine wpList_append_own_at _ rfl _ _ 22 rfl (X + 1) 30 i0 (.agg #[.int .i64 0, .int .i64 0, .slice none 0 0, .int .i64 0, .int .i64 0, .int .i64 0, .int .i64 0, .int .i64 0, .bool false, .bool false]) 10 88 Try.underlying22 hi hz0 hz1 hz2 rfl (by decide) _ _ _ rfl (hrowP.alloc _) ⟨wr.heap.size, 0, none⟩ 1 1 [.int .i64 999, .int .i64 1, .slice va 6 vc, .int .i64 0, .int .i64 0, .int .i64 0, .int .i64 0, .int .i64 0, .bool false, .bool false] rfl rfl (news_new _ _ _) (by simp [Value.oneCell']) (by unfold maxLen; omega) (by omega) (by simp; omega) ?_); intro v' w9 hown9 hgrow _ hnew; obtain ⟨g9, cap9, rfl⟩ := ownsRow_succ hown9; obtain ⟨hX9, hop9⟩ := bigV_append (x := (bigP false va vc, bigL cu 6)) HBW.out hC ⟨HEx.out, HXo.out⟩ (bel_alloc (Below.refl wr.heap.size wr) (.cells #[.int .i64 999, .int .i64 1, .slice va 6 vc, .int .i64 0, .int .i64 0, .int .i64 0, .int .i64 0, .int .i64 0, .bool false, .bool false] 30)) (by rw [HPL.out]; exact hown9) hgrow hnew; have cx9 : w9.cell? ⟨X, 1, none⟩ = some v := cell_of_row _ _ 1 _ _ _ hX9; have fx9 : w9.frozen? ⟨X, 1, none⟩ = false := frozen_of_row _ _ 1 _ _ hX9)
              go_roundw
              case rel => exact ⟨k + 1, _, _, by omega, by go_num, by rw [List.length_append, HPL.out]; rfl, (fun x hx => by
                  rcases List.mem_append.1 hx with hx | hx
                  · exact HPRE.out x hx
                  · exact ⟨va, vc, List.mem_singleton.1 hx⟩), hop9⟩
              case measure => simp [intOf]; omega
        · obtain rfl : k = 4 := by omega
          obtain ⟨va, vc, rfl, _, hrv⟩ := rowV_own hbig.2.1
          have hXb := hbig.1
          have hBw := hbig.2.2.2.2.1
          have hP4 : HasP wo va 4 pre := ⟨hpl, by decide, by rw [hpl] at hrv; exact hrv, fun x hx => (hbig.2.2.1 x hx).1⟩
          have hlen : ∀ x ∈ pre, x.2.length = x.1.len := fun x hx => (hP4.2.2.2 x hx).1
          obtain ⟨a0, a1, a2, a3, q0, q1, q2, q3, hpq⟩ : ∃ a0 a1 a2 a3 c0 c1 c2 c3, pre = bigR false cu a0 a1 a2 a3 c0 c1 c2 c3 := by
            match pre, hpl, hpre with
            | [x0, x1, x2, x3], _, hpre =>
              obtain ⟨a0, c0, rfl⟩ := hpre x0 (by simp)
              obtain ⟨a1, c1, rfl⟩ := hpre x1 (by simp)
              obtain ⟨a2, c2, rfl⟩ := hpre x2 (by simp)
              obtain ⟨a3, c3, rfl⟩ := hpre x3 (by simp)
              exact ⟨a0, a1, a2, a3, c0, c1, c2, c3, rfl⟩
          have hok : recB 1125899906842624 pre = true := by rw [hpq]; exact big_ok ..
          have hsz : (recS 1125899906842624 pre).size ≤ 2012 := by rw [hpq]; exact big_size ..
          have hmc := recM_back hlen hok ⟨#[]⟩
          rw [show recS 1125899906842624 pre ++ ⟨#[]⟩ = recS 1125899906842624 pre from ByteArray.append_empty] at hmc
          have GB := Lib.hid (fun W (hB : Below wo.heap.size wo W) => (show Gives Try.prog 9 #[.agg #[.int .i64 1125899906842624, .slice va 4 vc]] W (.tuple #[.string (recS 1125899906842624 pre), .int .i64 0]) from by have := recBytes_any 1125899906842624 va 4 vc pre W (hP4.below hB); rwa [recE_ok hok] at this))
          have GZ := Lib.hid (fun W (hB : Below wo.heap.size wo W) => recSize_any 1125899906842624 va 4 vc pre W (hP4.below hB))
          have GX := Lib.hid (fun W (hB : Below wo.heap.size wo W) a len cap L (hP : HasP W a len L) (hL : L.map core = pre.map core) => (show Gives Try.prog 11 #[.agg #[.int .i64 1125899906842624, .slice a len cap], .agg #[.int .i64 1125899906842624, .slice va 4 vc]] W (.bool true) from by have := refSameR_any 1125899906842624 1125899906842624 a va len 4 cap vc L pre W hP (hP4.below hB); rwa [sameR_iff.2 ⟨rfl, hL⟩] at this))
          generalize recS 1125899906842624 pre = S at *
          have GR := Lib.hid (fun W => recRead_at S 1125899906842624 (pre.map core) S.size 1 (by omega) hmc W)
          have hC : Below wo.heap.size wo wo := Below.refl _ _
          replace hXb : wo.heap[X]? = some (.cells #[.int .i64 1125899906842624, .slice va 4 vc] 32 (0, 0)) := by rw [hpl] at hXb; exact hXb
          have p0 : wo.cell? ⟨X, 0, none⟩ = some (.int .i64 1125899906842624) := cell_of_row _ _ 0 _ _ _ hXb
          have p1 : wo.cell? ⟨X, 1, none⟩ = some (.slice va 4 vc) := cell_of_row _ _ 1 _ _ _ hXb
          clear hpl hpre hbig hvv hlt hk hlen hpq hok hmc hP4 hrv HPL HPRE HBIG
          rw [show ((4 : Nat) : Int) = 4 from rfl]
          go_wp2_with (first
            | (go_at_call 9; ((with_reducible refine (GB.out _ hC).mono ?_); rintro e w4 ⟨rfl, hB⟩; replace hC := bel2 hC hB; replace hXb := (hB.block _ (heap_lt hXb)).trans hXb; clear p0 p1; have p0 : w4.cell? ⟨X, 0, none⟩ = some (.int .i64 1125899906842624) := cell_of_row _ _ 0 _ _ _ hXb; have p1 : w4.cell? ⟨X, 1, none⟩ = some (.slice va 4 vc) := cell_of_row _ _ 1 _ _ _ hXb; clear hB))
            | (go_at_call 10; ((with_reducible refine (GR.out _).mono ?_); rintro e w6 ⟨a, len, cap, L, rfl, hP, hL, hB⟩; replace hB := bel2 hB (bel_alloc (Below.refl w6.heap.size w6) (.cells #[.int .i64 1125899906842624, .slice a len cap] 32)); have HPx := Lib.hid (hP.below (bel_alloc (Below.refl w6.heap.size w6) (.cells #[.int .i64 1125899906842624, .slice a len cap] 32))); have HL := Lib.hid hL; have hx := World.alloc_heap_new w6 (.cells #[.int .i64 1125899906842624, .slice a len cap] 32); have x0 : (w6.alloc (.cells #[.int .i64 1125899906842624, .slice a len cap] 32)).cell? ⟨w6.heap.size, 0, none⟩ = some (.int .i64 1125899906842624) := cell_of_row _ _ 0 _ _ _ hx; have x1 : (w6.alloc (.cells #[.int .i64 1125899906842624, .slice a len cap] 32)).cell? ⟨w6.heap.size, 1, none⟩ = some (.slice a len cap) := cell_of_row _ _ 1 _ _ _ hx; replace hC := bel2 hC hB; replace hXb := (hB.block _ (heap_lt hXb)).trans hXb; clear p0 p1; have p0 : (w6.alloc (.cells #[.int .i64 1125899906842624, .slice a len cap] 32)).cell? ⟨X, 0, none⟩ = some (.int .i64 1125899906842624) := cell_of_row _ _ 0 _ _ _ hXb; have p1 : (w6.alloc (.cells #[.int .i64 1125899906842624, .slice a len cap] 32)).cell? ⟨X, 1, none⟩ = some (.slice va 4 vc) := cell_of_row _ _ 1 _ _ _ hXb; clear hB hP hL))
            | (go_at_call 11; ((refine (GX.out _ hC a len cap L HPx.out HL.out).mono ?_); rintro e w7 ⟨rfl, hB⟩; replace hC := bel2 hC hB; replace hXb := (hB.block _ (heap_lt hXb)).trans hXb; clear p0 p1; have p0 : w7.cell? ⟨X, 0, none⟩ = some (.int .i64 1125899906842624) := cell_of_row _ _ 0 _ _ _ hXb; have p1 : w7.cell? ⟨X, 1, none⟩ = some (.slice va 4 vc) := cell_of_row _ _ 1 _ _ _ hXb; clear hB))
            | (go_at_call 12; ((with_reducible refine (GZ.out _ hC).mono ?_); rintro e w8 ⟨rfl, hB⟩; replace hC := bel2 hC hB; replace hXb := (hB.block _ (heap_lt hXb)).trans hXb; clear p0 p1; have p0 : w8.cell? ⟨X, 0, none⟩ = some (.int .i64 1125899906842624) := cell_of_row _ _ 0 _ _ _ hXb; have p1 : w8.cell? ⟨X, 1, none⟩ = some (.slice va 4 vc) := cell_of_row _ _ 1 _ _ _ hXb; clear hB)))
          go_ret
          exact ⟨by simp, bel2 hBw hC⟩

set_option maxRecDepth 100000 in
set_option maxHeartbeats 4000000 in
theorem big_true (cu : UInt8) (w : World) : Calls Try.prog 4 #[.int .u8 cu.toNat, .bool true] w fun e w' => e = .returned (.bool true) ∧ Below w.heap.size w w' := by
  obtain ⟨i0, hi, hz0, hz1, hz2⟩ := info_parts infoPart
  obtain ⟨j0, hj, hy0, hy1, hy2⟩ := info_parts infoEntry
  obtain ⟨b0, bi, bz0, bz1, bz2⟩ := info_parts Try.infoU8
  have GK := Lib.hid rec_known
  have HM := Lib.hid (fun W => bytes_made (P := Try.prog) (t := 35) (e := 5) b0 Try.underlying35 bi bz0 bz1 bz2 40 (by decide) W)
  go_enter Try.func4, Try.ntmps4
  go_wp2_with (go_at_call 5; ((with_reducible refine (GK.out _).mono ?_); rintro e w1 ⟨rfl, hB1⟩; obtain ⟨w2, hmk0, hB2, hby⟩ := HM.out w1; have hmk : (Instr.makeSlice 35 (.int .i64 40) (.int .i64 40)).run Try.prog w1 = .ok (.slice (some ⟨w1.heap.size, 0, none⟩) 40 40) w2 := hmk0; clear hmk0))
  have hA := bel2 hB1 hB2
  have hg := hB1.size
  have HG := Lib.hid hby.lt
  clear hB1 hB2 hmk
  obtain ⟨g, hgg⟩ : ∃ g, g = w1.heap.size := ⟨_, rfl⟩
  rw [← hgg] at hby hg HG ⊢
  clear hgg w1
  rw [← filL_zero cu] at hby
  go_loopw [6] (fun i wr => ∃ j : Nat, j ≤ 40 ∧ i = .int .i64 j ∧ BytesAt wr g (filL cu j) ∧ Below w.heap.size w wr) (fun i _ => 40 - (intOf i).toNat)
  case atStart => exact ⟨0, by omega, rfl, hby, hA⟩
  case round =>
    obtain ⟨j, hj, rfl, hb, hB⟩ := hrel
    clear hby hA
    by_cases hlt : j < 40
    · have hk0 : (0 : Int) ≤ (j : Int) := by omega
      have hk1 : (j : Int) < 40 := by omega
      have c0 := hb.cell j (by rw [filL_len cu hj]; exact hlt)
      have f0 := hb.frozen j (by rw [filL_len cu hj]; exact hlt)
      have HN := Lib.hid (show BytesAt (wr.setCell ⟨g, j, none⟩ (vb cu)) g (filL cu (j + 1)) from by rw [← filL_set cu hlt]; exact hb.set j (by rw [filL_len cu hj]; exact hlt) cu)
      have HB := Lib.hid (hB.setCell (p := ⟨g, j, none⟩) hg (vb cu))
      clear hb hB
      go_wp2
      go_roundw
      case rel => exact ⟨j + 1, by omega, by go_num, HN.out, HB.out⟩
      case measure => simp [intOf]; omega
    · obtain rfl : j = 40 := by omega
      rw [filL_end] at hb
      clear hlt hj
      rw [show ((40 : Nat) : Int) = 40 from rfl]
      go_wp2
      have hX0 := World.alloc_heap_new wr (.cells #[.int .i64 1125899906842624, .slice none 0 0] 32)
      have hBW := bel_alloc (Below.refl wr.heap.size wr) (.cells #[.int .i64 1125899906842624, .slice none 0 0] 32)
      have hb2 := hb.below hBW
      have hB2 := hB.trans (hBW.mono hB.size)
      have hgX : g < wr.heap.size := hb.lt
      have hXs : (wr.alloc (.cells #[.int .i64 1125899906842624, .slice none 0 0] 32)).heap.size = wr.heap.size + 1 := by simp
      obtain ⟨wq, hwq⟩ : ∃ wq, wq = wr.alloc (.cells #[.int .i64 1125899906842624, .slice none 0 0] 32) := ⟨_, rfl⟩
      rw [← hwq] at hX0 hb2 hB2 hXs ⊢
      clear hwq hBW hb hB
      obtain ⟨X, hXX⟩ : ∃ X, X = wr.heap.size := ⟨_, rfl⟩
      rw [← hXX] at hX0 hgX hXs ⊢
      clear hXX wr
      have hC : w.heap.size ≤ g ∧ g < X ∧ X < X + 1 := by omega
      have HV0 := Lib.hid (show bigV w g X (X + 1) (bigD cu).data.toList (.slice none 0 0) [] wq from ⟨hX0, World.ownsRow_nil _ _ _ _, (fun x hx => by cases hx), hb2, hB2, by omega⟩)
      clear hX0 hb2 hB2 hXs
      go_loopw [8] (fun i W => ∃ (k : Nat) (v : Value) (pre : List PL), k ≤ 4 ∧ i = .int .i64 k ∧ pre.length = k ∧ (∀ x, x ∈ pre → ∃ a cap, x = (bigP true a cap, bigL cu 6)) ∧ bigV w g X (X + 1) (bigD cu).data.toList v pre W) (fun i _ => 4 - (intOf i).toNat)
      case atStart => exact ⟨0, _, [], by omega, rfl, rfl, (fun x hx => by cases hx), HV0.out⟩
      case round =>
        obtain ⟨k, v, pre, hk, rfl, hpl, hpre, hbig⟩ := hrel
        clear HV0 wq
        obtain ⟨wo, rfl⟩ : ∃ wo : World, wo = wr := ⟨_, rfl⟩
        have HPL := Lib.hid hpl
        have HPRE := Lib.hid hpre
        have HBIG := Lib.hid hbig
        have hvv : ∃ a c, v = .slice a k c := by obtain ⟨a, c, e, _⟩ := rowV_own hbig.2.1; exact ⟨a, c, by rw [e, hpl]⟩
        by_cases hlt : k < 4
        · clear hpl hpre hbig hvv
          have hdk : decide ((k : Int) < 4) = true := by rw [decide_eq_true_eq]; omega
          go_wp2
          clear hdk
          have hin0 : inV wo [.int .i64 999, .int .i64 6] [.int .i64 1099511627776, .int .i64 1000, .int .i64 1099511627776, .int .i64 1099511627776, .int .i64 1099511627776, .bool true, .bool true] cu (.slice none 0 0) 0 (wo.alloc (.cells #[.int .i64 999, .int .i64 6, .slice none 0 0, .int .i64 1099511627776, .int .i64 1000, .int .i64 1099511627776, .int .i64 1099511627776, .int .i64 1099511627776, .bool true, .bool true] 30)) := ⟨bel_alloc (Below.refl _ _) _, World.alloc_heap_new wo _, World.ownsRow_nil _ _ _ _, by simp⟩
          have HIN0 := Lib.hid hin0
          clear hin0
          go_loopw [10] (fun i W => ∃ (j : Nat) (v3 : Value), j ≤ 6 ∧ i = .int .i64 j ∧ inV wo [.int .i64 999, .int .i64 6] [.int .i64 1099511627776, .int .i64 1000, .int .i64 1099511627776, .int .i64 1099511627776, .int .i64 1099511627776, .bool true, .bool true] cu v3 j W) (fun i _ => 6 - (intOf i).toNat)
          case atStart => exact ⟨0, _, by omega, rfl, HIN0.out⟩
          case round =>
            obtain ⟨j, v3, hj6, rfl, hin⟩ := hrel
            clear HIN0
            have HIN := Lib.hid hin
            obtain ⟨hBi, hP, hrow3, hs3⟩ := hin
            by_cases hltj : j < 6
            · have hcv0 := string_of (P := Try.prog) (src := 35) (dst := 9) Try.underlying35 Try.underlying5 Try.underlying9 (HBIG.out.below hBi).2.2.2.1 40 40 rfl
              have hcv : (convert 35 9 (.slice (some ⟨g, 0, none⟩) 40 40)).run Try.prog wr = .ok (.string (bigD cu)) wr := hcv0
              have c2 : wr.cell? ⟨wo.heap.size, 2, none⟩ = some v3 := cell_of_row _ _ 2 _ _ _ hP
              clear hcv0 hP hBi
              have HC := Lib.hid (show entryCells (bigL cu (j + 1)) = entryCells (bigL cu j) ++ [.int .i64 (1099511627767 + (j : Int)), .int .i64 1099511627776, .string (bigD cu)] by rw [bigL_snoc, entryCells_snoc]; rfl)
              go_wp2_with (at_builtin; refine wpList_append_own _ rfl _ _ 26 rfl (wo.heap.size + 1) 37 j0 (.agg #[.int .i64 0, .int .i64 0, .string ⟨#[]⟩]) 3 32 Try.underlying26 hj hy0 hy1 hy2 rfl (by decide) _ _ _ rfl (hrow3.alloc _) ⟨wr.heap.size, 0, none⟩ 1 1 [.int .i64 (1099511627767 + (j : Int)), .int .i64 1099511627776, .string (bigD cu)] rfl rfl (news_new _ _ _) (by simp [Value.oneCell']) (by unfold maxLen; omega) (by omega) (by simp; omega) ?_; intro v' w9 hown9 hgrow _; obtain ⟨g9, cap9, rfl⟩ := ownsRow_succ hown9; obtain ⟨hX9, hin9⟩ := inV_append HIN.out (bel_alloc (Below.refl wr.heap.size wr) (.cells #[.int .i64 (1099511627767 + (j : Int)), .int .i64 1099511627776, .string (bigD cu)] 37)) (by rw [HC.out]; exact hown9) hgrow; have cx9 : w9.cell? ⟨wo.heap.size, 2, none⟩ = some v3 := cell_of_row _ _ 2 _ _ _ hX9; have fx9 : w9.frozen? ⟨wo.heap.size, 2, none⟩ = false := frozen_of_row _ _ 2 _ _ hX9)
              go_roundw
              case rel => exact ⟨j + 1, _, by omega, by go_num, hin9⟩
              case measure => simp [intOf]; omega
            · obtain rfl : j = 6 := by omega
              obtain ⟨va, vc, rfl, _, hrv⟩ := rowV_own hrow3
              have hbig := HBIG.out.below hBi
              have HBW := Lib.hid hbig
              have c1 : wr.cell? ⟨X, 1, none⟩ = some v := cell_of_row _ _ 1 _ _ _ hbig.1
              have hrowP := hbig.2.1
              have hCs : X + 1 ≤ wr.heap.size := hbig.2.2.2.2.2
              have HEx := Lib.hid (show HasE wr (bigP true va vc) (bigL cu 6) from ⟨rfl, (by show 6 < 1000000; decide), hrv⟩)
              have HXo := Lib.hid (show ∀ q, inBlkE va 6 q → X + 1 ≤ q ∧ some q ≠ v.ownBlock from fun q ⟨g8, off, e, _, hk8⟩ => by
                subst e
                have h8 := (ownBlock_lt hrow3 (j := g8) rfl).2.1
                have h9 := HBIG.out.2.2.2.2.2
                exact ⟨by omega, fun e => by have := (ownBlock_lt HBIG.out.2.1 e).1; omega⟩)
              obtain ⟨d0, d1, d2, d3, d4, d5, d6, d7, d8, d9⟩ := arr10q (v2 := .slice va 6 vc) hP
              clear hltj hj6 hBi hP hrow3 hs3 hrv hbig
              rw [HPL.out] at hrowP
              go_wp2_with (at_builtin; (refine wpList_append_own_at _ rfl _ _ 22 rfl (X + 1) 30 i0 (.agg #[.int .i64 0, .int .i64 0, .slice none 0 0, .int .i64 0, .int .i64 0, .int .i64 0, .int .i64 0, .int .i64 0, .bool false, .bool false]) 10 88 Try.underlying22 hi hz0 hz1 hz2 rfl (by decide) _ _ _ rfl (hrowP.alloc _) ⟨wr.heap.size, 0, none⟩ 1 1 [.int .i64 999, .int .i64 6, .slice va 6 vc, .int .i64 1099511627776, .int .i64 1000, .int .i64 1099511627776, .int .i64 1099511627776, .int .i64 1099511627776, .bool true, .bool true] rfl rfl (news_new _ _ _) (by simp [Value.oneCell']) (by unfold maxLen; omega) (by omega) (by simp; omega) ?_); intro v' w9 hown9 hgrow _ hnew; obtain ⟨g9, cap9, rfl⟩ := ownsRow_succ hown9; obtain ⟨hX9, hop9⟩ := bigV_append (x := (bigP true va vc, bigL cu 6)) HBW.out hC ⟨HEx.out, HXo.out⟩ (bel_alloc (Below.refl wr.heap.size wr) (.cells #[.int .i64 999, .int .i64 6, .slice va 6 vc, .int .i64 1099511627776, .int .i64 1000, .int .i64 1099511627776, .int .i64 1099511627776, .int .i64 1099511627776, .bool true, .bool true] 30)) (by rw [HPL.out]; exact hown9) hgrow hnew; have cx9 : w9.cell? ⟨X, 1, none⟩ = some v := cell_of_row _ _ 1 _ _ _ hX9; have fx9 : w9.frozen? ⟨X, 1, none⟩ = false := frozen_of_row _ _ 1 _ _ hX9)
              go_roundw
              case rel => exact ⟨k + 1, _, _, by omega, by go_num, by rw [List.length_append, HPL.out]; rfl, (fun x hx => by
                  rcases List.mem_append.1 hx with hx | hx
                  · exact HPRE.out x hx
                  · exact ⟨va, vc, List.mem_singleton.1 hx⟩), hop9⟩
              case measure => simp [intOf]; omega
        · obtain rfl : k = 4 := by omega
          obtain ⟨va, vc, rfl, _, hrv⟩ := rowV_own hbig.2.1
          have hXb := hbig.1
          have hBw := hbig.2.2.2.2.1
          have hP4 : HasP wo va 4 pre := ⟨hpl, by decide, by rw [hpl] at hrv; exact hrv, fun x hx => (hbig.2.2.1 x hx).1⟩
          have hlen : ∀ x ∈ pre, x.2.length = x.1.len := fun x hx => (hP4.2.2.2 x hx).1
          obtain ⟨a0, a1, a2, a3, q0, q1, q2, q3, hpq⟩ : ∃ a0 a1 a2 a3 c0 c1 c2 c3, pre = bigR true cu a0 a1 a2 a3 c0 c1 c2 c3 := by
            match pre, hpl, hpre with
            | [x0, x1, x2, x3], _, hpre =>
              obtain ⟨a0, c0, rfl⟩ := hpre x0 (by simp)
              obtain ⟨a1, c1, rfl⟩ := hpre x1 (by simp)
              obtain ⟨a2, c2, rfl⟩ := hpre x2 (by simp)
              obtain ⟨a3, c3, rfl⟩ := hpre x3 (by simp)
              exact ⟨a0, a1, a2, a3, c0, c1, c2, c3, rfl⟩
          have hok : recB 1125899906842624 pre = true := by rw [hpq]; exact big_ok ..
          have hsz : (recS 1125899906842624 pre).size ≤ 2012 := by rw [hpq]; exact big_size ..
          have hmc := recM_back hlen hok ⟨#[]⟩
          rw [show recS 1125899906842624 pre ++ ⟨#[]⟩ = recS 1125899906842624 pre from ByteArray.append_empty] at hmc
          have GB := Lib.hid (fun W (hB : Below wo.heap.size wo W) => (show Gives Try.prog 9 #[.agg #[.int .i64 1125899906842624, .slice va 4 vc]] W (.tuple #[.string (recS 1125899906842624 pre), .int .i64 0]) from by have := recBytes_any 1125899906842624 va 4 vc pre W (hP4.below hB); rwa [recE_ok hok] at this))
          have GZ := Lib.hid (fun W (hB : Below wo.heap.size wo W) => recSize_any 1125899906842624 va 4 vc pre W (hP4.below hB))
          have GX := Lib.hid (fun W (hB : Below wo.heap.size wo W) a len cap L (hP : HasP W a len L) (hL : L.map core = pre.map core) => (show Gives Try.prog 11 #[.agg #[.int .i64 1125899906842624, .slice a len cap], .agg #[.int .i64 1125899906842624, .slice va 4 vc]] W (.bool true) from by have := refSameR_any 1125899906842624 1125899906842624 a va len 4 cap vc L pre W hP (hP4.below hB); rwa [sameR_iff.2 ⟨rfl, hL⟩] at this))
          generalize recS 1125899906842624 pre = S at *
          have GR := Lib.hid (fun W => recRead_at S 1125899906842624 (pre.map core) S.size 1 (by omega) hmc W)
          have hC : Below wo.heap.size wo wo := Below.refl _ _
          replace hXb : wo.heap[X]? = some (.cells #[.int .i64 1125899906842624, .slice va 4 vc] 32 (0, 0)) := by rw [hpl] at hXb; exact hXb
          have p0 : wo.cell? ⟨X, 0, none⟩ = some (.int .i64 1125899906842624) := cell_of_row _ _ 0 _ _ _ hXb
          have p1 : wo.cell? ⟨X, 1, none⟩ = some (.slice va 4 vc) := cell_of_row _ _ 1 _ _ _ hXb
          clear hpl hpre hbig hvv hlt hk hlen hpq hok hmc hP4 hrv HPL HPRE HBIG
          rw [show ((4 : Nat) : Int) = 4 from rfl]
          go_wp2_with (first
            | (go_at_call 9; ((with_reducible refine (GB.out _ hC).mono ?_); rintro e w4 ⟨rfl, hB⟩; replace hC := bel2 hC hB; replace hXb := (hB.block _ (heap_lt hXb)).trans hXb; clear p0 p1; have p0 : w4.cell? ⟨X, 0, none⟩ = some (.int .i64 1125899906842624) := cell_of_row _ _ 0 _ _ _ hXb; have p1 : w4.cell? ⟨X, 1, none⟩ = some (.slice va 4 vc) := cell_of_row _ _ 1 _ _ _ hXb; clear hB))
            | (go_at_call 10; ((with_reducible refine (GR.out _).mono ?_); rintro e w6 ⟨a, len, cap, L, rfl, hP, hL, hB⟩; replace hB := bel2 hB (bel_alloc (Below.refl w6.heap.size w6) (.cells #[.int .i64 1125899906842624, .slice a len cap] 32)); have HPx := Lib.hid (hP.below (bel_alloc (Below.refl w6.heap.size w6) (.cells #[.int .i64 1125899906842624, .slice a len cap] 32))); have HL := Lib.hid hL; have hx := World.alloc_heap_new w6 (.cells #[.int .i64 1125899906842624, .slice a len cap] 32); have x0 : (w6.alloc (.cells #[.int .i64 1125899906842624, .slice a len cap] 32)).cell? ⟨w6.heap.size, 0, none⟩ = some (.int .i64 1125899906842624) := cell_of_row _ _ 0 _ _ _ hx; have x1 : (w6.alloc (.cells #[.int .i64 1125899906842624, .slice a len cap] 32)).cell? ⟨w6.heap.size, 1, none⟩ = some (.slice a len cap) := cell_of_row _ _ 1 _ _ _ hx; replace hC := bel2 hC hB; replace hXb := (hB.block _ (heap_lt hXb)).trans hXb; clear p0 p1; have p0 : (w6.alloc (.cells #[.int .i64 1125899906842624, .slice a len cap] 32)).cell? ⟨X, 0, none⟩ = some (.int .i64 1125899906842624) := cell_of_row _ _ 0 _ _ _ hXb; have p1 : (w6.alloc (.cells #[.int .i64 1125899906842624, .slice a len cap] 32)).cell? ⟨X, 1, none⟩ = some (.slice va 4 vc) := cell_of_row _ _ 1 _ _ _ hXb; clear hB hP hL))
            | (go_at_call 11; ((refine (GX.out _ hC a len cap L HPx.out HL.out).mono ?_); rintro e w7 ⟨rfl, hB⟩; replace hC := bel2 hC hB; replace hXb := (hB.block _ (heap_lt hXb)).trans hXb; clear p0 p1; have p0 : w7.cell? ⟨X, 0, none⟩ = some (.int .i64 1125899906842624) := cell_of_row _ _ 0 _ _ _ hXb; have p1 : w7.cell? ⟨X, 1, none⟩ = some (.slice va 4 vc) := cell_of_row _ _ 1 _ _ _ hXb; clear hB))
            | (go_at_call 12; ((with_reducible refine (GZ.out _ hC).mono ?_); rintro e w8 ⟨rfl, hB⟩; replace hC := bel2 hC hB; replace hXb := (hB.block _ (heap_lt hXb)).trans hXb; clear p0 p1; have p0 : w8.cell? ⟨X, 0, none⟩ = some (.int .i64 1125899906842624) := cell_of_row _ _ 0 _ _ _ hXb; have p1 : w8.cell? ⟨X, 1, none⟩ = some (.slice va 4 vc) := cell_of_row _ _ 1 _ _ _ hXb; clear hB)))
          go_ret
          exact ⟨by simp, bel2 hBw hC⟩

theorem walk (c : Nat) (hc : c < 256) (f : Bool) (w : World) : Calls Try.prog 4 #[.int .u8 c, .bool f] w fun e w' => e = .returned (.bool true) ∧ Below w.heap.size w w' := by
  obtain ⟨cu, rfl⟩ : ∃ cu : UInt8, cu.toNat = c := ⟨UInt8.ofNat c, by rw [UInt8.toNat_ofNat']; omega⟩
  cases f
  · exact big_false cu w
  · exact big_true cu w

set_option maxRecDepth 100000 in
theorem lifted (os : Os) (started : os.Started) (H : Type) (enc : TypeId × Value → H) :
    ReturnsInHanded {} Try.checked os 4 .any (Rows.recordBigSpec.pre6 enc Try.prog Try.f4 Rows.recordBigRow.domain false) (Rows.recordBigSpec.post enc Try.prog Try.f4 false true false false) := by
  refine returnsInHanded_of_change (C := Try.checked) Try.own started (by kernel_rfl) Try.func4
    (ChangeSpec.witness6 (enc := enc) (C := Try.checked) false ⟨#[], #[.int .u8 0, .bool false], []⟩ 8 (by kernel_rfl) (by kernel_rfl) (by kernel_rfl) (by kernel_rfl)) ?_
  intro W base args ds gs before hval hW _ _
  refine law_contract (T := 4) (n := 2) Try.laid Try.underlying4 rfl rfl ⟨rfl, fun H ds h => by match ds, h with | [_, _], _ => rfl⟩ (of_all (by kernel_rfl)) hW ?_
  intro ps hA
  rw [Try.params4] at hA hval
  obtain ⟨v0, vs0, d0, ds0, p0, q0, hargs, rfl, rfl, h0, r0⟩ := trodAll_cons hA
  obtain ⟨v1, vs1, d1, ds1, p1, q1, rfl, rfl, rfl, h1, r1⟩ := trodAll_cons r0
  obtain ⟨rfl, rfl, rfl⟩ := trodAll_nil r1
  obtain rfl : args = #[v0, v1] := by cases args; simp_all
  obtain ⟨a0, rfl, rfl, rfl, w0⟩ := open_int Try.underlying5 (hval 0 5 v0 rfl rfl) h0
  obtain ⟨a1, rfl, rfl, rfl⟩ := open_bool Try.underlying4 (hval 1 4 v1 rfl rfl) h1
  obtain ⟨n0, rfl, b0⟩ := nat_of_u8 w0
  exact walk n0 b0 a1 W

theorem holds : Rows.RecordBigSaid :=
  OpenClaim.holds_of_wide 4 Try.f4 rfl rfl rfl rfl rfl rfl rfl ⟨rfl, rfl, rfl, rfl, rfl⟩ rfl rfl rfl rfl rfl (by kernel_rfl) Try.func4 (by kernel_rfl)
    (of_decide_eq_true (by kernel_rfl)) (by unfold Func.isWrapper; first | (rw [if_pos (by decide +kernel)]; kernel_rfl) | (rw [if_neg (by decide +kernel)]; exact ⟨rfl, rfl⟩))
    (fun os started H enc _ => lifted os started H enc)

end Go.Proofs.Ytbhhbjgdkcfagaa.recordBig
