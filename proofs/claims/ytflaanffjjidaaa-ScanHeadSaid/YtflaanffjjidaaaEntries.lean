/- Entries, Entries2: in one text. -/
import Derived.Test.YtflaanffjjidaaaReader
import Derived.Test.YtflaanffjjidaaaCollect
import Derived.Test.YtflaanffjjidaaaPart
/- The iterator of part's reader over entries: what it hands out, how far the reader has come behind it. -/
namespace Go.Proofs.Ytflaanffjjidaaa
open Go.RowKit Go.Shelf
set_option linter.unusedVariables false
attribute [local go_sem] Oper.semAt_some wide_fn wide_round_fn

theorem FrameT.strip {T : Nat → Prop} {w w' : World} (h : FrameT (fun k => T k ∨ w.heap.size ≤ k) w w') : FrameT T w w' :=
  ⟨h.os, h.tape, h.output, h.size, fun k hk hT => h.block k hk (fun x => x.elim hT (fun x => by omega))⟩
theorem FrameT.rd {b B : Nat} {S : Nat → Prop} {w w' : World} (h : FrameT (fun k => k = b) w w') (hc : ∃ o : Obj, w.heap[b]? = some o ∧ o.isCells = true) : Rd B (fun k => S k ∧ k ≠ b) w w' :=
  ⟨h.os, h.tape, h.output, h.size, fun k o ho hk => h.get ho (by
    rintro rfl
    rcases hk with hk | hk
    · exact hk.2 rfl
    · obtain ⟨o', ho', hc'⟩ := hc
      rw [ho] at ho'; cases ho'; rw [hk.2] at hc'; cases hc')⟩
theorem RdAt.isCells {b : Nat} {s : ByteArray} {st : RSt} {w : World} (h : RdAt b s st w) : ∃ o : Obj, w.heap[b]? = some o ∧ o.isCells = true := ⟨_, h, rfl⟩

set_option maxRecDepth 100000 in
theorem idxFrom_any (b c : Nat) (s : ByteArray) (hs : s.size < 4611686018427387904) (first : Nat) (hf : first < 9223372036854775808) (i : Nat) (hi : i < 1000) (st : RSt) (hok : st.ok s) (w : World) (h : RdAt b s st w) (hc : w.cell? ⟨c, 0, none⟩ = some (.int .i64 first)) :
    Reads 138 #[.int .i64 i, .pointer (some ⟨c, 0, none⟩)] b s w (.int .i64 (idxFrom first i st).1) (idxFrom first i st).2 := by
  unfold Reads
  have HB := Lib.hid h
  clear h
  go_enter Try.func138, Try.ntmps138
  go_wp2
  go_ret
  exact ⟨rfl, HB.out, FrameT.refl _ _⟩

set_option maxRecDepth 100000 in
theorem idxRead_any (b c : Nat) (s : ByteArray) (hs : s.size < 4611686018427387904) (i : Nat) (hi : i < 1000) (st : RSt) (hok : st.ok s) (w : World) (h : RdAt b s st w) (hc : w.cell? ⟨c, 0, none⟩ = some (.pointer (some ⟨b, 0, none⟩))) :
    Reads 147 #[.int .i64 i, .pointer (some ⟨c, 0, none⟩)] b s w (.int .i64 (idxRead s i st).1) (idxRead s i st).2 := by
  unfold Reads
  have G := Lib.hid (number_any b s hs st hok w h)
  clear h
  go_enter Try.func147, Try.ntmps147
  go_wp2_with (go_at_call 134; ((with_reducible refine (G.out).mono ?_); rintro e w1 ⟨rfl, h1, hF⟩))
  go_ret
  exact ⟨rfl, h1, hF⟩

set_option maxRecDepth 100000 in
set_option maxHeartbeats 2000000 in
theorem entFrom_iter (b c Bn Bi Br m : Nat) (s : ByteArray) (hs : s.size < 4611686018427387904) (first : Nat) (hf : first < 9223372036854775808) (hm : m ≤ 6) (st0 : RSt) (hok0 : st0.ok s) (S : Nat → Prop) (hSb : S b) (hSn : S Bn) (hSi : S Bi) (hSr : S Br) (hSc : S c)
    (hnb : Bn ≠ b) (hib : Bi ≠ b) (hrb : Br ≠ b) (hcb : c ≠ b) (w0 : World) (hn0 : w0.cell? ⟨Bn, 0, none⟩ = some (.int .i64 m)) (hi0 : w0.cell? ⟨Bi, 0, none⟩ = some (.func (.func 138) #[] #[.pointer (some ⟨c, 0, none⟩)]))
    (hr0 : w0.cell? ⟨Br, 0, none⟩ = some (.pointer (some ⟨b, 0, none⟩))) (hc0 : w0.cell? ⟨c, 0, none⟩ = some (.int .i64 first)) (hb0 : RdAt b s st0 w0) :
    IterK Try.prog 145 #[.pointer (some ⟨Bn, 0, none⟩), .pointer (some ⟨Bi, 0, none⟩), .pointer (some ⟨Br, 0, none⟩)] EntryC.enc (entM s (idxFrom first) m 0 st0).1 S (fun k => k = b) (RdAt b s (entM s (idxFrom first) m 0 st0).2) w0 := by
  intro L J Jx W hW hJs _ hY h0
  have hnW := hW.cell hn0 hSn
  have hiW := hW.cell hi0 hSi
  have hrW := hW.cell hr0 hSr
  have hcW := hW.cell hc0 hSc
  have hbW : RdAt b s st0 W := hW.get hb0 hSb
  have HI := Lib.hid (hiW)
  clear hW hn0 hi0 hr0 hc0 hb0
  refine callsIn_of_wp Try.func145 rfl trivial ?_ rfl
  simp only [Try.ntmps145, List.size_toArray, List.length_cons, List.length_nil, Nat.reduceAdd, Nat.reduceSub, Array.replicate_succ, Array.replicate_zero, List.push_toArray, List.append_toArray, List.nil_append, List.cons_append]
  gi_wp2
  gi_loopw [8] (fun q wr => ∃ (k : Nat) (pre : List EntryC) (st : RSt), k ≤ m ∧ q = .int .i64 k ∧ st.ok s ∧ (entM s (idxFrom first) m 0 st0).1 = pre ++ (entM s (idxFrom first) (m - k) k st).1 ∧ (entM s (idxFrom first) m 0 st0).2 = (entM s (idxFrom first) (m - k) k st).2 ∧ J pre wr ∧ RdAt b s st wr ∧ Rd W.heap.size (fun k => S k ∧ k ≠ b) W wr) (fun q _ => m - (intOf q).toNat)
  case atStart => exact ⟨0, [], st0, by omega, rfl, hok0, rfl, rfl, h0, hbW, Rd.refl _ _ _⟩
  case round =>
    obtain ⟨k, pre, st, hk, rfl, hok, hX1, hX2, hJ, hb, hR⟩ := hrel
    have HX1 := Lib.hid hX1
    have HX2 := Lib.hid hX2
    clear hX1 hX2 h0
    by_cases hlt : k < m
    · obtain ⟨j, hj⟩ : ∃ j, m - k = j + 1 := ⟨m - k - 1, by omega⟩
      have hj2 : m - (k + 1) = j := by omega
      have HJ2 := Lib.hid hj2
      rw [hj] at HX1 HX2
      clear hj hj2
      have hi1 := hR.cell hiW ⟨hSi, hib⟩
      have hr1 := hR.cell hrW ⟨hSr, hrb⟩
      have hc1 := hR.cell hcW ⟨hSc, hcb⟩
      have hok1 := idxFrom_ok s first k st hok
      have hok2 := numM_ok hok1
      have hok3 := txtM_ok hok2
      have G0 := Lib.hid (idxFrom_any b c s hs first hf k (by omega) st hok wr hb hc1)
      have G1 := Lib.hid (fun W' (h : RdAt b s (idxFrom first k st).2 W') => number_any b s hs _ hok1 W' h)
      have G2 := Lib.hid (fun W' (h : RdAt b s (numM s (idxFrom first k st).2).2 W') => text_read b s hs _ hok2 W' h)
      have HE := Lib.hid (show entM s (idxFrom first) (j + 1) k st = if (txtM s (numM s (idxFrom first k st).2).2).2.e ≠ 0 then ([], (txtM s (numM s (idxFrom first k st).2).2).2) else (⟨(idxFrom first k st).1, (numM s (idxFrom first k st).2).1, (txtM s (numM s (idxFrom first k st).2).2).1⟩ :: (entM s (idxFrom first) j (k + 1) (txtM s (numM s (idxFrom first k st).2).2).2).1, (entM s (idxFrom first) j (k + 1) (txtM s (numM s (idxFrom first k st).2).2).2).2) from rfl)
      generalize txtM s (numM s (idxFrom first k st).2).2 = R3 at *
      generalize numM s (idxFrom first k st).2 = R2 at *
      generalize idxFrom first k st = R1 at *
      obtain ⟨ix, s1⟩ := R1
      obtain ⟨n2, s2⟩ := R2
      obtain ⟨d3, s3⟩ := R3
      dsimp only at *
      have hbl := hb.lt
      have hil : Bi < wr.heap.size := by obtain ⟨o, ho, _⟩ := isCells_of_cell hi1; exact (Array.getElem?_eq_some_iff.1 ho).1
      have hrl : Br < wr.heap.size := by obtain ⟨o, ho, _⟩ := isCells_of_cell hr1; exact (Array.getElem?_eq_some_iff.1 ho).1
      obtain ⟨k3, e3⟩ := s3
      dsimp only at *
      have HRr := Lib.hid hr1
      clear hr1
      have HB := Lib.hid hb
      have HR := Lib.hid hR
      have HJ := Lib.hid hJ
      clear hb hR hJ hiW hrW hcW hnW hbW
      by_cases he : e3 = 0
      · subst he
        rw [HE.out, if_neg (by simp)] at HX1 HX2
        dsimp only at HX1 HX2
        clear HE
        gi_wp2_with (first
          | (gi_at_call 138; ((refine (callsIn_wide.2 G0.out).mono ?_); rintro e w1 ⟨rfl, H1, hF⟩; have HA1 := Lib.hid (show Below w1.heap.size w1 (w1.alloc (.cells #[.int .i64 ix, .int .i64 0, .string ⟨#[]⟩] 67)) from bel_alloc (Below.refl _ _) _); have HF1 := Lib.hid (show FrameT (fun k => k = b) wr (w1.alloc (.cells #[.int .i64 ix, .int .i64 0, .string ⟨#[]⟩] 67)) from hF.trans (FrameT.below HA1.out)); have hs1 := hF.size; have H1a : RdAt b s s1 (w1.alloc (.cells #[.int .i64 ix, .int .i64 0, .string ⟨#[]⟩] 67)) := H1.below HA1.out; have hr1a := HF1.out.cell HRr.out hrb; have hrX : Br ≠ w1.heap.size := (by omega); have hXr : w1.heap.size ≠ Br := (by omega); have hXb : w1.heap.size ≠ b := (by omega); have hbX : b ≠ w1.heap.size := (by omega); clear hF))
          | (gi_at_call 134; ((refine (callsIn_wide.2 (G1.out _ H1a)).mono ?_); rintro e w2 ⟨rfl, H2, hF⟩; have hb2 := hF.get (World.alloc_heap_new w1 (.cells #[.int .i64 ix, .int .i64 0, .string ⟨#[]⟩] 67)) (show w1.heap.size ≠ b by omega); have hr2 := hF.cell (HF1.out.cell HRr.out hrb) hrb; have HF2 := Lib.hid (show FrameT (fun k => k = b) wr (w2.setCell ⟨w1.heap.size, 1, none⟩ (.int .i64 n2)) from (((HF1.out.trans hF).mono (fun _ h => .inl h)).trans ((FrameT.setCell w2 w1.heap.size 1 (.int .i64 n2)).mono (fun _ h => .inr (by omega)))).strip); have f1 := frozen_of_row _ _ 1 _ _ hb2; have k1 : w2.cell? ⟨w1.heap.size, 1, none⟩ = some (.int .i64 0) := cell_of_row _ _ 1 _ _ _ hb2; have hb2a := Go.Joins.block_setCell hb2 (.int .i64 n2) (i := 1); simp only [List.setIfInBounds_toArray, List.set_cons_succ, List.set_cons_zero] at hb2a; have H2a : RdAt b s s2 (w2.setCell ⟨w1.heap.size, 1, none⟩ (.int .i64 n2)) := (heap_setCell_other w2 ⟨w1.heap.size, 1, none⟩ b (.int .i64 n2) (show b ≠ w1.heap.size by omega)).trans H2; clear hF))
          | (gi_at_call 146; ((refine (callsIn_wide.2 (G2.out _ H2a)).mono ?_); rintro e w3 ⟨rfl, H3, hF⟩; have hb3 := hF.get hb2a (show w1.heap.size ≠ b by omega); have hr3 := hF.cell (HF2.out.cell HRr.out hrb) hrb; have HF3 := Lib.hid (show FrameT (fun k => k = b) wr (w3.setCell ⟨w1.heap.size, 2, none⟩ (.string d3)) from (((HF2.out.trans hF).mono (fun _ h => .inl h)).trans ((FrameT.setCell w3 w1.heap.size 2 (.string d3)).mono (fun _ h => .inr (by omega)))).strip); have f2 := frozen_of_row _ _ 2 _ _ hb3; have q0 : w3.cell? ⟨w1.heap.size, 0, none⟩ = some (.int .i64 ix) := cell_of_row _ _ 0 _ _ _ hb3; have q1 : w3.cell? ⟨w1.heap.size, 1, none⟩ = some (.int .i64 n2) := cell_of_row _ _ 1 _ _ _ hb3; have q2 : w3.cell? ⟨w1.heap.size, 2, none⟩ = some (.string ⟨#[]⟩) := cell_of_row _ _ 2 _ _ _ hb3; have H3a : RdAt b s ⟨k3, 0⟩ (w3.setCell ⟨w1.heap.size, 2, none⟩ (.string d3)) := (heap_setCell_other w3 ⟨w1.heap.size, 2, none⟩ b (.string d3) (show b ≠ w1.heap.size by omega)).trans H3; obtain ⟨z0, z1, z2, _, _⟩ := H3.cells; dsimp only at z2; have HJf := hJs _ _ _ HJ.out HF3.out.moves; clear hF; obtain ⟨fn, tmps, assign, body, hy, hR1⟩ := hY _ _ _ _ HX1.out HJf; dsimp only [EntryC.enc, EntryC.val] at hy)))
        refine (roundIn_wide_n hR1).mono ?_
        rintro e W3 (⟨rfl, hJ3, hk3⟩ | ⟨rfl, hJx3⟩)
        · gi_wp2
          go_roundw
          case rel => exact ⟨k + 1, _, ⟨k3, 0⟩, by omega, by go_num, hok3, by rw [HX1.out, HJ2.out]; simp, by rw [HX2.out, HJ2.out], hJ3, hk3.get H3a hSb, (HR.out.trans (HF3.out.rd HB.out.isCells)).trans (hk3.mono fun _ h => h.1)⟩
          case measure => simp [intOf]; omega
        · gi_wp2
          refine bodyPost_ret (results_none rfl _ _ _) rfl ?_
          exact ⟨⟨_, rfl⟩, .inr ⟨_, _, _, HX1.out, hJx3⟩⟩
      · have he' : (0 : Int) < (e3 : Int) := by omega
        rw [HE.out, if_pos he] at HX1 HX2
        dsimp only at HX1 HX2
        clear HE
        gi_wp2_with (first
          | (gi_at_call 138; ((refine (callsIn_wide.2 G0.out).mono ?_); rintro e w1 ⟨rfl, H1, hF⟩; have HA1 := Lib.hid (show Below w1.heap.size w1 (w1.alloc (.cells #[.int .i64 ix, .int .i64 0, .string ⟨#[]⟩] 67)) from bel_alloc (Below.refl _ _) _); have HF1 := Lib.hid (show FrameT (fun k => k = b) wr (w1.alloc (.cells #[.int .i64 ix, .int .i64 0, .string ⟨#[]⟩] 67)) from hF.trans (FrameT.below HA1.out)); have hs1 := hF.size; have H1a : RdAt b s s1 (w1.alloc (.cells #[.int .i64 ix, .int .i64 0, .string ⟨#[]⟩] 67)) := H1.below HA1.out; have hr1a := HF1.out.cell HRr.out hrb; have hrX : Br ≠ w1.heap.size := (by omega); have hXr : w1.heap.size ≠ Br := (by omega); have hXb : w1.heap.size ≠ b := (by omega); have hbX : b ≠ w1.heap.size := (by omega); clear hF))
          | (gi_at_call 134; ((refine (callsIn_wide.2 (G1.out _ H1a)).mono ?_); rintro e w2 ⟨rfl, H2, hF⟩; have hb2 := hF.get (World.alloc_heap_new w1 (.cells #[.int .i64 ix, .int .i64 0, .string ⟨#[]⟩] 67)) (show w1.heap.size ≠ b by omega); have hr2 := hF.cell (HF1.out.cell HRr.out hrb) hrb; have HF2 := Lib.hid (show FrameT (fun k => k = b) wr (w2.setCell ⟨w1.heap.size, 1, none⟩ (.int .i64 n2)) from (((HF1.out.trans hF).mono (fun _ h => .inl h)).trans ((FrameT.setCell w2 w1.heap.size 1 (.int .i64 n2)).mono (fun _ h => .inr (by omega)))).strip); have f1 := frozen_of_row _ _ 1 _ _ hb2; have k1 : w2.cell? ⟨w1.heap.size, 1, none⟩ = some (.int .i64 0) := cell_of_row _ _ 1 _ _ _ hb2; have hb2a := Go.Joins.block_setCell hb2 (.int .i64 n2) (i := 1); simp only [List.setIfInBounds_toArray, List.set_cons_succ, List.set_cons_zero] at hb2a; have H2a : RdAt b s s2 (w2.setCell ⟨w1.heap.size, 1, none⟩ (.int .i64 n2)) := (heap_setCell_other w2 ⟨w1.heap.size, 1, none⟩ b (.int .i64 n2) (show b ≠ w1.heap.size by omega)).trans H2; clear hF))
          | (gi_at_call 146; ((refine (callsIn_wide.2 (G2.out _ H2a)).mono ?_); rintro e w3 ⟨rfl, H3, hF⟩; have hb3 := hF.get hb2a (show w1.heap.size ≠ b by omega); have hr3 := hF.cell (HF2.out.cell HRr.out hrb) hrb; have HF3 := Lib.hid (show FrameT (fun k => k = b) wr (w3.setCell ⟨w1.heap.size, 2, none⟩ (.string d3)) from (((HF2.out.trans hF).mono (fun _ h => .inl h)).trans ((FrameT.setCell w3 w1.heap.size 2 (.string d3)).mono (fun _ h => .inr (by omega)))).strip); have f2 := frozen_of_row _ _ 2 _ _ hb3; have q0 : w3.cell? ⟨w1.heap.size, 0, none⟩ = some (.int .i64 ix) := cell_of_row _ _ 0 _ _ _ hb3; have q1 : w3.cell? ⟨w1.heap.size, 1, none⟩ = some (.int .i64 n2) := cell_of_row _ _ 1 _ _ _ hb3; have q2 : w3.cell? ⟨w1.heap.size, 2, none⟩ = some (.string ⟨#[]⟩) := cell_of_row _ _ 2 _ _ _ hb3; have H3a : RdAt b s ⟨k3, e3⟩ (w3.setCell ⟨w1.heap.size, 2, none⟩ (.string d3)) := (heap_setCell_other w3 ⟨w1.heap.size, 2, none⟩ b (.string d3) (show b ≠ w1.heap.size by omega)).trans H3; obtain ⟨z0, z1, z2, _, _⟩ := H3.cells; dsimp only at z2; have HJf := hJs _ _ _ HJ.out HF3.out.moves; clear hF)))
        refine bodyPost_ret (results_none rfl _ _ _) rfl ?_
        exact ⟨⟨_, rfl⟩, .inl ⟨by rw [HX1.out, List.append_nil]; exact HJf, by rw [HX2.out]; exact H3a⟩⟩
    · obtain rfl : k = m := by omega
      rw [Nat.sub_self] at HX1 HX2
      simp only [entM, List.append_nil] at HX1 HX2
      have HB := Lib.hid hb
      gi_wp2
      refine bodyPost_end (results_none rfl _ _ _) rfl ?_
      exact ⟨⟨_, rfl⟩, .inl ⟨by rw [HX1.out]; exact hJ, by rw [HX2.out]; exact HB.out⟩⟩

set_option maxRecDepth 100000 in
set_option maxHeartbeats 2000000 in
theorem entRead_iter (b c Bn Bi Br m : Nat) (s : ByteArray) (hs : s.size < 4611686018427387904)  (hm : m ≤ 6) (st0 : RSt) (hok0 : st0.ok s) (S : Nat → Prop) (hSb : S b) (hSn : S Bn) (hSi : S Bi) (hSr : S Br) (hSc : S c)
    (hnb : Bn ≠ b) (hib : Bi ≠ b) (hrb : Br ≠ b) (hcb : c ≠ b) (w0 : World) (hn0 : w0.cell? ⟨Bn, 0, none⟩ = some (.int .i64 m)) (hi0 : w0.cell? ⟨Bi, 0, none⟩ = some (.func (.func 147) #[] #[.pointer (some ⟨c, 0, none⟩)]))
    (hr0 : w0.cell? ⟨Br, 0, none⟩ = some (.pointer (some ⟨b, 0, none⟩))) (hc0 : w0.cell? ⟨c, 0, none⟩ = some (.pointer (some ⟨b, 0, none⟩))) (hb0 : RdAt b s st0 w0) :
    IterK Try.prog 145 #[.pointer (some ⟨Bn, 0, none⟩), .pointer (some ⟨Bi, 0, none⟩), .pointer (some ⟨Br, 0, none⟩)] EntryC.enc (entM s (idxRead s) m 0 st0).1 S (fun k => k = b) (RdAt b s (entM s (idxRead s) m 0 st0).2) w0 := by
  intro L J Jx W hW hJs _ hY h0
  have hnW := hW.cell hn0 hSn
  have hiW := hW.cell hi0 hSi
  have hrW := hW.cell hr0 hSr
  have hcW := hW.cell hc0 hSc
  have hbW : RdAt b s st0 W := hW.get hb0 hSb
  have HI := Lib.hid (hiW)
  clear hW hn0 hi0 hr0 hc0 hb0
  refine callsIn_of_wp Try.func145 rfl trivial ?_ rfl
  simp only [Try.ntmps145, List.size_toArray, List.length_cons, List.length_nil, Nat.reduceAdd, Nat.reduceSub, Array.replicate_succ, Array.replicate_zero, List.push_toArray, List.append_toArray, List.nil_append, List.cons_append]
  gi_wp2
  gi_loopw [8] (fun q wr => ∃ (k : Nat) (pre : List EntryC) (st : RSt), k ≤ m ∧ q = .int .i64 k ∧ st.ok s ∧ (entM s (idxRead s) m 0 st0).1 = pre ++ (entM s (idxRead s) (m - k) k st).1 ∧ (entM s (idxRead s) m 0 st0).2 = (entM s (idxRead s) (m - k) k st).2 ∧ J pre wr ∧ RdAt b s st wr ∧ Rd W.heap.size (fun k => S k ∧ k ≠ b) W wr) (fun q _ => m - (intOf q).toNat)
  case atStart => exact ⟨0, [], st0, by omega, rfl, hok0, rfl, rfl, h0, hbW, Rd.refl _ _ _⟩
  case round =>
    obtain ⟨k, pre, st, hk, rfl, hok, hX1, hX2, hJ, hb, hR⟩ := hrel
    have HX1 := Lib.hid hX1
    have HX2 := Lib.hid hX2
    clear hX1 hX2 h0
    by_cases hlt : k < m
    · obtain ⟨j, hj⟩ : ∃ j, m - k = j + 1 := ⟨m - k - 1, by omega⟩
      have hj2 : m - (k + 1) = j := by omega
      have HJ2 := Lib.hid hj2
      rw [hj] at HX1 HX2
      clear hj hj2
      have hi1 := hR.cell hiW ⟨hSi, hib⟩
      have hr1 := hR.cell hrW ⟨hSr, hrb⟩
      have hc1 := hR.cell hcW ⟨hSc, hcb⟩
      have hok1 := idxRead_ok s  k st hok
      have hok2 := numM_ok hok1
      have hok3 := txtM_ok hok2
      have G0 := Lib.hid (idxRead_any b c s hs  k (by omega) st hok wr hb hc1)
      have G1 := Lib.hid (fun W' (h : RdAt b s (idxRead s k st).2 W') => number_any b s hs _ hok1 W' h)
      have G2 := Lib.hid (fun W' (h : RdAt b s (numM s (idxRead s k st).2).2 W') => text_read b s hs _ hok2 W' h)
      have HE := Lib.hid (show entM s (idxRead s) (j + 1) k st = if (txtM s (numM s (idxRead s k st).2).2).2.e ≠ 0 then ([], (txtM s (numM s (idxRead s k st).2).2).2) else (⟨(idxRead s k st).1, (numM s (idxRead s k st).2).1, (txtM s (numM s (idxRead s k st).2).2).1⟩ :: (entM s (idxRead s) j (k + 1) (txtM s (numM s (idxRead s k st).2).2).2).1, (entM s (idxRead s) j (k + 1) (txtM s (numM s (idxRead s k st).2).2).2).2) from rfl)
      generalize txtM s (numM s (idxRead s k st).2).2 = R3 at *
      generalize numM s (idxRead s k st).2 = R2 at *
      generalize idxRead s k st = R1 at *
      obtain ⟨ix, s1⟩ := R1
      obtain ⟨n2, s2⟩ := R2
      obtain ⟨d3, s3⟩ := R3
      dsimp only at *
      have hbl := hb.lt
      have hil : Bi < wr.heap.size := by obtain ⟨o, ho, _⟩ := isCells_of_cell hi1; exact (Array.getElem?_eq_some_iff.1 ho).1
      have hrl : Br < wr.heap.size := by obtain ⟨o, ho, _⟩ := isCells_of_cell hr1; exact (Array.getElem?_eq_some_iff.1 ho).1
      obtain ⟨k3, e3⟩ := s3
      dsimp only at *
      have HRr := Lib.hid hr1
      clear hr1
      have HB := Lib.hid hb
      have HR := Lib.hid hR
      have HJ := Lib.hid hJ
      clear hb hR hJ hiW hrW hcW hnW hbW
      by_cases he : e3 = 0
      · subst he
        rw [HE.out, if_neg (by simp)] at HX1 HX2
        dsimp only at HX1 HX2
        clear HE
        gi_wp2_with (first
          | (gi_at_call 147; ((refine (callsIn_wide.2 G0.out).mono ?_); rintro e w1 ⟨rfl, H1, hF⟩; have HA1 := Lib.hid (show Below w1.heap.size w1 (w1.alloc (.cells #[.int .i64 ix, .int .i64 0, .string ⟨#[]⟩] 67)) from bel_alloc (Below.refl _ _) _); have HF1 := Lib.hid (show FrameT (fun k => k = b) wr (w1.alloc (.cells #[.int .i64 ix, .int .i64 0, .string ⟨#[]⟩] 67)) from hF.trans (FrameT.below HA1.out)); have hs1 := hF.size; have H1a : RdAt b s s1 (w1.alloc (.cells #[.int .i64 ix, .int .i64 0, .string ⟨#[]⟩] 67)) := H1.below HA1.out; have hr1a := HF1.out.cell HRr.out hrb; have hrX : Br ≠ w1.heap.size := (by omega); have hXr : w1.heap.size ≠ Br := (by omega); have hXb : w1.heap.size ≠ b := (by omega); have hbX : b ≠ w1.heap.size := (by omega); clear hF))
          | (gi_at_call 134; ((refine (callsIn_wide.2 (G1.out _ H1a)).mono ?_); rintro e w2 ⟨rfl, H2, hF⟩; have hb2 := hF.get (World.alloc_heap_new w1 (.cells #[.int .i64 ix, .int .i64 0, .string ⟨#[]⟩] 67)) (show w1.heap.size ≠ b by omega); have hr2 := hF.cell (HF1.out.cell HRr.out hrb) hrb; have HF2 := Lib.hid (show FrameT (fun k => k = b) wr (w2.setCell ⟨w1.heap.size, 1, none⟩ (.int .i64 n2)) from (((HF1.out.trans hF).mono (fun _ h => .inl h)).trans ((FrameT.setCell w2 w1.heap.size 1 (.int .i64 n2)).mono (fun _ h => .inr (by omega)))).strip); have f1 := frozen_of_row _ _ 1 _ _ hb2; have k1 : w2.cell? ⟨w1.heap.size, 1, none⟩ = some (.int .i64 0) := cell_of_row _ _ 1 _ _ _ hb2; have hb2a := Go.Joins.block_setCell hb2 (.int .i64 n2) (i := 1); simp only [List.setIfInBounds_toArray, List.set_cons_succ, List.set_cons_zero] at hb2a; have H2a : RdAt b s s2 (w2.setCell ⟨w1.heap.size, 1, none⟩ (.int .i64 n2)) := (heap_setCell_other w2 ⟨w1.heap.size, 1, none⟩ b (.int .i64 n2) (show b ≠ w1.heap.size by omega)).trans H2; clear hF))
          | (gi_at_call 146; ((refine (callsIn_wide.2 (G2.out _ H2a)).mono ?_); rintro e w3 ⟨rfl, H3, hF⟩; have hb3 := hF.get hb2a (show w1.heap.size ≠ b by omega); have hr3 := hF.cell (HF2.out.cell HRr.out hrb) hrb; have HF3 := Lib.hid (show FrameT (fun k => k = b) wr (w3.setCell ⟨w1.heap.size, 2, none⟩ (.string d3)) from (((HF2.out.trans hF).mono (fun _ h => .inl h)).trans ((FrameT.setCell w3 w1.heap.size 2 (.string d3)).mono (fun _ h => .inr (by omega)))).strip); have f2 := frozen_of_row _ _ 2 _ _ hb3; have q0 : w3.cell? ⟨w1.heap.size, 0, none⟩ = some (.int .i64 ix) := cell_of_row _ _ 0 _ _ _ hb3; have q1 : w3.cell? ⟨w1.heap.size, 1, none⟩ = some (.int .i64 n2) := cell_of_row _ _ 1 _ _ _ hb3; have q2 : w3.cell? ⟨w1.heap.size, 2, none⟩ = some (.string ⟨#[]⟩) := cell_of_row _ _ 2 _ _ _ hb3; have H3a : RdAt b s ⟨k3, 0⟩ (w3.setCell ⟨w1.heap.size, 2, none⟩ (.string d3)) := (heap_setCell_other w3 ⟨w1.heap.size, 2, none⟩ b (.string d3) (show b ≠ w1.heap.size by omega)).trans H3; obtain ⟨z0, z1, z2, _, _⟩ := H3.cells; dsimp only at z2; have HJf := hJs _ _ _ HJ.out HF3.out.moves; clear hF; obtain ⟨fn, tmps, assign, body, hy, hR1⟩ := hY _ _ _ _ HX1.out HJf; dsimp only [EntryC.enc, EntryC.val] at hy)))
        refine (roundIn_wide_n hR1).mono ?_
        rintro e W3 (⟨rfl, hJ3, hk3⟩ | ⟨rfl, hJx3⟩)
        · gi_wp2
          go_roundw
          case rel => exact ⟨k + 1, _, ⟨k3, 0⟩, by omega, by go_num, hok3, by rw [HX1.out, HJ2.out]; simp, by rw [HX2.out, HJ2.out], hJ3, hk3.get H3a hSb, (HR.out.trans (HF3.out.rd HB.out.isCells)).trans (hk3.mono fun _ h => h.1)⟩
          case measure => simp [intOf]; omega
        · gi_wp2
          refine bodyPost_ret (results_none rfl _ _ _) rfl ?_
          exact ⟨⟨_, rfl⟩, .inr ⟨_, _, _, HX1.out, hJx3⟩⟩
      · have he' : (0 : Int) < (e3 : Int) := by omega
        rw [HE.out, if_pos he] at HX1 HX2
        dsimp only at HX1 HX2
        clear HE
        gi_wp2_with (first
          | (gi_at_call 147; ((refine (callsIn_wide.2 G0.out).mono ?_); rintro e w1 ⟨rfl, H1, hF⟩; have HA1 := Lib.hid (show Below w1.heap.size w1 (w1.alloc (.cells #[.int .i64 ix, .int .i64 0, .string ⟨#[]⟩] 67)) from bel_alloc (Below.refl _ _) _); have HF1 := Lib.hid (show FrameT (fun k => k = b) wr (w1.alloc (.cells #[.int .i64 ix, .int .i64 0, .string ⟨#[]⟩] 67)) from hF.trans (FrameT.below HA1.out)); have hs1 := hF.size; have H1a : RdAt b s s1 (w1.alloc (.cells #[.int .i64 ix, .int .i64 0, .string ⟨#[]⟩] 67)) := H1.below HA1.out; have hr1a := HF1.out.cell HRr.out hrb; have hrX : Br ≠ w1.heap.size := (by omega); have hXr : w1.heap.size ≠ Br := (by omega); have hXb : w1.heap.size ≠ b := (by omega); have hbX : b ≠ w1.heap.size := (by omega); clear hF))
          | (gi_at_call 134; ((refine (callsIn_wide.2 (G1.out _ H1a)).mono ?_); rintro e w2 ⟨rfl, H2, hF⟩; have hb2 := hF.get (World.alloc_heap_new w1 (.cells #[.int .i64 ix, .int .i64 0, .string ⟨#[]⟩] 67)) (show w1.heap.size ≠ b by omega); have hr2 := hF.cell (HF1.out.cell HRr.out hrb) hrb; have HF2 := Lib.hid (show FrameT (fun k => k = b) wr (w2.setCell ⟨w1.heap.size, 1, none⟩ (.int .i64 n2)) from (((HF1.out.trans hF).mono (fun _ h => .inl h)).trans ((FrameT.setCell w2 w1.heap.size 1 (.int .i64 n2)).mono (fun _ h => .inr (by omega)))).strip); have f1 := frozen_of_row _ _ 1 _ _ hb2; have k1 : w2.cell? ⟨w1.heap.size, 1, none⟩ = some (.int .i64 0) := cell_of_row _ _ 1 _ _ _ hb2; have hb2a := Go.Joins.block_setCell hb2 (.int .i64 n2) (i := 1); simp only [List.setIfInBounds_toArray, List.set_cons_succ, List.set_cons_zero] at hb2a; have H2a : RdAt b s s2 (w2.setCell ⟨w1.heap.size, 1, none⟩ (.int .i64 n2)) := (heap_setCell_other w2 ⟨w1.heap.size, 1, none⟩ b (.int .i64 n2) (show b ≠ w1.heap.size by omega)).trans H2; clear hF))
          | (gi_at_call 146; ((refine (callsIn_wide.2 (G2.out _ H2a)).mono ?_); rintro e w3 ⟨rfl, H3, hF⟩; have hb3 := hF.get hb2a (show w1.heap.size ≠ b by omega); have hr3 := hF.cell (HF2.out.cell HRr.out hrb) hrb; have HF3 := Lib.hid (show FrameT (fun k => k = b) wr (w3.setCell ⟨w1.heap.size, 2, none⟩ (.string d3)) from (((HF2.out.trans hF).mono (fun _ h => .inl h)).trans ((FrameT.setCell w3 w1.heap.size 2 (.string d3)).mono (fun _ h => .inr (by omega)))).strip); have f2 := frozen_of_row _ _ 2 _ _ hb3; have q0 : w3.cell? ⟨w1.heap.size, 0, none⟩ = some (.int .i64 ix) := cell_of_row _ _ 0 _ _ _ hb3; have q1 : w3.cell? ⟨w1.heap.size, 1, none⟩ = some (.int .i64 n2) := cell_of_row _ _ 1 _ _ _ hb3; have q2 : w3.cell? ⟨w1.heap.size, 2, none⟩ = some (.string ⟨#[]⟩) := cell_of_row _ _ 2 _ _ _ hb3; have H3a : RdAt b s ⟨k3, e3⟩ (w3.setCell ⟨w1.heap.size, 2, none⟩ (.string d3)) := (heap_setCell_other w3 ⟨w1.heap.size, 2, none⟩ b (.string d3) (show b ≠ w1.heap.size by omega)).trans H3; obtain ⟨z0, z1, z2, _, _⟩ := H3.cells; dsimp only at z2; have HJf := hJs _ _ _ HJ.out HF3.out.moves; clear hF)))
        refine bodyPost_ret (results_none rfl _ _ _) rfl ?_
        exact ⟨⟨_, rfl⟩, .inl ⟨by rw [HX1.out, List.append_nil]; exact HJf, by rw [HX2.out]; exact H3a⟩⟩
    · obtain rfl : k = m := by omega
      rw [Nat.sub_self] at HX1 HX2
      simp only [entM, List.append_nil] at HX1 HX2
      have HB := Lib.hid hb
      gi_wp2
      refine bodyPost_end (results_none rfl _ _ _) rfl ?_
      exact ⟨⟨_, rfl⟩, .inl ⟨by rw [HX1.out]; exact hJ, by rw [HX2.out]; exact HB.out⟩⟩

end Go.Proofs.Ytflaanffjjidaaa

/- What part's entries makes, and what Collect's row is good for. -/
namespace Go.Proofs.Ytflaanffjjidaaa
open Go.RowKit Go.Shelf
set_option linter.unusedVariables false
attribute [local go_sem] Oper.semAt_some wide_fn wide_round_fn

theorem three_boxes (w : World) (v1 v2 v3 : Value) (T1 T2 T3 : TypeId) :
    (((w.alloc (.cells #[v1] T1)).alloc (.cells #[v2] T2)).alloc (.cells #[v3] T3)).cell? ⟨w.heap.size, 0, none⟩ = some v1 ∧ (((w.alloc (.cells #[v1] T1)).alloc (.cells #[v2] T2)).alloc (.cells #[v3] T3)).cell? ⟨w.heap.size + 1, 0, none⟩ = some v2 ∧
    (((w.alloc (.cells #[v1] T1)).alloc (.cells #[v2] T2)).alloc (.cells #[v3] T3)).cell? ⟨w.heap.size + 1 + 1, 0, none⟩ = some v3 ∧ Below w.heap.size w (((w.alloc (.cells #[v1] T1)).alloc (.cells #[v2] T2)).alloc (.cells #[v3] T3)) ∧
    (((w.alloc (.cells #[v1] T1)).alloc (.cells #[v2] T2)).alloc (.cells #[v3] T3)).heap.size = w.heap.size + 3 := by
  refine ⟨(((Boxed.new w T1 v1).alloc _).alloc _).cell, ?_, ?_, bel_alloc (bel_alloc (bel_alloc (Below.refl _ _) _) _) _, by simp⟩
  · have := ((Boxed.new (w.alloc (.cells #[v1] T1)) T2 v2).alloc (.cells #[v3] T3)).cell
    rwa [World.size_alloc] at this
  · have := (Boxed.new ((w.alloc (.cells #[v1] T1)).alloc (.cells #[v2] T2)) T3 v3).cell
    rwa [World.size_alloc, World.size_alloc] at this

set_option maxRecDepth 100000 in
theorem entFrom_makes (b c m : Nat) (s : ByteArray) (hs : s.size < 4611686018427387904) (first : Nat) (hf : first < 9223372036854775808) (hm : m ≤ 6) (st0 : RSt) (hok0 : st0.ok s) (hcb : c ≠ b) (w : World) (hb : RdAt b s st0 w) (hc : w.cell? ⟨c, 0, none⟩ = some (.int .i64 first)) :
    Calls Try.prog 137 #[.pointer (some ⟨b, 0, none⟩), .int .i64 m, .func (.func 138) #[] #[.pointer (some ⟨c, 0, none⟩)]] w fun e w' => ∃ lb, e = .returned (.func (.func 145) #[] lb) ∧ Below w.heap.size w w' ∧
      IterK Try.prog 145 lb EntryC.enc (entM s (idxFrom first) m 0 st0).1 (fun k => k < w'.heap.size) (fun k => k = b) (RdAt b s (entM s (idxFrom first) m 0 st0).2) w' := by
  have HB := Lib.hid hb
  have hbl := hb.lt
  have hcl : c < w.heap.size := by obtain ⟨o, ho, _⟩ := isCells_of_cell hc; exact (Array.getElem?_eq_some_iff.1 ho).1
  have HC := Lib.hid hc
  clear hb hc
  go_enter Try.func137, Try.ntmps137
  go_wp2
  go_ret
  have h3 := three_boxes w (.pointer (some ⟨b, 0, none⟩)) (.int .i64 m) (.func (.func 138) #[] #[.pointer (some ⟨c, 0, none⟩)]) 197 3 138
  refine ⟨_, rfl, h3.2.2.2.1, ?_⟩
  exact entFrom_iter b c (w.heap.size + 1) (w.heap.size + 1 + 1) w.heap.size m s hs first hf hm st0 hok0 (fun k => k < (((w.alloc (.cells #[.pointer (some ⟨b, 0, none⟩)] 197)).alloc (.cells #[.int .i64 m] 3)).alloc (.cells #[.func (.func 138) #[] #[.pointer (some ⟨c, 0, none⟩)]] 138)).heap.size) (Nat.lt_of_lt_of_le hbl h3.2.2.2.1.size) (by show _ < _; rw [h3.2.2.2.2]; omega) (by show _ < _; rw [h3.2.2.2.2]; omega) (by show _ < _; rw [h3.2.2.2.2]; omega) (Nat.lt_of_lt_of_le hcl h3.2.2.2.1.size)
    (by omega) (by omega) (by omega) hcb _ h3.2.1 h3.2.2.1 h3.1 ((h3.2.2.2.1.cell (p := ⟨c, 0, none⟩) hcl).trans HC.out) (HB.out.below h3.2.2.2.1)

set_option maxRecDepth 100000 in
theorem entRead_makes (b c m : Nat) (s : ByteArray) (hs : s.size < 4611686018427387904)  (hm : m ≤ 6) (st0 : RSt) (hok0 : st0.ok s) (hcb : c ≠ b) (w : World) (hb : RdAt b s st0 w) (hc : w.cell? ⟨c, 0, none⟩ = some (.pointer (some ⟨b, 0, none⟩))) :
    Calls Try.prog 137 #[.pointer (some ⟨b, 0, none⟩), .int .i64 m, .func (.func 147) #[] #[.pointer (some ⟨c, 0, none⟩)]] w fun e w' => ∃ lb, e = .returned (.func (.func 145) #[] lb) ∧ Below w.heap.size w w' ∧
      IterK Try.prog 145 lb EntryC.enc (entM s (idxRead s) m 0 st0).1 (fun k => k < w'.heap.size) (fun k => k = b) (RdAt b s (entM s (idxRead s) m 0 st0).2) w' := by
  have HB := Lib.hid hb
  have hbl := hb.lt
  have hcl : c < w.heap.size := by obtain ⟨o, ho, _⟩ := isCells_of_cell hc; exact (Array.getElem?_eq_some_iff.1 ho).1
  have HC := Lib.hid hc
  clear hb hc
  go_enter Try.func137, Try.ntmps137
  go_wp2
  go_ret
  have h3 := three_boxes w (.pointer (some ⟨b, 0, none⟩)) (.int .i64 m) (.func (.func 147) #[] #[.pointer (some ⟨c, 0, none⟩)]) 197 3 138
  refine ⟨_, rfl, h3.2.2.2.1, ?_⟩
  exact entRead_iter b c (w.heap.size + 1) (w.heap.size + 1 + 1) w.heap.size m s hs  hm st0 hok0 (fun k => k < (((w.alloc (.cells #[.pointer (some ⟨b, 0, none⟩)] 197)).alloc (.cells #[.int .i64 m] 3)).alloc (.cells #[.func (.func 147) #[] #[.pointer (some ⟨c, 0, none⟩)]] 138)).heap.size) (Nat.lt_of_lt_of_le hbl h3.2.2.2.1.size) (by show _ < _; rw [h3.2.2.2.2]; omega) (by show _ < _; rw [h3.2.2.2.2]; omega) (by show _ < _; rw [h3.2.2.2.2]; omega) (Nat.lt_of_lt_of_le hcl h3.2.2.2.1.size)
    (by omega) (by omega) (by omega) hcb _ h3.2.1 h3.2.2.1 h3.1 ((h3.2.2.2.1.cell (p := ⟨c, 0, none⟩) hcl).trans HC.out) (HB.out.below h3.2.2.2.1)

/-- What a row of the call's own is good for: a part's entries. -/
theorem own_ent {w : World} {base n : Nat} {v : Value} {xs : List EntryC} (h : w.ownsRow base 67 3 v n (entryCells xs)) : ∃ a cap, v = .slice a n cap ∧ RowV w a n 3 (entryCells xs) ∧ ∀ k, inBlkE a n k → base ≤ k := by
  obtain ⟨a, cap, e, _, hr⟩ := rowV_own h
  refine ⟨a, cap, e, hr, ?_⟩
  rintro k ⟨g, off, rfl, _, rfl⟩
  rcases h.2 with ⟨hv, _⟩ | ⟨g', cap', cur, hv, hg, _⟩
  · rw [e] at hv; cases hv
  · rw [e] at hv; cases hv; exact hg

end Go.Proofs.Ytflaanffjjidaaa
