/- The walks of the law WriterLeft. -/
import Derived.Test.YtoieacmipejfeaaGreatDoorKnown22
import Derived.Test.YtoieacmipejfeaaGreatDoorWrtI
import Derived.Test.YtoieacmipejfeaaGreatDoorHeadRef
import Derived.Test.YtoieacmipejfeaaGreatDoorBytes
import Derived.Test.YtoieacmipejfeaaGreatDoorQuietC
namespace Go.Proofs.YtoieacmipejfeaaGreatDoor
open Go.RowKit Go.Shelf
set_option linter.unusedVariables false
attribute [local go_sem] Oper.semAt_some wide_fn wide_round_fn
attribute [local irreducible] wpQuiet

theorem cell_lt {w : World} {b i : Nat} {v : Value} (h : w.cell? ⟨b, i, none⟩ = some v) : b < w.heap.size := by
  obtain ⟨o, ho, -⟩ := isCells_of_cell h
  exact (Array.getElem?_eq_some_iff.1 ho).1
theorem left_pd (junk : ByteArray) (hj : junk.size ≤ 200) (b : ByteArray) (k : Nat) (hb : b.size = k) (hk : 1050 ≤ k ∧ k ≤ 2049) : ∃ D1 D2 D3 D4 D5 D6 D7,
    (createE ⟨[], 1000000, 0, false, 0⟩ (nmW 1) = 0 ∧ createD ⟨[], 1000000, 0, false, 0⟩ (nmW 1) = D1) ∧ (appendE D1 (nmW 1) junk = 0 ∧ appendD D1 (nmW 1) junk = D2) ∧ (createE D2 (nmW 2) = 0 ∧ createD D2 (nmW 2) = D3) ∧ (appendE D3 (nmW 2) junk = 0 ∧ appendD D3 (nmW 2) junk = D4) ∧
    makR D4 2100 = (⟨2100, [1], 16⟩, D5, 0) ∧ wrtR ⟨2100, [1], 16⟩ D5 b = (⟨2100, [1], 16 + k⟩, D6, (1, 16), 0) ∧ wrtR ⟨2100, [1], 16 + k⟩ D6 b = (⟨2100, [1, 2], 16 + k⟩, D7, (2, 16), 0) ∧
    askE D7 (nmW 2) = 0 ∧ (∃ S : ByteArray, readB D7 (nmW 2) = S ∧ S.size = 16 + k ∧ S.extract 0 16 = hdW 2) ∧ (Fit D1 1 ∧ Fit D2 2 ∧ Fit D3 3 ∧ Fit D4 4 ∧ Fit D5 14 ∧ Fit D6 26) := by
  have h21 : nmW 2 ≠ nmW 1 := fun e => absurd (nmW_inj (i := 2) (j := 1) (by omega) (by omega) e) (by decide)
  have s0 := st_new 1000000
  obtain ⟨e1, s1⟩ := s0.create (s := nmW 1) rfl (by omega)
  have f1 : Fit _ 1 := (fit_new 1000000 (by omega)).create (nmW 1)
  obtain ⟨D1, hD1⟩ : ∃ D, createD ⟨[], 1000000, 0, false, 0⟩ (nmW 1) = D := ⟨_, rfl⟩
  rw [hD1] at s1 f1
  rcases s1.append (upd_self ..) junk with ⟨e2, s2⟩ | ⟨-, -, h⟩
  · have f2 : Fit _ 2 := f1.append s1.nm (nmW 1) junk
    obtain ⟨D2, hD2⟩ : ∃ D, appendD D1 (nmW 1) junk = D := ⟨_, rfl⟩
    rw [hD2] at s2 f2
    obtain ⟨e3, s3⟩ := s2.create (s := nmW 2) (by rw [upd_other _ h21, upd_other _ h21]) (by omega)
    have f3 : Fit _ 3 := f2.create (nmW 2)
    obtain ⟨D3, hD3⟩ : ∃ D, createD D2 (nmW 2) = D := ⟨_, rfl⟩
    rw [hD3] at s3 f3
    rcases s3.append (upd_self ..) junk with ⟨e4, s4⟩ | ⟨-, -, h⟩
    · have f4 : Fit _ 4 := f3.append s3.nm (nmW 2) junk
      obtain ⟨D4, hD4⟩ : ∃ D, appendD D3 (nmW 2) junk = D := ⟨_, rfl⟩
      rw [hD4] at s4 f4
      rcases s4.make (by omega) 2100 with ⟨D5, e5, s5, w5⟩ | ⟨_, _, _, _, h, -⟩
      · have hl : limW 2100 = 2100 := by decide
        have f5 : Fit _ 14 := fit_beg f4 s4.nm ⟨limW 2100, [], 0⟩ 1
        rw [show begR ⟨limW 2100, [], 0⟩ D4 1 = makR D4 2100 from rfl, e5] at f5
        rw [hl] at e5 w5
        have f6 := fit_wrt f5 s5.nm ⟨2100, [1], 16⟩ b
        rcases WI.write (A := []) (b := b) s5 w5 (by omega) (by simp) (by decide) (by omega) with ⟨-, D6, e6, s6, w6⟩ | ⟨h, -⟩ | ⟨h, -⟩
        · rw [e6] at f6
          rw [show (({ lim := 2100, segs := [1], size := 16 } : WM).size + (b.size : Int)) = 16 + (k : Int) by show (16 : Int) + (b.size : Int) = _; rw [hb]] at e6 w6
          rcases WI.write (A := []) (b := b) s6 w6 (by omega) (by simp) (show (1 : Int) < 99999999 by decide) (by omega) with ⟨h, -⟩ | ⟨-, D7, g7, e7, hg7, s7, w7⟩ | ⟨h, -⟩
          · unfold rollB at h; simp at h; omega
          · refine ⟨D1, D2, D3, D4, D5, D6, D7, ⟨e1, hD1⟩, ⟨e2, hD2⟩, ⟨e3, hD3⟩, ⟨e4, hD4⟩, e5, e6, ?_, ?_, ⟨_, s7.read (w7.file (1 + 1, (hdW (1 + 1)).data.toList ++ b.data.toList, 16) (by simp)), ?_, ?_⟩, f1, f2, f3, f4, f5, f6⟩
            · rw [e7, hb]; rfl
            · exact s7.askY (w7.file (1 + 1, (hdW (1 + 1)).data.toList ++ b.data.toList, 16) (by simp))
            · show ((hdW 2).data.toList ++ b.data.toList).toArray.size = _
              rw [List.size_toArray, List.length_append, hdW_len, ← hb]; rfl
            · apply ByteArray.ext
              rw [ByteArray.data_extract]
              show (((hdW 2).data.toList ++ b.data.toList).toArray.extract 0 16) = _
              have := hdW_len 2
              apply Array.toList_inj.1
              rw [Array.toList_extract]
              first
                | done
                | simp [List.extract, this]
          · omega
        · exact absurd h (by unfold rollB; simp)
        · omega
      · omega
    · omega
  · omega
set_option maxRecDepth 100000 in
set_option maxHeartbeats 4000000 in
theorem left_many (w : World) (junk : ByteArray) (hj : junk.size ≤ maxLen) (n : Nat) (hn : n < 65536) (h : 200 < junk.size) : Calls Tryz.prog 7 #[.string junk, .int .u16 n] w fun e w' => e = .returned (.bool true) ∧ Below w.heap.size w w' := by
  have GK := Lib.hid known22_any
  have h1 : (200 : Int) < (junk.size : Int) := by omega
  clear h hj
  unfold Gives at GK
  go_enter Tryz.func7, Tryz.ntmps7
  go_wp2_with (go_at_call 8; ((with_reducible refine (GK.out _).mono ?_); rintro e w1 ⟨rfl, hB1⟩))
  go_ret
  exact ⟨rfl, hB1⟩
set_option maxRecDepth 100000 in
set_option maxHeartbeats 8000000 in
theorem left_few (w : World) (junk : ByteArray) (hj : junk.size ≤ maxLen) (n : Nat) (hn : n < 65536) (h2 : junk.size ≤ 200) : Calls Tryz.prog 7 #[.string junk, .int .u16 n] w fun e w' => e = .returned (.bool true) ∧ Below w.heap.size w w' := by
  obtain ⟨i0, hi, hz0, hz1, hz2⟩ := info_parts infoU8d
  obtain ⟨m, hm, hm1⟩ : ∃ m : Nat, (n : Int) % 1000 = (m : Int) ∧ m < 1000 := ⟨n % 1000, by omega, by omega⟩
  obtain ⟨k, hk⟩ : ∃ k, m + 1050 = k := ⟨_, rfl⟩
  have hwk : IntKind.i64.wrap ((m : Int) + 1050) = ((k : Nat) : Int) := (IntWalk.i64_in _ (by omega)).trans (by omega)
  have hw16 : IntKind.i64.wrap (16 + ((k : Nat) : Int)) = 16 + (k : Int) := IntWalk.i64_in _ (by omega)
  obtain ⟨bs, hbs⟩ : ∃ bs : ByteArray, bs = ⟨Array.replicate k (0 : UInt8)⟩ := ⟨_, rfl⟩
  have hbsz : bs.size = k := by rw [hbs]; show (Array.replicate k (0 : UInt8)).size = _; simp
  obtain ⟨D1, D2, D3, D4, D5, D6, D7, EGC1, EGA1, EGC2, EGA2, eM, eW1, eW2, eA, ⟨S, eS, hS1, hS2⟩, f1, f2, f3, f4, f5, f6⟩ := left_pd junk h2 bs k hbsz (by omega)
  have GK := Lib.hid known22_any
  have GNM := Lib.hid (fun (i : Int) W => (show Calls Tryz.prog 27 #[.int .i64 i] W fun e w' => e = .returned (.string (nmW i)) ∧ Below W.heap.size W w' from refName_any i W))
  have GHD := Lib.hid (fun W => (show Gives Tryz.prog 12 #[.int .i64 2] W (.string (hdW 2)) from refHead_any 2 W))
  have GN := Lib.hid (fun w1 => (show Calls Tryz.prog 10 #[.int .i64 1000000] w1 fun e w' => e = .returned (.pointer (some ⟨w1.heap.size + 1, 0, none⟩)) ∧ One w1 (w1.heap.size + 1) ⟨[], 1000000, 0, false, 0⟩ w' from newO 1000000 w1))
  have GC1 := Lib.hid (fun w1 W (h : One w1 (w1.heap.size + 1) ⟨[], 1000000, 0, false, 0⟩ W) => (show Calls Tryz.prog 29 #[.pointer (some ⟨w1.heap.size + 1, 0, none⟩), .string (nmW 1)] W fun e w' => e = .returned (.int .i64 0) ∧ One w1 (w1.heap.size + 1) D1 w' from by
    have := createO h (fit_new 1000000 (by omega)) (by omega) (nmW 1) (nmW_size _)
    rw [EGC1.1, EGC1.2] at this
    exact this))
  have GA1 := Lib.hid (fun w1 W (h : One w1 (w1.heap.size + 1) D1 W) => (show Calls Tryz.prog 30 #[.pointer (some ⟨w1.heap.size + 1, 0, none⟩), .string (nmW 1), .string junk] W fun e w' => e = .returned (.int .i64 0) ∧ One w1 (w1.heap.size + 1) D2 w' from by
    have := appendO h f1 (by omega) (nmW 1) junk (nmW_size _) (by omega)
    rw [EGA1.1, EGA1.2] at this
    exact this))
  have GC2 := Lib.hid (fun w1 W (h : One w1 (w1.heap.size + 1) D2 W) => (show Calls Tryz.prog 29 #[.pointer (some ⟨w1.heap.size + 1, 0, none⟩), .string (nmW 2)] W fun e w' => e = .returned (.int .i64 0) ∧ One w1 (w1.heap.size + 1) D3 w' from by
    have := createO h f2 (by omega) (nmW 2) (nmW_size _)
    rw [EGC2.1, EGC2.2] at this
    exact this))
  have GA2 := Lib.hid (fun w1 W (h : One w1 (w1.heap.size + 1) D3 W) => (show Calls Tryz.prog 30 #[.pointer (some ⟨w1.heap.size + 1, 0, none⟩), .string (nmW 2), .string junk] W fun e w' => e = .returned (.int .i64 0) ∧ One w1 (w1.heap.size + 1) D4 w' from by
    have := appendO h f3 (by omega) (nmW 2) junk (nmW_size _) (by omega)
    rw [EGA2.1, EGA2.2] at this
    exact this))
  have GM := Lib.hid (fun w1 W (h : One w1 (w1.heap.size + 1) D4 W) => (show Calls Tryz.prog 11 #[.pointer (some ⟨w1.heap.size + 1, 0, none⟩), .int .i64 2100] W fun e w' => ∃ p, e = .returned (.tuple #[.pointer (some ⟨p, 0, none⟩), .int .i64 0]) ∧ WrO w1 (w1.heap.size + 1) p ⟨2100, [1], 16⟩ D5 w' from by
    have := wmake_any h f4 (by omega) 2100
    rw [eM] at this
    exact this))
  have GS := Lib.hid (fun w1 p W (h : WrO w1 (w1.heap.size + 1) p ⟨2100, [1], 16⟩ D5 W) => (show Calls Tryz.prog 20 #[.pointer (some ⟨p, 0, none⟩)] W fun e w' => e = .returned (.int .i64 16) ∧ Below W.heap.size W w' from wsize_any h))
  have GW1 := Lib.hid (fun w1 p W (h : WrO w1 (w1.heap.size + 1) p ⟨2100, [1], 16⟩ D5 W) => (show Calls Tryz.prog 13 #[.pointer (some ⟨p, 0, none⟩), .string ⟨Array.replicate k (0 : UInt8)⟩] W fun e w' => e = .returned (.tuple #[.agg #[.int .i64 1, .int .i64 16], .int .i64 0]) ∧ WrO w1 (w1.heap.size + 1) p ⟨2100, [1], 16 + k⟩ D6 w' from by
    have := wwrite_any (h.toX W) bs f5 (by omega) (by simp) (wf22 _ (by decide)) (by decide) (by dsimp only; omega)
    rw [eW1] at this
    rw [← hbs]
    exact this.mono fun e w' h => ⟨h.1, h.2.toO⟩))
  have GW2 := Lib.hid (fun w1 p q W0 W (h : WrX w1 (w1.heap.size + 1) p (fun k => False ∨ k = q) W0 ⟨2100, [1], 16 + k⟩ D6 W) => (show Calls Tryz.prog 13 #[.pointer (some ⟨p, 0, none⟩), .string ⟨Array.replicate k (0 : UInt8)⟩] W fun e w' => e = .returned (.tuple #[.agg #[.int .i64 2, .int .i64 16], .int .i64 0]) ∧ WrX w1 (w1.heap.size + 1) p (fun k => False ∨ k = q) W0 ⟨2100, [1, 2], 16 + k⟩ D7 w' from by
    have := wwrite_any h bs f6 (by omega) (by simp) (show ∀ z ∈ ([1] : List Int) ++ [1 + 1], _ from wf22 _ (by decide)) (show (1 : Int) ≤ 99999999 ∧ (0 : Int) ≤ 1 by decide) (by dsimp only; omega)
    rw [eW2] at this
    rw [← hbs]
    exact this))
  have GR := Lib.hid (fun w1 W (h : One w1 (w1.heap.size + 1) D7 W) => (show Calls Tryz.prog 25 #[.pointer (some ⟨w1.heap.size + 1, 0, none⟩), .string (nmW 2)] W fun e w' => e = .returned (.tuple #[.string S, .int .i64 0]) ∧ w' = W from by
    have := dreadO h (nmW 2) (nmW_size _)
    rw [eS, eA] at this
    exact this))
  have hji : ((junk.size : Nat) : Int) ≤ 200 := by omega
  have hkb : k ≤ 2049 := by omega
  clear EGC1 EGA1 EGC2 EGA2 eM eW1 eW2 eA eS f1 f2 f3 f4 f5 f6 hbs hbsz hk hm1 h2 hj
  have hSi : ((S.size : Nat) : Int) = 16 + (k : Int) := by omega
  unfold Gives at GK
  go_enter Tryz.func7, Tryz.ntmps7
  go_wp2_with (first
    | (go_at_call 8; ((with_reducible refine (GK.out _).mono ?_); rintro e w1 ⟨rfl, hB1⟩))
    | (go_at_call 10; ((with_reducible refine (GN.out _).mono ?_); rintro e w2 ⟨rfl, h⟩; have H0 := Lib.hid h; clear h))
    | (go_at_call 27; ((with_reducible refine (GNM.out 1 _).mono ?_); rintro e wha ⟨rfl, hB⟩; have HA := Lib.hid (H0.out.below hB); clear hB H0))
    | (go_at_call 29; ((with_reducible refine (GC1.out _ _ HA.out).mono ?_); rintro e whb ⟨rfl, h⟩; have HB := Lib.hid h; clear h HA))
    | (go_at_call 27; ((with_reducible refine (GNM.out 1 _).mono ?_); rintro e whc ⟨rfl, hB⟩; have HC := Lib.hid (HB.out.below hB); clear hB HB))
    | (go_at_call 30; ((with_reducible refine (GA1.out _ _ HC.out).mono ?_); rintro e whd ⟨rfl, h⟩; have HD := Lib.hid h; clear h HC))
    | (go_at_call 27; ((with_reducible refine (GNM.out 2 _).mono ?_); rintro e whe ⟨rfl, hB⟩; have HE := Lib.hid (HD.out.below hB); clear hB HD))
    | (go_at_call 29; ((with_reducible refine (GC2.out _ _ HE.out).mono ?_); rintro e whf ⟨rfl, h⟩; have HF := Lib.hid h; clear h HE))
    | (go_at_call 27; ((with_reducible refine (GNM.out 2 _).mono ?_); rintro e whg ⟨rfl, hB⟩; have HG := Lib.hid (HF.out.below hB); clear hB HF))
    | (go_at_call 30; ((with_reducible refine (GA2.out _ _ HG.out).mono ?_); rintro e whh ⟨rfl, h⟩; have HH := Lib.hid h; clear h HG))
    | (go_at_call 11; ((with_reducible refine (GM.out _ _ HH.out).mono ?_); rintro e w8 ⟨p, rfl, h⟩; have HI := Lib.hid h; clear h HH))
    | (go_at_call 20; ((with_reducible refine (GS.out _ _ _ HI.out).mono ?_); rintro e w9 ⟨rfl, hB9⟩; obtain ⟨w12, hmk, hB12, hby⟩ := bytes_made (P := Tryz.prog) (t := 55) (e := 5) i0 Tryz.underlying55 hi hz0 hz1 hz2 k (by omega) w9; have hst := string_of (P := Tryz.prog) (src := 55) (dst := 9) Tryz.underlying55 Tryz.underlying5 Tryz.underlying9 hby k k (by simp); have HJ := Lib.hid ((HI.out.below hB9).below hB12); clear hB9 hB12 hby HI))
    | (go_at_call 13; ((with_reducible refine (GW1.out _ _ _ HJ.out).mono ?_); rintro e w13 ⟨rfl, h⟩; clear hmk hst; have hBa := bel_alloc (Below.refl w13.heap.size w13) (.cells #[.int .i64 1, .int .i64 16] 40); have hq := World.alloc_heap_new w13 (.cells #[.int .i64 1, .int .i64 16] 40); have hM := (h.toX w13).more (q := w13.heap.size) hBa ⟨Nat.le_refl _, by simp⟩; obtain ⟨w12, hmk, hB12, hby⟩ := bytes_made (P := Tryz.prog) (t := 55) (e := 5) i0 Tryz.underlying55 hi hz0 hz1 hz2 k (by omega) (w13.alloc (.cells #[.int .i64 1, .int .i64 16] 40)); have hst := string_of (P := Tryz.prog) (src := 55) (dst := 9) Tryz.underlying55 Tryz.underlying5 Tryz.underlying9 hby k k (by simp); rw [World.size_alloc] at hst; have HL := Lib.hid (hM.below hB12); have HQ := Lib.hid hq; clear hBa hq hM hB12 hby h HJ))
    | (go_at_call 13; ((with_reducible refine (GW2.out _ _ _ _ _ HL.out).mono ?_); rintro e w14 ⟨rfl, h⟩; clear hmk hst; have hBa := bel_alloc (Below.refl w14.heap.size w14) (.cells #[.int .i64 2, .int .i64 16] 40); have HP := Lib.hid (World.alloc_heap_new w14 (.cells #[.int .i64 2, .int .i64 16] 40)); have HM := Lib.hid (h.below hBa); clear hBa h HL))
    | (go_at_call 27; ((with_reducible refine (GNM.out 2 _).mono ?_); rintro e w15 ⟨rfl, hB⟩; have HN := Lib.hid (HM.out.below hB); have hp := (hB.block _ (heap_lt8 HP.out)).trans HP.out; have hq := (HN.out.same (.inr rfl)).trans HQ.out; have q0 := cell_of_row _ _ 0 _ _ _ hq; have q1 := cell_of_row _ _ 1 _ _ _ hq; have p0 := cell_of_row _ _ 0 _ _ _ hp; have p1 := cell_of_row _ _ 1 _ _ _ hp; clear hB HM hp hq))
    | (go_at_call 25; ((with_reducible refine (GR.out _ _ HN.out.toO.one).mono ?_); rintro e w16 ⟨rfl, rfl⟩)))
  have HBw := Lib.hid (bel2 hB1 HN.out.toO.one.bel)
  have HS := Lib.hid (fun W (hW : Above w16 W) => (show W.cell? ⟨w13.heap.size, 0, none⟩ = some (.int .i64 1) ∧ W.cell? ⟨w13.heap.size, 1, none⟩ = some (.int .i64 16) ∧ W.cell? ⟨w14.heap.size, 0, none⟩ = some (.int .i64 2) ∧ W.cell? ⟨w14.heap.size, 1, none⟩ = some (.int .i64 16) from ⟨(hW.cell (p := ⟨w13.heap.size, 0, none⟩) (cell_lt q0)).trans q0, (hW.cell (p := ⟨w13.heap.size, 1, none⟩) (cell_lt q1)).trans q1, (hW.cell (p := ⟨w14.heap.size, 0, none⟩) (cell_lt p0)).trans p0, (hW.cell (p := ⟨w14.heap.size, 1, none⟩) (cell_lt p1)).trans p1⟩))
  have hSn : ¬ S.size < 16 := by omega
  have hSm : (16 : Nat) ≤ S.size := by omega
  have hSk : (16 : Int) ≤ 16 + (k : Int) := by omega
  clear q0 q1 p0 p1
  refine wp_region_below (by kernel_rfl) (by kernel_rfl) ?_
  repeat (first
    | (refine BigFrame.wpQuiet_skip (by rfl) ?_; (try simp only [Act.put, List.setIfInBounds_toArray, List.set_cons_zero, List.set_cons_succ]))
    | (refine BigFrame.wpQuiet_want (by rfl) (fun K hK => ?_); apply Exists.intro; refine ⟨fun W hW => ?_, hK _ ?_⟩; (focus (have hWB : Below _ _ W := hW; obtain ⟨q0, q1, p0, p1⟩ := HS.out _ hW; go_simp; (first | done | with_reducible rfl | (go_at_call 12; with_reducible exact gives_above hW (GHD.out _)) | (rw [if_neg (by omega)]; go_simp; (first | done | with_reducible rfl))))); clear hK K; (try simp only [Act.put, List.setIfInBounds_toArray, List.set_cons_zero, List.set_cons_succ])))
  refine wpQuiet_nil ?_
  intro w17 hB17
  replace hB17 : Below _ _ w17 := hB17
  go_wp2
  go_ret
  exact ⟨by simp, bel2 HBw.out hB17⟩

end Go.Proofs.YtoieacmipejfeaaGreatDoor
