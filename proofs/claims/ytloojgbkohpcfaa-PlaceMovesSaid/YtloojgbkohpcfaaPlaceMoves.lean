/- Law PlaceMoves: for every input the call answers true; its arguments read as they did. No condition. -/
import Derived.Test.YtloojgbkohpcfaaLaw
import Derived.Test.YtloojgbkohpcfaaKnown13
import Derived.Test.YtloojgbkohpcfaaPlcMw
namespace Go.Proofs.Ytloojgbkohpcfaa.placeMoves
open Go.ChangeShapes Go.WideShapes Go.ChangeAt Go.RowKit Go.Shelf
open Go.ChangeMaps (open_string shut_string)
set_option linter.unusedVariables false
attribute [local go_sem] Oper.semAt_some wide_fn wide_round_fn

theorem eqPl (a b c d : Int) (w : World) : (Op.equalIn 10000 41 (.agg #[.int .i64 a, .int .i64 b]) (.agg #[.int .i64 c, .int .i64 d])).run Try.prog w = .ok (a == c && b == d) w := by
  have hS : Try.prog.underlying 41 = some (.struct (Try.prog.fieldsOf 41)) := by kernel_rfl
  rw [show (10000 : Nat) = 9999 + 1 from rfl, run_equalIn_agg w 9999 41 _ _ hS (by kernel_rfl)]
  simp only [Program.fieldsOf, Try.underlying41]
  go_simp
  by_cases h1 : a = c <;> by_cases h2 : b = d <;> simp [h1, h2]
theorem eqlPl (a b c d : Int) (w : World) : (binOp .eql 41 (.agg #[.int .i64 a, .int .i64 b]) (.agg #[.int .i64 c, .int .i64 d])).run Try.prog w = .ok (.bool (a == c && b == d)) w := by
  rw [run_eql_struct, eqPl]; rfl
theorem fieldGM1 (id fi te ht hv hc : Int) (s : Value) (W : World) : (Instr.field 31 (.agg #[.int .i64 id, .int .i64 fi, .int .i64 te, .int .i64 ht, .int .i64 hv, .int .i64 hc, s]) 1).run Try.prog W = .ok (.int .i64 fi) W := by kernel_rfl
theorem fieldGM4 (id fi te ht hv hc : Int) (s : Value) (W : World) : (Instr.field 31 (.agg #[.int .i64 id, .int .i64 fi, .int .i64 te, .int .i64 ht, .int .i64 hv, .int .i64 hc, s]) 4).run Try.prog W = .ok s W := by kernel_rfl
def bitW (n : Nat) (i : Nat) : Bool := bits BinOp.and IntKind.u16 ((n : Int) / 2 ^ i) 1 == 1

set_option maxRecDepth 100000 in
set_option maxHeartbeats 4000000 in
theorem mv_false_false (id : Nat) (hid : id < 256) (n : Nat) (hn : n < 256) (wh : Nat) (hwh : wh < 65536) (w : World) : Calls Try.prog 5 #[.int .u8 id, .int .u8 n, .bool false, .bool false, .int .u16 wh] w fun e w' => e = .returned (.bool true) ∧ Below w.heap.size w w' := by
  obtain ⟨j0, hj, hy0, hy1, hy2⟩ := info_parts infoEntry
  have GK := Lib.hid known13_any
  have hid9 : 0 ≤ (id : Int) ∧ (id : Int) ≤ 999 := ⟨by omega, by omega⟩
  obtain ⟨k, hk, hk1, hk6⟩ : ∃ k : Nat, (k : Int) = (n : Int) % 6 + 1 ∧ 1 ≤ k ∧ k ≤ 6 := ⟨n % 6 + 1, by omega, by omega, by omega⟩
  have GN := Lib.hid (fun W (hB : Below w.heap.size w W) => pnewK_any hB (id : Int))
  go_enter Try.func5, Try.ntmps5
  go_wp2_with (first
    | (go_at_call 8; ((with_reducible refine (GK.out _).mono ?_); rintro e w1 ⟨rfl, hB1⟩))
    | (go_at_call 9; ((with_reducible refine (GN.out _ hB1).mono ?_); rintro e w2 ⟨d, q, rfl, hK, hB2, hq1, hq2⟩)))
  rw [← hk]
  have hb0 : boxE w2 w2.heap.size [.int .i64 (id : Int), .int .i64 1] [.int .i64 0, .int .i64 0, .int .i64 0, .int .i64 0, .int .i64 0, .bool false, .bool false] (.slice none 0 0) [] (w2.alloc (.cells #[.int .i64 (id : Int), .int .i64 1, (.slice none 0 0), .int .i64 0, .int .i64 0, .int .i64 0, .int .i64 0, .int .i64 0, .bool false, .bool false] 39)) := boxE_new w2 [.int .i64 (id : Int), .int .i64 1] [.int .i64 0, .int .i64 0, .int .i64 0, .int .i64 0, .int .i64 0, .bool false, .bool false]
  obtain ⟨X, hX⟩ : ∃ X, X = w2.heap.size := ⟨_, rfl⟩
  have HLT := Lib.hid (show d < w2.heap.size ∧ q < d from ⟨hK.1.lt.1, hq2⟩)
  have HX := Lib.hid hX
  rw [← hX] at hb0 ⊢
  generalize w2.alloc (.cells #[.int .i64 (id : Int), .int .i64 1, (.slice none 0 0), .int .i64 0, .int .i64 0, .int .i64 0, .int .i64 0, .int .i64 0, .bool false, .bool false] 39) = wa at *
  have HB0 := Lib.hid (show boxE w2 X [.int .i64 (id : Int), .int .i64 1] [.int .i64 0, .int .i64 0, .int .i64 0, .int .i64 0, .int .i64 0, .bool false, .bool false] (.slice none 0 0) [] wa from hb0)
  have HK := Lib.hid hK
  have HKK := Lib.hid hk
  have HBW := Lib.hid hK.2.1
  clear hb0 hK hB2 hq1 hq2 hB1 hX hk GN
  go_loopw [14] (fun s14 wr => ∃ (i : Nat) (v : Value), i ≤ k ∧ s14 = .int .i64 i ∧ boxE w2 X [.int .i64 (id : Int), .int .i64 1] [.int .i64 0, .int .i64 0, .int .i64 0, .int .i64 0, .int .i64 0, .bool false, .bool false] v (mvE i) wr) (fun s14 _ => k - (intOf s14).toNat)
  case atStart => exact ⟨0, _, by omega, rfl, HB0.out⟩
  case round =>
    obtain ⟨i, v, hi, rfl, hbx⟩ := hrel
    clear HB0 wa
    by_cases hlt : i < k
    · have HIN := Lib.hid hbx
      obtain ⟨hBi, hP, hrow, hs⟩ := hbx
      rw [mvE_len] at hrow
      have c2 : wr.cell? ⟨X, 2, none⟩ = some v := cell_of_row _ _ 2 _ _ _ hP
      have hik : (i : Int) < (k : Int) := by omega
      clear hBi hP
      go_wp2_with (at_builtin; refine wpList_append_own _ rfl _ _ 29 rfl (X + 1) 57 j0 (.agg #[.int .i64 0, .int .i64 0, .string ⟨#[]⟩]) 3 32 Try.underlying29 hj hy0 hy1 hy2 rfl (by decide) _ _ _ rfl (hrow.alloc _) ⟨wr.heap.size, 0, none⟩ 1 1 [.int .i64 (4 + (i : Int)), .int .i64 2, .string ⟨#[]⟩] rfl rfl (news_new _ _ _) (by simp [Value.oneCell']) (by unfold maxLen; omega) (by omega) (by simp; omega) ?_; intro v' w9 hown9 hgrow _; obtain ⟨g9, cap9, rfl⟩ := ownsRow_succ hown9; obtain ⟨hX9, hin9⟩ := boxE_append (e := mvEnt i) HIN.out (bel_alloc (Below.refl wr.heap.size wr) (.cells #[.int .i64 (4 + (i : Int)), .int .i64 2, .string ⟨#[]⟩] 57)) (by rw [mvE_len]; exact hown9) hgrow; have cx9 : w9.cell? ⟨X, 2, none⟩ = some v := cell_of_row _ _ 2 _ _ _ hX9; have fx9 : w9.frozen? ⟨X, 2, none⟩ = false := frozen_of_row _ _ 2 _ _ hX9)
      go_roundw
      case rel => exact ⟨i + 1, _, by omega, by go_num, by rw [mvE_succ]; exact hin9⟩
      case measure => simp [intOf]; omega
    · obtain rfl : k = i := by omega
      obtain ⟨va, vc, rfl, hS⟩ := mvS_of HK.out HLT.out.2 HLT.out.1 (by rw [← HX.out]; exact hbx)
      rw [← HX.out] at hS
      have HS := Lib.hid hS
      clear hS hbx HK HLT HX hlt hi
      have GD1 := Lib.hid (fun W h => mvD1 (w := w) (W := W) (id := (id : Int)) (d := d) (q := q) (X := X) (k := k) (va := va) (vc := vc) hid9 hk6 h)
      have GD2 := Lib.hid (fun W h => mvD2 (w := w) (W := W) (id := (id : Int)) (d := d) (q := q) (X := X) (k := k) (va := va) (vc := vc) hid9 hk6 h)
      have GD3 := Lib.hid (fun W h => mvD3 (w := w) (W := W) (id := (id : Int)) (d := d) (q := q) (X := X) (k := k) (va := va) (vc := vc) hid9 hk1 hk6 h)
      dsimp only [mvP] at GD3
      go_wp2_with (first
        | (go_at_call 13; ((with_reducible refine (GD1.out _ HS.out).mono ?_); rintro e w3 ⟨⟨v3, rfl⟩, hS3⟩; have HS3 := Lib.hid hS3; clear hS3 HS))
        | (go_at_call 13; ((with_reducible refine (GD2.out _ HS3.out).mono ?_); rintro e w4 ⟨⟨v4, rfl⟩, hS4⟩; have HS4 := Lib.hid hS4; obtain ⟨p0, p1, p2, p3, p4, p5, p6, p7, p8, p9⟩ := arr10p hS4.2.1; clear hS4 HS3))
        | (go_at_call 13; ((with_reducible refine (GD3.out _ HS4.out).mono ?_); rintro e w5 ⟨⟨v5, rfl⟩, hS5⟩; have HS5 := Lib.hid hS5; clear hS5 HS4 p0 p1 p2 p3 p4 p5 p6 p7 p8 p9)))
      clear GD1 GD2 GD3
      have hb0 : boxE w5 w5.heap.size [.int .i64 (id : Int), .int .i64 6] [.int .i64 0, .int .i64 0, .int .i64 0, .int .i64 0, .int .i64 0, .bool false, .bool false] (.slice none 0 0) [] (w5.alloc (.cells #[.int .i64 (id : Int), .int .i64 6, (.slice none 0 0), .int .i64 0, .int .i64 0, .int .i64 0, .int .i64 0, .int .i64 0, .bool false, .bool false] 39)) := boxE_new w5 [.int .i64 (id : Int), .int .i64 6] [.int .i64 0, .int .i64 0, .int .i64 0, .int .i64 0, .int .i64 0, .bool false, .bool false]
      obtain ⟨Y, hY⟩ : ∃ Y, Y = w5.heap.size := ⟨_, rfl⟩
      have HY := Lib.hid hY
      rw [← hY] at hb0 ⊢
      generalize w5.alloc (.cells #[.int .i64 (id : Int), .int .i64 6, (.slice none 0 0), .int .i64 0, .int .i64 0, .int .i64 0, .int .i64 0, .int .i64 0, .bool false, .bool false] 39) = wa at *
      have HB2 := Lib.hid hb0
      clear hb0 hY
      go_loopw [16] (fun s16 wr => ∃ (i : Nat) (v : Value), i ≤ k ∧ s16 = .int .i64 i ∧ boxE w5 Y [.int .i64 (id : Int), .int .i64 6] [.int .i64 0, .int .i64 0, .int .i64 0, .int .i64 0, .int .i64 0, .bool false, .bool false] v (mvM (bitW wh) i) wr) (fun s16 _ => k - (intOf s16).toNat)
      case atStart => exact ⟨0, _, by omega, rfl, HB2.out⟩
      case round =>
        obtain ⟨i, v, hi, rfl, hbx⟩ := hrel
        clear HB2 wa
        by_cases hlt : i < k
        · have hik : (i : Int) < (k : Int) := by omega
          have HIN := Lib.hid hbx
          obtain ⟨hBi, hP, hrow, hs⟩ := hbx
          have HSr := Lib.hid (HS5.out.below (by rw [← HY.out]; exact hBi))
          have x2 : wr.cell? ⟨Y, 2, none⟩ = some v := cell_of_row _ _ 2 _ _ _ hP
          have xf2 : wr.frozen? ⟨Y, 2, none⟩ = false := frozen_of_row _ _ 2 _ _ hP
          have p2 : wr.cell? ⟨X, 2, none⟩ = some (.slice va k vc) := cell_of_row _ _ 2 _ _ _ HSr.out.2.1
          have hLl := mvM_len (bitW wh) i
          have HSU := Lib.hid (mvM_succ (bitW wh) i)
          have HBIT := Lib.hid (show bitW wh i = (bits BinOp.and IntKind.u16 ((wh : Int) / 2 ^ i) 1 == 1) from rfl)
          have hYl : Y < wr.heap.size := heap_lt hP
          generalize mvM (bitW wh) i = L at *
          cases hbt : bitW wh i
          · rw [hbt] at HBIT HSU
            have hb1 : (bits BinOp.and IntKind.u16 ((wh : Int) / 2 ^ i) 1 == 1) = false := HBIT.out.symm
            clear hbt hBi hP hrow hs HSr x2 xf2 p2
            go_wp2
            exact ⟨⟨i + 1, v, by omega, by go_num, by have e := HSU.out; simp only [Bool.false_eq_true, if_false] at e; rw [e]; exact HIN.out⟩, by simp [intOf]; omega⟩
          · rw [hbt] at HBIT HSU
            have hb1 : (bits BinOp.and IntKind.u16 ((wh : Int) / 2 ^ i) 1 == 1) = true := HBIT.out.symm
            obtain ⟨gb, go, rfl, hgb2, hgc⟩ := HSr.out.2.2.1.2.2 (by omega)
            obtain ⟨e0, e1, e2⟩ := entry_at hgb2 (Below.refl _ _) hgc (show i < (mvE k).length by rw [mvE_len]; exact hlt)
            rw [mvE_at] at e0 e1 e2
            dsimp only at e0 e1 e2
            have hgX : X < gb := HSr.out.2.2.2.2.2.1 gb ⟨gb, go, rfl, by omega, rfl⟩
            have hgY : gb < Y := by
              obtain ⟨b9, o9, e9, h9, _⟩ := HS5.out.2.2.1.2.2 (by omega)
              cases e9; have := HY.out; omega
            have hi0 : (0 : Int) ≤ (i : Int) := by omega
            clear hbt hgc hP hBi
            go_wp2
            have xd2 : wr.drew.cell? ⟨Y, 2, none⟩ = _ := x2
            have pd2 : wr.drew.cell? ⟨X, 2, none⟩ = _ := p2
            have ed0 : wr.drew.cell? ⟨gb, go + i * 3, none⟩ = _ := e0
            have ed1 : wr.drew.cell? ⟨gb, go + i * 3 + 1, none⟩ = _ := e1
            have ed2 : wr.drew.cell? ⟨gb, go + i * 3 + 2, none⟩ = _ := e2
            have he2 := ((bel_alloc (Below.refl wr.drew.heap.size wr.drew) (.cells [.int .i64 (4 + (i : Int)), .int .i64 2, .string ⟨#[]⟩].toArray 57)).cell (p := ⟨Y, 2, none⟩) hYl).trans xd2
            have hf2 := he2
            go_region_law (first | ((refine step_append_lies _ (by rfl) _ _ _ (by rfl) (Y + 1) 57 j0 (.agg #[.int .i64 0, .int .i64 0, .string ⟨#[]⟩]) 3 32 Try.underlying29 hj hy0 hy1 hy2 rfl (by omega) v L.length (entryCells L) (by rfl) (by first | exact (hrow.alloc _) | exact (hrow.alloc _).drew | exact (hrow.drew.alloc _)) ⟨wr.heap.size, 0, none⟩ 1 1 [.int .i64 (4 + (i : Int)), .int .i64 2, .string ⟨#[]⟩] (by rfl) (by rfl) (by first | exact news_new _ _ _ | exact World.news_of_block (cs := [.int .i64 (4 + (i : Int)), .int .i64 2, .string ⟨#[]⟩].toArray) (World.alloc_heap_new _ _)) (by simp [Value.oneCell']) (by omega) (by unfold maxLen; omega) (by omega) (by simp; omega) _ rfl ?_); intro g1 c1 w4 hown4 hgrow4 hat4 hlt4; obtain ⟨hX9, hin9⟩ := boxE_append (e := mvEnt i) HIN.out (by first | exact bel_alloc (Below.refl wr.heap.size wr) _ | exact (bel_alloc (Below.refl wr.heap.size wr) _).drew | exact bel_alloc (Below.refl wr.heap.size wr).drew _) hown4 hgrow4; have cx9 : w4.cell? ⟨Y, 2, none⟩ = some v := cell_of_row _ _ 2 _ _ _ hX9; have fx9 : w4.frozen? ⟨Y, 2, none⟩ = false := frozen_of_row _ _ 2 _ _ hX9))
            all_goals
              clear e0 e1 e2 xd2 pd2 ed0 ed1 ed2 he2 hf2 x2 xf2 p2 hb1 hat4 hlt4
              go_wp2
              exact ⟨⟨i + 1, _, by omega, by go_num, by have e := HSU.out; rw [if_pos trivial] at e; rw [e]; exact hin9⟩, by simp [intOf]; omega⟩
        · obtain rfl : k = i := by omega
          have HSr := Lib.hid (HS5.out.below (by rw [← HY.out]; exact hbx.1))
          have HSr1 := Lib.hid (show LgK w d q ⟨mvG (id : Int) k, mvF k⟩ wr from HSr.out.1)
          obtain ⟨fa, fc, rfl, hfc, hfr⟩ := rowV_own hbx.2.2.1
          obtain ⟨ml, hml⟩ : ∃ ml, ml = (mvM (bitW wh) k).length := ⟨_, rfl⟩
          rw [← hml] at hfc hfr hbx
          have HFR := Lib.hid hfr
          have HFC := Lib.hid hfc
          have HPY := Lib.hid (show wr.heap[Y]? = some (.cells #[.int .i64 (id : Int), .int .i64 6, (.slice fa ml fc), .int .i64 0, .int .i64 0, .int .i64 0, .int .i64 0, .int .i64 0, .bool false, .bool false] 39 (0, 0)) from hbx.2.1)
          have HBx := Lib.hid (show Below w.heap.size w wr from HSr.out.1.2.1)
          have hdY : d < Y ∧ q < Y := by have h1 := HS5.out.2.1; have h2 := heap_lt h1; have h3 := HS5.out.2.2.2; rw [← HY.out] at h2; omega
          have HDY := Lib.hid hdY
          clear hbx hfc hfr hdY hlt hi
          have GG := Lib.hid (fun W F (h : LgK w d q ⟨mvG (id : Int) k, F⟩ W) => (show Calls Try.prog 17 #[.pointer (some ⟨d, 0, none⟩)] W (fun e w' => ∃ va vc, e = .returned (.agg #[.int .i64 (id : Int), .int .i64 4, .int .i64 1, .int .i64 5, .int .i64 0, .int .i64 0, .slice va k vc]) ∧ Below W.heap.size W w') from (pgroupS_any h.1).mono (fun e w' ⟨va, vc, h1, _, _, h2⟩ => ⟨va, vc, by rw [h1]; show Ending.returned (.agg #[_, _, _, _, _, _, .slice va (mvE k).length vc]) = _; rw [mvE_len], h2⟩)))
          have MI := Lib.hid (mvG_isSp hid9 hk6)
          have GS := Lib.hid (fun W F (h : LgK w d q ⟨mvG (id : Int) k, F⟩ W) (hI : isSp (mvG (id : Int) k) = true) => (show Calls Try.prog 19 #[.pointer (some ⟨d, 0, none⟩)] W (fun e w' => ∃ va vc, e = .returned (.slice va (spotsL (mvG (id : Int) k) F).length vc) ∧ RowV w' va (spotsL (mvG (id : Int) k) F).length 4 (spotCells (spotsL (mvG (id : Int) k) F)) ∧ Below W.heap.size W w') from (pspotsS_any h.1 hI).mono (fun e w' ⟨va, vc, h1, h2, _, h3⟩ => ⟨va, vc, h1, h2, h3⟩)))
          have GD4 := Lib.hid (fun W (h : mvS w (id : Int) d q X k va vc ⟨mvG (id : Int) k, mvF k⟩ W) (hr : RowV W fa ml 3 (entryCells (mvM (bitW wh) k))) (hfc : ml ≤ fc) => (show Calls Try.prog 13 #[.pointer (some ⟨d, 0, none⟩), .agg #[.int .i64 (id : Int), .int .i64 6, (.slice fa ml fc), .int .i64 0, .int .i64 0, .int .i64 0, .int .i64 0, .int .i64 0, .bool false, .bool false], .agg #[.int .i64 9, .int .i64 99]] W (fun e w' => (∃ v, e = .returned v) ∧ (∃ F, LgK w d q ⟨mvG (id : Int) k, F⟩ w' ∧ F.length ≤ 30 ∧ MvS (spotsL (mvG (id : Int) k) F) (id : Int) (bitW wh) false false k) ∧ FrameT (fun k => k = d ∨ k = q) W w') from by subst hml; exact mvD4 hid9 hk6 (bitW wh) false false fa fc h hr hfc))
          have HNO := Lib.hid (fun j (hj : j < k) (h0 : (mvM (bitW wh) k).length = 0) => (show bitW wh j = false from by
            cases hb : bitW wh j
            · rfl
            · have h9 : mvEnt j ∈ mvM (bitW wh) k := mvM_mem.2 ⟨j, hj, hb, rfl⟩
              rw [List.length_eq_zero_iff.1 h0] at h9
              cases h9))
          rw [← hml] at HNO
          clear hml
          go_wp2_with (first
            | (go_at_call 17; ((with_reducible refine (GG.out _ _ HSr1.out).mono ?_); rintro e w6 ⟨ga, gc, rfl, hB6⟩; have hA6 := bel2 hB6 (bel_alloc (Below.refl w6.heap.size w6) (.cells #[.int .i64 (id : Int), .int .i64 4, .int .i64 1, .int .i64 5, .int .i64 0, .int .i64 0, .slice ga k gc] 31)); have hg6 := World.alloc_heap_new w6 (.cells #[.int .i64 (id : Int), .int .i64 4, .int .i64 1, .int .i64 5, .int .i64 0, .int .i64 0, .slice ga k gc] 31); have hp6 := (hA6.block _ (heap_lt HPY.out)).trans HPY.out; have HS6 := Lib.hid (HSr.out.below hA6); have HR6 := Lib.hid (HFR.out.below hA6); have HG6 := Lib.hid hg6; have HP6 := Lib.hid hp6; have HBX6 := Lib.hid (bel2 HBx.out hA6); have HY6 := Lib.hid (show Y < w6.heap.size from Nat.lt_of_lt_of_le (heap_lt HPY.out) hB6.size); obtain ⟨p0, p1, p2, p3, p4, p5, p6, p7, p8, p9⟩ := arr10p hp6; clear hA6 hB6 hg6 hp6 HSr HSr1))
            | (go_at_call 13; ((with_reducible refine (GD4.out _ HS6.out HR6.out HFC.out).mono ?_); rintro e w7 ⟨⟨v7, rfl⟩, ⟨F, hK7, hF30, hMX⟩, hFr⟩; have HK7 := Lib.hid hK7; have HMX := Lib.hid hMX; have HF30 := Lib.hid hF30; have hg7 := hFr.get HG6.out (by have := HDY.out; have := HY6.out; omega); have HP7 := Lib.hid (hFr.get HP6.out (by have := HDY.out; omega)); have HG7 := Lib.hid hg7; have g1 : w7.cell? ⟨w6.heap.size, 1, none⟩ = some (.int .i64 4) := cell_of_row _ _ 1 _ _ _ hg7; clear HS6 HR6 HG6 HP6 hK7 hMX hF30 hFr hg7 p0 p1 p2 p3 p4 p5 p6 p7 p8 p9)))
          have KC := Lib.hid (fun W (hB : Below w7.heap.size w7 W) => (show W.cell? ⟨w6.heap.size, 1, none⟩ = some (.int .i64 4) from cell_of_row _ _ 1 _ _ _ ((hB.block _ (heap_lt HG7.out)).trans HG7.out)))
          go_region_held3 (fun W' => W'.cell? ⟨w6.heap.size, 1, none⟩ = some (.int .i64 4)) (go_keep) (first
            | (go_at_call 17; ((with_reducible refine (GG.out _ F ?hk).mono ?_); (case hk => first | exact HK7.out.below hX8 | exact HK7.out.below hX8.drew); rintro e w9 ⟨va9, vc9, rfl, hB9⟩; have hX9 : Below w7.heap.size w7 w9 := (by first | exact bel2 hX8 hB9 | exact bel2 hX8.drew hB9); have g9 := KC.out w9 hX9; have hfd4 := fun W => fieldGM4 (id : Int) 4 1 5 0 0 (.slice va9 k vc9) W))
            | (go_at_call 17; ((with_reducible refine (GG.out _ F ?hk).mono ?_); (case hk => first | exact HK7.out | exact HK7.out.below (Below.refl _ _).drew); rintro e w8 ⟨va8, vc8, rfl, hB8⟩; have hX8 : Below w7.heap.size w7 w8 := (by first | exact hB8 | exact bel2 (Below.refl _ _).drew hB8); have g8 := KC.out w8 hX8; have hfd := fun W => fieldGM1 (id : Int) 4 1 5 0 0 (.slice va8 k vc8) W)))
          have HX9 := Lib.hid hX9
          clear hX9 hX8 g8 g9 g1 hfd hfd4
          go_wp2_with (go_at_call 19; ((with_reducible refine (GS.out _ F (HK7.out.below HX9.out) MI.out).mono ?_); rintro e w10 ⟨sa, sc, rfl, hX, hB10⟩; have hB7 := bel2 HX9.out hB10; have HB10 := Lib.hid (show Below w.heap.size w w10 from (HK7.out.below hB7).2.1); have y2 : w10.cell? ⟨Y, 2, none⟩ = some (.slice fa ml fc) := cell_of_row _ _ 2 _ _ _ ((hB7.block _ (heap_lt HP7.out)).trans HP7.out); clear hB7 hB10 HX9; generalize spotsL (mvG (id : Int) k) F = SX at *; have HX := Lib.hid hX; clear hX; have hl := HMX.out.len; rw [hl]; clear hl))
          obtain ⟨sb, so, rfl, hsb, hsc⟩ := spotRow_at HX.out (by have := HMX.out.len; omega)
          have HXC := Lib.hid (fun W (hB : Below w10.heap.size w10 W) n (hn : n < SX.length) => (show W.cell? ⟨sb, so + n * 4 + 1, none⟩ = some (.int .i64 SX[n].i) ∧ W.cell? ⟨sb, so + n * 4 + 2, none⟩ = some (.int .i64 SX[n].s) ∧ W.cell? ⟨sb, so + n * 4 + 3, none⟩ = some (.int .i64 SX[n].p) from ⟨(hB.cell (p := ⟨sb, so + n * 4 + 1, none⟩) hsb).trans (hsc n hn).2.1, (hB.cell (p := ⟨sb, so + n * 4 + 2, none⟩) hsb).trans (hsc n hn).2.2.1, (hB.cell (p := ⟨sb, so + n * 4 + 3, none⟩) hsb).trans (hsc n hn).2.2.2⟩))
          clear hsb hsc y2 HX GG GS GD4
          generalize hbz : ((ml : Int) == 0) = bz at *
          cases bz
          · clear hbz HNO
            go_loopw [20] (fun s20 wr => ∃ n3 : Nat, n3 ≤ k + 2 ∧ s20 = .int .i64 n3 ∧ Below w10.heap.size w10 wr) (fun s20 _ => k + 2 - (intOf s20).toNat)
            case atStart => exact ⟨0, by omega, rfl, Below.refl _ _⟩
            case round =>
              obtain ⟨n3, hn3, rfl, hB⟩ := hrel
              by_cases hlt : n3 < k + 2
              · obtain ⟨c1, c2, c3⟩ := HXC.out wr hB n3 (by have := HMX.out.len; omega)
                have hX3 : n3 < SX.length := by have := HMX.out.len; omega
                have hn : (n3 : Int) < (k : Int) + 2 := by omega
                have hn9 : (0 : Int) ≤ (n3 : Int) := by omega
                by_cases h0 : n3 = 0
                · have e1 : SX[n3].i = -1 := by
                    have := HMX.out.ix n3 (by have := HMX.out.len; omega)
                    rw [this, if_pos h0]
                  have e2 := HMX.out.pl n3 (by have := HMX.out.len; omega)
                  rw [show mvW (bitW wh) false false n3 = false from by rw [h0]; rfl] at e2
                  replace e2 : SX[n3].s = 1 := by simpa using e2
                  rw [e1] at c1
                  rw [e2] at c2
                  skip
                  generalize SX[n3].p = pp at *
                  clear e1 e2 
                  clear hX3
                  replace c3 : wr.cell? ⟨sb, so + n3 * 4 + 2 + 1, none⟩ = _ := c3
                  clear h0 hlt hn9
                  have heq : ∀ W, (binOp .eql 41 (.agg #[.int .i64 1, .int .i64 pp]) (.agg #[.int .i64 9, .int .i64 99])).run Try.prog W = .ok (.bool false) W := fun W => by rw [eqlPl]; rfl
                  go_wp2
                  exact ⟨⟨n3 + 1, by omega, by go_num, hB⟩, by simp [intOf]; omega⟩
                by_cases h1 : n3 = 1
                · have e1 : SX[n3].i = 0 := by
                    have := HMX.out.ix n3 (by have := HMX.out.len; omega)
                    rw [this, if_neg h0, if_pos h1]
                  have e2 := HMX.out.pl n3 (by have := HMX.out.len; omega)
                  rw [show mvW (bitW wh) false false n3 = false from by rw [h1]; rfl] at e2
                  replace e2 : SX[n3].s = 1 := by simpa using e2
                  rw [e1] at c1
                  rw [e2] at c2
                  skip
                  generalize SX[n3].p = pp at *
                  clear e1 e2 
                  clear hX3
                  replace c3 : wr.cell? ⟨sb, so + n3 * 4 + 2 + 1, none⟩ = _ := c3
                  clear h0 h1 hlt hn9
                  have heq : ∀ W, (binOp .eql 41 (.agg #[.int .i64 1, .int .i64 pp]) (.agg #[.int .i64 9, .int .i64 99])).run Try.prog W = .ok (.bool false) W := fun W => by rw [eqlPl]; rfl
                  go_wp2
                  exact ⟨⟨n3 + 1, by omega, by go_num, hB⟩, by simp [intOf]; omega⟩
                obtain ⟨j, hj⟩ : ∃ j, n3 = j + 2 := ⟨n3 - 2, by omega⟩
                have hjk : j < k := by omega
                have HBIT := Lib.hid (show bitW wh j = (bits BinOp.and IntKind.u16 ((wh : Int) / 2 ^ j) 1 == 1) from rfl)
                cases hbj : bitW wh j
                · rw [hbj] at HBIT
                  have hb1 : (bits BinOp.and IntKind.u16 ((wh : Int) / 2 ^ j) 1 == 1) = false := HBIT.out.symm
                  have e1 : SX[n3].i = 4 + (j : Int) := by
                    have := HMX.out.ix n3 (by have := HMX.out.len; omega)
                    rw [this, if_neg (by omega), if_neg (by omega)]; omega
                  have e2 := HMX.out.pl n3 (by have := HMX.out.len; omega)
                  rw [show mvW (bitW wh) false false n3 = false from by rw [hj]; exact hbj] at e2
                  replace e2 : SX[n3].s = 1 := by simpa using e2
                  rw [e1] at c1
                  rw [e2] at c2
                  skip
                  generalize SX[n3].p = pp at *
                  clear e1 e2 
                  clear hX3
                  replace c3 : wr.cell? ⟨sb, so + n3 * 4 + 2 + 1, none⟩ = _ := c3
                  clear h0 h1 hlt hn9
                  have hj4 := Lib.hid hj
                  clear hj HBIT hbj
                  have heq : ∀ W, (binOp .eql 41 (.agg #[.int .i64 1, .int .i64 pp]) (.agg #[.int .i64 9, .int .i64 99])).run Try.prog W = .ok (.bool false) W := fun W => by rw [eqlPl]; rfl
                  have hw4 : IntKind.i64.wrap (4 + (j : Int) - 4) = (j : Int) := by rw [IntWalk.i64_in _ (by omega)]; omega
                  have hn1 : ¬ (4 + (j : Int) = -1) := by omega
                  have hn0 : ¬ (4 + (j : Int) = 0) := by omega
                  go_wp2
                  exact ⟨⟨n3 + 1, by omega, by go_num, hB⟩, by simp [intOf]; omega⟩
                · rw [hbj] at HBIT
                  have hb1 : (bits BinOp.and IntKind.u16 ((wh : Int) / 2 ^ j) 1 == 1) = true := HBIT.out.symm
                  have e1 : SX[n3].i = 4 + (j : Int) := by
                    have := HMX.out.ix n3 (by have := HMX.out.len; omega)
                    rw [this, if_neg (by omega), if_neg (by omega)]; omega
                  have e2 := HMX.out.pl n3 (by have := HMX.out.len; omega)
                  rw [show mvW (bitW wh) false false n3 = true from by rw [hj]; exact hbj] at e2
                  have e23 : SX[n3].s = 9 ∧ SX[n3].p = 99 := (by simpa using e2); clear e2; obtain ⟨e2, e3⟩ := e23
                  rw [e1] at c1
                  rw [e2] at c2
                  rw [e3] at c3
                  generalize SX[n3].p = pp at *
                  clear e1 e2 e3
                  clear hX3
                  replace c3 : wr.cell? ⟨sb, so + n3 * 4 + 2 + 1, none⟩ = _ := c3
                  clear h0 h1 hlt hn9
                  have hj4 := Lib.hid hj
                  clear hj HBIT hbj
                  have heq : ∀ W, (binOp .eql 41 (.agg #[.int .i64 9, .int .i64 99]) (.agg #[.int .i64 9, .int .i64 99])).run Try.prog W = .ok (.bool true) W := fun W => by rw [eqlPl]; rfl
                  have hw4 : IntKind.i64.wrap (4 + (j : Int) - 4) = (j : Int) := by rw [IntWalk.i64_in _ (by omega)]; omega
                  have hn1 : ¬ (4 + (j : Int) = -1) := by omega
                  have hn0 : ¬ (4 + (j : Int) = 0) := by omega
                  go_wp2
                  exact ⟨⟨n3 + 1, by omega, by go_num, hB⟩, by simp [intOf]; omega⟩
              · obtain rfl : n3 = k + 2 := by omega
                have hn : ¬ (((k + 2 : Nat) : Int) < (k : Int) + 2) := by omega
                go_wp2
                go_ret
                exact ⟨by simp, bel2 HB10.out hB⟩
          · have HNZ := Lib.hid (fun j (hj : j < k) => HNO.out j hj (by have := hbz; simp at this; omega))
            clear hbz HNO
            go_loopw [20] (fun s20 wr => ∃ n3 : Nat, n3 ≤ k + 2 ∧ s20 = .int .i64 n3 ∧ Below w10.heap.size w10 wr) (fun s20 _ => k + 2 - (intOf s20).toNat)
            case atStart => exact ⟨0, by omega, rfl, Below.refl _ _⟩
            case round =>
              obtain ⟨n3, hn3, rfl, hB⟩ := hrel
              by_cases hlt : n3 < k + 2
              · obtain ⟨c1, c2, c3⟩ := HXC.out wr hB n3 (by have := HMX.out.len; omega)
                have hX3 : n3 < SX.length := by have := HMX.out.len; omega
                have hn : (n3 : Int) < (k : Int) + 2 := by omega
                have hn9 : (0 : Int) ≤ (n3 : Int) := by omega
                by_cases h0 : n3 = 0
                · have e1 : SX[n3].i = -1 := by
                    have := HMX.out.ix n3 (by have := HMX.out.len; omega)
                    rw [this, if_pos h0]
                  have e2 := HMX.out.pl n3 (by have := HMX.out.len; omega)
                  rw [show mvW (bitW wh) false false n3 = false from by rw [h0]; rfl] at e2
                  replace e2 : SX[n3].s = 1 := by simpa using e2
                  rw [e1] at c1
                  rw [e2] at c2
                  skip
                  generalize SX[n3].p = pp at *
                  clear e1 e2 
                  clear hX3
                  replace c3 : wr.cell? ⟨sb, so + n3 * 4 + 2 + 1, none⟩ = _ := c3
                  clear h0 hlt hn9
                  have heq : ∀ W, (binOp .eql 41 (.agg #[.int .i64 1, .int .i64 pp]) (.agg #[.int .i64 9, .int .i64 99])).run Try.prog W = .ok (.bool false) W := fun W => by rw [eqlPl]; rfl
                  go_wp2
                  exact ⟨⟨n3 + 1, by omega, by go_num, hB⟩, by simp [intOf]; omega⟩
                by_cases h1 : n3 = 1
                · have e1 : SX[n3].i = 0 := by
                    have := HMX.out.ix n3 (by have := HMX.out.len; omega)
                    rw [this, if_neg h0, if_pos h1]
                  have e2 := HMX.out.pl n3 (by have := HMX.out.len; omega)
                  rw [show mvW (bitW wh) false false n3 = false from by rw [h1]; rfl] at e2
                  replace e2 : SX[n3].s = 1 := by simpa using e2
                  rw [e1] at c1
                  rw [e2] at c2
                  skip
                  generalize SX[n3].p = pp at *
                  clear e1 e2 
                  clear hX3
                  replace c3 : wr.cell? ⟨sb, so + n3 * 4 + 2 + 1, none⟩ = _ := c3
                  clear h0 h1 hlt hn9
                  have heq : ∀ W, (binOp .eql 41 (.agg #[.int .i64 1, .int .i64 pp]) (.agg #[.int .i64 9, .int .i64 99])).run Try.prog W = .ok (.bool false) W := fun W => by rw [eqlPl]; rfl
                  go_wp2
                  exact ⟨⟨n3 + 1, by omega, by go_num, hB⟩, by simp [intOf]; omega⟩
                obtain ⟨j, hj⟩ : ∃ j, n3 = j + 2 := ⟨n3 - 2, by omega⟩
                have hjk : j < k := by omega
                have HBIT := Lib.hid (show bitW wh j = (bits BinOp.and IntKind.u16 ((wh : Int) / 2 ^ j) 1 == 1) from rfl)
                cases hbj : bitW wh j
                · rw [hbj] at HBIT
                  have hb1 : (bits BinOp.and IntKind.u16 ((wh : Int) / 2 ^ j) 1 == 1) = false := HBIT.out.symm
                  have e1 : SX[n3].i = 4 + (j : Int) := by
                    have := HMX.out.ix n3 (by have := HMX.out.len; omega)
                    rw [this, if_neg (by omega), if_neg (by omega)]; omega
                  have e2 := HMX.out.pl n3 (by have := HMX.out.len; omega)
                  rw [show mvW (bitW wh) false false n3 = false from by rw [hj]; exact hbj] at e2
                  replace e2 : SX[n3].s = 1 := by simpa using e2
                  rw [e1] at c1
                  rw [e2] at c2
                  skip
                  generalize SX[n3].p = pp at *
                  clear e1 e2 
                  clear hX3
                  replace c3 : wr.cell? ⟨sb, so + n3 * 4 + 2 + 1, none⟩ = _ := c3
                  clear h0 h1 hlt hn9
                  have hj4 := Lib.hid hj
                  clear hj HBIT hbj
                  have heq : ∀ W, (binOp .eql 41 (.agg #[.int .i64 1, .int .i64 pp]) (.agg #[.int .i64 9, .int .i64 99])).run Try.prog W = .ok (.bool false) W := fun W => by rw [eqlPl]; rfl
                  have hw4 : IntKind.i64.wrap (4 + (j : Int) - 4) = (j : Int) := by rw [IntWalk.i64_in _ (by omega)]; omega
                  have hn1 : ¬ (4 + (j : Int) = -1) := by omega
                  have hn0 : ¬ (4 + (j : Int) = 0) := by omega
                  go_wp2
                  exact ⟨⟨n3 + 1, by omega, by go_num, hB⟩, by simp [intOf]; omega⟩
                · have := HNZ.out j hjk
                  rw [hbj] at this; cases this
              · obtain rfl : n3 = k + 2 := by omega
                have hn : ¬ (((k + 2 : Nat) : Int) < (k : Int) + 2) := by omega
                go_wp2
                go_ret
                exact ⟨by simp, bel2 HB10.out hB⟩



set_option maxRecDepth 100000 in
set_option maxHeartbeats 4000000 in
theorem mv_false_true (id : Nat) (hid : id < 256) (n : Nat) (hn : n < 256) (wh : Nat) (hwh : wh < 65536) (w : World) : Calls Try.prog 5 #[.int .u8 id, .int .u8 n, .bool false, .bool true, .int .u16 wh] w fun e w' => e = .returned (.bool true) ∧ Below w.heap.size w w' := by
  obtain ⟨j0, hj, hy0, hy1, hy2⟩ := info_parts infoEntry
  have GK := Lib.hid known13_any
  have hid9 : 0 ≤ (id : Int) ∧ (id : Int) ≤ 999 := ⟨by omega, by omega⟩
  obtain ⟨k, hk, hk1, hk6⟩ : ∃ k : Nat, (k : Int) = (n : Int) % 6 + 1 ∧ 1 ≤ k ∧ k ≤ 6 := ⟨n % 6 + 1, by omega, by omega, by omega⟩
  have GN := Lib.hid (fun W (hB : Below w.heap.size w W) => pnewK_any hB (id : Int))
  go_enter Try.func5, Try.ntmps5
  go_wp2_with (first
    | (go_at_call 8; ((with_reducible refine (GK.out _).mono ?_); rintro e w1 ⟨rfl, hB1⟩))
    | (go_at_call 9; ((with_reducible refine (GN.out _ hB1).mono ?_); rintro e w2 ⟨d, q, rfl, hK, hB2, hq1, hq2⟩)))
  rw [← hk]
  have hb0 : boxE w2 w2.heap.size [.int .i64 (id : Int), .int .i64 1] [.int .i64 0, .int .i64 0, .int .i64 0, .int .i64 0, .int .i64 0, .bool false, .bool false] (.slice none 0 0) [] (w2.alloc (.cells #[.int .i64 (id : Int), .int .i64 1, (.slice none 0 0), .int .i64 0, .int .i64 0, .int .i64 0, .int .i64 0, .int .i64 0, .bool false, .bool false] 39)) := boxE_new w2 [.int .i64 (id : Int), .int .i64 1] [.int .i64 0, .int .i64 0, .int .i64 0, .int .i64 0, .int .i64 0, .bool false, .bool false]
  obtain ⟨X, hX⟩ : ∃ X, X = w2.heap.size := ⟨_, rfl⟩
  have HLT := Lib.hid (show d < w2.heap.size ∧ q < d from ⟨hK.1.lt.1, hq2⟩)
  have HX := Lib.hid hX
  rw [← hX] at hb0 ⊢
  generalize w2.alloc (.cells #[.int .i64 (id : Int), .int .i64 1, (.slice none 0 0), .int .i64 0, .int .i64 0, .int .i64 0, .int .i64 0, .int .i64 0, .bool false, .bool false] 39) = wa at *
  have HB0 := Lib.hid (show boxE w2 X [.int .i64 (id : Int), .int .i64 1] [.int .i64 0, .int .i64 0, .int .i64 0, .int .i64 0, .int .i64 0, .bool false, .bool false] (.slice none 0 0) [] wa from hb0)
  have HK := Lib.hid hK
  have HKK := Lib.hid hk
  have HBW := Lib.hid hK.2.1
  clear hb0 hK hB2 hq1 hq2 hB1 hX hk GN
  go_loopw [14] (fun s14 wr => ∃ (i : Nat) (v : Value), i ≤ k ∧ s14 = .int .i64 i ∧ boxE w2 X [.int .i64 (id : Int), .int .i64 1] [.int .i64 0, .int .i64 0, .int .i64 0, .int .i64 0, .int .i64 0, .bool false, .bool false] v (mvE i) wr) (fun s14 _ => k - (intOf s14).toNat)
  case atStart => exact ⟨0, _, by omega, rfl, HB0.out⟩
  case round =>
    obtain ⟨i, v, hi, rfl, hbx⟩ := hrel
    clear HB0 wa
    by_cases hlt : i < k
    · have HIN := Lib.hid hbx
      obtain ⟨hBi, hP, hrow, hs⟩ := hbx
      rw [mvE_len] at hrow
      have c2 : wr.cell? ⟨X, 2, none⟩ = some v := cell_of_row _ _ 2 _ _ _ hP
      have hik : (i : Int) < (k : Int) := by omega
      clear hBi hP
      go_wp2_with (at_builtin; refine wpList_append_own _ rfl _ _ 29 rfl (X + 1) 57 j0 (.agg #[.int .i64 0, .int .i64 0, .string ⟨#[]⟩]) 3 32 Try.underlying29 hj hy0 hy1 hy2 rfl (by decide) _ _ _ rfl (hrow.alloc _) ⟨wr.heap.size, 0, none⟩ 1 1 [.int .i64 (4 + (i : Int)), .int .i64 2, .string ⟨#[]⟩] rfl rfl (news_new _ _ _) (by simp [Value.oneCell']) (by unfold maxLen; omega) (by omega) (by simp; omega) ?_; intro v' w9 hown9 hgrow _; obtain ⟨g9, cap9, rfl⟩ := ownsRow_succ hown9; obtain ⟨hX9, hin9⟩ := boxE_append (e := mvEnt i) HIN.out (bel_alloc (Below.refl wr.heap.size wr) (.cells #[.int .i64 (4 + (i : Int)), .int .i64 2, .string ⟨#[]⟩] 57)) (by rw [mvE_len]; exact hown9) hgrow; have cx9 : w9.cell? ⟨X, 2, none⟩ = some v := cell_of_row _ _ 2 _ _ _ hX9; have fx9 : w9.frozen? ⟨X, 2, none⟩ = false := frozen_of_row _ _ 2 _ _ hX9)
      go_roundw
      case rel => exact ⟨i + 1, _, by omega, by go_num, by rw [mvE_succ]; exact hin9⟩
      case measure => simp [intOf]; omega
    · obtain rfl : k = i := by omega
      obtain ⟨va, vc, rfl, hS⟩ := mvS_of HK.out HLT.out.2 HLT.out.1 (by rw [← HX.out]; exact hbx)
      rw [← HX.out] at hS
      have HS := Lib.hid hS
      clear hS hbx HK HLT HX hlt hi
      have GD1 := Lib.hid (fun W h => mvD1 (w := w) (W := W) (id := (id : Int)) (d := d) (q := q) (X := X) (k := k) (va := va) (vc := vc) hid9 hk6 h)
      have GD2 := Lib.hid (fun W h => mvD2 (w := w) (W := W) (id := (id : Int)) (d := d) (q := q) (X := X) (k := k) (va := va) (vc := vc) hid9 hk6 h)
      have GD3 := Lib.hid (fun W h => mvD3 (w := w) (W := W) (id := (id : Int)) (d := d) (q := q) (X := X) (k := k) (va := va) (vc := vc) hid9 hk1 hk6 h)
      dsimp only [mvP] at GD3
      go_wp2_with (first
        | (go_at_call 13; ((with_reducible refine (GD1.out _ HS.out).mono ?_); rintro e w3 ⟨⟨v3, rfl⟩, hS3⟩; have HS3 := Lib.hid hS3; clear hS3 HS))
        | (go_at_call 13; ((with_reducible refine (GD2.out _ HS3.out).mono ?_); rintro e w4 ⟨⟨v4, rfl⟩, hS4⟩; have HS4 := Lib.hid hS4; obtain ⟨p0, p1, p2, p3, p4, p5, p6, p7, p8, p9⟩ := arr10p hS4.2.1; clear hS4 HS3))
        | (go_at_call 13; ((with_reducible refine (GD3.out _ HS4.out).mono ?_); rintro e w5 ⟨⟨v5, rfl⟩, hS5⟩; have HS5 := Lib.hid hS5; clear hS5 HS4 p0 p1 p2 p3 p4 p5 p6 p7 p8 p9)))
      clear GD1 GD2 GD3
      have hb0 : boxE w5 w5.heap.size [.int .i64 (id : Int), .int .i64 6] [.int .i64 5, .int .i64 0, .int .i64 0, .int .i64 0, .int .i64 0, .bool false, .bool true] (.slice none 0 0) [] (w5.alloc (.cells #[.int .i64 (id : Int), .int .i64 6, (.slice none 0 0), .int .i64 5, .int .i64 0, .int .i64 0, .int .i64 0, .int .i64 0, .bool false, .bool true] 39)) := boxE_new w5 [.int .i64 (id : Int), .int .i64 6] [.int .i64 5, .int .i64 0, .int .i64 0, .int .i64 0, .int .i64 0, .bool false, .bool true]
      obtain ⟨Y, hY⟩ : ∃ Y, Y = w5.heap.size := ⟨_, rfl⟩
      have HY := Lib.hid hY
      rw [← hY] at hb0 ⊢
      generalize w5.alloc (.cells #[.int .i64 (id : Int), .int .i64 6, (.slice none 0 0), .int .i64 5, .int .i64 0, .int .i64 0, .int .i64 0, .int .i64 0, .bool false, .bool true] 39) = wa at *
      have HB2 := Lib.hid hb0
      clear hb0 hY
      go_loopw [16] (fun s16 wr => ∃ (i : Nat) (v : Value), i ≤ k ∧ s16 = .int .i64 i ∧ boxE w5 Y [.int .i64 (id : Int), .int .i64 6] [.int .i64 5, .int .i64 0, .int .i64 0, .int .i64 0, .int .i64 0, .bool false, .bool true] v (mvM (bitW wh) i) wr) (fun s16 _ => k - (intOf s16).toNat)
      case atStart => exact ⟨0, _, by omega, rfl, HB2.out⟩
      case round =>
        obtain ⟨i, v, hi, rfl, hbx⟩ := hrel
        clear HB2 wa
        by_cases hlt : i < k
        · have hik : (i : Int) < (k : Int) := by omega
          have HIN := Lib.hid hbx
          obtain ⟨hBi, hP, hrow, hs⟩ := hbx
          have HSr := Lib.hid (HS5.out.below (by rw [← HY.out]; exact hBi))
          have x2 : wr.cell? ⟨Y, 2, none⟩ = some v := cell_of_row _ _ 2 _ _ _ hP
          have xf2 : wr.frozen? ⟨Y, 2, none⟩ = false := frozen_of_row _ _ 2 _ _ hP
          have p2 : wr.cell? ⟨X, 2, none⟩ = some (.slice va k vc) := cell_of_row _ _ 2 _ _ _ HSr.out.2.1
          have hLl := mvM_len (bitW wh) i
          have HSU := Lib.hid (mvM_succ (bitW wh) i)
          have HBIT := Lib.hid (show bitW wh i = (bits BinOp.and IntKind.u16 ((wh : Int) / 2 ^ i) 1 == 1) from rfl)
          have hYl : Y < wr.heap.size := heap_lt hP
          generalize mvM (bitW wh) i = L at *
          cases hbt : bitW wh i
          · rw [hbt] at HBIT HSU
            have hb1 : (bits BinOp.and IntKind.u16 ((wh : Int) / 2 ^ i) 1 == 1) = false := HBIT.out.symm
            clear hbt hBi hP hrow hs HSr x2 xf2 p2
            go_wp2
            exact ⟨⟨i + 1, v, by omega, by go_num, by have e := HSU.out; simp only [Bool.false_eq_true, if_false] at e; rw [e]; exact HIN.out⟩, by simp [intOf]; omega⟩
          · rw [hbt] at HBIT HSU
            have hb1 : (bits BinOp.and IntKind.u16 ((wh : Int) / 2 ^ i) 1 == 1) = true := HBIT.out.symm
            obtain ⟨gb, go, rfl, hgb2, hgc⟩ := HSr.out.2.2.1.2.2 (by omega)
            obtain ⟨e0, e1, e2⟩ := entry_at hgb2 (Below.refl _ _) hgc (show i < (mvE k).length by rw [mvE_len]; exact hlt)
            rw [mvE_at] at e0 e1 e2
            dsimp only at e0 e1 e2
            have hgX : X < gb := HSr.out.2.2.2.2.2.1 gb ⟨gb, go, rfl, by omega, rfl⟩
            have hgY : gb < Y := by
              obtain ⟨b9, o9, e9, h9, _⟩ := HS5.out.2.2.1.2.2 (by omega)
              cases e9; have := HY.out; omega
            have hi0 : (0 : Int) ≤ (i : Int) := by omega
            clear hbt hgc hP hBi
            go_wp2
            have xd2 : wr.drew.cell? ⟨Y, 2, none⟩ = _ := x2
            have pd2 : wr.drew.cell? ⟨X, 2, none⟩ = _ := p2
            have ed0 : wr.drew.cell? ⟨gb, go + i * 3, none⟩ = _ := e0
            have ed1 : wr.drew.cell? ⟨gb, go + i * 3 + 1, none⟩ = _ := e1
            have ed2 : wr.drew.cell? ⟨gb, go + i * 3 + 2, none⟩ = _ := e2
            have he2 := ((bel_alloc (Below.refl wr.drew.heap.size wr.drew) (.cells [.int .i64 (4 + (i : Int)), .int .i64 2, .string ⟨#[]⟩].toArray 57)).cell (p := ⟨Y, 2, none⟩) hYl).trans xd2
            have hf2 := he2
            go_region_law (first | ((refine step_append_lies _ (by rfl) _ _ _ (by rfl) (Y + 1) 57 j0 (.agg #[.int .i64 0, .int .i64 0, .string ⟨#[]⟩]) 3 32 Try.underlying29 hj hy0 hy1 hy2 rfl (by omega) v L.length (entryCells L) (by rfl) (by first | exact (hrow.alloc _) | exact (hrow.alloc _).drew | exact (hrow.drew.alloc _)) ⟨wr.heap.size, 0, none⟩ 1 1 [.int .i64 (4 + (i : Int)), .int .i64 2, .string ⟨#[]⟩] (by rfl) (by rfl) (by first | exact news_new _ _ _ | exact World.news_of_block (cs := [.int .i64 (4 + (i : Int)), .int .i64 2, .string ⟨#[]⟩].toArray) (World.alloc_heap_new _ _)) (by simp [Value.oneCell']) (by omega) (by unfold maxLen; omega) (by omega) (by simp; omega) _ rfl ?_); intro g1 c1 w4 hown4 hgrow4 hat4 hlt4; obtain ⟨hX9, hin9⟩ := boxE_append (e := mvEnt i) HIN.out (by first | exact bel_alloc (Below.refl wr.heap.size wr) _ | exact (bel_alloc (Below.refl wr.heap.size wr) _).drew | exact bel_alloc (Below.refl wr.heap.size wr).drew _) hown4 hgrow4; have cx9 : w4.cell? ⟨Y, 2, none⟩ = some v := cell_of_row _ _ 2 _ _ _ hX9; have fx9 : w4.frozen? ⟨Y, 2, none⟩ = false := frozen_of_row _ _ 2 _ _ hX9))
            all_goals
              clear e0 e1 e2 xd2 pd2 ed0 ed1 ed2 he2 hf2 x2 xf2 p2 hb1 hat4 hlt4
              go_wp2
              exact ⟨⟨i + 1, _, by omega, by go_num, by have e := HSU.out; rw [if_pos trivial] at e; rw [e]; exact hin9⟩, by simp [intOf]; omega⟩
        · obtain rfl : k = i := by omega
          have HSr := Lib.hid (HS5.out.below (by rw [← HY.out]; exact hbx.1))
          have HSr1 := Lib.hid (show LgK w d q ⟨mvG (id : Int) k, mvF k⟩ wr from HSr.out.1)
          obtain ⟨fa, fc, rfl, hfc, hfr⟩ := rowV_own hbx.2.2.1
          obtain ⟨ml, hml⟩ : ∃ ml, ml = (mvM (bitW wh) k).length := ⟨_, rfl⟩
          rw [← hml] at hfc hfr hbx
          have HFR := Lib.hid hfr
          have HFC := Lib.hid hfc
          have HPY := Lib.hid (show wr.heap[Y]? = some (.cells #[.int .i64 (id : Int), .int .i64 6, (.slice fa ml fc), .int .i64 5, .int .i64 0, .int .i64 0, .int .i64 0, .int .i64 0, .bool false, .bool true] 39 (0, 0)) from hbx.2.1)
          have HBx := Lib.hid (show Below w.heap.size w wr from HSr.out.1.2.1)
          have hdY : d < Y ∧ q < Y := by have h1 := HS5.out.2.1; have h2 := heap_lt h1; have h3 := HS5.out.2.2.2; rw [← HY.out] at h2; omega
          have HDY := Lib.hid hdY
          clear hbx hfc hfr hdY hlt hi
          have GG := Lib.hid (fun W F (h : LgK w d q ⟨mvG (id : Int) k, F⟩ W) => (show Calls Try.prog 17 #[.pointer (some ⟨d, 0, none⟩)] W (fun e w' => ∃ va vc, e = .returned (.agg #[.int .i64 (id : Int), .int .i64 4, .int .i64 1, .int .i64 5, .int .i64 0, .int .i64 0, .slice va k vc]) ∧ Below W.heap.size W w') from (pgroupS_any h.1).mono (fun e w' ⟨va, vc, h1, _, _, h2⟩ => ⟨va, vc, by rw [h1]; show Ending.returned (.agg #[_, _, _, _, _, _, .slice va (mvE k).length vc]) = _; rw [mvE_len], h2⟩)))
          have MI := Lib.hid (mvG_isSp hid9 hk6)
          have GS := Lib.hid (fun W F (h : LgK w d q ⟨mvG (id : Int) k, F⟩ W) (hI : isSp (mvG (id : Int) k) = true) => (show Calls Try.prog 19 #[.pointer (some ⟨d, 0, none⟩)] W (fun e w' => ∃ va vc, e = .returned (.slice va (spotsL (mvG (id : Int) k) F).length vc) ∧ RowV w' va (spotsL (mvG (id : Int) k) F).length 4 (spotCells (spotsL (mvG (id : Int) k) F)) ∧ Below W.heap.size W w') from (pspotsS_any h.1 hI).mono (fun e w' ⟨va, vc, h1, h2, _, h3⟩ => ⟨va, vc, h1, h2, h3⟩)))
          have GD4 := Lib.hid (fun W (h : mvS w (id : Int) d q X k va vc ⟨mvG (id : Int) k, mvF k⟩ W) (hr : RowV W fa ml 3 (entryCells (mvM (bitW wh) k))) (hfc : ml ≤ fc) => (show Calls Try.prog 13 #[.pointer (some ⟨d, 0, none⟩), .agg #[.int .i64 (id : Int), .int .i64 6, (.slice fa ml fc), .int .i64 5, .int .i64 0, .int .i64 0, .int .i64 0, .int .i64 0, .bool false, .bool true], .agg #[.int .i64 9, .int .i64 99]] W (fun e w' => (∃ v, e = .returned v) ∧ (∃ F, LgK w d q ⟨mvG (id : Int) k, F⟩ w' ∧ F.length ≤ 30 ∧ MvS (spotsL (mvG (id : Int) k) F) (id : Int) (bitW wh) false true k) ∧ FrameT (fun k => k = d ∨ k = q) W w') from by subst hml; exact mvD4 hid9 hk6 (bitW wh) false true fa fc h hr hfc))
          have HNO := Lib.hid (fun j (hj : j < k) (h0 : (mvM (bitW wh) k).length = 0) => (show bitW wh j = false from by
            cases hb : bitW wh j
            · rfl
            · have h9 : mvEnt j ∈ mvM (bitW wh) k := mvM_mem.2 ⟨j, hj, hb, rfl⟩
              rw [List.length_eq_zero_iff.1 h0] at h9
              cases h9))
          rw [← hml] at HNO
          clear hml
          go_wp2_with (first
            | (go_at_call 17; ((with_reducible refine (GG.out _ _ HSr1.out).mono ?_); rintro e w6 ⟨ga, gc, rfl, hB6⟩; have hA6 := bel2 hB6 (bel_alloc (Below.refl w6.heap.size w6) (.cells #[.int .i64 (id : Int), .int .i64 4, .int .i64 1, .int .i64 5, .int .i64 0, .int .i64 0, .slice ga k gc] 31)); have hg6 := World.alloc_heap_new w6 (.cells #[.int .i64 (id : Int), .int .i64 4, .int .i64 1, .int .i64 5, .int .i64 0, .int .i64 0, .slice ga k gc] 31); have hp6 := (hA6.block _ (heap_lt HPY.out)).trans HPY.out; have HS6 := Lib.hid (HSr.out.below hA6); have HR6 := Lib.hid (HFR.out.below hA6); have HG6 := Lib.hid hg6; have HP6 := Lib.hid hp6; have HBX6 := Lib.hid (bel2 HBx.out hA6); have HY6 := Lib.hid (show Y < w6.heap.size from Nat.lt_of_lt_of_le (heap_lt HPY.out) hB6.size); obtain ⟨p0, p1, p2, p3, p4, p5, p6, p7, p8, p9⟩ := arr10p hp6; clear hA6 hB6 hg6 hp6 HSr HSr1))
            | (go_at_call 13; ((with_reducible refine (GD4.out _ HS6.out HR6.out HFC.out).mono ?_); rintro e w7 ⟨⟨v7, rfl⟩, ⟨F, hK7, hF30, hMX⟩, hFr⟩; have HK7 := Lib.hid hK7; have HMX := Lib.hid hMX; have HF30 := Lib.hid hF30; have hg7 := hFr.get HG6.out (by have := HDY.out; have := HY6.out; omega); have HP7 := Lib.hid (hFr.get HP6.out (by have := HDY.out; omega)); have HG7 := Lib.hid hg7; have g1 : w7.cell? ⟨w6.heap.size, 1, none⟩ = some (.int .i64 4) := cell_of_row _ _ 1 _ _ _ hg7; clear HS6 HR6 HG6 HP6 hK7 hMX hF30 hFr hg7 p0 p1 p2 p3 p4 p5 p6 p7 p8 p9)))
          have KC := Lib.hid (fun W (hB : Below w7.heap.size w7 W) => (show W.cell? ⟨w6.heap.size, 1, none⟩ = some (.int .i64 4) from cell_of_row _ _ 1 _ _ _ ((hB.block _ (heap_lt HG7.out)).trans HG7.out)))
          go_region_held3 (fun W' => W'.cell? ⟨w6.heap.size, 1, none⟩ = some (.int .i64 4)) (go_keep) (first
            | (go_at_call 17; ((with_reducible refine (GG.out _ F ?hk).mono ?_); (case hk => first | exact HK7.out.below hX8 | exact HK7.out.below hX8.drew); rintro e w9 ⟨va9, vc9, rfl, hB9⟩; have hX9 : Below w7.heap.size w7 w9 := (by first | exact bel2 hX8 hB9 | exact bel2 hX8.drew hB9); have g9 := KC.out w9 hX9; have hfd4 := fun W => fieldGM4 (id : Int) 4 1 5 0 0 (.slice va9 k vc9) W))
            | (go_at_call 17; ((with_reducible refine (GG.out _ F ?hk).mono ?_); (case hk => first | exact HK7.out | exact HK7.out.below (Below.refl _ _).drew); rintro e w8 ⟨va8, vc8, rfl, hB8⟩; have hX8 : Below w7.heap.size w7 w8 := (by first | exact hB8 | exact bel2 (Below.refl _ _).drew hB8); have g8 := KC.out w8 hX8; have hfd := fun W => fieldGM1 (id : Int) 4 1 5 0 0 (.slice va8 k vc8) W)))
          have HX9 := Lib.hid hX9
          clear hX9 hX8 g8 g9 g1 hfd hfd4
          go_wp2_with (go_at_call 19; ((with_reducible refine (GS.out _ F (HK7.out.below HX9.out) MI.out).mono ?_); rintro e w10 ⟨sa, sc, rfl, hX, hB10⟩; have hB7 := bel2 HX9.out hB10; have HB10 := Lib.hid (show Below w.heap.size w w10 from (HK7.out.below hB7).2.1); have y2 : w10.cell? ⟨Y, 2, none⟩ = some (.slice fa ml fc) := cell_of_row _ _ 2 _ _ _ ((hB7.block _ (heap_lt HP7.out)).trans HP7.out); clear hB7 hB10 HX9; generalize spotsL (mvG (id : Int) k) F = SX at *; have HX := Lib.hid hX; clear hX; have hl := HMX.out.len; rw [hl]; clear hl))
          obtain ⟨sb, so, rfl, hsb, hsc⟩ := spotRow_at HX.out (by have := HMX.out.len; omega)
          have HXC := Lib.hid (fun W (hB : Below w10.heap.size w10 W) n (hn : n < SX.length) => (show W.cell? ⟨sb, so + n * 4 + 1, none⟩ = some (.int .i64 SX[n].i) ∧ W.cell? ⟨sb, so + n * 4 + 2, none⟩ = some (.int .i64 SX[n].s) ∧ W.cell? ⟨sb, so + n * 4 + 3, none⟩ = some (.int .i64 SX[n].p) from ⟨(hB.cell (p := ⟨sb, so + n * 4 + 1, none⟩) hsb).trans (hsc n hn).2.1, (hB.cell (p := ⟨sb, so + n * 4 + 2, none⟩) hsb).trans (hsc n hn).2.2.1, (hB.cell (p := ⟨sb, so + n * 4 + 3, none⟩) hsb).trans (hsc n hn).2.2.2⟩))
          clear hsb hsc y2 HX GG GS GD4
          clear HNO
          go_loopw [20] (fun s20 wr => ∃ n3 : Nat, n3 ≤ k + 2 ∧ s20 = .int .i64 n3 ∧ Below w10.heap.size w10 wr) (fun s20 _ => k + 2 - (intOf s20).toNat)
          case atStart => exact ⟨0, by omega, rfl, Below.refl _ _⟩
          case round =>
            obtain ⟨n3, hn3, rfl, hB⟩ := hrel
            by_cases hlt : n3 < k + 2
            · obtain ⟨c1, c2, c3⟩ := HXC.out wr hB n3 (by have := HMX.out.len; omega)
              have hX3 : n3 < SX.length := by have := HMX.out.len; omega
              have hn : (n3 : Int) < (k : Int) + 2 := by omega
              have hn9 : (0 : Int) ≤ (n3 : Int) := by omega
              by_cases h0 : n3 = 0
              · have e1 : SX[n3].i = -1 := by
                  have := HMX.out.ix n3 (by have := HMX.out.len; omega)
                  rw [this, if_pos h0]
                have e2 := HMX.out.pl n3 (by have := HMX.out.len; omega)
                rw [show mvW (bitW wh) false true n3 = true from by rw [h0]; rfl] at e2
                have e23 : SX[n3].s = 9 ∧ SX[n3].p = 99 := (by simpa using e2); clear e2; obtain ⟨e2, e3⟩ := e23
                rw [e1] at c1
                rw [e2] at c2
                rw [e3] at c3
                generalize SX[n3].p = pp at *
                clear e1 e2 e3
                clear hX3
                replace c3 : wr.cell? ⟨sb, so + n3 * 4 + 2 + 1, none⟩ = _ := c3
                clear h0 hlt hn9
                have heq : ∀ W, (binOp .eql 41 (.agg #[.int .i64 9, .int .i64 99]) (.agg #[.int .i64 9, .int .i64 99])).run Try.prog W = .ok (.bool true) W := fun W => by rw [eqlPl]; rfl
                go_wp2
                exact ⟨⟨n3 + 1, by omega, by go_num, hB⟩, by simp [intOf]; omega⟩
              by_cases h1 : n3 = 1
              · have e1 : SX[n3].i = 0 := by
                  have := HMX.out.ix n3 (by have := HMX.out.len; omega)
                  rw [this, if_neg h0, if_pos h1]
                have e2 := HMX.out.pl n3 (by have := HMX.out.len; omega)
                rw [show mvW (bitW wh) false true n3 = false from by rw [h1]; rfl] at e2
                replace e2 : SX[n3].s = 1 := by simpa using e2
                rw [e1] at c1
                rw [e2] at c2
                skip
                generalize SX[n3].p = pp at *
                clear e1 e2 
                clear hX3
                replace c3 : wr.cell? ⟨sb, so + n3 * 4 + 2 + 1, none⟩ = _ := c3
                clear h0 h1 hlt hn9
                have heq : ∀ W, (binOp .eql 41 (.agg #[.int .i64 1, .int .i64 pp]) (.agg #[.int .i64 9, .int .i64 99])).run Try.prog W = .ok (.bool false) W := fun W => by rw [eqlPl]; rfl
                go_wp2
                exact ⟨⟨n3 + 1, by omega, by go_num, hB⟩, by simp [intOf]; omega⟩
              obtain ⟨j, hj⟩ : ∃ j, n3 = j + 2 := ⟨n3 - 2, by omega⟩
              have hjk : j < k := by omega
              have HBIT := Lib.hid (show bitW wh j = (bits BinOp.and IntKind.u16 ((wh : Int) / 2 ^ j) 1 == 1) from rfl)
              cases hbj : bitW wh j
              · rw [hbj] at HBIT
                have hb1 : (bits BinOp.and IntKind.u16 ((wh : Int) / 2 ^ j) 1 == 1) = false := HBIT.out.symm
                have e1 : SX[n3].i = 4 + (j : Int) := by
                  have := HMX.out.ix n3 (by have := HMX.out.len; omega)
                  rw [this, if_neg (by omega), if_neg (by omega)]; omega
                have e2 := HMX.out.pl n3 (by have := HMX.out.len; omega)
                rw [show mvW (bitW wh) false true n3 = false from by rw [hj]; exact hbj] at e2
                replace e2 : SX[n3].s = 1 := by simpa using e2
                rw [e1] at c1
                rw [e2] at c2
                skip
                generalize SX[n3].p = pp at *
                clear e1 e2 
                clear hX3
                replace c3 : wr.cell? ⟨sb, so + n3 * 4 + 2 + 1, none⟩ = _ := c3
                clear h0 h1 hlt hn9
                have hj4 := Lib.hid hj
                clear hj HBIT hbj
                have heq : ∀ W, (binOp .eql 41 (.agg #[.int .i64 1, .int .i64 pp]) (.agg #[.int .i64 9, .int .i64 99])).run Try.prog W = .ok (.bool false) W := fun W => by rw [eqlPl]; rfl
                have hw4 : IntKind.i64.wrap (4 + (j : Int) - 4) = (j : Int) := by rw [IntWalk.i64_in _ (by omega)]; omega
                have hn1 : ¬ (4 + (j : Int) = -1) := by omega
                have hn0 : ¬ (4 + (j : Int) = 0) := by omega
                go_wp2
                exact ⟨⟨n3 + 1, by omega, by go_num, hB⟩, by simp [intOf]; omega⟩
              · rw [hbj] at HBIT
                have hb1 : (bits BinOp.and IntKind.u16 ((wh : Int) / 2 ^ j) 1 == 1) = true := HBIT.out.symm
                have e1 : SX[n3].i = 4 + (j : Int) := by
                  have := HMX.out.ix n3 (by have := HMX.out.len; omega)
                  rw [this, if_neg (by omega), if_neg (by omega)]; omega
                have e2 := HMX.out.pl n3 (by have := HMX.out.len; omega)
                rw [show mvW (bitW wh) false true n3 = true from by rw [hj]; exact hbj] at e2
                have e23 : SX[n3].s = 9 ∧ SX[n3].p = 99 := (by simpa using e2); clear e2; obtain ⟨e2, e3⟩ := e23
                rw [e1] at c1
                rw [e2] at c2
                rw [e3] at c3
                generalize SX[n3].p = pp at *
                clear e1 e2 e3
                clear hX3
                replace c3 : wr.cell? ⟨sb, so + n3 * 4 + 2 + 1, none⟩ = _ := c3
                clear h0 h1 hlt hn9
                have hj4 := Lib.hid hj
                clear hj HBIT hbj
                have heq : ∀ W, (binOp .eql 41 (.agg #[.int .i64 9, .int .i64 99]) (.agg #[.int .i64 9, .int .i64 99])).run Try.prog W = .ok (.bool true) W := fun W => by rw [eqlPl]; rfl
                have hw4 : IntKind.i64.wrap (4 + (j : Int) - 4) = (j : Int) := by rw [IntWalk.i64_in _ (by omega)]; omega
                have hn1 : ¬ (4 + (j : Int) = -1) := by omega
                have hn0 : ¬ (4 + (j : Int) = 0) := by omega
                go_wp2
                exact ⟨⟨n3 + 1, by omega, by go_num, hB⟩, by simp [intOf]; omega⟩
            · obtain rfl : n3 = k + 2 := by omega
              have hn : ¬ (((k + 2 : Nat) : Int) < (k : Int) + 2) := by omega
              go_wp2
              go_ret
              exact ⟨by simp, bel2 HB10.out hB⟩



set_option maxRecDepth 100000 in
set_option maxHeartbeats 4000000 in
theorem mv_true_false (id : Nat) (hid : id < 256) (n : Nat) (hn : n < 256) (wh : Nat) (hwh : wh < 65536) (w : World) : Calls Try.prog 5 #[.int .u8 id, .int .u8 n, .bool true, .bool false, .int .u16 wh] w fun e w' => e = .returned (.bool true) ∧ Below w.heap.size w w' := by
  obtain ⟨j0, hj, hy0, hy1, hy2⟩ := info_parts infoEntry
  have GK := Lib.hid known13_any
  have hid9 : 0 ≤ (id : Int) ∧ (id : Int) ≤ 999 := ⟨by omega, by omega⟩
  obtain ⟨k, hk, hk1, hk6⟩ : ∃ k : Nat, (k : Int) = (n : Int) % 6 + 1 ∧ 1 ≤ k ∧ k ≤ 6 := ⟨n % 6 + 1, by omega, by omega, by omega⟩
  have GN := Lib.hid (fun W (hB : Below w.heap.size w W) => pnewK_any hB (id : Int))
  go_enter Try.func5, Try.ntmps5
  go_wp2_with (first
    | (go_at_call 8; ((with_reducible refine (GK.out _).mono ?_); rintro e w1 ⟨rfl, hB1⟩))
    | (go_at_call 9; ((with_reducible refine (GN.out _ hB1).mono ?_); rintro e w2 ⟨d, q, rfl, hK, hB2, hq1, hq2⟩)))
  rw [← hk]
  have hb0 : boxE w2 w2.heap.size [.int .i64 (id : Int), .int .i64 1] [.int .i64 0, .int .i64 0, .int .i64 0, .int .i64 0, .int .i64 0, .bool false, .bool false] (.slice none 0 0) [] (w2.alloc (.cells #[.int .i64 (id : Int), .int .i64 1, (.slice none 0 0), .int .i64 0, .int .i64 0, .int .i64 0, .int .i64 0, .int .i64 0, .bool false, .bool false] 39)) := boxE_new w2 [.int .i64 (id : Int), .int .i64 1] [.int .i64 0, .int .i64 0, .int .i64 0, .int .i64 0, .int .i64 0, .bool false, .bool false]
  obtain ⟨X, hX⟩ : ∃ X, X = w2.heap.size := ⟨_, rfl⟩
  have HLT := Lib.hid (show d < w2.heap.size ∧ q < d from ⟨hK.1.lt.1, hq2⟩)
  have HX := Lib.hid hX
  rw [← hX] at hb0 ⊢
  generalize w2.alloc (.cells #[.int .i64 (id : Int), .int .i64 1, (.slice none 0 0), .int .i64 0, .int .i64 0, .int .i64 0, .int .i64 0, .int .i64 0, .bool false, .bool false] 39) = wa at *
  have HB0 := Lib.hid (show boxE w2 X [.int .i64 (id : Int), .int .i64 1] [.int .i64 0, .int .i64 0, .int .i64 0, .int .i64 0, .int .i64 0, .bool false, .bool false] (.slice none 0 0) [] wa from hb0)
  have HK := Lib.hid hK
  have HKK := Lib.hid hk
  have HBW := Lib.hid hK.2.1
  clear hb0 hK hB2 hq1 hq2 hB1 hX hk GN
  go_loopw [14] (fun s14 wr => ∃ (i : Nat) (v : Value), i ≤ k ∧ s14 = .int .i64 i ∧ boxE w2 X [.int .i64 (id : Int), .int .i64 1] [.int .i64 0, .int .i64 0, .int .i64 0, .int .i64 0, .int .i64 0, .bool false, .bool false] v (mvE i) wr) (fun s14 _ => k - (intOf s14).toNat)
  case atStart => exact ⟨0, _, by omega, rfl, HB0.out⟩
  case round =>
    obtain ⟨i, v, hi, rfl, hbx⟩ := hrel
    clear HB0 wa
    by_cases hlt : i < k
    · have HIN := Lib.hid hbx
      obtain ⟨hBi, hP, hrow, hs⟩ := hbx
      rw [mvE_len] at hrow
      have c2 : wr.cell? ⟨X, 2, none⟩ = some v := cell_of_row _ _ 2 _ _ _ hP
      have hik : (i : Int) < (k : Int) := by omega
      clear hBi hP
      go_wp2_with (at_builtin; refine wpList_append_own _ rfl _ _ 29 rfl (X + 1) 57 j0 (.agg #[.int .i64 0, .int .i64 0, .string ⟨#[]⟩]) 3 32 Try.underlying29 hj hy0 hy1 hy2 rfl (by decide) _ _ _ rfl (hrow.alloc _) ⟨wr.heap.size, 0, none⟩ 1 1 [.int .i64 (4 + (i : Int)), .int .i64 2, .string ⟨#[]⟩] rfl rfl (news_new _ _ _) (by simp [Value.oneCell']) (by unfold maxLen; omega) (by omega) (by simp; omega) ?_; intro v' w9 hown9 hgrow _; obtain ⟨g9, cap9, rfl⟩ := ownsRow_succ hown9; obtain ⟨hX9, hin9⟩ := boxE_append (e := mvEnt i) HIN.out (bel_alloc (Below.refl wr.heap.size wr) (.cells #[.int .i64 (4 + (i : Int)), .int .i64 2, .string ⟨#[]⟩] 57)) (by rw [mvE_len]; exact hown9) hgrow; have cx9 : w9.cell? ⟨X, 2, none⟩ = some v := cell_of_row _ _ 2 _ _ _ hX9; have fx9 : w9.frozen? ⟨X, 2, none⟩ = false := frozen_of_row _ _ 2 _ _ hX9)
      go_roundw
      case rel => exact ⟨i + 1, _, by omega, by go_num, by rw [mvE_succ]; exact hin9⟩
      case measure => simp [intOf]; omega
    · obtain rfl : k = i := by omega
      obtain ⟨va, vc, rfl, hS⟩ := mvS_of HK.out HLT.out.2 HLT.out.1 (by rw [← HX.out]; exact hbx)
      rw [← HX.out] at hS
      have HS := Lib.hid hS
      clear hS hbx HK HLT HX hlt hi
      have GD1 := Lib.hid (fun W h => mvD1 (w := w) (W := W) (id := (id : Int)) (d := d) (q := q) (X := X) (k := k) (va := va) (vc := vc) hid9 hk6 h)
      have GD2 := Lib.hid (fun W h => mvD2 (w := w) (W := W) (id := (id : Int)) (d := d) (q := q) (X := X) (k := k) (va := va) (vc := vc) hid9 hk6 h)
      have GD3 := Lib.hid (fun W h => mvD3 (w := w) (W := W) (id := (id : Int)) (d := d) (q := q) (X := X) (k := k) (va := va) (vc := vc) hid9 hk1 hk6 h)
      dsimp only [mvP] at GD3
      go_wp2_with (first
        | (go_at_call 13; ((with_reducible refine (GD1.out _ HS.out).mono ?_); rintro e w3 ⟨⟨v3, rfl⟩, hS3⟩; have HS3 := Lib.hid hS3; clear hS3 HS))
        | (go_at_call 13; ((with_reducible refine (GD2.out _ HS3.out).mono ?_); rintro e w4 ⟨⟨v4, rfl⟩, hS4⟩; have HS4 := Lib.hid hS4; obtain ⟨p0, p1, p2, p3, p4, p5, p6, p7, p8, p9⟩ := arr10p hS4.2.1; clear hS4 HS3))
        | (go_at_call 13; ((with_reducible refine (GD3.out _ HS4.out).mono ?_); rintro e w5 ⟨⟨v5, rfl⟩, hS5⟩; have HS5 := Lib.hid hS5; clear hS5 HS4 p0 p1 p2 p3 p4 p5 p6 p7 p8 p9)))
      clear GD1 GD2 GD3
      have hb0 : boxE w5 w5.heap.size [.int .i64 (id : Int), .int .i64 6] [.int .i64 0, .int .i64 0, .int .i64 0, .int .i64 3, .int .i64 1, .bool true, .bool false] (.slice none 0 0) [] (w5.alloc (.cells #[.int .i64 (id : Int), .int .i64 6, (.slice none 0 0), .int .i64 0, .int .i64 0, .int .i64 0, .int .i64 3, .int .i64 1, .bool true, .bool false] 39)) := boxE_new w5 [.int .i64 (id : Int), .int .i64 6] [.int .i64 0, .int .i64 0, .int .i64 0, .int .i64 3, .int .i64 1, .bool true, .bool false]
      obtain ⟨Y, hY⟩ : ∃ Y, Y = w5.heap.size := ⟨_, rfl⟩
      have HY := Lib.hid hY
      rw [← hY] at hb0 ⊢
      generalize w5.alloc (.cells #[.int .i64 (id : Int), .int .i64 6, (.slice none 0 0), .int .i64 0, .int .i64 0, .int .i64 0, .int .i64 3, .int .i64 1, .bool true, .bool false] 39) = wa at *
      have HB2 := Lib.hid hb0
      clear hb0 hY
      go_loopw [16] (fun s16 wr => ∃ (i : Nat) (v : Value), i ≤ k ∧ s16 = .int .i64 i ∧ boxE w5 Y [.int .i64 (id : Int), .int .i64 6] [.int .i64 0, .int .i64 0, .int .i64 0, .int .i64 3, .int .i64 1, .bool true, .bool false] v (mvM (bitW wh) i) wr) (fun s16 _ => k - (intOf s16).toNat)
      case atStart => exact ⟨0, _, by omega, rfl, HB2.out⟩
      case round =>
        obtain ⟨i, v, hi, rfl, hbx⟩ := hrel
        clear HB2 wa
        by_cases hlt : i < k
        · have hik : (i : Int) < (k : Int) := by omega
          have HIN := Lib.hid hbx
          obtain ⟨hBi, hP, hrow, hs⟩ := hbx
          have HSr := Lib.hid (HS5.out.below (by rw [← HY.out]; exact hBi))
          have x2 : wr.cell? ⟨Y, 2, none⟩ = some v := cell_of_row _ _ 2 _ _ _ hP
          have xf2 : wr.frozen? ⟨Y, 2, none⟩ = false := frozen_of_row _ _ 2 _ _ hP
          have p2 : wr.cell? ⟨X, 2, none⟩ = some (.slice va k vc) := cell_of_row _ _ 2 _ _ _ HSr.out.2.1
          have hLl := mvM_len (bitW wh) i
          have HSU := Lib.hid (mvM_succ (bitW wh) i)
          have HBIT := Lib.hid (show bitW wh i = (bits BinOp.and IntKind.u16 ((wh : Int) / 2 ^ i) 1 == 1) from rfl)
          have hYl : Y < wr.heap.size := heap_lt hP
          generalize mvM (bitW wh) i = L at *
          cases hbt : bitW wh i
          · rw [hbt] at HBIT HSU
            have hb1 : (bits BinOp.and IntKind.u16 ((wh : Int) / 2 ^ i) 1 == 1) = false := HBIT.out.symm
            clear hbt hBi hP hrow hs HSr x2 xf2 p2
            go_wp2
            exact ⟨⟨i + 1, v, by omega, by go_num, by have e := HSU.out; simp only [Bool.false_eq_true, if_false] at e; rw [e]; exact HIN.out⟩, by simp [intOf]; omega⟩
          · rw [hbt] at HBIT HSU
            have hb1 : (bits BinOp.and IntKind.u16 ((wh : Int) / 2 ^ i) 1 == 1) = true := HBIT.out.symm
            obtain ⟨gb, go, rfl, hgb2, hgc⟩ := HSr.out.2.2.1.2.2 (by omega)
            obtain ⟨e0, e1, e2⟩ := entry_at hgb2 (Below.refl _ _) hgc (show i < (mvE k).length by rw [mvE_len]; exact hlt)
            rw [mvE_at] at e0 e1 e2
            dsimp only at e0 e1 e2
            have hgX : X < gb := HSr.out.2.2.2.2.2.1 gb ⟨gb, go, rfl, by omega, rfl⟩
            have hgY : gb < Y := by
              obtain ⟨b9, o9, e9, h9, _⟩ := HS5.out.2.2.1.2.2 (by omega)
              cases e9; have := HY.out; omega
            have hi0 : (0 : Int) ≤ (i : Int) := by omega
            clear hbt hgc hP hBi
            go_wp2
            have xd2 : wr.drew.cell? ⟨Y, 2, none⟩ = _ := x2
            have pd2 : wr.drew.cell? ⟨X, 2, none⟩ = _ := p2
            have ed0 : wr.drew.cell? ⟨gb, go + i * 3, none⟩ = _ := e0
            have ed1 : wr.drew.cell? ⟨gb, go + i * 3 + 1, none⟩ = _ := e1
            have ed2 : wr.drew.cell? ⟨gb, go + i * 3 + 2, none⟩ = _ := e2
            have he2 := ((bel_alloc (Below.refl wr.drew.heap.size wr.drew) (.cells [.int .i64 (4 + (i : Int)), .int .i64 2, .string ⟨#[]⟩].toArray 57)).cell (p := ⟨Y, 2, none⟩) hYl).trans xd2
            have hf2 := he2
            go_region_law (first | ((refine step_append_lies _ (by rfl) _ _ _ (by rfl) (Y + 1) 57 j0 (.agg #[.int .i64 0, .int .i64 0, .string ⟨#[]⟩]) 3 32 Try.underlying29 hj hy0 hy1 hy2 rfl (by omega) v L.length (entryCells L) (by rfl) (by first | exact (hrow.alloc _) | exact (hrow.alloc _).drew | exact (hrow.drew.alloc _)) ⟨wr.heap.size, 0, none⟩ 1 1 [.int .i64 (4 + (i : Int)), .int .i64 2, .string ⟨#[]⟩] (by rfl) (by rfl) (by first | exact news_new _ _ _ | exact World.news_of_block (cs := [.int .i64 (4 + (i : Int)), .int .i64 2, .string ⟨#[]⟩].toArray) (World.alloc_heap_new _ _)) (by simp [Value.oneCell']) (by omega) (by unfold maxLen; omega) (by omega) (by simp; omega) _ rfl ?_); intro g1 c1 w4 hown4 hgrow4 hat4 hlt4; obtain ⟨hX9, hin9⟩ := boxE_append (e := mvEnt i) HIN.out (by first | exact bel_alloc (Below.refl wr.heap.size wr) _ | exact (bel_alloc (Below.refl wr.heap.size wr) _).drew | exact bel_alloc (Below.refl wr.heap.size wr).drew _) hown4 hgrow4; have cx9 : w4.cell? ⟨Y, 2, none⟩ = some v := cell_of_row _ _ 2 _ _ _ hX9; have fx9 : w4.frozen? ⟨Y, 2, none⟩ = false := frozen_of_row _ _ 2 _ _ hX9))
            all_goals
              clear e0 e1 e2 xd2 pd2 ed0 ed1 ed2 he2 hf2 x2 xf2 p2 hb1 hat4 hlt4
              go_wp2
              exact ⟨⟨i + 1, _, by omega, by go_num, by have e := HSU.out; rw [if_pos trivial] at e; rw [e]; exact hin9⟩, by simp [intOf]; omega⟩
        · obtain rfl : k = i := by omega
          have HSr := Lib.hid (HS5.out.below (by rw [← HY.out]; exact hbx.1))
          have HSr1 := Lib.hid (show LgK w d q ⟨mvG (id : Int) k, mvF k⟩ wr from HSr.out.1)
          obtain ⟨fa, fc, rfl, hfc, hfr⟩ := rowV_own hbx.2.2.1
          obtain ⟨ml, hml⟩ : ∃ ml, ml = (mvM (bitW wh) k).length := ⟨_, rfl⟩
          rw [← hml] at hfc hfr hbx
          have HFR := Lib.hid hfr
          have HFC := Lib.hid hfc
          have HPY := Lib.hid (show wr.heap[Y]? = some (.cells #[.int .i64 (id : Int), .int .i64 6, (.slice fa ml fc), .int .i64 0, .int .i64 0, .int .i64 0, .int .i64 3, .int .i64 1, .bool true, .bool false] 39 (0, 0)) from hbx.2.1)
          have HBx := Lib.hid (show Below w.heap.size w wr from HSr.out.1.2.1)
          have hdY : d < Y ∧ q < Y := by have h1 := HS5.out.2.1; have h2 := heap_lt h1; have h3 := HS5.out.2.2.2; rw [← HY.out] at h2; omega
          have HDY := Lib.hid hdY
          clear hbx hfc hfr hdY hlt hi
          have GG := Lib.hid (fun W F (h : LgK w d q ⟨mvG (id : Int) k, F⟩ W) => (show Calls Try.prog 17 #[.pointer (some ⟨d, 0, none⟩)] W (fun e w' => ∃ va vc, e = .returned (.agg #[.int .i64 (id : Int), .int .i64 4, .int .i64 1, .int .i64 5, .int .i64 0, .int .i64 0, .slice va k vc]) ∧ Below W.heap.size W w') from (pgroupS_any h.1).mono (fun e w' ⟨va, vc, h1, _, _, h2⟩ => ⟨va, vc, by rw [h1]; show Ending.returned (.agg #[_, _, _, _, _, _, .slice va (mvE k).length vc]) = _; rw [mvE_len], h2⟩)))
          have MI := Lib.hid (mvG_isSp hid9 hk6)
          have GS := Lib.hid (fun W F (h : LgK w d q ⟨mvG (id : Int) k, F⟩ W) (hI : isSp (mvG (id : Int) k) = true) => (show Calls Try.prog 19 #[.pointer (some ⟨d, 0, none⟩)] W (fun e w' => ∃ va vc, e = .returned (.slice va (spotsL (mvG (id : Int) k) F).length vc) ∧ RowV w' va (spotsL (mvG (id : Int) k) F).length 4 (spotCells (spotsL (mvG (id : Int) k) F)) ∧ Below W.heap.size W w') from (pspotsS_any h.1 hI).mono (fun e w' ⟨va, vc, h1, h2, _, h3⟩ => ⟨va, vc, h1, h2, h3⟩)))
          have GD4 := Lib.hid (fun W (h : mvS w (id : Int) d q X k va vc ⟨mvG (id : Int) k, mvF k⟩ W) (hr : RowV W fa ml 3 (entryCells (mvM (bitW wh) k))) (hfc : ml ≤ fc) => (show Calls Try.prog 13 #[.pointer (some ⟨d, 0, none⟩), .agg #[.int .i64 (id : Int), .int .i64 6, (.slice fa ml fc), .int .i64 0, .int .i64 0, .int .i64 0, .int .i64 3, .int .i64 1, .bool true, .bool false], .agg #[.int .i64 9, .int .i64 99]] W (fun e w' => (∃ v, e = .returned v) ∧ (∃ F, LgK w d q ⟨mvG (id : Int) k, F⟩ w' ∧ F.length ≤ 30 ∧ MvS (spotsL (mvG (id : Int) k) F) (id : Int) (bitW wh) true false k) ∧ FrameT (fun k => k = d ∨ k = q) W w') from by subst hml; exact mvD4 hid9 hk6 (bitW wh) true false fa fc h hr hfc))
          have HNO := Lib.hid (fun j (hj : j < k) (h0 : (mvM (bitW wh) k).length = 0) => (show bitW wh j = false from by
            cases hb : bitW wh j
            · rfl
            · have h9 : mvEnt j ∈ mvM (bitW wh) k := mvM_mem.2 ⟨j, hj, hb, rfl⟩
              rw [List.length_eq_zero_iff.1 h0] at h9
              cases h9))
          rw [← hml] at HNO
          clear hml
          go_wp2_with (first
            | (go_at_call 17; ((with_reducible refine (GG.out _ _ HSr1.out).mono ?_); rintro e w6 ⟨ga, gc, rfl, hB6⟩; have hA6 := bel2 hB6 (bel_alloc (Below.refl w6.heap.size w6) (.cells #[.int .i64 (id : Int), .int .i64 4, .int .i64 1, .int .i64 5, .int .i64 0, .int .i64 0, .slice ga k gc] 31)); have hg6 := World.alloc_heap_new w6 (.cells #[.int .i64 (id : Int), .int .i64 4, .int .i64 1, .int .i64 5, .int .i64 0, .int .i64 0, .slice ga k gc] 31); have hp6 := (hA6.block _ (heap_lt HPY.out)).trans HPY.out; have HS6 := Lib.hid (HSr.out.below hA6); have HR6 := Lib.hid (HFR.out.below hA6); have HG6 := Lib.hid hg6; have HP6 := Lib.hid hp6; have HBX6 := Lib.hid (bel2 HBx.out hA6); have HY6 := Lib.hid (show Y < w6.heap.size from Nat.lt_of_lt_of_le (heap_lt HPY.out) hB6.size); obtain ⟨p0, p1, p2, p3, p4, p5, p6, p7, p8, p9⟩ := arr10p hp6; clear hA6 hB6 hg6 hp6 HSr HSr1))
            | (go_at_call 13; ((with_reducible refine (GD4.out _ HS6.out HR6.out HFC.out).mono ?_); rintro e w7 ⟨⟨v7, rfl⟩, ⟨F, hK7, hF30, hMX⟩, hFr⟩; have HK7 := Lib.hid hK7; have HMX := Lib.hid hMX; have HF30 := Lib.hid hF30; have hg7 := hFr.get HG6.out (by have := HDY.out; have := HY6.out; omega); have HP7 := Lib.hid (hFr.get HP6.out (by have := HDY.out; omega)); have HG7 := Lib.hid hg7; have g1 : w7.cell? ⟨w6.heap.size, 1, none⟩ = some (.int .i64 4) := cell_of_row _ _ 1 _ _ _ hg7; clear HS6 HR6 HG6 HP6 hK7 hMX hF30 hFr hg7 p0 p1 p2 p3 p4 p5 p6 p7 p8 p9)))
          have KC := Lib.hid (fun W (hB : Below w7.heap.size w7 W) => (show W.cell? ⟨w6.heap.size, 1, none⟩ = some (.int .i64 4) from cell_of_row _ _ 1 _ _ _ ((hB.block _ (heap_lt HG7.out)).trans HG7.out)))
          go_region_held3 (fun W' => W'.cell? ⟨w6.heap.size, 1, none⟩ = some (.int .i64 4)) (go_keep) (first
            | (go_at_call 17; ((with_reducible refine (GG.out _ F ?hk).mono ?_); (case hk => first | exact HK7.out.below hX8 | exact HK7.out.below hX8.drew); rintro e w9 ⟨va9, vc9, rfl, hB9⟩; have hX9 : Below w7.heap.size w7 w9 := (by first | exact bel2 hX8 hB9 | exact bel2 hX8.drew hB9); have g9 := KC.out w9 hX9; have hfd4 := fun W => fieldGM4 (id : Int) 4 1 5 0 0 (.slice va9 k vc9) W))
            | (go_at_call 17; ((with_reducible refine (GG.out _ F ?hk).mono ?_); (case hk => first | exact HK7.out | exact HK7.out.below (Below.refl _ _).drew); rintro e w8 ⟨va8, vc8, rfl, hB8⟩; have hX8 : Below w7.heap.size w7 w8 := (by first | exact hB8 | exact bel2 (Below.refl _ _).drew hB8); have g8 := KC.out w8 hX8; have hfd := fun W => fieldGM1 (id : Int) 4 1 5 0 0 (.slice va8 k vc8) W)))
          have HX9 := Lib.hid hX9
          clear hX9 hX8 g8 g9 g1 hfd hfd4
          go_wp2_with (go_at_call 19; ((with_reducible refine (GS.out _ F (HK7.out.below HX9.out) MI.out).mono ?_); rintro e w10 ⟨sa, sc, rfl, hX, hB10⟩; have hB7 := bel2 HX9.out hB10; have HB10 := Lib.hid (show Below w.heap.size w w10 from (HK7.out.below hB7).2.1); have y2 : w10.cell? ⟨Y, 2, none⟩ = some (.slice fa ml fc) := cell_of_row _ _ 2 _ _ _ ((hB7.block _ (heap_lt HP7.out)).trans HP7.out); clear hB7 hB10 HX9; generalize spotsL (mvG (id : Int) k) F = SX at *; have HX := Lib.hid hX; clear hX; have hl := HMX.out.len; rw [hl]; clear hl))
          obtain ⟨sb, so, rfl, hsb, hsc⟩ := spotRow_at HX.out (by have := HMX.out.len; omega)
          have HXC := Lib.hid (fun W (hB : Below w10.heap.size w10 W) n (hn : n < SX.length) => (show W.cell? ⟨sb, so + n * 4 + 1, none⟩ = some (.int .i64 SX[n].i) ∧ W.cell? ⟨sb, so + n * 4 + 2, none⟩ = some (.int .i64 SX[n].s) ∧ W.cell? ⟨sb, so + n * 4 + 3, none⟩ = some (.int .i64 SX[n].p) from ⟨(hB.cell (p := ⟨sb, so + n * 4 + 1, none⟩) hsb).trans (hsc n hn).2.1, (hB.cell (p := ⟨sb, so + n * 4 + 2, none⟩) hsb).trans (hsc n hn).2.2.1, (hB.cell (p := ⟨sb, so + n * 4 + 3, none⟩) hsb).trans (hsc n hn).2.2.2⟩))
          clear hsb hsc y2 HX GG GS GD4
          clear HNO
          go_loopw [20] (fun s20 wr => ∃ n3 : Nat, n3 ≤ k + 2 ∧ s20 = .int .i64 n3 ∧ Below w10.heap.size w10 wr) (fun s20 _ => k + 2 - (intOf s20).toNat)
          case atStart => exact ⟨0, by omega, rfl, Below.refl _ _⟩
          case round =>
            obtain ⟨n3, hn3, rfl, hB⟩ := hrel
            by_cases hlt : n3 < k + 2
            · obtain ⟨c1, c2, c3⟩ := HXC.out wr hB n3 (by have := HMX.out.len; omega)
              have hX3 : n3 < SX.length := by have := HMX.out.len; omega
              have hn : (n3 : Int) < (k : Int) + 2 := by omega
              have hn9 : (0 : Int) ≤ (n3 : Int) := by omega
              by_cases h0 : n3 = 0
              · have e1 : SX[n3].i = -1 := by
                  have := HMX.out.ix n3 (by have := HMX.out.len; omega)
                  rw [this, if_pos h0]
                have e2 := HMX.out.pl n3 (by have := HMX.out.len; omega)
                rw [show mvW (bitW wh) true false n3 = false from by rw [h0]; rfl] at e2
                replace e2 : SX[n3].s = 1 := by simpa using e2
                rw [e1] at c1
                rw [e2] at c2
                skip
                generalize SX[n3].p = pp at *
                clear e1 e2 
                clear hX3
                replace c3 : wr.cell? ⟨sb, so + n3 * 4 + 2 + 1, none⟩ = _ := c3
                clear h0 hlt hn9
                have heq : ∀ W, (binOp .eql 41 (.agg #[.int .i64 1, .int .i64 pp]) (.agg #[.int .i64 9, .int .i64 99])).run Try.prog W = .ok (.bool false) W := fun W => by rw [eqlPl]; rfl
                go_wp2
                exact ⟨⟨n3 + 1, by omega, by go_num, hB⟩, by simp [intOf]; omega⟩
              by_cases h1 : n3 = 1
              · have e1 : SX[n3].i = 0 := by
                  have := HMX.out.ix n3 (by have := HMX.out.len; omega)
                  rw [this, if_neg h0, if_pos h1]
                have e2 := HMX.out.pl n3 (by have := HMX.out.len; omega)
                rw [show mvW (bitW wh) true false n3 = true from by rw [h1]; rfl] at e2
                have e23 : SX[n3].s = 9 ∧ SX[n3].p = 99 := (by simpa using e2); clear e2; obtain ⟨e2, e3⟩ := e23
                rw [e1] at c1
                rw [e2] at c2
                rw [e3] at c3
                generalize SX[n3].p = pp at *
                clear e1 e2 e3
                clear hX3
                replace c3 : wr.cell? ⟨sb, so + n3 * 4 + 2 + 1, none⟩ = _ := c3
                clear h0 h1 hlt hn9
                have heq : ∀ W, (binOp .eql 41 (.agg #[.int .i64 9, .int .i64 99]) (.agg #[.int .i64 9, .int .i64 99])).run Try.prog W = .ok (.bool true) W := fun W => by rw [eqlPl]; rfl
                go_wp2
                exact ⟨⟨n3 + 1, by omega, by go_num, hB⟩, by simp [intOf]; omega⟩
              obtain ⟨j, hj⟩ : ∃ j, n3 = j + 2 := ⟨n3 - 2, by omega⟩
              have hjk : j < k := by omega
              have HBIT := Lib.hid (show bitW wh j = (bits BinOp.and IntKind.u16 ((wh : Int) / 2 ^ j) 1 == 1) from rfl)
              cases hbj : bitW wh j
              · rw [hbj] at HBIT
                have hb1 : (bits BinOp.and IntKind.u16 ((wh : Int) / 2 ^ j) 1 == 1) = false := HBIT.out.symm
                have e1 : SX[n3].i = 4 + (j : Int) := by
                  have := HMX.out.ix n3 (by have := HMX.out.len; omega)
                  rw [this, if_neg (by omega), if_neg (by omega)]; omega
                have e2 := HMX.out.pl n3 (by have := HMX.out.len; omega)
                rw [show mvW (bitW wh) true false n3 = false from by rw [hj]; exact hbj] at e2
                replace e2 : SX[n3].s = 1 := by simpa using e2
                rw [e1] at c1
                rw [e2] at c2
                skip
                generalize SX[n3].p = pp at *
                clear e1 e2 
                clear hX3
                replace c3 : wr.cell? ⟨sb, so + n3 * 4 + 2 + 1, none⟩ = _ := c3
                clear h0 h1 hlt hn9
                have hj4 := Lib.hid hj
                clear hj HBIT hbj
                have heq : ∀ W, (binOp .eql 41 (.agg #[.int .i64 1, .int .i64 pp]) (.agg #[.int .i64 9, .int .i64 99])).run Try.prog W = .ok (.bool false) W := fun W => by rw [eqlPl]; rfl
                have hw4 : IntKind.i64.wrap (4 + (j : Int) - 4) = (j : Int) := by rw [IntWalk.i64_in _ (by omega)]; omega
                have hn1 : ¬ (4 + (j : Int) = -1) := by omega
                have hn0 : ¬ (4 + (j : Int) = 0) := by omega
                go_wp2
                exact ⟨⟨n3 + 1, by omega, by go_num, hB⟩, by simp [intOf]; omega⟩
              · rw [hbj] at HBIT
                have hb1 : (bits BinOp.and IntKind.u16 ((wh : Int) / 2 ^ j) 1 == 1) = true := HBIT.out.symm
                have e1 : SX[n3].i = 4 + (j : Int) := by
                  have := HMX.out.ix n3 (by have := HMX.out.len; omega)
                  rw [this, if_neg (by omega), if_neg (by omega)]; omega
                have e2 := HMX.out.pl n3 (by have := HMX.out.len; omega)
                rw [show mvW (bitW wh) true false n3 = true from by rw [hj]; exact hbj] at e2
                have e23 : SX[n3].s = 9 ∧ SX[n3].p = 99 := (by simpa using e2); clear e2; obtain ⟨e2, e3⟩ := e23
                rw [e1] at c1
                rw [e2] at c2
                rw [e3] at c3
                generalize SX[n3].p = pp at *
                clear e1 e2 e3
                clear hX3
                replace c3 : wr.cell? ⟨sb, so + n3 * 4 + 2 + 1, none⟩ = _ := c3
                clear h0 h1 hlt hn9
                have hj4 := Lib.hid hj
                clear hj HBIT hbj
                have heq : ∀ W, (binOp .eql 41 (.agg #[.int .i64 9, .int .i64 99]) (.agg #[.int .i64 9, .int .i64 99])).run Try.prog W = .ok (.bool true) W := fun W => by rw [eqlPl]; rfl
                have hw4 : IntKind.i64.wrap (4 + (j : Int) - 4) = (j : Int) := by rw [IntWalk.i64_in _ (by omega)]; omega
                have hn1 : ¬ (4 + (j : Int) = -1) := by omega
                have hn0 : ¬ (4 + (j : Int) = 0) := by omega
                go_wp2
                exact ⟨⟨n3 + 1, by omega, by go_num, hB⟩, by simp [intOf]; omega⟩
            · obtain rfl : n3 = k + 2 := by omega
              have hn : ¬ (((k + 2 : Nat) : Int) < (k : Int) + 2) := by omega
              go_wp2
              go_ret
              exact ⟨by simp, bel2 HB10.out hB⟩



set_option maxRecDepth 100000 in
set_option maxHeartbeats 4000000 in
theorem mv_true_true (id : Nat) (hid : id < 256) (n : Nat) (hn : n < 256) (wh : Nat) (hwh : wh < 65536) (w : World) : Calls Try.prog 5 #[.int .u8 id, .int .u8 n, .bool true, .bool true, .int .u16 wh] w fun e w' => e = .returned (.bool true) ∧ Below w.heap.size w w' := by
  obtain ⟨j0, hj, hy0, hy1, hy2⟩ := info_parts infoEntry
  have GK := Lib.hid known13_any
  have hid9 : 0 ≤ (id : Int) ∧ (id : Int) ≤ 999 := ⟨by omega, by omega⟩
  obtain ⟨k, hk, hk1, hk6⟩ : ∃ k : Nat, (k : Int) = (n : Int) % 6 + 1 ∧ 1 ≤ k ∧ k ≤ 6 := ⟨n % 6 + 1, by omega, by omega, by omega⟩
  have GN := Lib.hid (fun W (hB : Below w.heap.size w W) => pnewK_any hB (id : Int))
  go_enter Try.func5, Try.ntmps5
  go_wp2_with (first
    | (go_at_call 8; ((with_reducible refine (GK.out _).mono ?_); rintro e w1 ⟨rfl, hB1⟩))
    | (go_at_call 9; ((with_reducible refine (GN.out _ hB1).mono ?_); rintro e w2 ⟨d, q, rfl, hK, hB2, hq1, hq2⟩)))
  rw [← hk]
  have hb0 : boxE w2 w2.heap.size [.int .i64 (id : Int), .int .i64 1] [.int .i64 0, .int .i64 0, .int .i64 0, .int .i64 0, .int .i64 0, .bool false, .bool false] (.slice none 0 0) [] (w2.alloc (.cells #[.int .i64 (id : Int), .int .i64 1, (.slice none 0 0), .int .i64 0, .int .i64 0, .int .i64 0, .int .i64 0, .int .i64 0, .bool false, .bool false] 39)) := boxE_new w2 [.int .i64 (id : Int), .int .i64 1] [.int .i64 0, .int .i64 0, .int .i64 0, .int .i64 0, .int .i64 0, .bool false, .bool false]
  obtain ⟨X, hX⟩ : ∃ X, X = w2.heap.size := ⟨_, rfl⟩
  have HLT := Lib.hid (show d < w2.heap.size ∧ q < d from ⟨hK.1.lt.1, hq2⟩)
  have HX := Lib.hid hX
  rw [← hX] at hb0 ⊢
  generalize w2.alloc (.cells #[.int .i64 (id : Int), .int .i64 1, (.slice none 0 0), .int .i64 0, .int .i64 0, .int .i64 0, .int .i64 0, .int .i64 0, .bool false, .bool false] 39) = wa at *
  have HB0 := Lib.hid (show boxE w2 X [.int .i64 (id : Int), .int .i64 1] [.int .i64 0, .int .i64 0, .int .i64 0, .int .i64 0, .int .i64 0, .bool false, .bool false] (.slice none 0 0) [] wa from hb0)
  have HK := Lib.hid hK
  have HKK := Lib.hid hk
  have HBW := Lib.hid hK.2.1
  clear hb0 hK hB2 hq1 hq2 hB1 hX hk GN
  go_loopw [14] (fun s14 wr => ∃ (i : Nat) (v : Value), i ≤ k ∧ s14 = .int .i64 i ∧ boxE w2 X [.int .i64 (id : Int), .int .i64 1] [.int .i64 0, .int .i64 0, .int .i64 0, .int .i64 0, .int .i64 0, .bool false, .bool false] v (mvE i) wr) (fun s14 _ => k - (intOf s14).toNat)
  case atStart => exact ⟨0, _, by omega, rfl, HB0.out⟩
  case round =>
    obtain ⟨i, v, hi, rfl, hbx⟩ := hrel
    clear HB0 wa
    by_cases hlt : i < k
    · have HIN := Lib.hid hbx
      obtain ⟨hBi, hP, hrow, hs⟩ := hbx
      rw [mvE_len] at hrow
      have c2 : wr.cell? ⟨X, 2, none⟩ = some v := cell_of_row _ _ 2 _ _ _ hP
      have hik : (i : Int) < (k : Int) := by omega
      clear hBi hP
      go_wp2_with (at_builtin; refine wpList_append_own _ rfl _ _ 29 rfl (X + 1) 57 j0 (.agg #[.int .i64 0, .int .i64 0, .string ⟨#[]⟩]) 3 32 Try.underlying29 hj hy0 hy1 hy2 rfl (by decide) _ _ _ rfl (hrow.alloc _) ⟨wr.heap.size, 0, none⟩ 1 1 [.int .i64 (4 + (i : Int)), .int .i64 2, .string ⟨#[]⟩] rfl rfl (news_new _ _ _) (by simp [Value.oneCell']) (by unfold maxLen; omega) (by omega) (by simp; omega) ?_; intro v' w9 hown9 hgrow _; obtain ⟨g9, cap9, rfl⟩ := ownsRow_succ hown9; obtain ⟨hX9, hin9⟩ := boxE_append (e := mvEnt i) HIN.out (bel_alloc (Below.refl wr.heap.size wr) (.cells #[.int .i64 (4 + (i : Int)), .int .i64 2, .string ⟨#[]⟩] 57)) (by rw [mvE_len]; exact hown9) hgrow; have cx9 : w9.cell? ⟨X, 2, none⟩ = some v := cell_of_row _ _ 2 _ _ _ hX9; have fx9 : w9.frozen? ⟨X, 2, none⟩ = false := frozen_of_row _ _ 2 _ _ hX9)
      go_roundw
      case rel => exact ⟨i + 1, _, by omega, by go_num, by rw [mvE_succ]; exact hin9⟩
      case measure => simp [intOf]; omega
    · obtain rfl : k = i := by omega
      obtain ⟨va, vc, rfl, hS⟩ := mvS_of HK.out HLT.out.2 HLT.out.1 (by rw [← HX.out]; exact hbx)
      rw [← HX.out] at hS
      have HS := Lib.hid hS
      clear hS hbx HK HLT HX hlt hi
      have GD1 := Lib.hid (fun W h => mvD1 (w := w) (W := W) (id := (id : Int)) (d := d) (q := q) (X := X) (k := k) (va := va) (vc := vc) hid9 hk6 h)
      have GD2 := Lib.hid (fun W h => mvD2 (w := w) (W := W) (id := (id : Int)) (d := d) (q := q) (X := X) (k := k) (va := va) (vc := vc) hid9 hk6 h)
      have GD3 := Lib.hid (fun W h => mvD3 (w := w) (W := W) (id := (id : Int)) (d := d) (q := q) (X := X) (k := k) (va := va) (vc := vc) hid9 hk1 hk6 h)
      dsimp only [mvP] at GD3
      go_wp2_with (first
        | (go_at_call 13; ((with_reducible refine (GD1.out _ HS.out).mono ?_); rintro e w3 ⟨⟨v3, rfl⟩, hS3⟩; have HS3 := Lib.hid hS3; clear hS3 HS))
        | (go_at_call 13; ((with_reducible refine (GD2.out _ HS3.out).mono ?_); rintro e w4 ⟨⟨v4, rfl⟩, hS4⟩; have HS4 := Lib.hid hS4; obtain ⟨p0, p1, p2, p3, p4, p5, p6, p7, p8, p9⟩ := arr10p hS4.2.1; clear hS4 HS3))
        | (go_at_call 13; ((with_reducible refine (GD3.out _ HS4.out).mono ?_); rintro e w5 ⟨⟨v5, rfl⟩, hS5⟩; have HS5 := Lib.hid hS5; clear hS5 HS4 p0 p1 p2 p3 p4 p5 p6 p7 p8 p9)))
      clear GD1 GD2 GD3
      have hb0 : boxE w5 w5.heap.size [.int .i64 (id : Int), .int .i64 6] [.int .i64 5, .int .i64 0, .int .i64 0, .int .i64 3, .int .i64 1, .bool true, .bool true] (.slice none 0 0) [] (w5.alloc (.cells #[.int .i64 (id : Int), .int .i64 6, (.slice none 0 0), .int .i64 5, .int .i64 0, .int .i64 0, .int .i64 3, .int .i64 1, .bool true, .bool true] 39)) := boxE_new w5 [.int .i64 (id : Int), .int .i64 6] [.int .i64 5, .int .i64 0, .int .i64 0, .int .i64 3, .int .i64 1, .bool true, .bool true]
      obtain ⟨Y, hY⟩ : ∃ Y, Y = w5.heap.size := ⟨_, rfl⟩
      have HY := Lib.hid hY
      rw [← hY] at hb0 ⊢
      generalize w5.alloc (.cells #[.int .i64 (id : Int), .int .i64 6, (.slice none 0 0), .int .i64 5, .int .i64 0, .int .i64 0, .int .i64 3, .int .i64 1, .bool true, .bool true] 39) = wa at *
      have HB2 := Lib.hid hb0
      clear hb0 hY
      go_loopw [16] (fun s16 wr => ∃ (i : Nat) (v : Value), i ≤ k ∧ s16 = .int .i64 i ∧ boxE w5 Y [.int .i64 (id : Int), .int .i64 6] [.int .i64 5, .int .i64 0, .int .i64 0, .int .i64 3, .int .i64 1, .bool true, .bool true] v (mvM (bitW wh) i) wr) (fun s16 _ => k - (intOf s16).toNat)
      case atStart => exact ⟨0, _, by omega, rfl, HB2.out⟩
      case round =>
        obtain ⟨i, v, hi, rfl, hbx⟩ := hrel
        clear HB2 wa
        by_cases hlt : i < k
        · have hik : (i : Int) < (k : Int) := by omega
          have HIN := Lib.hid hbx
          obtain ⟨hBi, hP, hrow, hs⟩ := hbx
          have HSr := Lib.hid (HS5.out.below (by rw [← HY.out]; exact hBi))
          have x2 : wr.cell? ⟨Y, 2, none⟩ = some v := cell_of_row _ _ 2 _ _ _ hP
          have xf2 : wr.frozen? ⟨Y, 2, none⟩ = false := frozen_of_row _ _ 2 _ _ hP
          have p2 : wr.cell? ⟨X, 2, none⟩ = some (.slice va k vc) := cell_of_row _ _ 2 _ _ _ HSr.out.2.1
          have hLl := mvM_len (bitW wh) i
          have HSU := Lib.hid (mvM_succ (bitW wh) i)
          have HBIT := Lib.hid (show bitW wh i = (bits BinOp.and IntKind.u16 ((wh : Int) / 2 ^ i) 1 == 1) from rfl)
          have hYl : Y < wr.heap.size := heap_lt hP
          generalize mvM (bitW wh) i = L at *
          cases hbt : bitW wh i
          · rw [hbt] at HBIT HSU
            have hb1 : (bits BinOp.and IntKind.u16 ((wh : Int) / 2 ^ i) 1 == 1) = false := HBIT.out.symm
            clear hbt hBi hP hrow hs HSr x2 xf2 p2
            go_wp2
            exact ⟨⟨i + 1, v, by omega, by go_num, by have e := HSU.out; simp only [Bool.false_eq_true, if_false] at e; rw [e]; exact HIN.out⟩, by simp [intOf]; omega⟩
          · rw [hbt] at HBIT HSU
            have hb1 : (bits BinOp.and IntKind.u16 ((wh : Int) / 2 ^ i) 1 == 1) = true := HBIT.out.symm
            obtain ⟨gb, go, rfl, hgb2, hgc⟩ := HSr.out.2.2.1.2.2 (by omega)
            obtain ⟨e0, e1, e2⟩ := entry_at hgb2 (Below.refl _ _) hgc (show i < (mvE k).length by rw [mvE_len]; exact hlt)
            rw [mvE_at] at e0 e1 e2
            dsimp only at e0 e1 e2
            have hgX : X < gb := HSr.out.2.2.2.2.2.1 gb ⟨gb, go, rfl, by omega, rfl⟩
            have hgY : gb < Y := by
              obtain ⟨b9, o9, e9, h9, _⟩ := HS5.out.2.2.1.2.2 (by omega)
              cases e9; have := HY.out; omega
            have hi0 : (0 : Int) ≤ (i : Int) := by omega
            clear hbt hgc hP hBi
            go_wp2
            have xd2 : wr.drew.cell? ⟨Y, 2, none⟩ = _ := x2
            have pd2 : wr.drew.cell? ⟨X, 2, none⟩ = _ := p2
            have ed0 : wr.drew.cell? ⟨gb, go + i * 3, none⟩ = _ := e0
            have ed1 : wr.drew.cell? ⟨gb, go + i * 3 + 1, none⟩ = _ := e1
            have ed2 : wr.drew.cell? ⟨gb, go + i * 3 + 2, none⟩ = _ := e2
            have he2 := ((bel_alloc (Below.refl wr.drew.heap.size wr.drew) (.cells [.int .i64 (4 + (i : Int)), .int .i64 2, .string ⟨#[]⟩].toArray 57)).cell (p := ⟨Y, 2, none⟩) hYl).trans xd2
            have hf2 := he2
            go_region_law (first | ((refine step_append_lies _ (by rfl) _ _ _ (by rfl) (Y + 1) 57 j0 (.agg #[.int .i64 0, .int .i64 0, .string ⟨#[]⟩]) 3 32 Try.underlying29 hj hy0 hy1 hy2 rfl (by omega) v L.length (entryCells L) (by rfl) (by first | exact (hrow.alloc _) | exact (hrow.alloc _).drew | exact (hrow.drew.alloc _)) ⟨wr.heap.size, 0, none⟩ 1 1 [.int .i64 (4 + (i : Int)), .int .i64 2, .string ⟨#[]⟩] (by rfl) (by rfl) (by first | exact news_new _ _ _ | exact World.news_of_block (cs := [.int .i64 (4 + (i : Int)), .int .i64 2, .string ⟨#[]⟩].toArray) (World.alloc_heap_new _ _)) (by simp [Value.oneCell']) (by omega) (by unfold maxLen; omega) (by omega) (by simp; omega) _ rfl ?_); intro g1 c1 w4 hown4 hgrow4 hat4 hlt4; obtain ⟨hX9, hin9⟩ := boxE_append (e := mvEnt i) HIN.out (by first | exact bel_alloc (Below.refl wr.heap.size wr) _ | exact (bel_alloc (Below.refl wr.heap.size wr) _).drew | exact bel_alloc (Below.refl wr.heap.size wr).drew _) hown4 hgrow4; have cx9 : w4.cell? ⟨Y, 2, none⟩ = some v := cell_of_row _ _ 2 _ _ _ hX9; have fx9 : w4.frozen? ⟨Y, 2, none⟩ = false := frozen_of_row _ _ 2 _ _ hX9))
            all_goals
              clear e0 e1 e2 xd2 pd2 ed0 ed1 ed2 he2 hf2 x2 xf2 p2 hb1 hat4 hlt4
              go_wp2
              exact ⟨⟨i + 1, _, by omega, by go_num, by have e := HSU.out; rw [if_pos trivial] at e; rw [e]; exact hin9⟩, by simp [intOf]; omega⟩
        · obtain rfl : k = i := by omega
          have HSr := Lib.hid (HS5.out.below (by rw [← HY.out]; exact hbx.1))
          have HSr1 := Lib.hid (show LgK w d q ⟨mvG (id : Int) k, mvF k⟩ wr from HSr.out.1)
          obtain ⟨fa, fc, rfl, hfc, hfr⟩ := rowV_own hbx.2.2.1
          obtain ⟨ml, hml⟩ : ∃ ml, ml = (mvM (bitW wh) k).length := ⟨_, rfl⟩
          rw [← hml] at hfc hfr hbx
          have HFR := Lib.hid hfr
          have HFC := Lib.hid hfc
          have HPY := Lib.hid (show wr.heap[Y]? = some (.cells #[.int .i64 (id : Int), .int .i64 6, (.slice fa ml fc), .int .i64 5, .int .i64 0, .int .i64 0, .int .i64 3, .int .i64 1, .bool true, .bool true] 39 (0, 0)) from hbx.2.1)
          have HBx := Lib.hid (show Below w.heap.size w wr from HSr.out.1.2.1)
          have hdY : d < Y ∧ q < Y := by have h1 := HS5.out.2.1; have h2 := heap_lt h1; have h3 := HS5.out.2.2.2; rw [← HY.out] at h2; omega
          have HDY := Lib.hid hdY
          clear hbx hfc hfr hdY hlt hi
          have GG := Lib.hid (fun W F (h : LgK w d q ⟨mvG (id : Int) k, F⟩ W) => (show Calls Try.prog 17 #[.pointer (some ⟨d, 0, none⟩)] W (fun e w' => ∃ va vc, e = .returned (.agg #[.int .i64 (id : Int), .int .i64 4, .int .i64 1, .int .i64 5, .int .i64 0, .int .i64 0, .slice va k vc]) ∧ Below W.heap.size W w') from (pgroupS_any h.1).mono (fun e w' ⟨va, vc, h1, _, _, h2⟩ => ⟨va, vc, by rw [h1]; show Ending.returned (.agg #[_, _, _, _, _, _, .slice va (mvE k).length vc]) = _; rw [mvE_len], h2⟩)))
          have MI := Lib.hid (mvG_isSp hid9 hk6)
          have GS := Lib.hid (fun W F (h : LgK w d q ⟨mvG (id : Int) k, F⟩ W) (hI : isSp (mvG (id : Int) k) = true) => (show Calls Try.prog 19 #[.pointer (some ⟨d, 0, none⟩)] W (fun e w' => ∃ va vc, e = .returned (.slice va (spotsL (mvG (id : Int) k) F).length vc) ∧ RowV w' va (spotsL (mvG (id : Int) k) F).length 4 (spotCells (spotsL (mvG (id : Int) k) F)) ∧ Below W.heap.size W w') from (pspotsS_any h.1 hI).mono (fun e w' ⟨va, vc, h1, h2, _, h3⟩ => ⟨va, vc, h1, h2, h3⟩)))
          have GD4 := Lib.hid (fun W (h : mvS w (id : Int) d q X k va vc ⟨mvG (id : Int) k, mvF k⟩ W) (hr : RowV W fa ml 3 (entryCells (mvM (bitW wh) k))) (hfc : ml ≤ fc) => (show Calls Try.prog 13 #[.pointer (some ⟨d, 0, none⟩), .agg #[.int .i64 (id : Int), .int .i64 6, (.slice fa ml fc), .int .i64 5, .int .i64 0, .int .i64 0, .int .i64 3, .int .i64 1, .bool true, .bool true], .agg #[.int .i64 9, .int .i64 99]] W (fun e w' => (∃ v, e = .returned v) ∧ (∃ F, LgK w d q ⟨mvG (id : Int) k, F⟩ w' ∧ F.length ≤ 30 ∧ MvS (spotsL (mvG (id : Int) k) F) (id : Int) (bitW wh) true true k) ∧ FrameT (fun k => k = d ∨ k = q) W w') from by subst hml; exact mvD4 hid9 hk6 (bitW wh) true true fa fc h hr hfc))
          have HNO := Lib.hid (fun j (hj : j < k) (h0 : (mvM (bitW wh) k).length = 0) => (show bitW wh j = false from by
            cases hb : bitW wh j
            · rfl
            · have h9 : mvEnt j ∈ mvM (bitW wh) k := mvM_mem.2 ⟨j, hj, hb, rfl⟩
              rw [List.length_eq_zero_iff.1 h0] at h9
              cases h9))
          rw [← hml] at HNO
          clear hml
          go_wp2_with (first
            | (go_at_call 17; ((with_reducible refine (GG.out _ _ HSr1.out).mono ?_); rintro e w6 ⟨ga, gc, rfl, hB6⟩; have hA6 := bel2 hB6 (bel_alloc (Below.refl w6.heap.size w6) (.cells #[.int .i64 (id : Int), .int .i64 4, .int .i64 1, .int .i64 5, .int .i64 0, .int .i64 0, .slice ga k gc] 31)); have hg6 := World.alloc_heap_new w6 (.cells #[.int .i64 (id : Int), .int .i64 4, .int .i64 1, .int .i64 5, .int .i64 0, .int .i64 0, .slice ga k gc] 31); have hp6 := (hA6.block _ (heap_lt HPY.out)).trans HPY.out; have HS6 := Lib.hid (HSr.out.below hA6); have HR6 := Lib.hid (HFR.out.below hA6); have HG6 := Lib.hid hg6; have HP6 := Lib.hid hp6; have HBX6 := Lib.hid (bel2 HBx.out hA6); have HY6 := Lib.hid (show Y < w6.heap.size from Nat.lt_of_lt_of_le (heap_lt HPY.out) hB6.size); obtain ⟨p0, p1, p2, p3, p4, p5, p6, p7, p8, p9⟩ := arr10p hp6; clear hA6 hB6 hg6 hp6 HSr HSr1))
            | (go_at_call 13; ((with_reducible refine (GD4.out _ HS6.out HR6.out HFC.out).mono ?_); rintro e w7 ⟨⟨v7, rfl⟩, ⟨F, hK7, hF30, hMX⟩, hFr⟩; have HK7 := Lib.hid hK7; have HMX := Lib.hid hMX; have HF30 := Lib.hid hF30; have hg7 := hFr.get HG6.out (by have := HDY.out; have := HY6.out; omega); have HP7 := Lib.hid (hFr.get HP6.out (by have := HDY.out; omega)); have HG7 := Lib.hid hg7; have g1 : w7.cell? ⟨w6.heap.size, 1, none⟩ = some (.int .i64 4) := cell_of_row _ _ 1 _ _ _ hg7; clear HS6 HR6 HG6 HP6 hK7 hMX hF30 hFr hg7 p0 p1 p2 p3 p4 p5 p6 p7 p8 p9)))
          have KC := Lib.hid (fun W (hB : Below w7.heap.size w7 W) => (show W.cell? ⟨w6.heap.size, 1, none⟩ = some (.int .i64 4) from cell_of_row _ _ 1 _ _ _ ((hB.block _ (heap_lt HG7.out)).trans HG7.out)))
          go_region_held3 (fun W' => W'.cell? ⟨w6.heap.size, 1, none⟩ = some (.int .i64 4)) (go_keep) (first
            | (go_at_call 17; ((with_reducible refine (GG.out _ F ?hk).mono ?_); (case hk => first | exact HK7.out.below hX8 | exact HK7.out.below hX8.drew); rintro e w9 ⟨va9, vc9, rfl, hB9⟩; have hX9 : Below w7.heap.size w7 w9 := (by first | exact bel2 hX8 hB9 | exact bel2 hX8.drew hB9); have g9 := KC.out w9 hX9; have hfd4 := fun W => fieldGM4 (id : Int) 4 1 5 0 0 (.slice va9 k vc9) W))
            | (go_at_call 17; ((with_reducible refine (GG.out _ F ?hk).mono ?_); (case hk => first | exact HK7.out | exact HK7.out.below (Below.refl _ _).drew); rintro e w8 ⟨va8, vc8, rfl, hB8⟩; have hX8 : Below w7.heap.size w7 w8 := (by first | exact hB8 | exact bel2 (Below.refl _ _).drew hB8); have g8 := KC.out w8 hX8; have hfd := fun W => fieldGM1 (id : Int) 4 1 5 0 0 (.slice va8 k vc8) W)))
          have HX9 := Lib.hid hX9
          clear hX9 hX8 g8 g9 g1 hfd hfd4
          go_wp2_with (go_at_call 19; ((with_reducible refine (GS.out _ F (HK7.out.below HX9.out) MI.out).mono ?_); rintro e w10 ⟨sa, sc, rfl, hX, hB10⟩; have hB7 := bel2 HX9.out hB10; have HB10 := Lib.hid (show Below w.heap.size w w10 from (HK7.out.below hB7).2.1); have y2 : w10.cell? ⟨Y, 2, none⟩ = some (.slice fa ml fc) := cell_of_row _ _ 2 _ _ _ ((hB7.block _ (heap_lt HP7.out)).trans HP7.out); clear hB7 hB10 HX9; generalize spotsL (mvG (id : Int) k) F = SX at *; have HX := Lib.hid hX; clear hX; have hl := HMX.out.len; rw [hl]; clear hl))
          obtain ⟨sb, so, rfl, hsb, hsc⟩ := spotRow_at HX.out (by have := HMX.out.len; omega)
          have HXC := Lib.hid (fun W (hB : Below w10.heap.size w10 W) n (hn : n < SX.length) => (show W.cell? ⟨sb, so + n * 4 + 1, none⟩ = some (.int .i64 SX[n].i) ∧ W.cell? ⟨sb, so + n * 4 + 2, none⟩ = some (.int .i64 SX[n].s) ∧ W.cell? ⟨sb, so + n * 4 + 3, none⟩ = some (.int .i64 SX[n].p) from ⟨(hB.cell (p := ⟨sb, so + n * 4 + 1, none⟩) hsb).trans (hsc n hn).2.1, (hB.cell (p := ⟨sb, so + n * 4 + 2, none⟩) hsb).trans (hsc n hn).2.2.1, (hB.cell (p := ⟨sb, so + n * 4 + 3, none⟩) hsb).trans (hsc n hn).2.2.2⟩))
          clear hsb hsc y2 HX GG GS GD4
          clear HNO
          go_loopw [20] (fun s20 wr => ∃ n3 : Nat, n3 ≤ k + 2 ∧ s20 = .int .i64 n3 ∧ Below w10.heap.size w10 wr) (fun s20 _ => k + 2 - (intOf s20).toNat)
          case atStart => exact ⟨0, by omega, rfl, Below.refl _ _⟩
          case round =>
            obtain ⟨n3, hn3, rfl, hB⟩ := hrel
            by_cases hlt : n3 < k + 2
            · obtain ⟨c1, c2, c3⟩ := HXC.out wr hB n3 (by have := HMX.out.len; omega)
              have hX3 : n3 < SX.length := by have := HMX.out.len; omega
              have hn : (n3 : Int) < (k : Int) + 2 := by omega
              have hn9 : (0 : Int) ≤ (n3 : Int) := by omega
              by_cases h0 : n3 = 0
              · have e1 : SX[n3].i = -1 := by
                  have := HMX.out.ix n3 (by have := HMX.out.len; omega)
                  rw [this, if_pos h0]
                have e2 := HMX.out.pl n3 (by have := HMX.out.len; omega)
                rw [show mvW (bitW wh) true true n3 = true from by rw [h0]; rfl] at e2
                have e23 : SX[n3].s = 9 ∧ SX[n3].p = 99 := (by simpa using e2); clear e2; obtain ⟨e2, e3⟩ := e23
                rw [e1] at c1
                rw [e2] at c2
                rw [e3] at c3
                generalize SX[n3].p = pp at *
                clear e1 e2 e3
                clear hX3
                replace c3 : wr.cell? ⟨sb, so + n3 * 4 + 2 + 1, none⟩ = _ := c3
                clear h0 hlt hn9
                have heq : ∀ W, (binOp .eql 41 (.agg #[.int .i64 9, .int .i64 99]) (.agg #[.int .i64 9, .int .i64 99])).run Try.prog W = .ok (.bool true) W := fun W => by rw [eqlPl]; rfl
                go_wp2
                exact ⟨⟨n3 + 1, by omega, by go_num, hB⟩, by simp [intOf]; omega⟩
              by_cases h1 : n3 = 1
              · have e1 : SX[n3].i = 0 := by
                  have := HMX.out.ix n3 (by have := HMX.out.len; omega)
                  rw [this, if_neg h0, if_pos h1]
                have e2 := HMX.out.pl n3 (by have := HMX.out.len; omega)
                rw [show mvW (bitW wh) true true n3 = true from by rw [h1]; rfl] at e2
                have e23 : SX[n3].s = 9 ∧ SX[n3].p = 99 := (by simpa using e2); clear e2; obtain ⟨e2, e3⟩ := e23
                rw [e1] at c1
                rw [e2] at c2
                rw [e3] at c3
                generalize SX[n3].p = pp at *
                clear e1 e2 e3
                clear hX3
                replace c3 : wr.cell? ⟨sb, so + n3 * 4 + 2 + 1, none⟩ = _ := c3
                clear h0 h1 hlt hn9
                have heq : ∀ W, (binOp .eql 41 (.agg #[.int .i64 9, .int .i64 99]) (.agg #[.int .i64 9, .int .i64 99])).run Try.prog W = .ok (.bool true) W := fun W => by rw [eqlPl]; rfl
                go_wp2
                exact ⟨⟨n3 + 1, by omega, by go_num, hB⟩, by simp [intOf]; omega⟩
              obtain ⟨j, hj⟩ : ∃ j, n3 = j + 2 := ⟨n3 - 2, by omega⟩
              have hjk : j < k := by omega
              have HBIT := Lib.hid (show bitW wh j = (bits BinOp.and IntKind.u16 ((wh : Int) / 2 ^ j) 1 == 1) from rfl)
              cases hbj : bitW wh j
              · rw [hbj] at HBIT
                have hb1 : (bits BinOp.and IntKind.u16 ((wh : Int) / 2 ^ j) 1 == 1) = false := HBIT.out.symm
                have e1 : SX[n3].i = 4 + (j : Int) := by
                  have := HMX.out.ix n3 (by have := HMX.out.len; omega)
                  rw [this, if_neg (by omega), if_neg (by omega)]; omega
                have e2 := HMX.out.pl n3 (by have := HMX.out.len; omega)
                rw [show mvW (bitW wh) true true n3 = false from by rw [hj]; exact hbj] at e2
                replace e2 : SX[n3].s = 1 := by simpa using e2
                rw [e1] at c1
                rw [e2] at c2
                skip
                generalize SX[n3].p = pp at *
                clear e1 e2 
                clear hX3
                replace c3 : wr.cell? ⟨sb, so + n3 * 4 + 2 + 1, none⟩ = _ := c3
                clear h0 h1 hlt hn9
                have hj4 := Lib.hid hj
                clear hj HBIT hbj
                have heq : ∀ W, (binOp .eql 41 (.agg #[.int .i64 1, .int .i64 pp]) (.agg #[.int .i64 9, .int .i64 99])).run Try.prog W = .ok (.bool false) W := fun W => by rw [eqlPl]; rfl
                have hw4 : IntKind.i64.wrap (4 + (j : Int) - 4) = (j : Int) := by rw [IntWalk.i64_in _ (by omega)]; omega
                have hn1 : ¬ (4 + (j : Int) = -1) := by omega
                have hn0 : ¬ (4 + (j : Int) = 0) := by omega
                go_wp2
                exact ⟨⟨n3 + 1, by omega, by go_num, hB⟩, by simp [intOf]; omega⟩
              · rw [hbj] at HBIT
                have hb1 : (bits BinOp.and IntKind.u16 ((wh : Int) / 2 ^ j) 1 == 1) = true := HBIT.out.symm
                have e1 : SX[n3].i = 4 + (j : Int) := by
                  have := HMX.out.ix n3 (by have := HMX.out.len; omega)
                  rw [this, if_neg (by omega), if_neg (by omega)]; omega
                have e2 := HMX.out.pl n3 (by have := HMX.out.len; omega)
                rw [show mvW (bitW wh) true true n3 = true from by rw [hj]; exact hbj] at e2
                have e23 : SX[n3].s = 9 ∧ SX[n3].p = 99 := (by simpa using e2); clear e2; obtain ⟨e2, e3⟩ := e23
                rw [e1] at c1
                rw [e2] at c2
                rw [e3] at c3
                generalize SX[n3].p = pp at *
                clear e1 e2 e3
                clear hX3
                replace c3 : wr.cell? ⟨sb, so + n3 * 4 + 2 + 1, none⟩ = _ := c3
                clear h0 h1 hlt hn9
                have hj4 := Lib.hid hj
                clear hj HBIT hbj
                have heq : ∀ W, (binOp .eql 41 (.agg #[.int .i64 9, .int .i64 99]) (.agg #[.int .i64 9, .int .i64 99])).run Try.prog W = .ok (.bool true) W := fun W => by rw [eqlPl]; rfl
                have hw4 : IntKind.i64.wrap (4 + (j : Int) - 4) = (j : Int) := by rw [IntWalk.i64_in _ (by omega)]; omega
                have hn1 : ¬ (4 + (j : Int) = -1) := by omega
                have hn0 : ¬ (4 + (j : Int) = 0) := by omega
                go_wp2
                exact ⟨⟨n3 + 1, by omega, by go_num, hB⟩, by simp [intOf]; omega⟩
            · obtain rfl : n3 = k + 2 := by omega
              have hn : ¬ (((k + 2 : Nat) : Int) < (k : Int) + 2) := by omega
              go_wp2
              go_ret
              exact ⟨by simp, bel2 HB10.out hB⟩



theorem walk (id : Nat) (hid : id < 256) (n : Nat) (hn : n < 256) (mark head : Bool) (wh : Nat) (hwh : wh < 65536) (w : World) : Calls Try.prog 5 #[.int .u8 id, .int .u8 n, .bool mark, .bool head, .int .u16 wh] w fun e w' => e = .returned (.bool true) ∧ Below w.heap.size w w' := by
  cases mark <;> cases head
  · exact mv_false_false id hid n hn wh hwh w
  · exact mv_false_true id hid n hn wh hwh w
  · exact mv_true_false id hid n hn wh hwh w
  · exact mv_true_true id hid n hn wh hwh w

set_option maxRecDepth 100000 in
theorem lifted (os : Os) (started : os.Started) (H : Type) (enc : TypeId × Value → H) :
    ReturnsInHanded {} Try.checked os 5 .any (Rows.placeMovesSpec.pre6 enc Try.prog Try.f5 Rows.placeMovesRow.domain false) (Rows.placeMovesSpec.post enc Try.prog Try.f5 false true false false) := by
  refine returnsInHanded_of_change (C := Try.checked) Try.own started (by kernel_rfl) Try.func5
    (ChangeSpec.witness6 (enc := enc) (C := Try.checked) false ⟨#[], #[.int .u8 0, .int .u8 0, .bool false, .bool false, .int .u16 0], []⟩ 8 (by kernel_rfl) (by kernel_rfl) (by kernel_rfl) (by kernel_rfl)) ?_
  intro W base args ds gs before hval hW _ _
  refine law_contract (T := 4) (n := 5) Try.laid Try.underlying4 rfl rfl ⟨rfl, fun H ds h => by match ds, h with | [_, _, _, _, _], _ => rfl⟩ (of_all (by kernel_rfl)) hW ?_
  intro ps hA
  rw [Try.params5] at hA hval
  obtain ⟨v0, vs0, d0, ds0, p0, q0, hargs, rfl, rfl, h0, r0⟩ := trodAll_cons hA
  obtain ⟨v1, vs1, d1, ds1, p1, q1, rfl, rfl, rfl, h1, r1⟩ := trodAll_cons r0
  obtain ⟨v2, vs2, d2, ds2, p2, q2, rfl, rfl, rfl, h2, r2⟩ := trodAll_cons r1
  obtain ⟨v3, vs3, d3, ds3, p3, q3, rfl, rfl, rfl, h3, r3⟩ := trodAll_cons r2
  obtain ⟨v4, vs4, d4, ds4, p4, q4, rfl, rfl, rfl, h4, r4⟩ := trodAll_cons r3
  obtain ⟨rfl, rfl, rfl⟩ := trodAll_nil r4
  obtain rfl : args = #[v0, v1, v2, v3, v4] := by cases args; simp_all
  obtain ⟨a0, rfl, rfl, rfl, w0⟩ := open_int Try.underlying5 (hval 0 5 v0 rfl rfl) h0
  obtain ⟨a1, rfl, rfl, rfl, w1⟩ := open_int Try.underlying5 (hval 1 5 v1 rfl rfl) h1
  obtain ⟨a2, rfl, rfl, rfl⟩ := open_bool Try.underlying4 (hval 2 4 v2 rfl rfl) h2
  obtain ⟨a3, rfl, rfl, rfl⟩ := open_bool Try.underlying4 (hval 3 4 v3 rfl rfl) h3
  obtain ⟨a4, rfl, rfl, rfl, w4⟩ := open_int Try.underlying59 (hval 4 59 v4 rfl rfl) h4
  obtain ⟨n0, rfl, b0⟩ := nat_of_u8 w0
  obtain ⟨n1, rfl, b1⟩ := nat_of_u8 w1
  obtain ⟨n4, rfl, b4⟩ := nat_of_u16 w4
  exact walk n0 b0 n1 b1 a2 a3 n4 b4 W

theorem holds : Rows.PlaceMovesSaid :=
  OpenClaim.holds_of_wide 5 Try.f5 rfl rfl rfl rfl rfl rfl rfl ⟨rfl, rfl, rfl, rfl, rfl⟩ rfl rfl rfl rfl rfl (by kernel_rfl) Try.func5 (by kernel_rfl)
    (of_decide_eq_true (by kernel_rfl)) (by unfold Func.isWrapper; first | (rw [if_pos (by decide +kernel)]; kernel_rfl) | (rw [if_neg (by decide +kernel)]; exact ⟨rfl, rfl⟩))
    (fun os started H enc _ => lifted os started H enc)
end Go.Proofs.Ytloojgbkohpcfaa.placeMoves

