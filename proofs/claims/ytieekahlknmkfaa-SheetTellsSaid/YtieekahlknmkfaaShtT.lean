/- The document's Is and Read of sheets; whether both readings are alike. -/
import Derived.Test.YtieekahlknmkfaaShtF
import Derived.Test.YtieekahlknmkfaaShtM
namespace Go.Proofs.Ytieekahlknmkfaa
open Go.RowKit Go.Shelf
set_option linter.unusedVariables false
attribute [local go_sem] Oper.semAt_some wide_fn wide_round_fn
attribute [local irreducible] wpQuiet

/-- The number ahead of place k; nought ahead of the first. -/
def ahA (zs : List Int) : Nat → Int
  | 0 => 0
  | j + 1 => zs.getD j 0
theorem ahA_succ {zs : List Int} {j : Nat} (h : j < zs.length) : ahA zs (j + 1) = zs[j] := by
  show zs.getD j 0 = _
  rw [List.getD_eq_getElem?_getD, List.getElem?_eq_getElem h]; rfl
theorem below_drewS {w W : World} {n : Nat} (hB : Below n w W) (k : Nat) : Below n w (W.drewN k) := ⟨hB.os, hB.tape, hB.output, hB.size, hB.block⟩
set_option maxRecDepth 100000 in
set_option maxHeartbeats 2000000 in
theorem refShIs_any (a : Option Addr) (len cap : Nat) (zs : List Int) (w : World) (h : RowI .i64 w a len zs) : Gives Try.prog 38 #[.slice a len cap] w (.bool (shB zs)) := by
  obtain ⟨hl, hm, -, hc⟩ := h
  unfold maxLen at hm
  have HL := Lib.hid hl
  clear hl
  unfold Gives
  go_enter Try.func38, Try.ntmps38
  go_wp2
  go_loopw [3] (fun si wr => ∃ (k : Nat), k ≤ len ∧ si = .int .i64 k ∧ 0 ≤ ahA zs k ∧ isA (ahA zs k) (zs.drop k) = isA 0 zs ∧ Below w.heap.size w wr) (fun si _ => len - (intOf si).toNat)
  case atStart => exact ⟨0, by omega, rfl, by show (0 : Int) ≤ 0; omega, rfl, Below.refl _ _⟩
  case round =>
    obtain ⟨k, hk, rfl, h0, hA, hB⟩ := hrel
    have HA := Lib.hid hA
    clear hA
    by_cases hlt : k < len
    · obtain ⟨b, off, rfl, hb, hcc⟩ := hc (by omega)
      have hkl : k < zs.length := by rw [HL.out]; exact hlt
      have c := (hB.cell (p := ⟨b, off + k, none⟩) hb).trans (hcc k hkl)
      have HD := Lib.hid (isA_drop hkl (ahA zs k))
      have HS := Lib.hid (ahA_succ hkl)
      have hki : (k : Int) < (len : Int) := by omega
      have HE := Lib.hid (show isA 0 zs = false → shB zs = false from fun e => by unfold shB; rw [e, Bool.and_false])
      cases k with
      | zero =>
        have h0' : ahA zs 0 = 0 := rfl
        rw [h0'] at HA HD
        simp only [Nat.add_zero] at c
        generalize zs[0] = x at *
        clear hcc hc
        by_cases h1 : x < 1
        · have HF := Lib.hid (HE.out (by rw [← HA.out, HD.out, decide_eq_false (show ¬ (0 : Int) < x by omega)]; rfl))
          clear h0 h0'
          go_wp2
          go_quiet (fail)
          go_wp2
          go_ret
          exact ⟨by rw [HF.out]; rfl, below_drewS hB _⟩
        · by_cases h2 : 99999999 < x
          · have HF := Lib.hid (HE.out (by rw [← HA.out, HD.out, decide_eq_false (show ¬ x ≤ 99999999 by omega), Bool.and_false]; rfl))
            have h1' : 1 ≤ x := by omega
            clear h0 h0' h1
            go_wp2
            go_quiet (fail)
            go_wp2
            go_ret
            exact ⟨by rw [HF.out]; rfl, below_drewS hB _⟩
          · have HN := Lib.hid (show isA x (zs.drop 1) = isA 0 zs by rw [← HA.out, HD.out, decide_eq_true (show (0 : Int) < x by omega), decide_eq_true (show x ≤ 99999999 by omega)]; rfl)
            have h1' : 1 ≤ x := by omega
            have h2' : x ≤ 99999999 := by omega
            clear h0 h0' h1 h2
            go_wp2
            go_quiet (fail)
            go_wp2
            exact ⟨⟨1, by omega, rfl, by rw [HS.out]; omega, by rw [HS.out]; exact HN.out, below_drewS hB _⟩, by simp [intOf]; omega⟩
      | succ j =>
        have hjl : j < zs.length := by omega
        have q := (hB.cell (p := ⟨b, off + j, none⟩) hb).trans (hcc j hjl)
        rw [ahA_succ hjl] at HA HD h0
        have hji : (j : Int) < (len : Int) := by omega
        have hji1 : (j : Int) + 1 < (len : Int) := by omega
        have hjw : IntKind.i64.wrap ((j : Int) + 1 - 1) = (j : Int) := by rw [IntWalk.i64_in _ (by omega)]; omega
        have hj1 : (0 : Int) < (j : Int) + 1 := by omega
        generalize zs[j] = y at *
        generalize zs[j + 1] = x at *
        clear hcc hc
        by_cases h1 : x < 1
        · have HF := Lib.hid (HE.out (by rw [← HA.out, HD.out, decide_eq_false (show ¬ y < x by omega)]; rfl))
          go_wp2
          go_quiet (fail)
          go_wp2
          go_ret
          exact ⟨by rw [HF.out]; rfl, below_drewS hB _⟩
        · by_cases h2 : 99999999 < x
          · have HF := Lib.hid (HE.out (by rw [← HA.out, HD.out, decide_eq_false (show ¬ x ≤ 99999999 by omega), Bool.and_false]; rfl))
            have hd1 : decide (x < 1) = false := decide_eq_false h1
            clear h1
            go_wp2
            go_quiet (fail)
            go_wp2
            go_ret
            exact ⟨by rw [HF.out]; rfl, below_drewS hB _⟩
          · have hd1 : decide (x < 1) = false := decide_eq_false h1
            have hd2 : decide ((99999999 : Int) < x) = false := decide_eq_false h2
            have hd0 : decide ((0 : Int) < ((j + 1 : Nat) : Int)) = true := decide_eq_true (by omega)
            by_cases h3 : x ≤ y
            · have HF := Lib.hid (HE.out (by rw [← HA.out, HD.out, decide_eq_false (show ¬ y < x by omega)]; rfl))
              clear h1 h2
              go_wp2
              go_quiet (fail)
              go_wp2
              go_ret
              exact ⟨by rw [HF.out]; rfl, below_drewS hB _⟩
            · have HN := Lib.hid (show isA x (zs.drop (j + 1 + 1)) = isA 0 zs by rw [← HA.out, HD.out, decide_eq_true (show y < x by omega), decide_eq_true (show x ≤ 99999999 by omega)]; rfl)
              have hd3 : decide (x ≤ y) = false := decide_eq_false h3
              have hx0 : 0 ≤ x := by omega
              clear h1 h2 h3
              go_wp2
              go_quiet (fail)
              go_wp2
              exact ⟨⟨j + 1 + 1, by omega, by go_num, by rw [HS.out]; omega, by rw [HS.out]; exact HN.out, below_drewS hB _⟩, by simp [intOf]; omega⟩
    · obtain rfl : k = len := by omega
      have HT := Lib.hid (show isA 0 zs = true by rw [← HA.out, List.drop_eq_nil_of_le (by rw [HL.out]; omega)]; rfl)
      have HS := Lib.hid (show shB zs = (decide ((1 : Int) ≤ (k : Int)) && decide ((k : Int) ≤ 200)) by unfold shB; rw [HT.out, HL.out, Bool.and_true]; congr 1 <;> exact decide_eq_decide.2 (by omega))
      clear hc hlt hk h0
      by_cases h1 : (1 : Int) ≤ (k : Int)
      · have HF := Lib.hid (show shB zs = decide ((k : Int) ≤ 200) by rw [HS.out, decide_eq_true h1, Bool.true_and])
        go_wp2
        go_ret
        exact ⟨by rw [HF.out]; rfl, hB⟩
      · have HF := Lib.hid (show shB zs = false by rw [HS.out, decide_eq_false h1, Bool.false_and])
        have h1' : (k : Int) < 1 := by omega
        clear h1
        go_wp2
        go_ret
        exact ⟨by rw [HF.out]; rfl, hB⟩

/-- What the document's Read tells. -/
def RefPostS (w : World) (s : ByteArray) (e : Ending) (w' : World) : Prop := ∃ v, e = .returned (.tuple #[v, .bool (rdOk s)]) ∧ w'.ownsRow w.heap.size 3 1 v (if rdOk s then rdL s else []).length (intsV (if rdOk s then rdL s else [])) ∧ Below w.heap.size w w'
theorem ref_no {w w' : World} {s : ByteArray} (h : rdOk s = false) (hB : Below w.heap.size w w') : RefPostS w s (.returned (.tuple #[.slice none 0 0, .bool false])) w' := by
  unfold RefPostS
  rw [h]
  exact ⟨_, rfl, World.ownsRow_nil _ _ _ _, hB⟩
theorem rdG_shY {l : List Int} (h : shB l = true) : rdG (shY l) = (l.length, (sevL l.length).length, 0) := by
  obtain ⟨h200, hbd⟩ := shB_bd h
  have h4 : (shS l).drop 4 = sevL l.length ++ (l.flatMap fun x => sevL x.toNat) := by
    unfold shS shL; rfl
  unfold rdG
  rw [shY_list h, h4]
  exact getL_sevL _ _ (by omega)
theorem rd_len {s : ByteArray} (h : rdOk s = true) : (rdL s).length = (rdG s).1 := by
  unfold rdOk at h
  simp only [Bool.and_eq_true, decide_eq_true_eq] at h
  have e := rdG_shY h.1.2
  rw [h.2] at e
  rw [e]
theorem nums_wf {n : Nat} {l : List UInt8} {N : List Nat} (h : N = nums n l) : ∀ z ∈ N.map Int.ofNat, (Lit.int .i64 z).wf = true := fun z hz => by
  obtain ⟨x, hx, rfl⟩ := List.mem_map.1 hz
  have := nums_bd n l x (h ▸ hx)
  exact wf_i64 ⟨by show -9223372036854775808 ≤ ((x : Nat) : Int); omega, by show ((x : Nat) : Int) < _; omega⟩
set_option maxRecDepth 100000 in
set_option maxHeartbeats 2000000 in
theorem refRead_head (s : ByteArray) (hs : s.size < 9223372036854775000) (hh : rdHead s = false) (w : World) : Calls Try.prog 72 #[.string s] w (RefPostS w s) := by
  have hno : rdOk s = false := by unfold rdOk; rw [hh]; rfl
  by_cases h4 : s.size < 4
  · have HE := Lib.hid (fun w' (hB : Below w.heap.size w w') => ref_no hno hB)
    have hi : (s.size : Int) < 4 := by omega
    clear hno hh h4
    go_enter Try.func72, Try.ntmps72
    go_wp2
    go_ret2
    exact HE.out _ (Below.refl _ _)
  · have hi : (4 : Int) ≤ (s.size : Int) := by omega
    have GG := Lib.hid (fun W => refGet_any (s.extract 4 s.size) (by rw [ByteArray.size_extract]; omega) W)
    have hd : (s.extract 4 s.size).data.toList = s.data.toList.drop 4 := drop_ba s 4
    rw [hd] at GG
    have HE := Lib.hid (fun w' (hB : Below w.heap.size w w') => ref_no hno hB)
    obtain ⟨b1, b2, b3, b4⟩ := getL_bound (s.data.toList.drop 4)
    unfold rdHead rdG at hh
    generalize (getL (s.data.toList.drop 4)).1 = n at *
    generalize (getL (s.data.toList.drop 4)).2.1 = k at *
    generalize (getL (s.data.toList.drop 4)).2.2 = er at *
    by_cases he : er = 0
    · have hn : (200 : Int) < (n : Int) := by
        subst he
        simp at hh
        have := hh (by omega)
        omega
      subst he
      clear hh hno hd h4
      go_enter Try.func72, Try.ntmps72
      go_wp2_with (go_at_call 84; ((with_reducible refine (GG.out _).mono ?_); rintro e w1 ⟨rfl, hB1⟩))
      go_ret2
      exact HE.out _ hB1
    · have hei : (er : Int) ≠ 0 := by omega
      clear hh hno hd h4 he
      go_enter Try.func72, Try.ntmps72
      go_wp2_with (go_at_call 84; ((with_reducible refine (GG.out _).mono ?_); rintro e w1 ⟨rfl, hB1⟩))
      go_ret2
      exact HE.out _ hB1
theorem nums_step {n k : Nat} {s : ByteArray} {m : Nat} {X : List Nat} {pre : List Nat} (hk : k < n) (h : X = pre ++ nums (n - k) (s.data.toList.drop m)) (he : (getL (s.data.toList.drop m)).2.2 = 0) : X = (pre ++ [(getL (s.data.toList.drop m)).1]) ++ nums (n - (k + 1)) (s.data.toList.drop (m + (getL (s.data.toList.drop m)).2.1)) := by
  obtain ⟨j, hj⟩ : ∃ j, n - k = j + 1 := ⟨n - k - 1, by omega⟩
  rw [h, hj, show n - (k + 1) = j by omega]
  show pre ++ (if (getL (s.data.toList.drop m)).2.2 = 0 then _ else _) = _
  rw [if_pos he, List.drop_drop]; simp
theorem nums_stop {n k : Nat} {s : ByteArray} {m : Nat} {X : List Nat} {pre : List Nat} (hk : k < n) (h : X = pre ++ nums (n - k) (s.data.toList.drop m)) (he : (getL (s.data.toList.drop m)).2.2 ≠ 0) : X = pre := by
  obtain ⟨j, hj⟩ : ∃ j, n - k = j + 1 := ⟨n - k - 1, by omega⟩
  rw [h, hj]
  show pre ++ (if (getL (s.data.toList.drop m)).2.2 = 0 then _ else _) = _
  rw [if_neg he, List.append_nil]
set_option maxRecDepth 100000 in
set_option maxHeartbeats 2000000 in
theorem refRead_main (s : ByteArray) (hs : s.size < 9223372036854775000) (hh : rdHead s = true) (w : World) : Calls Try.prog 72 #[.string s] w (RefPostS w s) := by
  obtain ⟨i0, hi, hz0, hz1, hz2⟩ := info_parts infoIntS
  have hlen : rdOk s = true → (rdL s).length = (rdG s).1 := rd_len
  unfold rdHead at hh
  simp only [Bool.and_eq_true, decide_eq_true_eq] at hh
  obtain ⟨⟨h4, he⟩, hn⟩ := hh
  have hOk : rdOk s = (shB (rdL s) && decide (shY (rdL s) = s)) := by unfold rdOk rdHead; rw [decide_eq_true h4, decide_eq_true he, decide_eq_true hn]; rfl
  have GG := Lib.hid (fun m W => refGet_any (s.extract m s.size) (by rw [ByteArray.size_extract]; omega) W)
  have GD := Lib.hid (fun m => drop_ba s m)
  obtain ⟨b1, b2, b3, b4⟩ := getL_bound (s.data.toList.drop 4)
  rw [List.length_drop, Array.length_toList] at b3
  have hsz : s.data.size = s.size := rfl
  rw [hsz] at b3
  have hrl : rdL s = (nums (rdG s).1 (s.data.toList.drop (4 + (rdG s).2.1))).map Int.ofNat := rfl
  unfold rdG at he hn hlen hrl
  have G4 := Lib.hid (fun W => (show Gives Try.prog 84 #[.string (s.extract 4 s.size)] W (.tuple #[.int .i64 (getL (s.data.toList.drop 4)).1, .int .i64 (getL (s.data.toList.drop 4)).2.1, .int .i64 0]) from by
    have := GG.out 4 W
    rwa [GD.out 4, he] at this))
  generalize (getL (s.data.toList.drop 4)).1 = n at *
  generalize (getL (s.data.toList.drop 4)).2.1 = k0 at *
  have hki : (4 : Int) + (k0 : Int) ≤ (s.size : Int) := by omega
  have hni : (n : Int) ≤ 200 := by omega
  have hi4 : (4 : Int) ≤ (s.size : Int) := by omega
  obtain ⟨N, hN⟩ : ∃ N, N = nums n (s.data.toList.drop (4 + k0)) := ⟨_, rfl⟩
  rw [← hN] at hrl
  have HNw := Lib.hid (nums_wf hN)
  have HNl := Lib.hid (show rdOk s = true → N.length = n from fun h => by have := hlen h; rwa [hrl, List.length_map] at this)
  have HOk := Lib.hid hOk
  have HRl := Lib.hid hrl
  have HN := Lib.hid hN
  have hk4 : 4 + k0 ≤ s.size := by omega
  clear he h4 hOk hrl hN b1 b2 b3 b4 hn hsz hlen
  unfold Gives at *
  go_enter Try.func72, Try.ntmps72
  go_wp2_with (go_at_call 84; ((with_reducible refine (G4.out _).mono ?_); rintro e wg ⟨rfl, hBg⟩))
  go_loopw [7, 8, 9] (fun sa sl si wr => ∃ (k m : Nat) (pre : List Nat), k ≤ n ∧ m ≤ s.size ∧ pre.length = k ∧ sa = .int .i64 m ∧ si = .int .i64 k ∧ N = pre ++ nums (n - k) (s.data.toList.drop m) ∧ wr.ownsRow wg.heap.size 3 1 sl k (intsV (pre.map Int.ofNat)) ∧ Below wg.heap.size wg wr) (fun _ _ si _ => n - (intOf si).toNat)
  case atStart => exact ⟨0, 4 + k0, [], by omega, hk4, rfl, by push_cast; rfl, rfl, by rw [HN.out]; rfl, World.ownsRow_nil _ _ _ _, Below.refl _ _⟩
  case round =>
    obtain ⟨k, m, pre, hk, hm, hpl, rfl, rfl, hX, hown, hB⟩ := hrel
    have HX := Lib.hid hX
    have HP := Lib.hid hpl
    clear hX hpl
    by_cases hlt : k < n
    · have hli : (k : Int) < (n : Int) := by omega
      have hmi : (m : Int) ≤ (s.size : Int) := by omega
      obtain ⟨b1, b2, b3, b4⟩ := getL_bound (s.data.toList.drop m)
      rw [List.length_drop, Array.length_toList] at b3
      have hsz : s.data.size = s.size := rfl
      rw [hsz] at b3
      have HSt := Lib.hid (nums_step (n := n) (m := m) (s := s) hlt HX.out)
      have HNo := Lib.hid (nums_stop (n := n) (m := m) (s := s) hlt HX.out)
      have GM := Lib.hid (fun W => (show Gives Try.prog 84 #[.string (s.extract m s.size)] W (.tuple #[.int .i64 (getL (s.data.toList.drop m)).1, .int .i64 (getL (s.data.toList.drop m)).2.1, .int .i64 (getL (s.data.toList.drop m)).2.2]) from by
        have := GG.out m W
        rwa [GD.out m] at this))
      unfold Gives at GM
      generalize (getL (s.data.toList.drop m)).1 = x at *
      generalize (getL (s.data.toList.drop m)).2.1 = j at *
      generalize (getL (s.data.toList.drop m)).2.2 = er at *
      by_cases he : er = 0
      · subst he
        have HN2 := Lib.hid (HSt.out rfl)
        have HI := Lib.hid (show intsV ((pre ++ [x]).map Int.ofNat) = intsV (pre.map Int.ofNat) ++ [.int .i64 x] by simp [intsV])
        have hmj : (m : Int) + (j : Int) ≤ (s.size : Int) := by omega
        clear HSt HNo b4 hsz
        go_wp2_with (first
          | (go_at_call 84; ((with_reducible refine (GM.out _).mono ?_); rintro e w4 ⟨rfl, hB4⟩; have hown4 := ownsRow_below (n := 0) hown hB4; have hBB := hB.trans (hB4.mono hB.size); have hsz4 := hBB.size))
          | (at_builtin; refine wpList_append_own _ rfl _ _ 61 rfl wg.heap.size 3 i0 (.int .i64 0) 1 8 Try.underlying61 hi hz0 hz1 hz2 rfl (by decide) _ _ _ rfl (hown4.alloc _) ⟨w4.heap.size, 0, none⟩ 1 1 [.int .i64 x] rfl rfl (news_new _ _ _) (by simp [Value.oneCell']) (by unfold maxLen; omega) (by omega) (by simp; omega) ?_; intro v' w3 hown3 hgrow _; have hB3 := (hBB.trans ((bel_alloc (Below.refl w4.heap.size w4) (.cells #[.int .i64 x] 3)).mono hsz4)).grown hgrow (by simp; omega) (fun k hk => ownBlock_ge hown4 hk)))
        go_roundw
        case rel => exact ⟨k + 1, m + j, pre ++ [x], by omega, by omega, by rw [List.length_append, HP.out]; rfl, by go_num, by go_num, HN2.out, by rw [HI.out]; exact hown3, hB3⟩
        case measure => simp [intOf]; omega
      · have hNp := HNo.out he
        have HE := Lib.hid (fun w' (hB : Below w.heap.size w w') => ref_no (s := s) (by
          rw [Bool.eq_false_iff]
          intro h
          have := HNl.out h
          rw [hNp, HP.out] at this
          omega) hB)
        have hei : ((er : Int) == 0) = false := by rw [beq_eq_false_iff_ne]; omega
        have hei2 : (er : Int) ≠ 0 := by omega
        clear HSt HNo hNp b4 hsz he
        go_wp2_with (go_at_call 84; ((with_reducible refine (GM.out _).mono ?_); rintro e w4 ⟨rfl, hB4⟩; have hBB := hB.trans (hB4.mono hB.size)))
        go_ret2
        exact HE.out _ (bel2 hBg hBB)
    · obtain rfl : k = n := by omega
      have hNp : N = pre := by rw [HX.out, Nat.sub_self]; exact List.append_nil _
      rw [← hNp, ← HRl.out] at hown
      obtain ⟨va, vc, rfl, hle, hri⟩ := rowI_own (zs := rdL s) hown (by rw [HRl.out]; exact HNw.out)
      have HLn := Lib.hid (show (rdL s).length = k by rw [HRl.out, List.length_map, hNp]; exact HP.out)
      have hb := bel2 hBg hB
      have HO := Lib.hid (fun w' (hB' : Below wr.heap.size wr w') => (own_baseS (ownsRow_below (n := 0) hown hB') hBg.size : w'.ownsRow w.heap.size 3 1 (.slice va k vc) k (intsV (rdL s))))
      have GI := Lib.hid (refShIs_any va k vc (rdL s) wr hri)
      have GB := Lib.hid (fun W (hB' : Below wr.heap.size wr W) => refShB_any va k vc (rdL s) W (rowI_below hri hB') (by omega) (fun x hx => by
        have := HNw.out x (by rw [← HRl.out]; exact hx)
        have := bounds_i64 this
        omega))
      have hsk : ∀ b, shB (rdL s) = b → Gives Try.prog 38 #[.slice va k vc] wr (.bool b) := fun b h => by rw [← h]; exact GI.out
      clear hown hri hlt hk GI
      cases h1 : shB (rdL s)
      · have GI := Lib.hid (hsk _ h1)
        have HE := Lib.hid (fun w' (hB : Below w.heap.size w w') => ref_no (s := s) (by rw [HOk.out, h1]; rfl) hB)
        clear hsk h1
        unfold Gives at *
        go_wp2_with (go_at_call 38; ((with_reducible refine GI.out.mono ?_); rintro e w5 ⟨rfl, hB5⟩))
        go_ret2
        exact HE.out _ (bel2 hb hB5)
      · have GI := Lib.hid (hsk _ h1)
        have hY : (⟨(shS (rdL s)).toArray⟩ : ByteArray) = shY (rdL s) := by unfold shY; rw [if_pos h1]
        rw [hY] at GB
        by_cases h2 : shY (rdL s) = s
        · have HT := Lib.hid (show rdOk s = true by rw [HOk.out, h1, decide_eq_true h2]; rfl)
          rw [h2] at GB
          clear hsk h1 hY h2
          unfold Gives at *
          go_wp2_with (first
            | (go_at_call 38; ((with_reducible refine GI.out.mono ?_); rintro e w5 ⟨rfl, hB5⟩))
            | (go_at_call 39; ((with_reducible refine (GB.out _ hB5).mono ?_); rintro e w6 ⟨rfl, hB6⟩)))
          go_ret2
          refine ⟨.slice va k vc, by rw [HT.out]; rfl, ?_, bel2 hb (bel2 hB5 hB6)⟩
          rw [HT.out]
          simp only [if_true]
          rw [HLn.out]
          exact HO.out _ (bel2 hB5 hB6)
        · have hne : ((shY (rdL s)).toList == s.toList) = false := by
            rw [beq_eq_false_iff_ne]
            intro e
            rw [ByteArray.toList_eq, ByteArray.toList_eq] at e
            exact h2 (ByteArray.ext (Array.toList_inj.1 e))
          have HE := Lib.hid (fun w' (hB : Below w.heap.size w w') => ref_no (s := s) (by rw [HOk.out, decide_eq_false h2, Bool.and_false]) hB)
          generalize shY (rdL s) = Y at *
          clear hsk h1 hY h2
          unfold Gives at *
          go_wp2_with (first
            | (go_at_call 38; ((with_reducible refine GI.out.mono ?_); rintro e w5 ⟨rfl, hB5⟩))
            | (go_at_call 39; ((with_reducible refine (GB.out _ hB5).mono ?_); rintro e w6 ⟨rfl, hB6⟩)))
          go_ret2
          exact HE.out _ (bel2 hb (bel2 hB5 hB6))
theorem refShRead_any (s : ByteArray) (hs : s.size < 9223372036854775000) (w : World) : Calls Try.prog 72 #[.string s] w (RefPostS w s) := by
  cases h : rdHead s
  · exact refRead_head s hs h w
  · exact refRead_main s hs h w
theorem rdL_wf (s : ByteArray) : ∀ z ∈ rdL s, (Lit.int .i64 z).wf = true := nums_wf (N := nums (rdG s).1 (s.data.toList.drop (4 + (rdG s).2.1))) rfl
set_option maxRecDepth 100000 in
set_option maxHeartbeats 2000000 in
theorem reads9_any (s : ByteArray) (hs : s.size < 9223372036854775000) (w : World) : Gives Try.prog 40 #[.string s] w (.bool true) := by
  have hw9 : ∀ z ∈ (if rdOk s then rdL s else []), (Lit.int .i64 z).wf = true := fun z hz => by
    cases h : rdOk s <;> rw [h] at hz
    · cases hz
    · exact rdL_wf s z hz
  have HW := Lib.hid hw9
  have GR := Lib.hid (fun W => (show Calls Try.prog 44 #[.string s] W fun e w' => ∃ a c, e = .returned (.tuple #[.slice a (if rdOk s then rdL s else []).length c, .int .i64 (if rdOk s then 0 else 21)]) ∧ RowI .i64 w' a (if rdOk s then rdL s else []).length (if rdOk s then rdL s else []) ∧ Below W.heap.size W w' from by
    refine (shRead_any s hs W).mono ?_
    rintro e w' ⟨v, he, hv, hB⟩
    obtain ⟨a, c, hvv, -, hr⟩ := rowI_own hv HW.out
    exact ⟨a, c, by rw [he, hvv], hr, hB⟩))
  have GF := Lib.hid (fun W => (show Calls Try.prog 72 #[.string s] W fun e w' => ∃ a c, e = .returned (.tuple #[.slice a (if rdOk s then rdL s else []).length c, .bool (rdOk s)]) ∧ RowI .i64 w' a (if rdOk s then rdL s else []).length (if rdOk s then rdL s else []) ∧ Below W.heap.size W w' from by
    refine (refShRead_any s hs W).mono ?_
    rintro e w' ⟨v, he, hv, hB⟩
    obtain ⟨a, c, hvv, -, hr⟩ := rowI_own hv HW.out
    exact ⟨a, c, by rw [he, hvv], hr, hB⟩))
  generalize (if rdOk s then rdL s else []) = L at *
  have GS := Lib.hid (fun W a c b d (h1 : RowI .i64 W a L.length L) (h2 : RowI .i64 W b L.length L) => (show Gives Try.prog 43 #[.slice a L.length c, .slice b L.length d] W (.bool true) from by
    have := nsame_any a L.length c L b L.length d L W h1 h2
    simpa using this))
  generalize L.length = n at *
  unfold Gives at *
  clear hw9 HW
  generalize rdOk s = b at *
  cases b
  · simp only [Bool.false_eq_true, if_false] at GR
    go_enter Try.func40, Try.ntmps40
    go_wp2_with (first
      | (go_at_call 44; ((with_reducible refine (GR.out _).mono ?_); rintro e w1 ⟨a1, c1, rfl, hr1, hB1⟩))
      | (go_at_call 72; ((with_reducible refine (GF.out _).mono ?_); rintro e w2 ⟨a2, c2, rfl, hr2, hB2⟩; have hr3 := rowI_below hr1 hB2))
      | (go_at_call 43; ((with_reducible refine (GS.out _ _ _ _ _ hr3 hr2).mono ?_); rintro e w3 ⟨rfl, hB3⟩)))
    go_ret
    exact ⟨rfl, bel2 (bel2 hB1 hB2) hB3⟩
  · simp only [if_true] at GR
    go_enter Try.func40, Try.ntmps40
    go_wp2_with (first
      | (go_at_call 44; ((with_reducible refine (GR.out _).mono ?_); rintro e w1 ⟨a1, c1, rfl, hr1, hB1⟩))
      | (go_at_call 72; ((with_reducible refine (GF.out _).mono ?_); rintro e w2 ⟨a2, c2, rfl, hr2, hB2⟩; have hr3 := rowI_below hr1 hB2))
      | (go_at_call 43; ((with_reducible refine (GS.out _ _ _ _ _ hr3 hr2).mono ?_); rintro e w3 ⟨rfl, hB3⟩)))
    go_ret
    exact ⟨rfl, bel2 (bel2 hB1 hB2) hB3⟩

end Go.Proofs.Ytieekahlknmkfaa
