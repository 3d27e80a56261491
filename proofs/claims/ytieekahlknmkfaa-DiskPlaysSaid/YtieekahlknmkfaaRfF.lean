/- The document's disk: Crash. -/
import Derived.Test.YtieekahlknmkfaaRfE
import Derived.Deep.RegionHeld3
namespace Go.Proofs.Ytieekahlknmkfaa
open Go.RowKit Go.Shelf
set_option linter.unusedVariables false
attribute [local go_sem] Oper.semAt_some wide_fn wide_round_fn

theorem crL_get (keep : Nat) : ∀ (L : List PF) (i j : Nat), (crL keep i L)[j]? = (L[j]?).map (crP keep (i + j))
  | [], _, _ => by simp [crL]
  | f :: r, i, 0 => rfl
  | f :: r, i, j + 1 => by
    show (crL keep (i + 1) r)[j]? = _
    rw [crL_get keep r (i + 1) j, List.getElem?_cons_succ, show i + 1 + j = i + (j + 1) by omega]
theorem crN_le {keep i : Nat} {f : PF} (h : f.k ≤ f.b.length) : f.k + (f.b.length - f.k) * share keep i / 255 ≤ f.b.length := by
  have h1 : (f.b.length - f.k) * share keep i ≤ (f.b.length - f.k) * 255 := Nat.mul_le_mul_left _ (share_le _ _)
  omega
/-- Both cells of a file are turned, the bytes first. -/
theorem ref_two {W : World} {B r : Nat} {D : PD} {v : Value} (h : HasRef W B r D v) {g cap : Nat} (hv : v = .slice (some ⟨g, 0, none⟩) D.L.length cap) {i : Nat} (hi : i < D.L.length) (b : List UInt8) (k : Nat) :
    HasRef ((W.setCell ⟨g, i * 3 + 1, none⟩ (.string ⟨b.toArray⟩)).setCell ⟨g, i * 3 + 2, none⟩ (.int .i64 k)) B r { D with L := D.L.set i ⟨D.L[i].n, b, k⟩ } v ∧ FrameT (ownR r v) W ((W.setCell ⟨g, i * 3 + 1, none⟩ (.string ⟨b.toArray⟩)).setCell ⟨g, i * 3 + 2, none⟩ (.int .i64 k)) := by
  have h1 := ref_set h hv hi 1 (.string ⟨b.toArray⟩) ⟨D.L[i].n, b, D.L[i].k⟩ (by decide) rfl
  have h2 := ref_set h1.1 (i := i) (by dsimp only; rw [List.length_set]; exact hv) (by show i < (D.L.set i _).length; rw [List.length_set]; exact hi) 2 (.int .i64 k) ⟨D.L[i].n, b, k⟩ (by decide) (by dsimp only; rw [List.getElem_set_self]; rfl)
  dsimp only at h2
  rw [List.set_set] at h2
  exact ⟨h2.1, h1.2.trans h2.2⟩
/-- .. and the other way round. -/
theorem ref_two' {W : World} {B r : Nat} {D : PD} {v : Value} (h : HasRef W B r D v) {g cap : Nat} (hv : v = .slice (some ⟨g, 0, none⟩) D.L.length cap) {i : Nat} (hi : i < D.L.length) (b : List UInt8) (k : Nat) :
    HasRef ((W.setCell ⟨g, i * 3 + 2, none⟩ (.int .i64 k)).setCell ⟨g, i * 3 + 1, none⟩ (.string ⟨b.toArray⟩)) B r { D with L := D.L.set i ⟨D.L[i].n, b, k⟩ } v ∧ FrameT (ownR r v) W ((W.setCell ⟨g, i * 3 + 2, none⟩ (.int .i64 k)).setCell ⟨g, i * 3 + 1, none⟩ (.string ⟨b.toArray⟩)) := by
  have h1 := ref_set h hv hi 2 (.int .i64 k) ⟨D.L[i].n, D.L[i].b, k⟩ (by decide) rfl
  have h2 := ref_set h1.1 (i := i) (by dsimp only; rw [List.length_set]; exact hv) (by show i < (D.L.set i _).length; rw [List.length_set]; exact hi) 1 (.string ⟨b.toArray⟩) ⟨D.L[i].n, b, k⟩ (by decide) (by dsimp only; rw [List.getElem_set_self]; rfl)
  dsimp only at h2
  rw [List.set_set] at h2
  exact ⟨h2.1, h1.2.trans h2.2⟩
theorem crash_fin {W : World} {B r : Nat} {D : PD} {v : Value} {M : List PF} (h : HasRef W B r { D with L := M } v) : HasRef (W.setCell ⟨r, 3, none⟩ (.int .i64 (-1))) B r { D with L := M, lim := false, left := 0 } v ∧ FrameT (ownR r v) W (W.setCell ⟨r, 3, none⟩ (.int .i64 (-1))) := by
  have hF : FrameT (fun k => k = r) W (W.setCell ⟨r, 3, none⟩ (.int .i64 (-1))) := FrameT.setCell W r 3 _
  refine ⟨{ cell := ?_, row := own_frame8 h.row hF (fun j hj e => h.ne (by rw [← e]; exact hj)), low := h.low }, hF.mono fun k hk => .inl hk⟩
  rw [heap_setCell_same W r 3 _ _ _ h.cell]; rfl
set_option maxRecDepth 100000 in
set_option maxHeartbeats 4000000 in
theorem rfCrash_any {W : World} {B r : Nat} {D : PD} {v : Value} (h : HasRef W B r D v) (hL : D.L.length ≤ 1000) (hu : usedL D.L ≤ 2000000) (hkb : ∀ f ∈ D.L, f.k ≤ f.b.length) (keep : Nat) (hk : keep < 18446744073709551616) :
    Calls Try.prog 57 #[.pointer (some ⟨r, 0, none⟩), .int .u64 keep] W fun e w' => (∃ x, e = .returned x) ∧ OpR W B r v (crashD D keep) w' := by
  have HD := Lib.hid h
  have HK := Lib.hid hkb
  have HU := Lib.hid hu
  obtain ⟨a, cap, hv, -, hml, -⟩ := h.open
  obtain ⟨L, room, steps, lim, left⟩ := D
  dsimp only at *
  unfold maxLen at hml
  subst hv
  clear h hkb hu
  go_enter Try.func57, Try.ntmps57
  go_wp2
  go_loopw [4] (fun si wr => ∃ (k : Nat) (M : List PF), k ≤ L.length ∧ si = .int .i64 k ∧ M.length = L.length ∧ (∀ j, j < k → M[j]? = (crL keep 0 L)[j]?) ∧ (∀ j, k ≤ j → M[j]? = L[j]?) ∧ HasRef wr B r ⟨M, room, steps, lim, left⟩ (.slice a L.length cap) ∧ FrameT (ownR r (.slice a L.length cap)) W wr) (fun si _ => L.length - (intOf si).toNat)
  case atStart => exact ⟨0, L, by omega, rfl, rfl, fun j hj => by omega, fun j _ => rfl, HD.out, FrameT.refl _ _⟩
  case round =>
    obtain ⟨k, M, hk1, rfl, hMl, hM1, hM2, hR, hF⟩ := hrel
    have hsz := hF.size
    obtain ⟨c0, c1, c2, c3⟩ := cells4 hR.cell
    try dsimp only at c1
    by_cases hlt : k < L.length
    · have hkM : k < M.length := by omega
      obtain ⟨g, cap', cur, hv, hgc, -, ht⟩ := hR.slice (by show 0 < M.length; omega)
      dsimp only at hv ht
      rw [hMl] at hv
      injection hv with hv1 hv2 hv3
      subst hv1; subst hv3
      obtain ⟨e0, e1, e2, f0, f1, f2⟩ := ref_cells hgc ht hkM
      have hMk : M[k] = L[k] := by have := hM2 k (Nat.le_refl _); rw [List.getElem?_eq_getElem hkM, List.getElem?_eq_getElem hlt] at this; exact Option.some.inj this
      have hx := HK.out L[k] (List.getElem_mem _)
      have hxu := Nat.le_trans (used_mem (List.getElem_mem hlt)) HU.out
      rw [hMk] at e0 e1 e2
      have hki : (k : Int) < (L.length : Int) := by omega
      have hrg : r ≠ g := fun e => hR.ne (by rw [e]; rfl)
      obtain ⟨S, hS⟩ : ∃ S : ByteArray, S = ⟨L[k].b.toArray⟩ := ⟨_, rfl⟩
      have hSz : (S.size : Nat) = L[k].b.length := by rw [hS]; show L[k].b.toArray.size = _; simp
      rw [← hS] at e1
      have hsb := share_bits keep k hk
      have hsl := share_le keep k
      obtain ⟨nn, hnn⟩ : ∃ nn, nn = L[k].k + (L[k].b.length - L[k].k) * share keep k / 255 := ⟨_, rfl⟩
      have hcl : nn ≤ L[k].b.length := by rw [hnn]; exact crN_le hx
      have hT : S.extract 0 nn = ⟨(L[k].b.take nn).toArray⟩ := by
        rw [hS]
        apply ByteArray.ext
        apply Array.toList_inj.mp
        simp [ByteArray.data_extract, List.extract_eq_take_drop]
      have HCP := Lib.hid (show crP keep k L[k] = ⟨L[k].n, L[k].b.take nn, nn⟩ by unfold crP; rw [hnn])
      generalize share keep k = sh at *
      obtain ⟨dl, hdl⟩ : ∃ dl, dl = L[k].b.length - L[k].k := ⟨_, rfl⟩
      rw [← hdl] at hnn
      have hmul : dl * sh ≤ dl * 255 := Nat.mul_le_mul_left _ hsl
      obtain ⟨pr, hpr⟩ : ∃ pr, pr = dl * sh := ⟨_, rfl⟩
      rw [← hpr] at hnn hmul
      have hw1 : (S.size : Int) - (L[k].k : Int) = (dl : Int) := by omega
      have hw2 : (dl : Int) * (sh : Int) = (pr : Int) := by rw [hpr]; push_cast; rfl
      obtain ⟨qt, hqt⟩ : ∃ qt, qt = pr / 255 := ⟨_, rfl⟩
      have hw3 : (pr : Int) / 255 = (qt : Int) := by omega
      rw [← hqt] at hnn
      have hw4 : (L[k].k : Int) + (qt : Int) = (nn : Int) := by omega
      have hqb : qt ≤ 2000000 := by omega
      have hpb : pr ≤ 600000000 := by omega
      have hdb : dl ≤ 2000000 := by omega
      have hns : (nn : Int) ≤ (S.size : Int) := by omega
      have hSb : S.size ≤ 2000000 := by omega
      have hkk : L[k].k ≤ 2000000 := by omega
      have hXr : r < wr.heap.size := hR.lt (.inl rfl)
      have hXg : g < wr.heap.size := hR.lt (.inr rfl)
      obtain ⟨w2, hw2e⟩ : ∃ w2, w2 = wr.alloc (.cells #[.string L[k].n, .string S, .int .i64 L[k].k] 26) := ⟨_, rfl⟩
      have hB2 : Below wr.heap.size wr w2 := by rw [hw2e]; exact bel_alloc (Below.refl _ _) _
      have hR2 := hR.below hB2
      have hx2 : w2.heap[wr.heap.size]? = some (.cells #[.string L[k].n, .string S, .int .i64 L[k].k] 26 (0, 0)) := by rw [hw2e]; exact World.alloc_heap_new wr _
      have x1 := cell_of_row _ _ 1 _ _ _ hx2
      simp only [List.getElem?_toArray, List.getElem?_cons_zero, List.getElem?_cons_succ] at x1
      have hgc2 := (hB2.block g hXg).trans hgc
      obtain ⟨d0, d1, d2, g0, g1, g2⟩ := ref_cells hgc2 ht hkM
      rw [hMk] at d0 d1 d2
      rw [← hS] at d1
      have y1 := (hB2.cell (p := ⟨r, 1, none⟩) hXr).trans c1
      have hvM : (Value.slice (some ⟨g, 0, none⟩) L.length cap) = .slice (some ⟨g, 0, none⟩) M.length cap := by rw [hMl]
      have HS1 := Lib.hid (ref_two hR2 hvM hkM (L[k].b.take nn) nn)
      have HS2 := Lib.hid (ref_two' hR2 hvM hkM (L[k].b.take nn) nn)
      rw [← hT] at HS1 HS2
      have HW2 := Lib.hid hw2e
      have HF2 := Lib.hid (hF.trans (FrameT.below hB2))
      have HM1 := Lib.hid hM1
      have HM2 := Lib.hid hM2
      have HML := Lib.hid hMl
      have HMN := Lib.hid (show M[k].n = L[k].n by rw [hMk])
      have n1 : g ≠ r := fun e => hrg e.symm
      have n2 : g ≠ wr.heap.size := by omega
      have n3 : wr.heap.size ≠ g := by omega
      have n4 : r ≠ wr.heap.size := by omega
      have hns0 : (0 : Int) ≤ (nn : Int) := by omega
      clear hw2e hx2 hgc2
      generalize hxk : L[k].k = xk at *
      generalize hxn : L[k].n = xn at *
      generalize hxb : L[k].b = xb at *
      clear hxk hxn hxb
      clear hmul hpr hqt hnn hdl hS hSz hT hx hcl hxu hM1 hM2 hMk hgc ht hR hF
      go_wp2
      rw [← HW2.out]
      clear c0 c1 c2 c3 e0 e1 e2 f0 f1 f2 hw1 hw2 hw3 hw4 hsb
      have d1d : w2.drew.cell? ⟨g, k * 3 + 1, none⟩ = _ := d1
      have d2d : w2.drew.cell? ⟨g, k * 3 + 2, none⟩ = _ := d2
      have g1d : w2.drew.frozen? ⟨g, k * 3 + 1, none⟩ = _ := g1
      have g2d : w2.drew.frozen? ⟨g, k * 3 + 2, none⟩ = _ := g2
      go_region_held3 (fun W' => W'.cell? ⟨r, 1, none⟩ = some (.slice (some ⟨g, 0, none⟩) L.length cap) ∧ W'.cell? ⟨wr.heap.size, 1, none⟩ = some (.string S)) (go_keep) (fail)
      have HFin := Lib.hid (show ∃ M', M'.length = L.length ∧ (∀ j, j < k + 1 → M'[j]? = (crL keep 0 L)[j]?) ∧ (∀ j, k + 1 ≤ j → M'[j]? = L[j]?) ∧ HasRef ((w2.setCell ⟨g, k * 3 + 1, none⟩ (.string (S.extract 0 nn))).setCell ⟨g, k * 3 + 2, none⟩ (.int .i64 nn)).drew B r ⟨M', room, steps, lim, left⟩ (.slice (some ⟨g, 0, none⟩) L.length cap) ∧ FrameT (ownR r (.slice (some ⟨g, 0, none⟩) L.length cap)) W ((w2.setCell ⟨g, k * 3 + 1, none⟩ (.string (S.extract 0 nn))).setCell ⟨g, k * 3 + 2, none⟩ (.int .i64 nn)).drew from by
        refine ⟨M.set k (crP keep k L[k]), by rw [List.length_set]; exact HML.out, fun j hj => ?_, fun j hj => ?_, ?_, (HF2.out.trans HS1.out.2).drew⟩
        · rw [List.getElem?_set]
          by_cases e : k = j
          · subst e
            rw [if_pos rfl, if_pos hkM, crL_get, List.getElem?_eq_getElem hlt, Nat.zero_add]; rfl
          · rw [if_neg e]; exact HM1.out j (by omega)
        · rw [List.getElem?_set, if_neg (by omega)]; exact HM2.out j (by omega)
        · have := HS1.out.1.drew
          try dsimp only at this
          rw [HCP.out, ← HMN.out]
          exact this)
      go_wp2
      go_roundw
      case rel =>
        obtain ⟨M', q1, q2, q3, q4, q5⟩ := HFin.out
        exact ⟨k + 1, M', by omega, by go_num, q1, q2, q3, q4, q5⟩
      case measure => simp [intOf]; omega
    · obtain rfl : k = L.length := by omega
      have hM : M = crL keep 0 L := List.ext_getElem? fun j => by
        rcases Nat.lt_or_ge j L.length with h | h
        · exact hM1 j h
        · rw [hM2 j h, List.getElem?_eq_none h, List.getElem?_eq_none (by rw [(crL_used keep L 0).2]; exact h)]
      subst hM
      have HE := Lib.hid (crash_fin (D := ⟨L, room, steps, lim, left⟩) hR)
      have HF := Lib.hid hF
      obtain ⟨f1, f2, f3⟩ := frozen4 hR.cell
      have HFE := Lib.hid (show OpR W B r (.slice a L.length cap) (crashD ⟨L, room, steps, lim, left⟩ keep) (wr.setCell ⟨r, 3, none⟩ (.int .i64 (-1))) from OpR.own HE.out.1 (HF.out.trans HE.out.2))
      clear hM1 hM2 hMl hlt hR hF
      go_wp2
      refine bodyPost_end (results_none rfl _ _ _) rfl ?_
      exact ⟨⟨_, rfl⟩, HFE.out⟩

end Go.Proofs.Ytieekahlknmkfaa
