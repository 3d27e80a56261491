/- Law CutLeast: for every input the call answers true; its arguments read as they did. No condition. -/
import Derived.Test.YthedmemkckclpaaGreatLaw
import Derived.Test.YthedmemkckclpaaGreatKnown26
namespace Go.Proofs.YthedmemkckclpaaGreat.cutLeast
open Go.ChangeShapes Go.WideShapes Go.ChangeAt Go.RowKit Go.Shelf
open Go.ChangeMaps (open_string shut_string)
set_option linter.unusedVariables false
attribute [local go_sem] Oper.semAt_some wide_fn wide_round_fn

theorem infoSl26 : (Tryz.prog.info? 31).map (fun i => (i.zero, i.size, i.bytes)) = some (some (.slice none 0 0), 1, 24) := by kernel_rfl
theorem ownBlock26 {W : World} {base : Nat} {e : TypeId} {size : Nat} {v : Value} {k : Nat} {xs : List Value} (h : W.ownsRow base e size v k xs) {j : Nat} (hj : some j = v.ownBlock) : j < W.heap.size ∧ base ≤ j ∧ ∃ o : Obj, W.heap[j]? = some o ∧ o.isCells = true := by
  rcases h.2 with ⟨rfl, _⟩ | ⟨g, cap, cur, rfl, hb, hg, _⟩
  · simp [Value.ownBlock] at hj
  · obtain rfl : j = g := by simpa [Value.ownBlock] using hj
    exact ⟨(Array.getElem?_eq_some_iff.1 hg).1, hb, _, hg, rfl⟩
theorem ms_grown26 {w W W' : World} {d C : Nat} {e : TypeId} {sz : Nat} {v : Value} {n : Nat} {xs : List Value} (h : MS w d [] W) (hdC : d < C) (hv : W.ownsRow C e sz v n xs) (hF : FrameT (fun k => some k = v.ownBlock) W W') : MS w d [] W' := by
  obtain ⟨m, F, h, e, hd, h0⟩ := h
  obtain ⟨es, clock, hb⟩ := h.2.block
  rw [List.map_eq_nil_iff] at e
  subst e
  refine ⟨m, [], h.frame hF (fun k => ?_) (fun k => ?_) (fun y hy => by cases hy), rfl, hd, h0.trans (hF.toBelow h0.size fun k hk => ?_)⟩
  · have := (ownBlock26 hv k).2.1; omega
  · obtain ⟨_, _, o, ho, hc⟩ := ownBlock26 hv k
    rw [hb] at ho; cases ho; cases hc
  · have := (ownBlock26 hv hk).2.1; omega
def PatL (pre : List LC) : Prop := ∀ (i : Nat) (h : i < pre.length), pre[i].L = patC (i % 3)
theorem PatL.three {pre : List LC} (h : PatL pre) {j : Nat} (hl : pre.length = 3 * j) (a b c : Nat) : PatL (pre ++ [lcOf a 3 2, lcOf b 4 5, lcOf c 3 5]) := fun i hi => by
  by_cases e : i < pre.length
  · rw [List.getElem_append_left e]; exact h i e
  · have hi' : i < pre.length + 3 := by simpa using hi
    rw [List.getElem_append_right (by omega)]
    have h3 : i = pre.length ∨ i = pre.length + 1 ∨ i = pre.length + 2 := by omega
    rcases h3 with rfl | rfl | rfl
    · simp only [Nat.sub_self, List.getElem_cons_zero]; rw [hl, show 3 * j % 3 = 0 by omega]; rfl
    · simp only [Nat.add_sub_cancel_left, List.getElem_cons_succ, List.getElem_cons_zero]; rw [hl, show (3 * j + 1) % 3 = 1 by omega]; rfl
    · simp only [Nat.add_sub_cancel_left, List.getElem_cons_succ, List.getElem_cons_zero]; rw [hl, show (3 * j + 2) % 3 = 2 by omega]; rfl
theorem PatL.cut {pre : List LC} (h : PatL pre) (j : Nat) (hj : j ≤ pre.length) : cutL [] (pre.map LC.L) j = cuTr (j % 3) :=
  cut_pat (fun i hi => by rw [List.getElem_map]; exact h i (by rwa [List.length_map] at hi)) j (by rw [List.length_map]; exact hj)
theorem news26 (wr : World) : ∀ j u, ([.slice (some ⟨wr.heap.size, 0, none⟩) 1 1, .slice (some ⟨(wr.heap.size + 1), 0, none⟩) 1 1, .slice (some ⟨(wr.heap.size + 1 + 1), 0, none⟩) 1 1] : List Value)[j]? = some u → ((((wr.alloc (.cells #[.int .i64 3, .int .i64 2, .slice none 0 0, .int .i64 0, .int .i64 0, .int .i64 0, .int .i64 0, .int .i64 0, .bool false, .bool false] 30)).alloc (.cells #[.int .i64 4, .int .i64 5, .slice none 0 0, .int .i64 0, .int .i64 0, .int .i64 0, .int .i64 0, .int .i64 0, .bool false, .bool false] 30)).alloc (.cells #[.int .i64 3, .int .i64 5, .slice none 0 0, .int .i64 0, .int .i64 0, .int .i64 0, .int .i64 0, .int .i64 0, .bool false, .bool false] 30)).alloc (.cells #[.slice (some ⟨wr.heap.size, 0, none⟩) 1 1, .slice (some ⟨(wr.heap.size + 1), 0, none⟩) 1 1, .slice (some ⟨(wr.heap.size + 1 + 1), 0, none⟩) 1 1] 31)).cell? ((⟨(wr.heap.size + 1 + 1 + 1), 0, none⟩ : Addr).add j) = some u := by
  have h := news_new (((wr.alloc (.cells #[.int .i64 3, .int .i64 2, .slice none 0 0, .int .i64 0, .int .i64 0, .int .i64 0, .int .i64 0, .int .i64 0, .bool false, .bool false] 30)).alloc (.cells #[.int .i64 4, .int .i64 5, .slice none 0 0, .int .i64 0, .int .i64 0, .int .i64 0, .int .i64 0, .int .i64 0, .bool false, .bool false] 30)).alloc (.cells #[.int .i64 3, .int .i64 5, .slice none 0 0, .int .i64 0, .int .i64 0, .int .i64 0, .int .i64 0, .int .i64 0, .bool false, .bool false] 30)) 31 [.slice (some ⟨wr.heap.size, 0, none⟩) 1 1, .slice (some ⟨(wr.heap.size + 1), 0, none⟩) 1 1, .slice (some ⟨(wr.heap.size + 1 + 1), 0, none⟩) 1 1]
  have e : (((wr.alloc (.cells #[.int .i64 3, .int .i64 2, .slice none 0 0, .int .i64 0, .int .i64 0, .int .i64 0, .int .i64 0, .int .i64 0, .bool false, .bool false] 30)).alloc (.cells #[.int .i64 4, .int .i64 5, .slice none 0 0, .int .i64 0, .int .i64 0, .int .i64 0, .int .i64 0, .int .i64 0, .bool false, .bool false] 30)).alloc (.cells #[.int .i64 3, .int .i64 5, .slice none 0 0, .int .i64 0, .int .i64 0, .int .i64 0, .int .i64 0, .int .i64 0, .bool false, .bool false] 30)).heap.size = (wr.heap.size + 1 + 1 + 1) := by simp
  rw [e] at h
  exact h
theorem three26 (wr : World) {C : Nat} {v : Value} (hC : C ≤ wr.heap.size) (hv : ∀ j, some j = v.ownBlock → j < wr.heap.size) : ∀ x ∈ [lcOf wr.heap.size 3 2, lcOf (wr.heap.size + 1) 4 5, lcOf (wr.heap.size + 1 + 1) 3 5], LcOk C v ((((wr.alloc (.cells #[.int .i64 3, .int .i64 2, .slice none 0 0, .int .i64 0, .int .i64 0, .int .i64 0, .int .i64 0, .int .i64 0, .bool false, .bool false] 30)).alloc (.cells #[.int .i64 4, .int .i64 5, .slice none 0 0, .int .i64 0, .int .i64 0, .int .i64 0, .int .i64 0, .int .i64 0, .bool false, .bool false] 30)).alloc (.cells #[.int .i64 3, .int .i64 5, .slice none 0 0, .int .i64 0, .int .i64 0, .int .i64 0, .int .i64 0, .int .i64 0, .bool false, .bool false] 30)).alloc (.cells #[.slice (some ⟨wr.heap.size, 0, none⟩) 1 1, .slice (some ⟨(wr.heap.size + 1), 0, none⟩) 1 1, .slice (some ⟨(wr.heap.size + 1 + 1), 0, none⟩) 1 1] 31)) x := fun x hx => by
  have e1 : (wr.alloc (.cells #[.int .i64 3, .int .i64 2, .slice none 0 0, .int .i64 0, .int .i64 0, .int .i64 0, .int .i64 0, .int .i64 0, .bool false, .bool false] 30)).heap.size = (wr.heap.size + 1) := by simp
  have e2 : ((wr.alloc (.cells #[.int .i64 3, .int .i64 2, .slice none 0 0, .int .i64 0, .int .i64 0, .int .i64 0, .int .i64 0, .int .i64 0, .bool false, .bool false] 30)).alloc (.cells #[.int .i64 4, .int .i64 5, .slice none 0 0, .int .i64 0, .int .i64 0, .int .i64 0, .int .i64 0, .int .i64 0, .bool false, .bool false] 30)).heap.size = (wr.heap.size + 1 + 1) := by simp
  simp only [List.mem_cons, List.not_mem_nil, or_false] at hx
  rcases hx with rfl | rfl | rfl
  · exact lcOk_bare ⟨by decide, by decide⟩ (bel_alloc (bel_alloc (bel_alloc (Below.refl _ _) _) _) _) hC (fun e => by have := hv _ e; omega)
  · have := lcOk_bare (C := C) (v := v) (w := (wr.alloc (.cells #[.int .i64 3, .int .i64 2, .slice none 0 0, .int .i64 0, .int .i64 0, .int .i64 0, .int .i64 0, .int .i64 0, .bool false, .bool false] 30))) (g := 4) (k := 5) ⟨by decide, by decide⟩ (bel_alloc (bel_alloc (Below.refl _ _) (.cells #[.int .i64 3, .int .i64 5, .slice none 0 0, .int .i64 0, .int .i64 0, .int .i64 0, .int .i64 0, .int .i64 0, .bool false, .bool false] 30)) (.cells #[.slice (some ⟨wr.heap.size, 0, none⟩) 1 1, .slice (some ⟨(wr.heap.size + 1), 0, none⟩) 1 1, .slice (some ⟨(wr.heap.size + 1 + 1), 0, none⟩) 1 1] 31)) (by rw [e1]; omega) (fun e => by rw [e1] at e; have := hv _ e; omega)
    rwa [e1] at this
  · have := lcOk_bare (C := C) (v := v) (w := ((wr.alloc (.cells #[.int .i64 3, .int .i64 2, .slice none 0 0, .int .i64 0, .int .i64 0, .int .i64 0, .int .i64 0, .int .i64 0, .bool false, .bool false] 30)).alloc (.cells #[.int .i64 4, .int .i64 5, .slice none 0 0, .int .i64 0, .int .i64 0, .int .i64 0, .int .i64 0, .int .i64 0, .bool false, .bool false] 30))) (g := 3) (k := 5) ⟨by decide, by decide⟩ (bel_alloc (Below.refl _ _) (.cells #[.slice (some ⟨wr.heap.size, 0, none⟩) 1 1, .slice (some ⟨(wr.heap.size + 1), 0, none⟩) 1 1, .slice (some ⟨(wr.heap.size + 1 + 1), 0, none⟩) 1 1] 31)) (by rw [e2]; omega) (fun e => by rw [e2] at e; have := hv _ e; omega)
    rwa [e2] at this
set_option maxRecDepth 100000 in
set_option maxHeartbeats 4000000 in
theorem least_none (n : Nat) (hn : n < 256) (k : Nat) (hk : k < 256) (hz : (k % (3 * (n % 10 + 1) + 1)) % 3 = 0) (w : World) : Calls Tryz.prog 3 #[.int .u8 n, .int .u8 k] w fun e w' => e = .returned (.bool true) ∧ Below w.heap.size w w' := by
  have GK := Lib.hid cut_known
  obtain ⟨i0, hi, hz0, hz1, hz2⟩ := info_parts infoSl26
  obtain ⟨c, hc, hc1, hc2, hcn⟩ : ∃ c : Nat, (n : Int) % 10 + 1 = (c : Int) ∧ 1 ≤ c ∧ c ≤ 10 ∧ c = n % 10 + 1 := ⟨n % 10 + 1, by omega, by omega, by omega, rfl⟩
  rw [← hcn] at hz
  obtain ⟨j0, hj0, hjc⟩ : ∃ j0, j0 = k % (3 * c + 1) ∧ j0 ≤ 3 * c := ⟨_, rfl, by have := Nat.mod_lt k (show 0 < 3 * c + 1 by omega); omega⟩
  rw [← hj0] at hz
  have HJ0 := Lib.hid (show (k : Int) % (3 * (c : Int) + 1) = (j0 : Int) by rw [hj0]; push_cast; rfl)
  have HZ := Lib.hid hz
  have GN := Lib.hid (fun w1 (hB : Below w.heap.size w w1) => ms_new hB)
  clear hcn hj0 hz
  go_enter Tryz.func3, Tryz.ntmps3
  go_wp2_with (first
    | (go_at_call 4; ((with_reducible refine (GK.out _).mono ?_); rintro e w1 ⟨rfl, hB1⟩))
    | (go_at_call 5; ((with_reducible refine (GN.out _ hB1).mono ?_); rintro e w2 ⟨d, rfl, -, hM, -⟩; clear hB1)))
  have hd2 := hM.lt
  clear hc
  obtain ⟨C, hC⟩ : ∃ C, C = w2.heap.size := ⟨_, rfl⟩
  have hI0 : lsI C (.slice none 0 0) [] w2 := lsI_nil _ _
  go_loopw [6, 8] (fun s q wr => ∃ (j : Nat) (pre : List LC) (v : Value), j ≤ c ∧ v = s ∧ q = .int .i64 (j : Int) ∧ pre.length = 3 * j ∧ PatL pre ∧ lsI C v pre wr ∧ MS w d [] wr ∧ C ≤ wr.heap.size) (fun _ q _ => c - (intOf q).toNat)
  case atStart => exact ⟨0, [], _, by omega, rfl, rfl, rfl, (fun i h => by cases h), hI0, hM, by omega⟩
  case round =>
  obtain ⟨j, pre, v, hj, rfl, rfl, hlen, hP, hI, hMr, hCr⟩ := hrel
  clear hM hI0
  by_cases hlt : j < c
  · have hlt' : (j : Int) < (c : Int) := by omega
    have hw9 : IntKind.i64.wrap ((j : Int) + 1) = ((j + 1 : Nat) : Int) := (IntWalk.i64_in _ (by omega)).trans (by push_cast; rfl)
    have HP := Lib.hid hP
    have HLEN := Lib.hid hlen
    have HDC := Lib.hid (show d < C by omega)
    have hA := bel_alloc (bel_alloc (bel_alloc (bel_alloc (Below.refl wr.heap.size wr) (.cells #[.int .i64 3, .int .i64 2, .slice none 0 0, .int .i64 0, .int .i64 0, .int .i64 0, .int .i64 0, .int .i64 0, .bool false, .bool false] 30)) (.cells #[.int .i64 4, .int .i64 5, .slice none 0 0, .int .i64 0, .int .i64 0, .int .i64 0, .int .i64 0, .int .i64 0, .bool false, .bool false] 30)) (.cells #[.int .i64 3, .int .i64 5, .slice none 0 0, .int .i64 0, .int .i64 0, .int .i64 0, .int .i64 0, .int .i64 0, .bool false, .bool false] 30)) (.cells #[.slice (some ⟨wr.heap.size, 0, none⟩) 1 1, .slice (some ⟨(wr.heap.size + 1), 0, none⟩) 1 1, .slice (some ⟨(wr.heap.size + 1 + 1), 0, none⟩) 1 1] 31)
    have HI4 := Lib.hid (hI.below hA)
    have HM4 := Lib.hid (hMr.below hA)
    have HX4 := Lib.hid (three26 wr hCr (fun j hj => (ownBlock26 hI.1 hj).1))
    have HC4 := Lib.hid (Nat.le_trans hCr hA.size)
    clear hP hlen hC hd2 hA hI hMr
    go_wp2_with (at_builtin; refine wpList_append_own_at _ rfl _ _ 25 rfl C 31 i0 (.slice none 0 0) 1 24 Tryz.underlying25 hi hz0 hz1 hz2 rfl (by decide) _ _ _ rfl HI4.out.1 ⟨(wr.heap.size + 1 + 1 + 1), 0, none⟩ 3 3 [.slice (some ⟨wr.heap.size, 0, none⟩) 1 1, .slice (some ⟨(wr.heap.size + 1), 0, none⟩) 1 1, .slice (some ⟨(wr.heap.size + 1 + 1), 0, none⟩) 1 1] rfl rfl (news26 wr) (by simp [Value.oneCell']) (by unfold maxLen; have := HLEN.out; omega) (by have := HLEN.out; omega) HC4.out ?_; intro v' w9 hown9 hgrow9 _ hnew9; have HLA := Lib.hid (lsI_append (xs := [lcOf wr.heap.size 3 2, lcOf (wr.heap.size + 1) 4 5, lcOf (wr.heap.size + 1 + 1) 3 5]) HI4.out HX4.out hown9 hgrow9 hnew9); have HMA := Lib.hid (ms_grown26 HM4.out HDC.out HI4.out.1 HLA.out.2); have HCA := Lib.hid (Nat.le_trans HC4.out HLA.out.2.size); clear hown9 hgrow9 hnew9)
    go_roundw
    case rel => exact ⟨j + 1, pre ++ [lcOf wr.heap.size 3 2, lcOf (wr.heap.size + 1) 4 5, lcOf (wr.heap.size + 1 + 1) 3 5], _, by omega, rfl, by go_num, by rw [List.length_append, HLEN.out]; rfl, HP.out.three HLEN.out _ _ _, HLA.out.1, HMA.out, HCA.out⟩
    case measure => simp [intOf]; omega
  have hOJ : j = c := by omega
  replace hlen : pre.length = 3 * c := hOJ ▸ hlen
  subst j
  have hge : ¬ (c : Int) < (c : Int) := by omega
  obtain ⟨la, lc, rfl, hL⟩ := hI.lists (by omega)
  rw [hlen] at hL
  have hcut := hP.cut j0 (by omega)
  have hML : (pre.map LC.L).length = 3 * c := by rw [List.length_map, hlen]
  have hTj : cuTr (j0 % 3) = [] := by have := HZ.out; rw [this]; rfl
  rw [hTj] at hcut
  have hcut1 : cutL [] (pre.map LC.L) 1 = [newG 3] := hP.cut 1 (by omega)
  have GA := Lib.hid (fun W (h : MS w d [] W) (hL : ListsAt W la (3 * c) pre) => (show Calls Tryz.prog 6 #[.pointer (some ⟨d, 0, none⟩), .slice la (3 * c) lc, .int .i64 (j0 : Int)] W fun e w' => ∃ a, e = .returned (.pointer (some ⟨a, 0, none⟩)) ∧ MS w a [] w' ∧ Below W.heap.size W w' from by
    have := after_any (lcap := lc) hL h (manOK_nil 0) (by omega) (j0 : Int) j0 rfl (by omega)
    rw [hcut] at this
    exact this.mono fun e w' ⟨a, h1, _, h2, h3⟩ => ⟨a, h1, h2, h3⟩))
  have hTok : manOK 1 ([] : List GM) := manOK_nil 1
  have GL := Lib.hid (fun W a (h : MS w a [] W) => (show Calls Tryz.prog 8 #[.pointer (some ⟨a, 0, none⟩)] W fun e w' => ∃ ga gc Gl, e = .returned (.slice ga 0 gc) ∧ Gl.length = 0 ∧ RowV w' ga 0 7 (gvCells Gl) ∧ (∀ x ∈ Gl, HasG w' x.a x.g ∧ in64 x.g.id) ∧ ofL (Gl.map GV.g) = ([] : List GM) ∧ (∀ x ∈ Gl, getZ GM.id ([] : List GM) x.g.id = some x.g) ∧ Below W.heap.size W w' from cut_all h hTok (by kernel_rfl) (Nat.zero_le _)))
  have GL0 := Lib.hid (fun W (h : MS w d [] W) => (show Calls Tryz.prog 8 #[.pointer (some ⟨d, 0, none⟩)] W fun e w' => ∃ ga gc, e = .returned (.slice ga 0 gc) ∧ Below W.heap.size W w' from (cut_all h (manOK_nil 1) rfl (Nat.zero_le _)).mono fun e w' ⟨ga, gc, Gl, h1, _, _, _, _, _, h2⟩ => ⟨ga, gc, h1, h2⟩))
  have GF := Lib.hid (fun W ga gc Gl (h : MS w d [] W) (hL : ListsAt W la (3 * c) pre) (h1 : Gl.length = 0) (h2 : RowV W ga 0 7 (gvCells Gl)) (h3 : ∀ x ∈ Gl, HasG W x.a x.g ∧ in64 x.g.id) (h4 : ofL (Gl.map GV.g) = ([] : List GM)) (h5 : ∀ x ∈ Gl, getZ GM.id ([] : List GM) x.g.id = some x.g) => (show Calls Tryz.prog 7 #[.slice ga 0 gc, .pointer (some ⟨d, 0, none⟩), .slice la (3 * c) lc] W fun e w' => e = .returned (.tuple #[.int .i64 0, .bool true]) ∧ Below W.heap.size W w' from by
    have := fits_any (lcap := lc) hL h (manOK_nil 0) (by omega) ga 0 gc Gl h1 (by decide) h2 h3 h4 (manOK_mono hTok (by decide)) h5
    refine this.mono ?_
    rintro e w' ⟨n, b, rfl, hf, hB⟩
    obtain ⟨rfl, rfl⟩ := fit_zero hf
    exact ⟨rfl, hB⟩))
  have hLlen : (3 * c : Int) = ((3 * c : Nat) : Int) := by push_cast; rfl
  have q1 : IntKind.i64.wrap (3 * (c : Int)) = 3 * (c : Int) := IntWalk.i64_in _ (by omega)
  have q2 : IntKind.i64.wrap (3 * (c : Int) + 1) = 3 * (c : Int) + 1 := IntWalk.i64_in _ (by omega)
  have q3 : ((3 * (c : Int) + 1) == 0) = false := by rw [beq_eq_false_iff_ne]; omega
  have q3' : ¬ (3 * (c : Int) + 1) = 0 := by omega
  have q4 : (k : Int).tmod (3 * (c : Int) + 1) = (j0 : Int) := (Int.tmod_eq_emod_of_nonneg (by omega)).trans HJ0.out
  have q5 := HJ0.out
  have q6 : (j0 : Int) % 3 = 0 := by have := HZ.out; omega
  have q7 : (j0 : Int).tmod 3 = (j0 : Int) % 3 := Int.tmod_eq_emod_of_nonneg (by omega)
  
  have q9 : IntKind.i64.wrap (j0 : Int) = (j0 : Int) := IntWalk.i64_in _ (by omega)
  clear hP hI hcut hcut1 hML hTj hTok hlen hd2 hC hCr hLlen hlt hj
  rw [show pre.length = 3 * c from by have := hL.1; exact this]
  go_wp2_with (first
    | (go_at_call 6; ((with_reducible refine (GA.out _ hMr hL).mono ?_); rintro e w3 ⟨a, rfl, hA3, hB⟩; have hM3 := hMr.below hB; have hL3 := hL.below hB; clear hB hMr hL))
    | (go_at_call 8; ((with_reducible refine (GL.out _ _ hA3).mono ?_); rintro e w4 ⟨ga, gc, Gl, rfl, b1, b2, b3, b4, b5, hB⟩; have hM4 := hM3.below hB; have hL4 := hL3.below hB; have hA4 := hA3.below hB; clear hB hM3 hL3 hA3))
    | (go_at_call 7; ((with_reducible refine (GF.out _ _ _ _ hM4 hL4 b1 b2 b3 b4 b5).mono ?_); rintro e w5 ⟨rfl, hB⟩; have hM5 := hM4.below hB; have hA5 := hA4.below hB; clear hB hM4 hL4 hA4 b1 b2 b3 b4 b5))
    | (go_at_call 8; ((with_reducible refine (GL.out _ _ hA5).mono ?_); rintro e w6 ⟨ga6, gc6, Gl6, rfl, -, -, -, -, -, hB⟩; have hM6 := hM5.below hB; clear hB hM5 hA5))
    | (go_at_call 8; ((with_reducible refine (GL0.out _ hM6).mono ?_); rintro e w7 ⟨ga7, gc7, rfl, hB⟩; have hMz := hM6.below hB; clear hB hM6)))
  go_ret
  exact ⟨by simp, hMz.bel⟩
set_option maxRecDepth 100000 in
set_option maxHeartbeats 4000000 in
theorem least_one (n : Nat) (hn : n < 256) (k : Nat) (hk : k < 256) (hz : (k % (3 * (n % 10 + 1) + 1)) % 3 ≠ 0) (w : World) : Calls Tryz.prog 3 #[.int .u8 n, .int .u8 k] w fun e w' => e = .returned (.bool true) ∧ Below w.heap.size w w' := by
  have GK := Lib.hid cut_known
  obtain ⟨i0, hi, hz0, hz1, hz2⟩ := info_parts infoSl26
  obtain ⟨c, hc, hc1, hc2, hcn⟩ : ∃ c : Nat, (n : Int) % 10 + 1 = (c : Int) ∧ 1 ≤ c ∧ c ≤ 10 ∧ c = n % 10 + 1 := ⟨n % 10 + 1, by omega, by omega, by omega, rfl⟩
  rw [← hcn] at hz
  obtain ⟨j0, hj0, hjc⟩ : ∃ j0, j0 = k % (3 * c + 1) ∧ j0 ≤ 3 * c := ⟨_, rfl, by have := Nat.mod_lt k (show 0 < 3 * c + 1 by omega); omega⟩
  rw [← hj0] at hz
  have HJ0 := Lib.hid (show (k : Int) % (3 * (c : Int) + 1) = (j0 : Int) by rw [hj0]; push_cast; rfl)
  have HZ := Lib.hid hz
  have GN := Lib.hid (fun w1 (hB : Below w.heap.size w w1) => ms_new hB)
  clear hcn hj0 hz
  go_enter Tryz.func3, Tryz.ntmps3
  go_wp2_with (first
    | (go_at_call 4; ((with_reducible refine (GK.out _).mono ?_); rintro e w1 ⟨rfl, hB1⟩))
    | (go_at_call 5; ((with_reducible refine (GN.out _ hB1).mono ?_); rintro e w2 ⟨d, rfl, -, hM, -⟩; clear hB1)))
  have hd2 := hM.lt
  clear hc
  obtain ⟨C, hC⟩ : ∃ C, C = w2.heap.size := ⟨_, rfl⟩
  have hI0 : lsI C (.slice none 0 0) [] w2 := lsI_nil _ _
  go_loopw [6, 8] (fun s q wr => ∃ (j : Nat) (pre : List LC) (v : Value), j ≤ c ∧ v = s ∧ q = .int .i64 (j : Int) ∧ pre.length = 3 * j ∧ PatL pre ∧ lsI C v pre wr ∧ MS w d [] wr ∧ C ≤ wr.heap.size) (fun _ q _ => c - (intOf q).toNat)
  case atStart => exact ⟨0, [], _, by omega, rfl, rfl, rfl, (fun i h => by cases h), hI0, hM, by omega⟩
  case round =>
  obtain ⟨j, pre, v, hj, rfl, rfl, hlen, hP, hI, hMr, hCr⟩ := hrel
  clear hM hI0
  by_cases hlt : j < c
  · have hlt' : (j : Int) < (c : Int) := by omega
    have hw9 : IntKind.i64.wrap ((j : Int) + 1) = ((j + 1 : Nat) : Int) := (IntWalk.i64_in _ (by omega)).trans (by push_cast; rfl)
    have HP := Lib.hid hP
    have HLEN := Lib.hid hlen
    have HDC := Lib.hid (show d < C by omega)
    have hA := bel_alloc (bel_alloc (bel_alloc (bel_alloc (Below.refl wr.heap.size wr) (.cells #[.int .i64 3, .int .i64 2, .slice none 0 0, .int .i64 0, .int .i64 0, .int .i64 0, .int .i64 0, .int .i64 0, .bool false, .bool false] 30)) (.cells #[.int .i64 4, .int .i64 5, .slice none 0 0, .int .i64 0, .int .i64 0, .int .i64 0, .int .i64 0, .int .i64 0, .bool false, .bool false] 30)) (.cells #[.int .i64 3, .int .i64 5, .slice none 0 0, .int .i64 0, .int .i64 0, .int .i64 0, .int .i64 0, .int .i64 0, .bool false, .bool false] 30)) (.cells #[.slice (some ⟨wr.heap.size, 0, none⟩) 1 1, .slice (some ⟨(wr.heap.size + 1), 0, none⟩) 1 1, .slice (some ⟨(wr.heap.size + 1 + 1), 0, none⟩) 1 1] 31)
    have HI4 := Lib.hid (hI.below hA)
    have HM4 := Lib.hid (hMr.below hA)
    have HX4 := Lib.hid (three26 wr hCr (fun j hj => (ownBlock26 hI.1 hj).1))
    have HC4 := Lib.hid (Nat.le_trans hCr hA.size)
    clear hP hlen hC hd2 hA hI hMr
    go_wp2_with (at_builtin; refine wpList_append_own_at _ rfl _ _ 25 rfl C 31 i0 (.slice none 0 0) 1 24 Tryz.underlying25 hi hz0 hz1 hz2 rfl (by decide) _ _ _ rfl HI4.out.1 ⟨(wr.heap.size + 1 + 1 + 1), 0, none⟩ 3 3 [.slice (some ⟨wr.heap.size, 0, none⟩) 1 1, .slice (some ⟨(wr.heap.size + 1), 0, none⟩) 1 1, .slice (some ⟨(wr.heap.size + 1 + 1), 0, none⟩) 1 1] rfl rfl (news26 wr) (by simp [Value.oneCell']) (by unfold maxLen; have := HLEN.out; omega) (by have := HLEN.out; omega) HC4.out ?_; intro v' w9 hown9 hgrow9 _ hnew9; have HLA := Lib.hid (lsI_append (xs := [lcOf wr.heap.size 3 2, lcOf (wr.heap.size + 1) 4 5, lcOf (wr.heap.size + 1 + 1) 3 5]) HI4.out HX4.out hown9 hgrow9 hnew9); have HMA := Lib.hid (ms_grown26 HM4.out HDC.out HI4.out.1 HLA.out.2); have HCA := Lib.hid (Nat.le_trans HC4.out HLA.out.2.size); clear hown9 hgrow9 hnew9)
    go_roundw
    case rel => exact ⟨j + 1, pre ++ [lcOf wr.heap.size 3 2, lcOf (wr.heap.size + 1) 4 5, lcOf (wr.heap.size + 1 + 1) 3 5], _, by omega, rfl, by go_num, by rw [List.length_append, HLEN.out]; rfl, HP.out.three HLEN.out _ _ _, HLA.out.1, HMA.out, HCA.out⟩
    case measure => simp [intOf]; omega
  have hOJ : j = c := by omega
  replace hlen : pre.length = 3 * c := hOJ ▸ hlen
  subst j
  have hge : ¬ (c : Int) < (c : Int) := by omega
  obtain ⟨la, lc, rfl, hL⟩ := hI.lists (by omega)
  rw [hlen] at hL
  have hcut := hP.cut j0 (by omega)
  have hML : (pre.map LC.L).length = 3 * c := by rw [List.length_map, hlen]
  have hTj : cuTr (j0 % 3) = [newG 3] := by have := HZ.out; unfold cuTr; rw [if_neg this]
  rw [hTj] at hcut
  have hcut1 : cutL [] (pre.map LC.L) 1 = [newG 3] := hP.cut 1 (by omega)
  have GA := Lib.hid (fun W (h : MS w d [] W) (hL : ListsAt W la (3 * c) pre) => (show Calls Tryz.prog 6 #[.pointer (some ⟨d, 0, none⟩), .slice la (3 * c) lc, .int .i64 (j0 : Int)] W fun e w' => ∃ a, e = .returned (.pointer (some ⟨a, 0, none⟩)) ∧ MS w a [newG 3] w' ∧ Below W.heap.size W w' from by
    have := after_any (lcap := lc) hL h (manOK_nil 0) (by omega) (j0 : Int) j0 rfl (by omega)
    rw [hcut] at this
    exact this.mono fun e w' ⟨a, h1, _, h2, h3⟩ => ⟨a, h1, h2, h3⟩))
  have hTok : manOK 1 ([newG 3] : List GM) := newG_ok 3 (by decide)
  have GL := Lib.hid (fun W a (h : MS w a [newG 3] W) => (show Calls Tryz.prog 8 #[.pointer (some ⟨a, 0, none⟩)] W fun e w' => ∃ ga gc Gl, e = .returned (.slice ga 1 gc) ∧ Gl.length = 1 ∧ RowV w' ga 1 7 (gvCells Gl) ∧ (∀ x ∈ Gl, HasG w' x.a x.g ∧ in64 x.g.id) ∧ ofL (Gl.map GV.g) = ([newG 3] : List GM) ∧ (∀ x ∈ Gl, getZ GM.id ([newG 3] : List GM) x.g.id = some x.g) ∧ Below W.heap.size W w' from cut_all h hTok (by kernel_rfl) (Nat.le_refl _)))
  have GL0 := Lib.hid (fun W (h : MS w d [] W) => (show Calls Tryz.prog 8 #[.pointer (some ⟨d, 0, none⟩)] W fun e w' => ∃ ga gc, e = .returned (.slice ga 0 gc) ∧ Below W.heap.size W w' from (cut_all h (manOK_nil 1) rfl (Nat.zero_le _)).mono fun e w' ⟨ga, gc, Gl, h1, _, _, _, _, _, h2⟩ => ⟨ga, gc, h1, h2⟩))
  have GF := Lib.hid (fun W ga gc Gl (h : MS w d [] W) (hL : ListsAt W la (3 * c) pre) (h1 : Gl.length = 1) (h2 : RowV W ga 1 7 (gvCells Gl)) (h3 : ∀ x ∈ Gl, HasG W x.a x.g ∧ in64 x.g.id) (h4 : ofL (Gl.map GV.g) = ([newG 3] : List GM)) (h5 : ∀ x ∈ Gl, getZ GM.id ([newG 3] : List GM) x.g.id = some x.g) => (show Calls Tryz.prog 7 #[.slice ga 1 gc, .pointer (some ⟨d, 0, none⟩), .slice la (3 * c) lc] W fun e w' => e = .returned (.tuple #[.int .i64 1, .bool true]) ∧ Below W.heap.size W w' from by
    have := fits_any (lcap := lc) hL h (manOK_nil 0) (by omega) ga 1 gc Gl h1 (by decide) h2 h3 h4 (manOK_mono hTok (by decide)) h5
    refine this.mono ?_
    rintro e w' ⟨n, b, rfl, hf, hB⟩
    obtain ⟨rfl, rfl⟩ := fit_one (by omega) hcut1 hf
    exact ⟨rfl, hB⟩))
  have hLlen : (3 * c : Int) = ((3 * c : Nat) : Int) := by push_cast; rfl
  have q1 : IntKind.i64.wrap (3 * (c : Int)) = 3 * (c : Int) := IntWalk.i64_in _ (by omega)
  have q2 : IntKind.i64.wrap (3 * (c : Int) + 1) = 3 * (c : Int) + 1 := IntWalk.i64_in _ (by omega)
  have q3 : ((3 * (c : Int) + 1) == 0) = false := by rw [beq_eq_false_iff_ne]; omega
  have q3' : ¬ (3 * (c : Int) + 1) = 0 := by omega
  have q4 : (k : Int).tmod (3 * (c : Int) + 1) = (j0 : Int) := (Int.tmod_eq_emod_of_nonneg (by omega)).trans HJ0.out
  have q5 := HJ0.out
  have q6 : ¬ (j0 : Int) % 3 = 0 := by have := HZ.out; omega
  have q7 : (j0 : Int).tmod 3 = (j0 : Int) % 3 := Int.tmod_eq_emod_of_nonneg (by omega)
  have q8 : ((j0 : Int) % 3 == 0) = false := by rw [beq_eq_false_iff_ne]; exact q6
  have q9 : IntKind.i64.wrap (j0 : Int) = (j0 : Int) := IntWalk.i64_in _ (by omega)
  clear hP hI hcut hcut1 hML hTj hTok hlen hd2 hC hCr hLlen hlt hj
  rw [show pre.length = 3 * c from by have := hL.1; exact this]
  go_wp2_with (first
    | (go_at_call 6; ((with_reducible refine (GA.out _ hMr hL).mono ?_); rintro e w3 ⟨a, rfl, hA3, hB⟩; have hM3 := hMr.below hB; have hL3 := hL.below hB; clear hB hMr hL))
    | (go_at_call 8; ((with_reducible refine (GL.out _ _ hA3).mono ?_); rintro e w4 ⟨ga, gc, Gl, rfl, b1, b2, b3, b4, b5, hB⟩; have hM4 := hM3.below hB; have hL4 := hL3.below hB; have hA4 := hA3.below hB; clear hB hM3 hL3 hA3))
    | (go_at_call 7; ((with_reducible refine (GF.out _ _ _ _ hM4 hL4 b1 b2 b3 b4 b5).mono ?_); rintro e w5 ⟨rfl, hB⟩; have hM5 := hM4.below hB; have hA5 := hA4.below hB; clear hB hM4 hL4 hA4 b1 b2 b3 b4 b5))
    | (go_at_call 8; ((with_reducible refine (GL.out _ _ hA5).mono ?_); rintro e w6 ⟨ga6, gc6, Gl6, rfl, -, -, -, -, -, hB⟩; have hM6 := hM5.below hB; clear hB hM5 hA5))
    | (go_at_call 8; ((with_reducible refine (GL0.out _ hM6).mono ?_); rintro e w7 ⟨ga7, gc7, rfl, hB⟩; have hMz := hM6.below hB; clear hB hM6)))
  go_ret
  exact ⟨by simp, hMz.bel⟩
theorem walk (n : Nat) (hn : n < 256) (k : Nat) (hk : k < 256) (w : World) : Calls Tryz.prog 3 #[.int .u8 n, .int .u8 k] w fun e w' => e = .returned (.bool true) ∧ Below w.heap.size w w' := by
  by_cases hz : (k % (3 * (n % 10 + 1) + 1)) % 3 = 0
  · exact least_none n hn k hk hz w
  · exact least_one n hn k hk hz w

set_option maxRecDepth 100000 in
theorem lifted (os : Os) (started : os.Started) (H : Type) (enc : TypeId × Value → H) :
    ReturnsInHanded {} Tryz.checked os 3 .any (Rows.cutLeastSpec.pre6 enc Tryz.prog Tryz.f3 Rows.cutLeastRow.domain false) (Rows.cutLeastSpec.post enc Tryz.prog Tryz.f3 false true false false) := by
  refine returnsInHanded_of_change (C := Tryz.checked) Tryz.own started (by kernel_rfl) Tryz.func3
    (ChangeSpec.witness6 (enc := enc) (C := Tryz.checked) false ⟨#[], #[.int .u8 0, .int .u8 0], []⟩ 8 (by kernel_rfl) (by kernel_rfl) (by kernel_rfl) (by kernel_rfl)) ?_
  intro W base args ds gs before hval hW _ _
  refine law_contract (T := 4) (n := 2) Tryz.laid Tryz.underlying4 rfl rfl ⟨rfl, fun H ds h => by match ds, h with | [_, _], _ => rfl⟩ (of_all (by kernel_rfl)) hW ?_
  intro ps hA
  rw [Tryz.params3] at hA hval
  obtain ⟨v0, vs0, d0, ds0, p0, q0, hargs, rfl, rfl, h0, r0⟩ := trodAll_cons hA
  obtain ⟨v1, vs1, d1, ds1, p1, q1, rfl, rfl, rfl, h1, r1⟩ := trodAll_cons r0
  obtain ⟨rfl, rfl, rfl⟩ := trodAll_nil r1
  obtain rfl : args = #[v0, v1] := by cases args; simp_all
  obtain ⟨a0, rfl, rfl, rfl, w0⟩ := open_int Tryz.underlying5 (hval 0 5 v0 rfl rfl) h0
  obtain ⟨a1, rfl, rfl, rfl, w1⟩ := open_int Tryz.underlying5 (hval 1 5 v1 rfl rfl) h1
  obtain ⟨n0, rfl, b0⟩ := nat_of_u8 w0
  obtain ⟨n1, rfl, b1⟩ := nat_of_u8 w1
  exact walk n0 b0 n1 b1 W

theorem holds : Rows.CutLeastSaid :=
  OpenClaim.holds_of_wide 3 Tryz.f3 rfl rfl rfl rfl rfl rfl rfl ⟨rfl, rfl, rfl, rfl, rfl⟩ rfl rfl rfl rfl rfl (by kernel_rfl) Tryz.func3 (by kernel_rfl)
    (of_decide_eq_true (by kernel_rfl)) (by unfold Func.isWrapper; first | (rw [if_pos (by decide +kernel)]; kernel_rfl) | (rw [if_neg (by decide +kernel)]; exact ⟨rfl, rfl⟩))
    (fun os started H enc _ => lifted os started H enc)
end Go.Proofs.YthedmemkckclpaaGreat.cutLeast
