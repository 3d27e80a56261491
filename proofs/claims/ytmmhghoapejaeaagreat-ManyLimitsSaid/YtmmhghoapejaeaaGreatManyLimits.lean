/- Law ManyLimits: for every input the call answers true; its arguments read as they did. No condition. -/
import Derived.Test.YtmmhghoapejaeaaGreatLaw
import Derived.Test.YtmmhghoapejaeaaGreatKnown7
import Derived.Test.YtmmhghoapejaeaaGreatManN
namespace Go.Proofs.YtmmhghoapejaeaaGreat.manyLimits
open Go.ChangeShapes Go.WideShapes Go.ChangeAt Go.RowKit Go.Shelf
open Go.ChangeMaps (open_string shut_string)
set_option linter.unusedVariables false
attribute [local go_sem] Oper.semAt_some wide_fn wide_round_fn

theorem hasP_no (W : World) (p : PartC) (hl : p.len = 0) : HasP (W.alloc (.cells p.arr 44)) (some ⟨W.heap.size, 0, none⟩) 1 [(p, [])] := by
  refine ⟨rfl, by decide, ?_, fun x hx => ?_⟩
  · have := rowV_new W 44 p.arr 1 10 rfl (by decide)
    simpa [partCells] using this
  · rw [List.mem_singleton.1 hx]
    exact ⟨hl.symm, by rw [hl]; decide, by rw [hl]; exact RowV.nil _ _ _⟩
theorem ms_check_new {w W : World} {d : Nat} (h : MS w d [] W) (p : PartC) (hl : p.len = 0) (hg : -9223372036854775808 ≤ p.g ∧ p.g < 9223372036854775808) {t : Int} (ht : manT [] [(p, [])] = t) :
    Calls Tryz.prog 18 #[.pointer (some ⟨d, 0, none⟩), .slice (some ⟨W.heap.size, 0, none⟩) 1 1] (W.alloc (.cells p.arr 44)) fun e w' => e = .returned (.int .i64 t) ∧ Below W.heap.size W w' := by
  subst ht
  have hB := bel_alloc (Below.refl W.heap.size W) (.cells p.arr 44)
  refine (ms_check (N := 1) (h.below hB) (manOK_nil _) (some ⟨W.heap.size, 0, none⟩) 1 1 _ (hasP_no W p hl) (by decide) (one_in hg)).mono ?_
  rintro e w' ⟨h1, h2⟩
  exact ⟨h1, bel2 hB h2⟩
theorem ownBlockC_lt {W : World} {base : Nat} {e : TypeId} {size : Nat} {v : Value} {k : Nat} {xs : List Value} (h : W.ownsRow base e size v k xs) {j : Nat} (hj : some j = v.ownBlock) : j < W.heap.size := by
  rcases h.2 with ⟨rfl, _⟩ | ⟨g, cap, cur, rfl, hb, hg, _⟩
  · simp [Value.ownBlock] at hj
  · obtain rfl : j = g := by simpa [Value.ownBlock] using hj
    exact (Array.getElem?_eq_some_iff.1 hg).1
theorem lim_b {g : Int} (hg : 0 ≤ g ∧ g ≤ 999) : manT [] [((⟨g, 3, none, 0, 0, 0, 0, 0, 1, 0, false, false⟩ : PartC), [])] = 13 := by
  have hb : isB ⟨g, 3, none, 0, 0, 0, 0, 0, 1, 0, false, false⟩ [] = true := (isB_iff _ _).2 ⟨hg, .inr (.inr (.inl ⟨rfl, by show wB 1 1 1099511627776 = true; decide, .inr rfl, rfl, rfl, rfl, rfl, rfl, rfl⟩))⟩
  have hr : refP ((⟨g, 3, none, 0, 0, 0, 0, 0, 1, 0, false, false⟩ : PartC), []) = false := refP_iff.2 ⟨hb, by show (3 : Int) ≠ 6; decide⟩
  simp [manT, manF, manE, manE1, hr, getZ]
theorem lim_c {g : Int} : manT [] [((⟨g, 6, none, 0, 0, 0, 0, 0, 0, 0, false, true⟩ : PartC), [])] = 11 := by
  have hr : refP ((⟨g, 6, none, 0, 0, 0, 0, 0, 0, 0, false, true⟩ : PartC), []) = true := by simp [refP]
  simp [manT, hr]
theorem lim_d {g : Int} (hg : 0 ≤ g ∧ g ≤ 999) : manT [] [((⟨g, 5, none, 0, 0, 0, 0, 0, 0, 0, false, false⟩ : PartC), [])] = 13 := by
  have hr : refP ((⟨g, 5, none, 0, 0, 0, 0, 0, 0, 0, false, false⟩ : PartC), []) = false := refP_iff.2 ⟨dstP_is hg, by show (5 : Int) ≠ 6; decide⟩
  simp [manT, manF, manE, manE1, hr, getZ]
theorem lim_e {g : Int} : manT [] [((⟨g, 9, none, 0, 0, 0, 0, 0, 0, 0, false, false⟩ : PartC), [])] = 11 := by
  have hb : isB ⟨g, 9, none, 0, 0, 0, 0, 0, 0, 0, false, false⟩ [] = false := by
    rw [Bool.eq_false_iff]; intro h
    have := ((isB_iff _ _).1 h).2
    simp at this
  have hr : refP ((⟨g, 9, none, 0, 0, 0, 0, 0, 0, 0, false, false⟩ : PartC), []) = true := by simp [refP, hb]
  simp [manT, hr]
set_option maxRecDepth 100000 in
set_option maxHeartbeats 4000000 in
theorem walk (n : Nat) (hn : n < 256) (id : Nat) (hid : id < 256) (w : World) : Calls Tryz.prog 8 #[.int .u8 n, .int .u8 id] w fun e w' => e = .returned (.bool true) ∧ Below w.heap.size w w' := by
  have GK := Lib.hid man_known
  have h9 : 0 ≤ (id : Int) ∧ (id : Int) ≤ 999 := ⟨by omega, by omega⟩
  obtain ⟨ip, hip, hpz0, hpz1, hpz2⟩ := info_parts infoPartM
  obtain ⟨k, hk, hk2⟩ : ∃ k : Nat, (n : Int) % 7 = (k : Int) ∧ k ≤ 6 := ⟨n % 7, by omega, by omega⟩
  have GN := Lib.hid (fun w1 (hB : Below w.heap.size w w1) => ms_new hB)
  have GA := Lib.hid (fun (W : World) (j : Nat) => (show Calls Tryz.prog 21 #[.int .i64 (j : Int), .int .i64 1, .string ⟨#[120]⟩] W fun e w' => ∃ a c, e = .returned (.agg #[.int .i64 (j : Int), .int .i64 1, .slice a 1 c, .int .i64 0, .int .i64 0, .int .i64 0, .int .i64 0, .int .i64 0, .bool false, .bool false]) ∧ HasE w' (appP (j : Int) a c) (appE 1 ⟨#[120]⟩) ∧ Below W.heap.size W w' ∧ ∀ k, inBlkE a 1 k → W.heap.size ≤ k from app7_any (j : Int) 1 ⟨#[120]⟩ W))
  have GB := Lib.hid (fun W d (h : MS w d [] W) => ms_check_new h (⟨(id : Int), 3, none, 0, 0, 0, 0, 0, 1, 0, false, false⟩ : PartC) rfl (show -9223372036854775808 ≤ (id : Int) ∧ (id : Int) < 9223372036854775808 from ⟨by omega, by omega⟩) (lim_b h9))
  have GC := Lib.hid (fun W d (h : MS w d [] W) => ms_check_new h (⟨(id : Int), 6, none, 0, 0, 0, 0, 0, 0, 0, false, true⟩ : PartC) rfl (show -9223372036854775808 ≤ (id : Int) ∧ (id : Int) < 9223372036854775808 from ⟨by omega, by omega⟩) lim_c)
  have GD := Lib.hid (fun W d (h : MS w d [] W) => ms_check_new h (⟨(id : Int), 5, none, 0, 0, 0, 0, 0, 0, 0, false, false⟩ : PartC) rfl (show -9223372036854775808 ≤ (id : Int) ∧ (id : Int) < 9223372036854775808 from ⟨by omega, by omega⟩) (lim_d h9))
  have GE := Lib.hid (fun W d (h : MS w d [] W) => ms_check_new h (⟨(id : Int), 9, none, 0, 0, 0, 0, 0, 0, 0, false, false⟩ : PartC) rfl (show -9223372036854775808 ≤ (id : Int) ∧ (id : Int) < 9223372036854775808 from ⟨by omega, by omega⟩) lim_e)
  have hgid : ∀ {pre : List PL}, LimP pre → pre.length ≤ 6 → ∀ x ∈ pre, -9223372036854775808 ≤ x.1.g ∧ x.1.g < 9223372036854775808 := fun {pre} hp hl x hx => by
    obtain ⟨i, hi, rfl⟩ := List.mem_iff_getElem.1 hx
    obtain ⟨a, c, e⟩ := hp i hi
    rw [e]
    show -9223372036854775808 ≤ (i : Int) ∧ (i : Int) < 9223372036854775808
    omega
  clear h9
  go_enter Tryz.func8, Tryz.ntmps8
  go_wp2_with (first
    | (go_at_call 9; ((with_reducible refine (GK.out _).mono ?_); rintro e w1 ⟨rfl, hB1⟩))
    | (go_at_call 29; ((with_reducible refine (GN.out _ hB1).mono ?_); rintro e w2 ⟨d, rfl, -, hM, -⟩; clear hB1)))
  have hd2 := hM.lt
  clear hk
  obtain ⟨C, hC⟩ : ∃ C, C = w2.heap.size := ⟨_, rfl⟩
  have hI0 : limI C (.slice none 0 0) [] w2 := ⟨World.ownsRow_nil _ _ _ _, fun x hx => by cases hx⟩
  go_loopw [6, 8] (fun s q wr => ∃ (j : Nat) (pre : List PL) (v : Value), j ≤ k ∧ v = s ∧ q = .int .i64 (j : Int) ∧ pre.length = j ∧ LimP pre ∧ limI C v pre wr ∧ MS w d [] wr ∧ C ≤ wr.heap.size) (fun _ q _ => k - (intOf q).toNat)
  case atStart => exact ⟨0, [], _, by omega, rfl, rfl, rfl, limP_nil, hI0, hM, by omega⟩
  case round =>
  obtain ⟨j, pre, v, hj, rfl, rfl, hlen, hP, hI, hMr, hCr⟩ := hrel
  clear hM hI0
  by_cases hlt : j < k
  · have hlt' : (j : Int) < (k : Int) := by omega
    have hw9 : IntKind.i64.wrap ((j : Int) + 1) = ((j + 1 : Nat) : Int) := (IntWalk.i64_in _ (by omega)).trans (by push_cast; rfl)
    have HP := Lib.hid hP
    have HLEN := Lib.hid hlen
    have HDC := Lib.hid (show d < C by omega)
    have HCR := Lib.hid hCr
    clear hP hlen hC hd2 hCr
    go_wp2_with (first
      | (go_at_call 21; ((with_reducible refine (GA.out _ _).mono ?_); rintro e w3 ⟨a, c, rfl, hE, hB3, hN⟩; have hI3 := hI.below hB3; have hM3 := hMr.below hB3; have HN3 := Lib.hid (show ∀ k, inBlkE a 1 k → C ≤ k ∧ some k ≠ v.ownBlock from fun k hk => ⟨Nat.le_trans HCR.out (hN k hk), fun e => by have h1 := hN k hk; have h2 := (ownBlockC_lt hI.1 e); omega⟩); have HC3 := Lib.hid (Nat.le_trans HCR.out hB3.size); clear hI hMr hB3 hN))
      | (at_builtin; refine wpList_append_own_at _ rfl _ _ 37 rfl C 44 ip (.agg #[.int .i64 0, .int .i64 0, .slice none 0 0, .int .i64 0, .int .i64 0, .int .i64 0, .int .i64 0, .int .i64 0, .bool false, .bool false]) 10 88 Tryz.underlying37 hip hpz0 hpz1 hpz2 rfl (by decide) _ _ _ rfl (hI3.1.alloc _) ⟨w3.heap.size, 0, none⟩ 1 1 [.int .i64 (j : Int), .int .i64 1, .slice a 1 c, .int .i64 0, .int .i64 0, .int .i64 0, .int .i64 0, .int .i64 0, .bool false, .bool false] rfl rfl (news_new w3 44 [.int .i64 (j : Int), .int .i64 1, .slice a 1 c, .int .i64 0, .int .i64 0, .int .i64 0, .int .i64 0, .int .i64 0, .bool false, .bool false]) (by simp [Value.oneCell']) (by unfold maxLen; have := HLEN.out; omega) (by have := HLEN.out; omega) (by simp; have := HC3.out; omega) ?_; intro v' w9 hown9 hgrow9 _ hnew9; have HLA := Lib.hid (limI_append (x := (appP (j : Int) a c, appE 1 limB)) hI3 ⟨hE, HN3.out⟩ (bel_alloc (Below.refl w3.heap.size w3) (.cells #[.int .i64 (j : Int), .int .i64 1, .slice a 1 c, .int .i64 0, .int .i64 0, .int .i64 0, .int .i64 0, .int .i64 0, .bool false, .bool false] 44)) hown9 hgrow9 hnew9); have HMA := Lib.hid (hM3.grown HDC.out hI3.1 HLA.out.2); have HCA := Lib.hid (Nat.le_trans HC3.out HLA.out.2.size); clear hI3 hM3 hown9 hgrow9 hnew9 hE))
    go_roundw
    case rel => exact ⟨j + 1, pre ++ [(appP (j : Int) a c, appE 1 limB)], _, by omega, rfl, by go_num, by rw [List.length_append, HLEN.out]; rfl, by have := HP.out.snoc a c; rwa [HLEN.out] at this, HLA.out.1, HMA.out, HCA.out⟩
    case measure => simp [intOf]; omega
  have hOJ : j = k := by omega
  replace hlen : pre.length = k := hlen.trans hOJ
  subst j
  have hge : ¬ (k : Int) < (k : Int) := by omega
  obtain ⟨va, vc, rfl, -, -⟩ := rowV_own hI.1
  have HPA := Lib.hid (fun W (hB : Below wr.heap.size wr W) => (hI.has (by omega)).below hB)
  have HGI := Lib.hid (hgid hP (by omega))
  have HLM := Lib.hid (lim_man hlen hP (by omega))
  have HWR := Lib.hid (Below.refl wr.heap.size wr)
  have HLN := Lib.hid hlen
  rw [hlen]
  clear hI hgid hd2 hC hlen hP hlt hj
  by_cases h4 : 1 ≤ k ∧ k ≤ 4
  · have hm := HLM.out.1 h4
    have GX := Lib.hid (fun W (hM : MS w d [] W) (hB : Below wr.heap.size wr W) => (show Calls Tryz.prog 18 #[.pointer (some ⟨d, 0, none⟩), .slice va k vc] W (fun e w' => e = .returned (.int .i64 0) ∧ Below W.heap.size W w') from by
      have hp := HPA.out W hB
      rw [HLN.out] at hp
      have := ms_check (N := 1) hM (manOK_nil _) va k vc pre hp (by omega) HGI.out
      rw [hm.1] at this
      exact this))
    have GY := Lib.hid (fun W (hM : MS w d [] W) (hB : Below wr.heap.size wr W) => (show Calls Tryz.prog 19 #[.pointer (some ⟨d, 0, none⟩), .slice va k vc] W (fun e w' => e = .returned (.int .i64 0) ∧ MS w d (limL k) w') from by
      have hp := HPA.out W hB
      rw [HLN.out] at hp
      have := ms_do (N := 1) hM (manOK_nil _) va k vc pre hp (by omega) HGI.out
      rw [hm.1, hm.2] at this
      exact this.mono fun e w' h => ⟨h.1, h.2.1⟩))
    have GL := Lib.hid (fun W (hM : MS w d (limL k) W) => (show Calls Tryz.prog 25 #[.pointer (some ⟨d, 0, none⟩)] W (fun e w' => ∃ la lc, e = .returned (.slice la k lc) ∧ Below W.heap.size W w') from by
      refine (ms_all hM (limL_ok (by omega))).mono ?_
      rintro e w' ⟨v, Gs, rfl, hg, ho, hh, hB⟩
      rw [limL_len] at ho
      obtain ⟨la, lc, rfl, -, -⟩ := rowV_own ho
      exact ⟨la, lc, rfl, hB⟩))
    have hk0 : ¬ (k : Int) = 0 := by omega
    have hk4 : ¬ (4 : Int) < (k : Int) := by omega
    have hk0' : ((k : Int) == 0) = false := by rw [beq_eq_false_iff_ne]; omega
    clear HLM HPA HGI HLN hm h4
    have hBr := HWR.out
    clear HWR
    go_wp2_with (first
      | (go_at_call 18; ((with_reducible refine (GX.out _ hMr hBr).mono ?_); rintro e w4 ⟨rfl, hB⟩; have hM4 := hMr.below hB; have hB4 := bel2 hBr hB; clear hMr hBr hB))
      | (go_at_call 18; ((refine (GB.out _ _ hM4).mono ?_); rintro e w5 ⟨rfl, hB⟩; have hM5 := hM4.below hB; have hB5 := bel2 hB4 hB; clear hM4 hB4 hB))
      | (go_at_call 18; ((refine (GC.out _ _ hM5).mono ?_); rintro e w6 ⟨rfl, hB⟩; have hM6 := hM5.below hB; have hB6 := bel2 hB5 hB; clear hM5 hB5 hB))
      | (go_at_call 18; ((refine (GD.out _ _ hM6).mono ?_); rintro e w7 ⟨rfl, hB⟩; have hM7 := hM6.below hB; have hB7 := bel2 hB6 hB; clear hM6 hB6 hB))
      | (go_at_call 18; ((refine (GE.out _ _ hM7).mono ?_); rintro e w8 ⟨rfl, hB⟩; have hM8 := hM7.below hB; have hB8 := bel2 hB7 hB; clear hM7 hB7 hB))
      | (go_at_call 19; ((with_reducible refine (GY.out _ hM8 hB8).mono ?_); rintro e w9 ⟨rfl, hM9⟩; clear hM8 hB8))
      | (go_at_call 25; ((with_reducible refine (GL.out _ hM9).mono ?_); rintro e w10 ⟨la, lc, rfl, hB⟩; have hMz := hM9.below hB; clear hM9 hB)))
    go_ret
    exact ⟨by simp, hMz.bel⟩
  · have hm := HLM.out.2 (by omega)
    have GX := Lib.hid (fun W (hM : MS w d [] W) (hB : Below wr.heap.size wr W) => (show Calls Tryz.prog 18 #[.pointer (some ⟨d, 0, none⟩), .slice va k vc] W (fun e w' => e = .returned (.int .i64 11) ∧ Below W.heap.size W w') from by
      have hp := HPA.out W hB
      rw [HLN.out] at hp
      have := ms_check (N := 1) hM (manOK_nil _) va k vc pre hp (by omega) HGI.out
      rw [hm.1] at this
      exact this))
    have GY := Lib.hid (fun W (hM : MS w d [] W) (hB : Below wr.heap.size wr W) => (show Calls Tryz.prog 19 #[.pointer (some ⟨d, 0, none⟩), .slice va k vc] W (fun e w' => e = .returned (.int .i64 11) ∧ MS w d [] w') from by
      have hp := HPA.out W hB
      rw [HLN.out] at hp
      have := ms_do (N := 1) hM (manOK_nil _) va k vc pre hp (by omega) HGI.out
      rw [hm.1, hm.2] at this
      exact this.mono fun e w' h => ⟨h.1, h.2.1⟩))
    have hk4 : (k : Int) = 0 ∨ (4 : Int) < (k : Int) := by omega
    clear HLM HPA HGI HLN hm h4
    have hBr := HWR.out
    clear HWR
    rcases hk4 with hk4 | hk4
    · have hk0 : k = 0 := by omega
      subst hk0
      go_wp2_with (first
        | (go_at_call 18; ((with_reducible refine (GX.out _ hMr hBr).mono ?_); rintro e w4 ⟨rfl, hB⟩; have hM4 := hMr.below hB; have hB4 := bel2 hBr hB; clear hMr hBr hB))
        | (go_at_call 18; ((refine (GB.out _ _ hM4).mono ?_); rintro e w5 ⟨rfl, hB⟩; have hM5 := hM4.below hB; have hB5 := bel2 hB4 hB; clear hM4 hB4 hB))
        | (go_at_call 18; ((refine (GC.out _ _ hM5).mono ?_); rintro e w6 ⟨rfl, hB⟩; have hM6 := hM5.below hB; have hB6 := bel2 hB5 hB; clear hM5 hB5 hB))
        | (go_at_call 18; ((refine (GD.out _ _ hM6).mono ?_); rintro e w7 ⟨rfl, hB⟩; have hM7 := hM6.below hB; have hB7 := bel2 hB6 hB; clear hM6 hB6 hB))
        | (go_at_call 18; ((refine (GE.out _ _ hM7).mono ?_); rintro e w8 ⟨rfl, hB⟩; have hM8 := hM7.below hB; have hB8 := bel2 hB7 hB; clear hM7 hB7 hB))
        | (go_at_call 19; ((with_reducible refine (GY.out _ hM8 hB8).mono ?_); rintro e w9 ⟨rfl, hM9⟩; clear hM8 hB8)))
      go_ret
      exact ⟨by simp, hM9.bel⟩
    · have hk0 : ((k : Int) == 0) = false := by rw [beq_eq_false_iff_ne]; omega
      have hk0' : ¬ (k : Int) = 0 := by omega
      go_wp2_with (first
        | (go_at_call 18; ((with_reducible refine (GX.out _ hMr hBr).mono ?_); rintro e w4 ⟨rfl, hB⟩; have hM4 := hMr.below hB; have hB4 := bel2 hBr hB; clear hMr hBr hB))
        | (go_at_call 18; ((refine (GB.out _ _ hM4).mono ?_); rintro e w5 ⟨rfl, hB⟩; have hM5 := hM4.below hB; have hB5 := bel2 hB4 hB; clear hM4 hB4 hB))
        | (go_at_call 18; ((refine (GC.out _ _ hM5).mono ?_); rintro e w6 ⟨rfl, hB⟩; have hM6 := hM5.below hB; have hB6 := bel2 hB5 hB; clear hM5 hB5 hB))
        | (go_at_call 18; ((refine (GD.out _ _ hM6).mono ?_); rintro e w7 ⟨rfl, hB⟩; have hM7 := hM6.below hB; have hB7 := bel2 hB6 hB; clear hM6 hB6 hB))
        | (go_at_call 18; ((refine (GE.out _ _ hM7).mono ?_); rintro e w8 ⟨rfl, hB⟩; have hM8 := hM7.below hB; have hB8 := bel2 hB7 hB; clear hM7 hB7 hB))
        | (go_at_call 19; ((with_reducible refine (GY.out _ hM8 hB8).mono ?_); rintro e w9 ⟨rfl, hM9⟩; clear hM8 hB8)))
      go_ret
      exact ⟨by simp, hM9.bel⟩

set_option maxRecDepth 100000 in
theorem lifted (os : Os) (started : os.Started) (H : Type) (enc : TypeId × Value → H) :
    ReturnsInHanded {} Tryz.checked os 8 .any (Rows.manyLimitsSpec.pre6 enc Tryz.prog Tryz.f8 Rows.manyLimitsRow.domain false) (Rows.manyLimitsSpec.post enc Tryz.prog Tryz.f8 false true false false) := by
  refine returnsInHanded_of_change (C := Tryz.checked) Tryz.own started (by kernel_rfl) Tryz.func8
    (ChangeSpec.witness6 (enc := enc) (C := Tryz.checked) false ⟨#[], #[.int .u8 0, .int .u8 0], []⟩ 8 (by kernel_rfl) (by kernel_rfl) (by kernel_rfl) (by kernel_rfl)) ?_
  intro W base args ds gs before hval hW _ _
  refine law_contract (T := 4) (n := 2) Tryz.laid Tryz.underlying4 rfl rfl ⟨rfl, fun H ds h => by match ds, h with | [_, _], _ => rfl⟩ (of_all (by kernel_rfl)) hW ?_
  intro ps hA
  rw [Tryz.params8] at hA hval
  obtain ⟨v0, vs0, d0, ds0, p0, q0, hargs, rfl, rfl, h0, r0⟩ := trodAll_cons hA
  obtain ⟨v1, vs1, d1, ds1, p1, q1, rfl, rfl, rfl, h1, r1⟩ := trodAll_cons r0
  obtain ⟨rfl, rfl, rfl⟩ := trodAll_nil r1
  obtain rfl : args = #[v0, v1] := by cases args; simp_all
  obtain ⟨a0, rfl, rfl, rfl, w0⟩ := open_int Tryz.underlying5 (hval 0 5 v0 rfl rfl) h0
  obtain ⟨a1, rfl, rfl, rfl, w1⟩ := open_int Tryz.underlying5 (hval 1 5 v1 rfl rfl) h1
  obtain ⟨n0, rfl, b0⟩ := nat_of_u8 w0
  obtain ⟨n1, rfl, b1⟩ := nat_of_u8 w1
  exact walk n0 b0 n1 b1 W

theorem holds : Rows.ManyLimitsSaid :=
  OpenClaim.holds_of_wide 8 Tryz.f8 rfl rfl rfl rfl rfl rfl rfl ⟨rfl, rfl, rfl, rfl, rfl⟩ rfl rfl rfl rfl rfl (by kernel_rfl) Tryz.func8 (by kernel_rfl)
    (of_decide_eq_true (by kernel_rfl)) (by unfold Func.isWrapper; first | (rw [if_pos (by decide +kernel)]; kernel_rfl) | (rw [if_neg (by decide +kernel)]; exact ⟨rfl, rfl⟩))
    (fun os started H enc _ => lifted os started H enc)
end Go.Proofs.YtmmhghoapejaeaaGreat.manyLimits
