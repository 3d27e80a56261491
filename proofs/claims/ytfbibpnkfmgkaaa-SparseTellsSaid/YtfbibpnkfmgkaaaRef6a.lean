/- The contracts of the document's groups: Same, Is, Last, New. -/
import Derived.Test.YtfbibpnkfmgkaaaGrpTrm
import Derived.Test.YtfbibpnkfmgkaaaRefPart
namespace Go.Proofs.Ytfbibpnkfmgkaaa
open Go.RowKit Go.Shelf
set_option linter.unusedVariables false
attribute [local go_sem] Oper.semAt_some wide_fn wide_round_fn

theorem neqHardG (a b c d e f : Int) (w : World) : (binOp .neq 23 (.agg #[.int .i64 a, .int .i64 b, .int .i64 c]) (.agg #[.int .i64 d, .int .i64 e, .int .i64 f])).run Try.prog w = .ok (.bool (!(decide (a = d ∧ b = e ∧ c = f)))) w := by
  rw [run_neq_struct, eqHard]; rfl

theorem cells7r {W : World} {b : Nat} {T : TypeId} {v0 v1 v2 v3 v4 v5 v6 : Value} (h : W.heap[b]? = some (.cells #[v0, v1, v2, v3, v4, v5, v6] T (0, 0))) :
    W.cell? ⟨b, 0, none⟩ = some v0 ∧ W.cell? ⟨b, 1, none⟩ = some v1 ∧ W.cell? ⟨b, 2, none⟩ = some v2 ∧ W.cell? ⟨b, 3, none⟩ = some v3 ∧ W.cell? ⟨b, 4, none⟩ = some v4 ∧ W.cell? ⟨b, 5, none⟩ = some v5 ∧ W.cell? ⟨b, 6, none⟩ = some v6 ∧ True :=
  ⟨cell_of_row _ _ 0 _ _ _ h, cell_of_row _ _ 1 _ _ _ h, cell_of_row _ _ 2 _ _ _ h, cell_of_row _ _ 3 _ _ _ h, cell_of_row _ _ 4 _ _ _ h, cell_of_row _ _ 5 _ _ _ h, cell_of_row _ _ 6 _ _ _ h, trivial⟩

set_option maxRecDepth 100000 in
set_option maxHeartbeats 4000000 in
theorem refSame6_any (id fi te ht hv hc : Int) (l : List EntryC) (a : Option Addr) (cap : Nat) (id2 fi2 te2 ht2 hv2 hc2 : Int) (l2 : List EntryC) (a2 : Option Addr) (cap2 : Nat) (w : World) (hg : HasG w a ⟨id, fi, te, ht, hv, hc, l⟩) (hh : HasG w a2 ⟨id2, fi2, te2, ht2, hv2, hc2, l2⟩) : Gives Try.prog 17 #[.agg #[.int .i64 id, .int .i64 fi, .int .i64 te, .int .i64 ht, .int .i64 hv, .int .i64 hc, .slice a l.length cap], .agg #[.int .i64 id2, .int .i64 fi2, .int .i64 te2, .int .i64 ht2, .int .i64 hv2, .int .i64 hc2, .slice a2 l2.length cap2]] w (.bool (sameG ⟨id, fi, te, ht, hv, hc, l⟩ ⟨id2, fi2, te2, ht2, hv2, hc2, l2⟩)) := by
  have HE := Lib.hid (neqHardG ht hv hc ht2 hv2 hc2)
  have HA := Lib.hid (show Below w.heap.size w ((w.alloc (.cells #[.int .i64 id, .int .i64 fi, .int .i64 te, .int .i64 ht, .int .i64 hv, .int .i64 hc, .slice a l.length cap] 26)).alloc (.cells #[.int .i64 id2, .int .i64 fi2, .int .i64 te2, .int .i64 ht2, .int .i64 hv2, .int .i64 hc2, .slice a2 l2.length cap2] 26)) from bel_alloc (bel_alloc (Below.refl _ _) _) _)
  have hga := two_a w #[.int .i64 id, .int .i64 fi, .int .i64 te, .int .i64 ht, .int .i64 hv, .int .i64 hc, .slice a l.length cap] #[.int .i64 id2, .int .i64 fi2, .int .i64 te2, .int .i64 ht2, .int .i64 hv2, .int .i64 hc2, .slice a2 l2.length cap2] 26 26
  have hgb := two_b w #[.int .i64 id, .int .i64 fi, .int .i64 te, .int .i64 ht, .int .i64 hv, .int .i64 hc, .slice a l.length cap] #[.int .i64 id2, .int .i64 fi2, .int .i64 te2, .int .i64 ht2, .int .i64 hv2, .int .i64 hc2, .slice a2 l2.length cap2] 26 26
  have HGA := Lib.hid hga
  have HGB := Lib.hid hgb
  have HV := Lib.hid (sameG_iff (g := ⟨id, fi, te, ht, hv, hc, l⟩) (h := ⟨id2, fi2, te2, ht2, hv2, hc2, l2⟩))
  have hYES : id = id2 → fi = fi2 → te = te2 → (ht = ht2 ∧ hv = hv2 ∧ hc = hc2) → sameG ⟨id, fi, te, ht, hv, hc, l⟩ ⟨id2, fi2, te2, ht2, hv2, hc2, l2⟩ = decide (l = l2) := fun h1 h2 h3 h4 => by
    rw [Bool.eq_iff_iff, HV.out, decide_eq_true_iff]; exact ⟨fun h => h.2, fun h => ⟨⟨⟨h1, h2, h3⟩, h4⟩, h⟩⟩
  have HY := Lib.hid hYES
  have hNO : ¬ (id = id2 ∧ fi = fi2 ∧ te = te2 ∧ (ht = ht2 ∧ hv = hv2 ∧ hc = hc2)) → sameG ⟨id, fi, te, ht, hv, hc, l⟩ ⟨id2, fi2, te2, ht2, hv2, hc2, l2⟩ = false := fun hn => by
    rw [Bool.eq_false_iff, Ne, HV.out]; intro h; exact hn ⟨h.1.1.1, h.1.1.2.1, h.1.1.2.2, h.1.2⟩
  have HN := Lib.hid hNO
  have hm1 := hg.1
  have hm2 := hh.1
  have hx91 := hg.2.2.2
  have hx92 := hh.2.2.2
  dsimp only at hm1 hm2 hx91 hx92
  clear hg hh HV hYES hNO hga hgb
  unfold Gives
  by_cases h1 : id = id2
  · have t1 : (id != id2) = false := by rw [bne_eq_false_iff_eq]; exact h1
    by_cases h2 : fi = fi2
    · have t2 : (fi != fi2) = false := by rw [bne_eq_false_iff_eq]; exact h2
      by_cases h3 : te = te2
      · have t3 : (te != te2) = false := by rw [bne_eq_false_iff_eq]; exact h3
        by_cases h4 : ht = ht2 ∧ hv = hv2 ∧ hc = hc2
        · have t4 := fun W => HE.out W
          rw [decide_eq_true h4] at t4
          simp only [Bool.not_true] at t4
          rw [HY.out h1 h2 h3 h4]
          clear h1 h2 h3 h4 HE HY HN
          by_cases hne : l.length = l2.length
          · have tl : ((l.length : Int) != (l2.length : Int)) = false := by rw [bne_eq_false_iff_eq, hne]
            have HLN := Lib.hid hne
            clear hne
            go_enter Try.func17, Try.ntmps17
            go_wp2
            clear t1 t2 t3 t4
            go_loopw [5] (fun i wr => ∃ k : Nat, k ≤ l.length ∧ i = .int .i64 k ∧ l.take k = l2.take k ∧ Below ((w.alloc (.cells #[.int .i64 id, .int .i64 fi, .int .i64 te, .int .i64 ht, .int .i64 hv, .int .i64 hc, .slice a l.length cap] 26)).alloc (.cells #[.int .i64 id2, .int .i64 fi2, .int .i64 te2, .int .i64 ht2, .int .i64 hv2, .int .i64 hc2, .slice a2 l2.length cap2] 26)).heap.size ((w.alloc (.cells #[.int .i64 id, .int .i64 fi, .int .i64 te, .int .i64 ht, .int .i64 hv, .int .i64 hc, .slice a l.length cap] 26)).alloc (.cells #[.int .i64 id2, .int .i64 fi2, .int .i64 te2, .int .i64 ht2, .int .i64 hv2, .int .i64 hc2, .slice a2 l2.length cap2] 26)) wr) (fun i _ => l.length - (intOf i).toNat)
            case atStart => exact ⟨0, by omega, rfl, rfl, Below.refl _ _⟩
            case round =>
              obtain ⟨k, hk, rfl, ht, hB⟩ := hrel
              have HT := Lib.hid ht
              clear ht
              have hBw := bel2 HA.out hB
              obtain ⟨-, -, -, -, -, -, a6, -⟩ := cells7r ((hB.block _ (heap_lt HGA.out)).trans HGA.out)
              obtain ⟨-, -, -, -, -, -, b6, -⟩ := cells7r ((hB.block _ (heap_lt HGB.out)).trans HGB.out)
              by_cases hlt : k < l.length
              · have hkm : k < l2.length := by have := HLN.out; omega
                obtain ⟨b1, o1, rfl, hb1, hx1⟩ := hx91 (by omega)
                obtain ⟨b2, o2, rfl, hb2, hx2⟩ := hx92 (by omega)
                obtain ⟨d0, d1, d2⟩ := entry_at hb1 hBw hx1 hlt
                obtain ⟨f0, f1, f2⟩ := entry_at hb2 hBw hx2 hkm
                have HS := Lib.hid (show l[k] = l2[k] → l.take (k + 1) = l2.take (k + 1) by intro h; rw [List.take_succ_eq_append_getElem hlt, List.take_succ_eq_append_getElem hkm, HT.out, h])
                have HNn := Lib.hid (show l[k] ≠ l2[k] → decide (l = l2) = false by intro h; simp; rintro rfl; exact h rfl)
                have hkz : (0 : Int) ≤ (k : Int) := by omega
                have hkl : (k : Int) < (l.length : Int) := by omega
                have hkl2 : (k : Int) < (l2.length : Int) := by omega
                clear hx1 hx2
                generalize l[k] = x at *
                generalize l2[k] = y at *
                have hne := fun w => neqEntry x y w
                by_cases hxy : x = y
                · rw [decide_eq_true hxy] at hne
                  have HS' := Lib.hid (HS.out hxy)
                  clear HS HNn
                  subst hxy
                  go_wp2
                  go_quiet (fail)
                  go_wp2
                  go_roundw
                  case rel => exact ⟨k + 1, by omega, by go_num, HS'.out, below_drewN hB _⟩
                  case measure => simp [intOf]; omega
                · rw [decide_eq_false hxy] at hne
                  have HN' := Lib.hid (HNn.out hxy)
                  clear HS HNn hxy
                  go_wp2
                  go_quiet (fail)
                  go_wp2
                  go_ret
                  exact ⟨by simp [HN'.out], below_drewN hBw _⟩
              · obtain rfl : k = l.length := by omega
                have HVv := Lib.hid (show decide (l = l2) = true by
                  have := HT.out
                  rw [List.take_of_length_le (by omega), List.take_of_length_le (by rw [HLN.out]; omega)] at this
                  simp [this])
                go_wp2
                go_ret
                exact ⟨by simp [HVv.out], hBw⟩
          · have tl : ((l.length : Int) != (l2.length : Int)) = true := by rw [bne_iff_ne]; omega
            have HVv := Lib.hid (show decide (l = l2) = false by simp; rintro rfl; omega)
            clear hne
            go_enter Try.func17, Try.ntmps17
            go_wp2
            go_ret
            exact ⟨by simp [HVv.out], HA.out⟩
        · have t4 := fun W => HE.out W
          rw [decide_eq_false h4] at t4
          simp only [Bool.not_false] at t4
          rw [HN.out (fun h => h4 h.2.2.2)]
          clear h1 h2 h3 h4
          go_enter Try.func17, Try.ntmps17
          go_wp2
          go_ret
          exact ⟨by simp, HA.out⟩
      · have t3 : (te != te2) = true := by rw [bne_iff_ne]; exact h3
        have t4 := HE.out
        rw [HN.out (fun h => h3 h.2.2.1)]
        clear h1 h2 h3
        go_enter Try.func17, Try.ntmps17
        go_wp2
        go_ret
        exact ⟨by simp, HA.out⟩
    · have t2 : (fi != fi2) = true := by rw [bne_iff_ne]; exact h2
      have t4 := HE.out
      rw [HN.out (fun h => h2 h.2.1)]
      clear h1 h2
      go_enter Try.func17, Try.ntmps17
      go_wp2
      go_ret
      exact ⟨by simp, HA.out⟩
  · have t1 : (id != id2) = true := by rw [bne_iff_ne]; exact h1
    have t4 := HE.out
    rw [HN.out (fun h => h1 h.1)]
    clear h1
    go_enter Try.func17, Try.ntmps17
    go_wp2
    go_ret
    exact ⟨by simp, HA.out⟩

set_option maxRecDepth 100000 in
set_option maxHeartbeats 4000000 in
theorem refLast_any (id fi te ht hv hc : Int) (l : List EntryC) (a : Option Addr) (cap : Nat) (w : World) (hg : HasG w a ⟨id, fi, te, ht, hv, hc, l⟩) (hG : isG ⟨id, fi, te, ht, hv, hc, l⟩ = true) : Gives Try.prog 37 #[.agg #[.int .i64 id, .int .i64 fi, .int .i64 te, .int .i64 ht, .int .i64 hv, .int .i64 hc, .slice a l.length cap]] w (.int .i64 (fi - 1 + l.length)) := by
  have hm := hg.1
  have hcs := hg.2.2.2
  obtain ⟨⟨_, ⟨h1, h2⟩, _⟩, _, hd⟩ := isG_iff.1 hG
  dsimp only at hm hcs h1 h2 hd
  have HD := Lib.hid hd
  clear hg hG hd
  unfold Gives
  by_cases h0 : l.length = 0
  · have t0 : ((l.length : Int) == 0) = true := by rw [beq_iff_eq]; omega
    have HL := Lib.hid (show fi - 1 + (l.length : Int) = fi - 1 by omega)
    clear h0
    go_enter Try.func37, Try.ntmps37
    go_wp2
    go_ret
    exact ⟨by simp [HL.out], bel_alloc (Below.refl _ _) _⟩
  · have t0 : ((l.length : Int) == 0) = false := by rw [beq_eq_false_iff_ne]; omega
    obtain ⟨b, off, rfl, hb, hx⟩ := hcs (by omega)
    obtain ⟨d0, -, -⟩ := entry_at hb (bel_alloc (Below.refl w.heap.size w) (.cells #[.int .i64 id, .int .i64 fi, .int .i64 te, .int .i64 ht, .int .i64 hv, .int .i64 hc, .slice (some ⟨b, off, none⟩) l.length cap] 26)) hx (k := l.length - 1) (by omega)
    have he := (denseB_at HD.out (k := l.length - 1) (by omega)).1
    rw [he] at d0
    have hi : ((l.length : Int) - 1).toNat = l.length - 1 := by omega
    have hi0 : (0 : Int) ≤ (l.length : Int) - 1 := by omega
    have HL := Lib.hid (show fi + ((l.length - 1 : Nat) : Int) = fi - 1 + (l.length : Int) by omega)
    rw [HL.out] at d0
    clear h0 he hx
    go_enter Try.func37, Try.ntmps37
    go_wp2
    go_ret
    exact ⟨by simp, bel_alloc (Below.refl _ _) _⟩

set_option maxRecDepth 100000 in
set_option maxHeartbeats 4000000 in
theorem refIsBad_any (id fi te ht hv hc : Int) (l : List EntryC) (a : Option Addr) (cap : Nat) (w : World) (h : ¬ ((0 ≤ id ∧ id ≤ 999) ∧ (1 ≤ fi ∧ fi ≤ 1099511627777) ∧ (0 ≤ te ∧ te ≤ 1099511627776))) : Gives Try.prog 32 #[.agg #[.int .i64 id, .int .i64 fi, .int .i64 te, .int .i64 ht, .int .i64 hv, .int .i64 hc, .slice a l.length cap], .bool true] w (.bool false) := by
  have h2 : id < 0 ∨ (0 ≤ id ∧ 999 < id) ∨ ((0 ≤ id ∧ id ≤ 999) ∧ fi < 1) ∨ ((0 ≤ id ∧ id ≤ 999) ∧ 1 ≤ fi ∧ 1099511627777 < fi) ∨ ((0 ≤ id ∧ id ≤ 999) ∧ (1 ≤ fi ∧ fi ≤ 1099511627777) ∧ te < 0) ∨ ((0 ≤ id ∧ id ≤ 999) ∧ (1 ≤ fi ∧ fi ≤ 1099511627777) ∧ 0 ≤ te ∧ 1099511627776 < te) := by omega
  clear h
  unfold Gives
  rcases h2 with h | ⟨h0, h⟩ | ⟨⟨h0, h1⟩, h⟩ | ⟨⟨h0, h1⟩, h2, h⟩ | ⟨⟨h0, h1⟩, ⟨h2, h3⟩, h⟩ | ⟨⟨h0, h1⟩, ⟨h2, h3⟩, h4, h⟩
  all_goals
    go_enter Try.func32, Try.ntmps32
    go_wp2
    go_ret
    exact ⟨by simp, bel_alloc (Below.refl _ _) _⟩

set_option maxRecDepth 100000 in
set_option maxHeartbeats 4000000 in
theorem refIs_group (id fi te ht hv hc : Int) (l : List EntryC) (a : Option Addr) (cap : Nat) (w : World) (hg : HasG w a ⟨id, fi, te, ht, hv, hc, l⟩) : Gives Try.prog 32 #[.agg #[.int .i64 id, .int .i64 fi, .int .i64 te, .int .i64 ht, .int .i64 hv, .int .i64 hc, .slice a l.length cap], .bool true] w (.bool (isG ⟨id, fi, te, ht, hv, hc, l⟩)) := by
  by_cases hb : (0 ≤ id ∧ id ≤ 999) ∧ (1 ≤ fi ∧ fi ≤ 1099511627777) ∧ (0 ≤ te ∧ te ≤ 1099511627776)
  · have HV := Lib.hid (show isG ⟨id, fi, te, ht, hv, hc, l⟩ = (hardB ht hv hc && denseB l fi) by
      rw [Bool.eq_iff_iff, isG_iff]; simp only [hb, true_and, Bool.and_eq_true])
    rw [HV.out]
    obtain ⟨⟨h0, h1⟩, ⟨h2, h3⟩, h4, h5⟩ := hb
    have GH := Lib.hid (fun W => refIsHard_any ht hv hc W)
    rw [hardB_swap] at GH
    have hm := hg.1
    have hcs := hg.2.2.2
    dsimp only at hm hcs
    clear hg HV
    unfold Gives
    generalize hardB ht hv hc = bh at *
    cases bh
    · go_enter Try.func32, Try.ntmps32
      go_wp2_with (go_at_call 40; ((with_reducible refine (GH.out _).mono ?_); rintro e w1 ⟨rfl, hB1⟩))
      go_ret
      exact ⟨by simp, blk_below hB1⟩
    · simp only [Bool.true_and]
      go_enter Try.func32, Try.ntmps32
      go_wp2_with (go_at_call 40; ((with_reducible refine (GH.out _).mono ?_); rintro e w1 ⟨rfl, hB1⟩; obtain ⟨g0, g1, g2, g3, g4, g5, g6⟩ := gbox hB1))
      clear g0 g1 g2 g3 g4 g5 g6
      go_loopw [5, 6, 7] (fun qa q _ wr => ∃ k : Nat, k ≤ l.length ∧ q = .int .i64 k ∧ qa = .int .i64 (fi + k) ∧ denseB (l.take k) fi = true ∧ Below (w.alloc (.cells #[.int .i64 id, .int .i64 fi, .int .i64 te, .int .i64 ht, .int .i64 hv, .int .i64 hc, .slice a l.length cap] 26)).heap.size (w.alloc (.cells #[.int .i64 id, .int .i64 fi, .int .i64 te, .int .i64 ht, .int .i64 hv, .int .i64 hc, .slice a l.length cap] 26)) wr) (fun _ q _ _ => l.length - (intOf q).toNat)
      case atStart => exact ⟨0, by omega, rfl, by simp, rfl, hB1⟩
      case round =>
        obtain ⟨k, hk, rfl, rfl, hd, hB⟩ := hrel
        clear hB1
        have hBw := blk_below hB
        obtain ⟨-, -, -, -, -, -, g6⟩ := gbox hB
        by_cases hlt : k < l.length
        · obtain ⟨b, off, rfl, hb, hx⟩ := hcs (by omega)
          obtain ⟨d0, d1, d2⟩ := entry_at hb hBw hx hlt
          have HT := Lib.hid (denseB_take l fi k hlt)
          have HN := Lib.hid (fun h => denseB_no (f := fi) hlt h)
          have HD := Lib.hid hd
          have hk0 : (0 : Int) ≤ (k : Int) := by omega
          have hkl : (k : Int) < (l.length : Int) := by omega
          have hsum : fi + (k : Int) ≤ 9223372036854775800 := by omega
          have hgs : w.heap.size < wr.heap.size := by have := hB.size; simp at this; omega
          have HNX := Lib.hid (show fi + (k : Int) + 1 = fi + ((k + 1 : Nat) : Int) by push_cast; omega)
          clear hx hd
          generalize l[k] = x at *
          have GE := Lib.hid (refIsEntry_any x)
          obtain ⟨xi, xt, xd⟩ := x
          dsimp only [EntryC.val] at *
          cases he : entryB ⟨xi, xt, xd⟩
          · have HN2 := Lib.hid (HN.out (by rw [he]; rfl))
            rw [he] at GE
            clear HT HN he
            go_wp2_with (go_at_call 53; ((with_reducible refine (GE.out _).mono ?_); rintro e w2 ⟨rfl, hB2⟩))
            go_ret
            exact ⟨by simp [HN2.out], bel2 hBw (bel2 (bel_alloc (Below.refl _ _) _) hB2)⟩
          · rw [he] at GE
            by_cases hi : xi = fi + k
            · have HT2 := Lib.hid (show denseB (l.take (k + 1)) fi = true by rw [HT.out, HD.out, he, decide_eq_true hi]; rfl)
              have HXI := Lib.hid hi
              have ht0 : (xi == fi + (k : Int)) = true := by rw [beq_iff_eq]; exact hi
              have ht1 : (xi != fi + (k : Int)) = false := by rw [bne_eq_false_iff_eq]; exact hi
              have ht2 : decide (xi < fi + (k : Int)) = false := by rw [decide_eq_false_iff_not]; omega
              have hx9 : xi ≤ 9223372036854775800 := by omega
              have hx8 : 0 ≤ xi := by omega
              clear HT HN he hi
              go_wp2_with (go_at_call 53; ((with_reducible refine (GE.out _).mono ?_); rintro e w2 ⟨rfl, hB2⟩; have hA2 := bel2 (bel_alloc (Below.refl wr.heap.size wr) (.cells #[.int .i64 xi, .int .i64 xt, .string xd] 38)) hB2; have x0 : w2.cell? ⟨wr.heap.size, 0, none⟩ = some (.int .i64 xi) := blk_cell hB2 0))
              go_roundw
              case rel => exact ⟨k + 1, by omega, by go_num, by rw [HXI.out, HNX.out], HT2.out, bel2 hB hA2⟩
              case measure => simp [intOf]; omega
            · have HN2 := Lib.hid (HN.out (by rw [he, decide_eq_false hi]; rfl))
              have ht0 : (xi == fi + (k : Int)) = false := by rw [beq_eq_false_iff_ne]; exact hi
              have ht1 : (xi != fi + (k : Int)) = true := by rw [bne_iff_ne]; exact hi
              clear HT HN he hi
              rcases Bool.eq_false_or_eq_true (decide (xi < fi + (k : Int))) with ht2 | ht2
              all_goals
                go_wp2_with (go_at_call 53; ((with_reducible refine (GE.out _).mono ?_); rintro e w2 ⟨rfl, hB2⟩; have hA2 := bel2 (bel_alloc (Below.refl wr.heap.size wr) (.cells #[.int .i64 xi, .int .i64 xt, .string xd] 38)) hB2; have x0 : w2.cell? ⟨wr.heap.size, 0, none⟩ = some (.int .i64 xi) := blk_cell hB2 0))
                go_ret
                exact ⟨by simp [HN2.out], bel2 hBw hA2⟩
        · obtain rfl : k = l.length := by omega
          rw [List.take_length] at hd
          have HD := Lib.hid hd
          clear hd
          go_wp2
          go_ret
          exact ⟨by simp [HD.out], hBw⟩
  · have HV := Lib.hid (show isG ⟨id, fi, te, ht, hv, hc, l⟩ = false by
      rw [Bool.eq_false_iff]; intro h; exact hb (isG_iff.1 h).1)
    rw [HV.out]
    exact refIsBad_any id fi te ht hv hc l a cap w hb

theorem refIsG_any (id fi te ht hv hc : Int) (l : List EntryC) (a : Option Addr) (cap : Nat) (w : World) (hg : HasG w a ⟨id, fi, te, ht, hv, hc, l⟩) : Gives Try.prog 16 #[.agg #[.int .i64 id, .int .i64 fi, .int .i64 te, .int .i64 ht, .int .i64 hv, .int .i64 hc, .slice a l.length cap]] w (.bool (isG ⟨id, fi, te, ht, hv, hc, l⟩)) := by
  have GI := Lib.hid (fun W (hB : Below w.heap.size w W) => refIs_group id fi te ht hv hc l a cap W (hg.below hB))
  generalize isG ⟨id, fi, te, ht, hv, hc, l⟩ = b at *
  have HA := Lib.hid (bel_alloc (Below.refl w.heap.size w) (.cells #[.int .i64 id, .int .i64 fi, .int .i64 te, .int .i64 ht, .int .i64 hv, .int .i64 hc, .slice a l.length cap] 26))
  clear hg
  unfold Gives
  go_enter Try.func16, Try.ntmps16
  go_wp2_with (go_at_call 32; ((with_reducible refine (GI.out _ HA.out).mono ?_); rintro e w1 ⟨rfl, hB1⟩))
  go_ret
  exact ⟨rfl, bel2 HA.out hB1⟩

end Go.Proofs.Ytfbibpnkfmgkaaa
