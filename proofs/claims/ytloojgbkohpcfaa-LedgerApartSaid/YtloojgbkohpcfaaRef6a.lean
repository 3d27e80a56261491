/- Ref6a, Ref6b, Ref6c: in one text. -/
import Derived.Test.YtloojgbkohpcfaaGrpTrm
import Derived.Test.YtloojgbkohpcfaaRefPart
import Derived.Test.YtloojgbkohpcfaaGrpMath
import Derived.Test.YtloojgbkohpcfaaFew6
/- The contracts of the document's groups: Same, Is, Last, New. -/
namespace Go.Proofs.Ytloojgbkohpcfaa
open Go.RowKit Go.Shelf
set_option linter.unusedVariables false
attribute [local go_sem] Oper.semAt_some wide_fn wide_round_fn

theorem neqHardG (a b c d e f : Int) (w : World) : (binOp .neq 28 (.agg #[.int .i64 a, .int .i64 b, .int .i64 c]) (.agg #[.int .i64 d, .int .i64 e, .int .i64 f])).run Try.prog w = .ok (.bool (!(decide (a = d ∧ b = e ∧ c = f)))) w := by
  rw [run_neq_struct, eqHard]; rfl

theorem cells7r {W : World} {b : Nat} {T : TypeId} {v0 v1 v2 v3 v4 v5 v6 : Value} (h : W.heap[b]? = some (.cells #[v0, v1, v2, v3, v4, v5, v6] T (0, 0))) :
    W.cell? ⟨b, 0, none⟩ = some v0 ∧ W.cell? ⟨b, 1, none⟩ = some v1 ∧ W.cell? ⟨b, 2, none⟩ = some v2 ∧ W.cell? ⟨b, 3, none⟩ = some v3 ∧ W.cell? ⟨b, 4, none⟩ = some v4 ∧ W.cell? ⟨b, 5, none⟩ = some v5 ∧ W.cell? ⟨b, 6, none⟩ = some v6 ∧ True :=
  ⟨cell_of_row _ _ 0 _ _ _ h, cell_of_row _ _ 1 _ _ _ h, cell_of_row _ _ 2 _ _ _ h, cell_of_row _ _ 3 _ _ _ h, cell_of_row _ _ 4 _ _ _ h, cell_of_row _ _ 5 _ _ _ h, cell_of_row _ _ 6 _ _ _ h, trivial⟩

set_option maxRecDepth 100000 in
set_option maxHeartbeats 4000000 in
theorem refSame6_any (id fi te ht hv hc : Int) (l : List EntryC) (a : Option Addr) (cap : Nat) (id2 fi2 te2 ht2 hv2 hc2 : Int) (l2 : List EntryC) (a2 : Option Addr) (cap2 : Nat) (w : World) (hg : HasG w a ⟨id, fi, te, ht, hv, hc, l⟩) (hh : HasG w a2 ⟨id2, fi2, te2, ht2, hv2, hc2, l2⟩) : Gives Try.prog 16 #[.agg #[.int .i64 id, .int .i64 fi, .int .i64 te, .int .i64 ht, .int .i64 hv, .int .i64 hc, .slice a l.length cap], .agg #[.int .i64 id2, .int .i64 fi2, .int .i64 te2, .int .i64 ht2, .int .i64 hv2, .int .i64 hc2, .slice a2 l2.length cap2]] w (.bool (sameG ⟨id, fi, te, ht, hv, hc, l⟩ ⟨id2, fi2, te2, ht2, hv2, hc2, l2⟩)) := by
  have HE := Lib.hid (neqHardG ht hv hc ht2 hv2 hc2)
  have HA := Lib.hid (show Below w.heap.size w ((w.alloc (.cells #[.int .i64 id, .int .i64 fi, .int .i64 te, .int .i64 ht, .int .i64 hv, .int .i64 hc, .slice a l.length cap] 31)).alloc (.cells #[.int .i64 id2, .int .i64 fi2, .int .i64 te2, .int .i64 ht2, .int .i64 hv2, .int .i64 hc2, .slice a2 l2.length cap2] 31)) from bel_alloc (bel_alloc (Below.refl _ _) _) _)
  have hga := two_a w #[.int .i64 id, .int .i64 fi, .int .i64 te, .int .i64 ht, .int .i64 hv, .int .i64 hc, .slice a l.length cap] #[.int .i64 id2, .int .i64 fi2, .int .i64 te2, .int .i64 ht2, .int .i64 hv2, .int .i64 hc2, .slice a2 l2.length cap2] 31 31
  have hgb := two_b w #[.int .i64 id, .int .i64 fi, .int .i64 te, .int .i64 ht, .int .i64 hv, .int .i64 hc, .slice a l.length cap] #[.int .i64 id2, .int .i64 fi2, .int .i64 te2, .int .i64 ht2, .int .i64 hv2, .int .i64 hc2, .slice a2 l2.length cap2] 31 31
  have HGA := Lib.hid hga
  have HGB := Lib.hid hgb
  have HV := Lib.hid (sameG_iff (g := ⟨id, fi, te, ht, hv, hc, l⟩) (h := ⟨id2, fi2, te2, ht2, hv2, hc2, l2⟩))
  have hYES : id = id2 → fi = fi2 → te = te2 → (ht = ht2 ∧ hv = hv2 ∧ hc = hc2) → sameG ⟨id, fi, te, ht, hv, hc, l⟩ ⟨id2, fi2, te2, ht2, hv2, hc2, l2⟩ = decide (l = l2) := fun h1 h2 h3 h4 => by
    rw [Bool.eq_iff_iff, HV.out, decide_eq_true_iff]; exact ⟨fun h => h.2, fun h => ⟨⟨⟨h1, h2, h3⟩, h4⟩, h⟩⟩
  have HY := Lib.hid hYES
  have hNO : ¬ (id = id2 ∧ fi = fi2 ∧ te = te2 ∧ (ht = ht2 ∧ hv = hv2 ∧ hc = hc2)) → sameG ⟨id, fi, te, ht, hv, hc, l⟩ ⟨id2, fi2, te2, ht2, hv2, hc2, l2⟩ = false := fun hn => by
    rw [Bool.eq_false_iff, Ne, HV.out]; intro h; exact hn ⟨h.1.1.1, h.1.1.2.1, h.1.1.2.2, h.1.2⟩
  have HN := Lib.hid hNO
  have hm1 := hg.1
  have hm2 := hh.1
  have hx91 := hg.2.2.2
  have hx92 := hh.2.2.2
  dsimp only at hm1 hm2 hx91 hx92
  clear hg hh HV hYES hNO hga hgb
  unfold Gives
  by_cases h1 : id = id2
  · have t1 : (id != id2) = false := by rw [bne_eq_false_iff_eq]; exact h1
    by_cases h2 : fi = fi2
    · have t2 : (fi != fi2) = false := by rw [bne_eq_false_iff_eq]; exact h2
      by_cases h3 : te = te2
      · have t3 : (te != te2) = false := by rw [bne_eq_false_iff_eq]; exact h3
        by_cases h4 : ht = ht2 ∧ hv = hv2 ∧ hc = hc2
        · have t4 := fun W => HE.out W
          rw [decide_eq_true h4] at t4
          simp only [Bool.not_true] at t4
          rw [HY.out h1 h2 h3 h4]
          clear h1 h2 h3 h4 HE HY HN
          by_cases hne : l.length = l2.length
          · have tl : ((l.length : Int) != (l2.length : Int)) = false := by rw [bne_eq_false_iff_eq, hne]
            have HLN := Lib.hid hne
            clear hne
            go_enter Try.func16, Try.ntmps16
            go_wp2
            clear t1 t2 t3 t4
            go_loopw [5] (fun i wr => ∃ k : Nat, k ≤ l.length ∧ i = .int .i64 k ∧ l.take k = l2.take k ∧ Below ((w.alloc (.cells #[.int .i64 id, .int .i64 fi, .int .i64 te, .int .i64 ht, .int .i64 hv, .int .i64 hc, .slice a l.length cap] 31)).alloc (.cells #[.int .i64 id2, .int .i64 fi2, .int .i64 te2, .int .i64 ht2, .int .i64 hv2, .int .i64 hc2, .slice a2 l2.length cap2] 31)).heap.size ((w.alloc (.cells #[.int .i64 id, .int .i64 fi, .int .i64 te, .int .i64 ht, .int .i64 hv, .int .i64 hc, .slice a l.length cap] 31)).alloc (.cells #[.int .i64 id2, .int .i64 fi2, .int .i64 te2, .int .i64 ht2, .int .i64 hv2, .int .i64 hc2, .slice a2 l2.length cap2] 31)) wr) (fun i _ => l.length - (intOf i).toNat)
            case atStart => exact ⟨0, by omega, rfl, rfl, Below.refl _ _⟩
            case round =>
              obtain ⟨k, hk, rfl, ht, hB⟩ := hrel
              have HT := Lib.hid ht
              clear ht
              have hBw := bel2 HA.out hB
              obtain ⟨-, -, -, -, -, -, a6, -⟩ := cells7r ((hB.block _ (heap_lt HGA.out)).trans HGA.out)
              obtain ⟨-, -, -, -, -, -, b6, -⟩ := cells7r ((hB.block _ (heap_lt HGB.out)).trans HGB.out)
              by_cases hlt : k < l.length
              · have hkm : k < l2.length := by have := HLN.out; omega
                obtain ⟨b1, o1, rfl, hb1, hx1⟩ := hx91 (by omega)
                obtain ⟨b2, o2, rfl, hb2, hx2⟩ := hx92 (by omega)
                obtain ⟨d0, d1, d2⟩ := entry_at hb1 hBw hx1 hlt
                obtain ⟨f0, f1, f2⟩ := entry_at hb2 hBw hx2 hkm
                have HS := Lib.hid (show l[k] = l2[k] → l.take (k + 1) = l2.take (k + 1) by intro h; rw [List.take_succ_eq_append_getElem hlt, List.take_succ_eq_append_getElem hkm, HT.out, h])
                have HNn := Lib.hid (show l[k] ≠ l2[k] → decide (l = l2) = false by intro h; simp; rintro rfl; exact h rfl)
                have hkz : (0 : Int) ≤ (k : Int) := by omega
                have hkl : (k : Int) < (l.length : Int) := by omega
                have hkl2 : (k : Int) < (l2.length : Int) := by omega
                clear hx1 hx2
                generalize l[k] = x at *
                generalize l2[k] = y at *
                have hne := fun w => neqEntry x y w
                by_cases hxy : x = y
                · rw [decide_eq_true hxy] at hne
                  have HS' := Lib.hid (HS.out hxy)
                  clear HS HNn
                  subst hxy
                  go_wp2
                  go_quiet (fail)
                  go_wp2
                  go_roundw
                  case rel => exact ⟨k + 1, by omega, by go_num, HS'.out, below_drewN hB _⟩
                  case measure => simp [intOf]; omega
                · rw [decide_eq_false hxy] at hne
                  have HN' := Lib.hid (HNn.out hxy)
                  clear HS HNn hxy
                  go_wp2
                  go_quiet (fail)
                  go_wp2
                  go_ret
                  exact ⟨by simp [HN'.out], below_drewN hBw _⟩
              · obtain rfl : k = l.length := by omega
                have HVv := Lib.hid (show decide (l = l2) = true by
                  have := HT.out
                  rw [List.take_of_length_le (by omega), List.take_of_length_le (by rw [HLN.out]; omega)] at this
                  simp [this])
                go_wp2
                go_ret
                exact ⟨by simp [HVv.out], hBw⟩
          · have tl : ((l.length : Int) != (l2.length : Int)) = true := by rw [bne_iff_ne]; omega
            have HVv := Lib.hid (show decide (l = l2) = false by simp; rintro rfl; omega)
            clear hne
            go_enter Try.func16, Try.ntmps16
            go_wp2
            go_ret
            exact ⟨by simp [HVv.out], HA.out⟩
        · have t4 := fun W => HE.out W
          rw [decide_eq_false h4] at t4
          simp only [Bool.not_false] at t4
          rw [HN.out (fun h => h4 h.2.2.2)]
          clear h1 h2 h3 h4
          go_enter Try.func16, Try.ntmps16
          go_wp2
          go_ret
          exact ⟨by simp, HA.out⟩
      · have t3 : (te != te2) = true := by rw [bne_iff_ne]; exact h3
        have t4 := HE.out
        rw [HN.out (fun h => h3 h.2.2.1)]
        clear h1 h2 h3
        go_enter Try.func16, Try.ntmps16
        go_wp2
        go_ret
        exact ⟨by simp, HA.out⟩
    · have t2 : (fi != fi2) = true := by rw [bne_iff_ne]; exact h2
      have t4 := HE.out
      rw [HN.out (fun h => h2 h.2.1)]
      clear h1 h2
      go_enter Try.func16, Try.ntmps16
      go_wp2
      go_ret
      exact ⟨by simp, HA.out⟩
  · have t1 : (id != id2) = true := by rw [bne_iff_ne]; exact h1
    have t4 := HE.out
    rw [HN.out (fun h => h1 h.1)]
    clear h1
    go_enter Try.func16, Try.ntmps16
    go_wp2
    go_ret
    exact ⟨by simp, HA.out⟩

theorem refNew_any (id : Int) (w : World) : Gives Try.prog 10 #[.int .i64 id] w (.agg #[.int .i64 id, .int .i64 1, .int .i64 0, .int .i64 0, .int .i64 0, .int .i64 0, .slice none 0 0]) := by
  unfold Gives
  go_enter Try.func10, Try.ntmps10
  go_wp2
  exact bodyPost_ret (v := .agg #[.int .i64 id, .int .i64 1, .int .i64 0, .int .i64 0, .int .i64 0, .int .i64 0, .slice none 0 0]) (by simp [results, Try.results10, go_sem]) rfl ⟨rfl, by repeat (first | exact Below.refl _ _ | apply bel_alloc | apply Below.setCell)⟩

set_option maxRecDepth 100000 in
set_option maxHeartbeats 4000000 in
theorem refIsBad_any (id fi te ht hv hc : Int) (l : List EntryC) (a : Option Addr) (cap : Nat) (w : World) (h : ¬ ((0 ≤ id ∧ id ≤ 999) ∧ (1 ≤ fi ∧ fi ≤ 1099511627777) ∧ (0 ≤ te ∧ te ≤ 1099511627776))) : Gives Try.prog 99 #[.agg #[.int .i64 id, .int .i64 fi, .int .i64 te, .int .i64 ht, .int .i64 hv, .int .i64 hc, .slice a l.length cap], .bool true] w (.bool false) := by
  have h2 : id < 0 ∨ (0 ≤ id ∧ 999 < id) ∨ ((0 ≤ id ∧ id ≤ 999) ∧ fi < 1) ∨ ((0 ≤ id ∧ id ≤ 999) ∧ 1 ≤ fi ∧ 1099511627777 < fi) ∨ ((0 ≤ id ∧ id ≤ 999) ∧ (1 ≤ fi ∧ fi ≤ 1099511627777) ∧ te < 0) ∨ ((0 ≤ id ∧ id ≤ 999) ∧ (1 ≤ fi ∧ fi ≤ 1099511627777) ∧ 0 ≤ te ∧ 1099511627776 < te) := by omega
  clear h
  unfold Gives
  rcases h2 with h | ⟨h0, h⟩ | ⟨⟨h0, h1⟩, h⟩ | ⟨⟨h0, h1⟩, h2, h⟩ | ⟨⟨h0, h1⟩, ⟨h2, h3⟩, h⟩ | ⟨⟨h0, h1⟩, ⟨h2, h3⟩, h4, h⟩
  all_goals
    go_enter Try.func99, Try.ntmps99
    go_wp2
    go_ret
    exact ⟨by simp, bel_alloc (Below.refl _ _) _⟩

set_option maxRecDepth 100000 in
set_option maxHeartbeats 4000000 in
theorem refIs_group (id fi te ht hv hc : Int) (l : List EntryC) (a : Option Addr) (cap : Nat) (w : World) (hg : HasG w a ⟨id, fi, te, ht, hv, hc, l⟩) : Gives Try.prog 99 #[.agg #[.int .i64 id, .int .i64 fi, .int .i64 te, .int .i64 ht, .int .i64 hv, .int .i64 hc, .slice a l.length cap], .bool true] w (.bool (isG ⟨id, fi, te, ht, hv, hc, l⟩)) := by
  by_cases hb : (0 ≤ id ∧ id ≤ 999) ∧ (1 ≤ fi ∧ fi ≤ 1099511627777) ∧ (0 ≤ te ∧ te ≤ 1099511627776)
  · have HV := Lib.hid (show isG ⟨id, fi, te, ht, hv, hc, l⟩ = (hardB ht hv hc && denseB l fi) by
      rw [Bool.eq_iff_iff, isG_iff]; simp only [hb, true_and, Bool.and_eq_true])
    rw [HV.out]
    obtain ⟨⟨h0, h1⟩, ⟨h2, h3⟩, h4, h5⟩ := hb
    have GH := Lib.hid (fun W => refIsHard_any ht hv hc W)
    rw [hardB_swap] at GH
    have hm := hg.1
    have hcs := hg.2.2.2
    dsimp only at hm hcs
    clear hg HV
    unfold Gives
    generalize hardB ht hv hc = bh at *
    cases bh
    · go_enter Try.func99, Try.ntmps99
      go_wp2_with (go_at_call 71; ((with_reducible refine (GH.out _).mono ?_); rintro e w1 ⟨rfl, hB1⟩))
      go_ret
      exact ⟨by simp, blk_below hB1⟩
    · simp only [Bool.true_and]
      go_enter Try.func99, Try.ntmps99
      go_wp2_with (go_at_call 71; ((with_reducible refine (GH.out _).mono ?_); rintro e w1 ⟨rfl, hB1⟩; obtain ⟨g0, g1, g2, g3, g4, g5, g6⟩ := gbox hB1))
      clear g0 g1 g2 g3 g4 g5 g6
      go_loopw [5, 6, 7] (fun qa q _ wr => ∃ k : Nat, k ≤ l.length ∧ q = .int .i64 k ∧ qa = .int .i64 (fi + k) ∧ denseB (l.take k) fi = true ∧ Below (w.alloc (.cells #[.int .i64 id, .int .i64 fi, .int .i64 te, .int .i64 ht, .int .i64 hv, .int .i64 hc, .slice a l.length cap] 31)).heap.size (w.alloc (.cells #[.int .i64 id, .int .i64 fi, .int .i64 te, .int .i64 ht, .int .i64 hv, .int .i64 hc, .slice a l.length cap] 31)) wr) (fun _ q _ _ => l.length - (intOf q).toNat)
      case atStart => exact ⟨0, by omega, rfl, by simp, rfl, hB1⟩
      case round =>
        obtain ⟨k, hk, rfl, rfl, hd, hB⟩ := hrel
        clear hB1
        have hBw := blk_below hB
        obtain ⟨-, -, -, -, -, -, g6⟩ := gbox hB
        by_cases hlt : k < l.length
        · obtain ⟨b, off, rfl, hb, hx⟩ := hcs (by omega)
          obtain ⟨d0, d1, d2⟩ := entry_at hb hBw hx hlt
          have HT := Lib.hid (denseB_take l fi k hlt)
          have HN := Lib.hid (fun h => denseB_no (f := fi) hlt h)
          have HD := Lib.hid hd
          have hk0 : (0 : Int) ≤ (k : Int) := by omega
          have hkl : (k : Int) < (l.length : Int) := by omega
          have hsum : fi + (k : Int) ≤ 9223372036854775800 := by omega
          have hgs : w.heap.size < wr.heap.size := by have := hB.size; simp at this; omega
          have HNX := Lib.hid (show fi + (k : Int) + 1 = fi + ((k + 1 : Nat) : Int) by push_cast; omega)
          clear hx hd
          generalize l[k] = x at *
          have GE := Lib.hid (refIsEntry_any x)
          obtain ⟨xi, xt, xd⟩ := x
          dsimp only [EntryC.val] at *
          cases he : entryB ⟨xi, xt, xd⟩
          · have HN2 := Lib.hid (HN.out (by rw [he]; rfl))
            rw [he] at GE
            clear HT HN he
            go_wp2_with (go_at_call 98; ((with_reducible refine (GE.out _).mono ?_); rintro e w2 ⟨rfl, hB2⟩))
            go_ret
            exact ⟨by simp [HN2.out], bel2 hBw (bel2 (bel_alloc (Below.refl _ _) _) hB2)⟩
          · rw [he] at GE
            by_cases hi : xi = fi + k
            · have HT2 := Lib.hid (show denseB (l.take (k + 1)) fi = true by rw [HT.out, HD.out, he, decide_eq_true hi]; rfl)
              have HXI := Lib.hid hi
              have ht0 : (xi == fi + (k : Int)) = true := by rw [beq_iff_eq]; exact hi
              have ht1 : (xi != fi + (k : Int)) = false := by rw [bne_eq_false_iff_eq]; exact hi
              have ht2 : decide (xi < fi + (k : Int)) = false := by rw [decide_eq_false_iff_not]; omega
              have hx9 : xi ≤ 9223372036854775800 := by omega
              have hx8 : 0 ≤ xi := by omega
              clear HT HN he hi
              go_wp2_with (go_at_call 98; ((with_reducible refine (GE.out _).mono ?_); rintro e w2 ⟨rfl, hB2⟩; have hA2 := bel2 (bel_alloc (Below.refl wr.heap.size wr) (.cells #[.int .i64 xi, .int .i64 xt, .string xd] 57)) hB2; have x0 : w2.cell? ⟨wr.heap.size, 0, none⟩ = some (.int .i64 xi) := blk_cell hB2 0))
              go_roundw
              case rel => exact ⟨k + 1, by omega, by go_num, by rw [HXI.out, HNX.out], HT2.out, bel2 hB hA2⟩
              case measure => simp [intOf]; omega
            · have HN2 := Lib.hid (HN.out (by rw [he, decide_eq_false hi]; rfl))
              have ht0 : (xi == fi + (k : Int)) = false := by rw [beq_eq_false_iff_ne]; exact hi
              have ht1 : (xi != fi + (k : Int)) = true := by rw [bne_iff_ne]; exact hi
              clear HT HN he hi
              rcases Bool.eq_false_or_eq_true (decide (xi < fi + (k : Int))) with ht2 | ht2
              all_goals
                go_wp2_with (go_at_call 98; ((with_reducible refine (GE.out _).mono ?_); rintro e w2 ⟨rfl, hB2⟩; have hA2 := bel2 (bel_alloc (Below.refl wr.heap.size wr) (.cells #[.int .i64 xi, .int .i64 xt, .string xd] 57)) hB2; have x0 : w2.cell? ⟨wr.heap.size, 0, none⟩ = some (.int .i64 xi) := blk_cell hB2 0))
                go_ret
                exact ⟨by simp [HN2.out], bel2 hBw hA2⟩
        · obtain rfl : k = l.length := by omega
          rw [List.take_length] at hd
          have HD := Lib.hid hd
          clear hd
          go_wp2
          go_ret
          exact ⟨by simp [HD.out], hBw⟩
  · have HV := Lib.hid (show isG ⟨id, fi, te, ht, hv, hc, l⟩ = false by
      rw [Bool.eq_false_iff]; intro h; exact hb (isG_iff.1 h).1)
    rw [HV.out]
    exact refIsBad_any id fi te ht hv hc l a cap w hb

end Go.Proofs.Ytloojgbkohpcfaa

/- The contracts of the document's groups: Term, Entries. -/
namespace Go.Proofs.Ytloojgbkohpcfaa
open Go.RowKit Go.Shelf Go.Deep Go.ChangeShapes Go.WideShapes
set_option linter.unusedVariables false
attribute [local go_sem] Oper.semAt_some wide_fn wide_round_fn

theorem group_le {H : Type} {enc : TypeId × Value → H} {W : World} {d : DataW H} {ps : List MemPlace} {g : GM} {a : Option Addr} {cap : Nat}
    (h : DataW.Trod enc Try.prog W 0 (fun _ => true) true 31 (g.val a cap) d ps) : g.l.length ≤ cap := by
  obtain ⟨id, fi, te, ht, hv, hc, l⟩ := g
  replace h : DataW.Trod enc Try.prog W 0 (fun _ => true) true 31 (.agg #[.int .i64 id, .int .i64 fi, .int .i64 te, .int .i64 ht, .int .i64 hv, .int .i64 hc, .slice a l.length cap]) d ps := h
  obtain ⟨fuel, hf⟩ := h
  have ks : Try.prog.cellsOf 29 = 1 := by kernel_rfl
  simp only [Value.cells] at hf
  obtain ⟨xs, n', _, _, _, hxl, hf⟩ := DataW.trod_struct Try.underlying31 hf
  match xs, hxl with
  | [y0, y1, y2, y3, y4], _ =>
    have hen := trod_field hf 4 6 1 29 rfl ks
    rcases open_slice Try.underlying29 hen with ⟨hcs, _⟩ | ⟨ad, len', cap', _, _, _, _, hcs, _, hl, _⟩
    · simp at hcs; simp [hcs]
    · simp at hcs; obtain ⟨-, rfl, rfl⟩ := hcs; exact hl

/-- A part of a row. -/
theorem row_part {w : World} {b off : Nat} {l : List EntryC} (hb : b < w.heap.size) (hc : ∀ j (h : j < (entryCells l).length), w.cell? ⟨b, off + j, none⟩ = some (entryCells l)[j]) {k m : Nat} (hkm : k < m) (hm : m ≤ l.length) (hl : l.length < 1000000) :
    RowV w (some ⟨b, off + k * 3, none⟩) ((l.take m).drop k).length 3 (entryCells ((l.take m).drop k)) := by
  have hlen : ∀ x : List EntryC, (entryCells x).length = x.length * 3 := fun x => by
    induction x with
    | nil => rfl
    | cons e r ih => simp [entryCells] at ih ⊢; simp [EntryC.cells]; omega
  have hd : ((l.take m).drop k).length = m - k := by simp; omega
  refine ⟨by rw [hlen], by rw [hd]; simp [maxLen]; omega, fun _ => ⟨b, off + k * 3, rfl, hb, fun j hj => ?_⟩⟩
  have hsp : entryCells l = entryCells (l.take k) ++ (entryCells ((l.take m).drop k) ++ entryCells (l.drop m)) := by
    unfold entryCells
    rw [← List.flatten_append, ← List.map_append, ← List.flatten_append, ← List.map_append]
    congr 1
    have e1 : l.take m = l.take k ++ (l.take m).drop k := by
      conv => lhs; rw [← List.take_append_drop k (l.take m)]
      rw [List.take_take, Nat.min_eq_left (by omega)]
    rw [← List.append_assoc, ← e1, List.take_append_drop]
  have h9 : (entryCells (l.take k)).length = k * 3 := by rw [hlen]; simp; omega
  have hj2 : k * 3 + j < (entryCells l).length := by rw [hsp]; simp only [List.length_append]; omega
  have := hc (k * 3 + j) hj2
  rw [show off + k * 3 + j = off + (k * 3 + j) by omega, this]
  congr 1
  rw [List.getElem_of_eq hsp, List.getElem_append_right (by omega), List.getElem_append_left (by rw [h9]; omega)]
  congr 1
  omega

end Go.Proofs.Ytloojgbkohpcfaa

/- The contracts of the document's groups: below, from, At. -/
namespace Go.Proofs.Ytloojgbkohpcfaa
open Go.RowKit Go.Shelf Go.ChangeShapes Go.WideShapes Go.ChangeAt
set_option linter.unusedVariables false
attribute [local go_sem] Oper.semAt_some wide_fn wide_round_fn

def belL (l : List EntryC) (i : Int) : List EntryC := l.filter fun e => decide (e.i < i)
def froL (l : List EntryC) (i : Int) : List EntryC := l.filter fun e => decide (i ≤ e.i)
theorem belL_take (l : List EntryC) (i : Int) (k : Nat) (h : k < l.length) : belL (l.take (k + 1)) i = belL (l.take k) i ++ if l[k].i < i then [l[k]] else [] := by
  unfold belL
  rw [List.take_succ_eq_append_getElem h, List.filter_append]
  congr 1
  by_cases hc : l[k].i < i <;> simp [hc]
theorem froL_take (l : List EntryC) (i : Int) (k : Nat) (h : k < l.length) : froL (l.take (k + 1)) i = froL (l.take k) i ++ if i ≤ l[k].i then [l[k]] else [] := by
  unfold froL
  rw [List.take_succ_eq_append_getElem h, List.filter_append]
  congr 1
  by_cases hc : i ≤ l[k].i <;> simp [hc]
theorem belL_le (l : List EntryC) (i : Int) : (belL l i).length ≤ l.length := List.length_filter_le _ _
theorem froL_le (l : List EntryC) (i : Int) : (froL l i).length ≤ l.length := List.length_filter_le _ _
/-- Where the first entry of an index stands; -1. -/
def atM (l : List EntryC) (i : Int) : Int := if l.findIdx (fun e => e.i == i) < l.length then (l.findIdx (fun e => e.i == i) : Int) else -1
theorem atM_at {l : List EntryC} {i : Int} {k : Nat} (hk : k < l.length) (h : l[k].i = i) (hn : ∀ j (hj : j < k), (l[j]'(by omega)).i ≠ i) : atM l i = k := by
  have : l.findIdx (fun e => e.i == i) = k := (List.findIdx_eq hk).2 ⟨by simp [h], fun j hj => by simpa using hn j hj⟩
  unfold atM; rw [this, if_pos hk]
theorem atM_no {l : List EntryC} {i : Int} (hn : ∀ j (hj : j < l.length), l[j].i ≠ i) : atM l i = -1 := by
  unfold atM
  rw [if_neg]
  intro h
  have := List.findIdx_getElem (w := h)
  exact hn _ h (by simpa using this)
theorem atM_dense {l : List EntryC} {f : Int} (h : denseB l f = true) (i : Int) : atM l i = if f ≤ i ∧ i < f + l.length then i - f else -1 := by
  by_cases hc : f ≤ i ∧ i < f + l.length
  · rw [if_pos hc, atM_at (k := (i - f).toNat) (by omega) (by rw [(denseB_at h (by omega)).1]; omega) (fun j hj => by rw [(denseB_at h (by omega)).1]; omega)]
    omega
  · rw [if_neg hc]
    exact atM_no fun j hj => by rw [(denseB_at h hj).1]; omega
theorem belL_dense {l : List EntryC} {f : Int} (h : denseB l f = true) (hf : 1 ≤ f ∧ f ≤ 1099511627777) (i : Int) : belL l i = btw l minI (i - 1) := by
  unfold belL btw
  refine List.filter_congr fun e he => ?_
  obtain ⟨k, hk, rfl⟩ := List.getElem_of_mem he
  have := (denseB_at h hk).1
  have h0 : minI ≤ l[k].i := by unfold minI; omega
  simp [h0]; omega
theorem froL_dense {l : List EntryC} {f : Int} (h : denseB l f = true) (hf : 1 ≤ f ∧ f ≤ 1099511627777) (hl : l.length ≤ 100000) (i : Int) : froL l i = btw l i maxI := by
  unfold froL btw
  refine List.filter_congr fun e he => ?_
  obtain ⟨k, hk, rfl⟩ := List.getElem_of_mem he
  have := (denseB_at h hk).1
  have h0 : l[k].i ≤ maxI := by unfold maxI; omega
  simp [h0]

set_option maxRecDepth 100000 in
set_option maxHeartbeats 4000000 in
theorem refBelow_any (l : List EntryC) (a : Option Addr) (cap : Nat) (i : Int) (w : World) (hm : l.length < 1000000) (hr : RowV w a l.length 3 (entryCells l)) : Calls Try.prog 75 #[.slice a l.length cap, .int .i64 i] w fun e w' => ∃ va vc, e = .returned (.slice va (belL l i).length vc) ∧ w'.ownsRow w.heap.size 57 3 (.slice va (belL l i).length vc) (belL l i).length (entryCells (belL l i)) ∧ Below w.heap.size w w' := by
  obtain ⟨i9, hi, hz0, hz1, hz2⟩ := info_parts infoEntry
  have hcs := hr.2.2
  clear hr
  go_enter Try.func75, Try.ntmps75
  go_wp2
  go_loopw [5, 6] (fun v q wr => ∃ k : Nat, k ≤ l.length ∧ q = .int .i64 k ∧ wr.ownsRow w.heap.size 57 3 v (belL (l.take k) i).length (entryCells (belL (l.take k) i)) ∧ Below w.heap.size w wr) (fun _ q _ => l.length - (intOf q).toNat)
  case atStart => exact ⟨0, by omega, rfl, World.ownsRow_nil _ _ _ _, Below.refl _ _⟩
  case round =>
    rename_i v _
    obtain ⟨k, hk, rfl, hown, hB⟩ := hrel
    by_cases hlt : k < l.length
    · obtain ⟨b, off, rfl, hb, hx⟩ := hcs (by omega)
      obtain ⟨d0, d1, d2⟩ := entry_at hb hB hx hlt
      have hk0 : (0 : Int) ≤ (k : Int) := by omega
      have hkl : (k : Int) < (l.length : Int) := by omega
      have hXl : (belL (l.take k) i).length ≤ 1000000 := Nat.le_trans (belL_le _ _) (by rw [List.length_take]; omega)
      have HT := Lib.hid (belL_take l i k hlt)
      clear hx hcs
      generalize belL (l.take k) i = X at *
      generalize l[k] = x at *
      obtain ⟨xi, xt, xd⟩ := x
      dsimp only at *
      by_cases hc : xi < i
      · have HT2 := Lib.hid (show belL (l.take (k + 1)) i = X ++ [⟨xi, xt, xd⟩] by rw [HT.out, if_pos hc])
        have HC := Lib.hid (entryCells_snoc X ⟨xi, xt, xd⟩)
        clear HT
        go_wp2_with (at_builtin; refine wpList_append_own _ rfl _ _ 29 rfl w.heap.size 57 i9 (.agg #[.int .i64 0, .int .i64 0, .string ⟨#[]⟩]) 3 32 Try.underlying29 hi hz0 hz1 hz2 rfl (by decide) _ _ _ rfl (hown.alloc _) ⟨wr.heap.size, 0, none⟩ 1 1 [.int .i64 xi, .int .i64 xt, .string xd] rfl rfl (news_new _ _ _) (by simp [Value.oneCell']) (by unfold maxLen; omega) (by omega) (by have := hB.size; simp; omega) ?_; intro v' w3 hown3 hgrow _; have hB3 := (hB.alloc hB.size (.cells [.int .i64 xi, .int .i64 xt, .string xd].toArray 57)).grown hgrow (by have := hB.size; simp; omega) (fun k hk => by have := ownBlock_ge hown hk; omega))
        go_roundw
        case rel => exact ⟨k + 1, by omega, by go_num, by rw [HT2.out, HC.out, List.length_append]; exact hown3, hB3⟩
        case measure => simp [intOf]; omega
      · have HT2 := Lib.hid (show belL (l.take (k + 1)) i = X by rw [HT.out, if_neg hc, List.append_nil])
        clear HT
        go_wp2
        go_roundw
        case rel => exact ⟨k + 1, by omega, by go_num, by rw [HT2.out]; exact hown, hB⟩
        case measure => simp [intOf]; omega
    · obtain rfl : k = l.length := by omega
      rw [List.take_length] at hown
      obtain ⟨X, hX⟩ : ∃ X, X = belL l i := ⟨_, rfl⟩
      rw [← hX] at hown
      have HXe := Lib.hid hX
      clear hX
      obtain ⟨va, vc, rfl, -, -⟩ := rowV_own hown
      have HO := Lib.hid hown
      clear hown
      go_wp2
      go_ret
      rw [← HXe.out]
      exact ⟨va, vc, rfl, HO.out, hB⟩

set_option maxRecDepth 100000 in
set_option maxHeartbeats 4000000 in
theorem refFrom_any (l : List EntryC) (a : Option Addr) (cap : Nat) (i : Int) (w : World) (hm : l.length < 1000000) (hr : RowV w a l.length 3 (entryCells l)) : Calls Try.prog 76 #[.slice a l.length cap, .int .i64 i] w fun e w' => ∃ va vc, e = .returned (.slice va (froL l i).length vc) ∧ w'.ownsRow w.heap.size 57 3 (.slice va (froL l i).length vc) (froL l i).length (entryCells (froL l i)) ∧ Below w.heap.size w w' := by
  obtain ⟨i9, hi, hz0, hz1, hz2⟩ := info_parts infoEntry
  have hcs := hr.2.2
  clear hr
  go_enter Try.func76, Try.ntmps76
  go_wp2
  go_loopw [5, 6] (fun v q wr => ∃ k : Nat, k ≤ l.length ∧ q = .int .i64 k ∧ wr.ownsRow w.heap.size 57 3 v (froL (l.take k) i).length (entryCells (froL (l.take k) i)) ∧ Below w.heap.size w wr) (fun _ q _ => l.length - (intOf q).toNat)
  case atStart => exact ⟨0, by omega, rfl, World.ownsRow_nil _ _ _ _, Below.refl _ _⟩
  case round =>
    rename_i v _
    obtain ⟨k, hk, rfl, hown, hB⟩ := hrel
    by_cases hlt : k < l.length
    · obtain ⟨b, off, rfl, hb, hx⟩ := hcs (by omega)
      obtain ⟨d0, d1, d2⟩ := entry_at hb hB hx hlt
      have hk0 : (0 : Int) ≤ (k : Int) := by omega
      have hkl : (k : Int) < (l.length : Int) := by omega
      have hXl : (froL (l.take k) i).length ≤ 1000000 := Nat.le_trans (froL_le _ _) (by rw [List.length_take]; omega)
      have HT := Lib.hid (froL_take l i k hlt)
      clear hx hcs
      generalize froL (l.take k) i = X at *
      generalize l[k] = x at *
      obtain ⟨xi, xt, xd⟩ := x
      dsimp only at *
      by_cases hc : i ≤ xi
      · have HT2 := Lib.hid (show froL (l.take (k + 1)) i = X ++ [⟨xi, xt, xd⟩] by rw [HT.out, if_pos hc])
        have HC := Lib.hid (entryCells_snoc X ⟨xi, xt, xd⟩)
        clear HT
        go_wp2_with (at_builtin; refine wpList_append_own _ rfl _ _ 29 rfl w.heap.size 57 i9 (.agg #[.int .i64 0, .int .i64 0, .string ⟨#[]⟩]) 3 32 Try.underlying29 hi hz0 hz1 hz2 rfl (by decide) _ _ _ rfl (hown.alloc _) ⟨wr.heap.size, 0, none⟩ 1 1 [.int .i64 xi, .int .i64 xt, .string xd] rfl rfl (news_new _ _ _) (by simp [Value.oneCell']) (by unfold maxLen; omega) (by omega) (by have := hB.size; simp; omega) ?_; intro v' w3 hown3 hgrow _; have hB3 := (hB.alloc hB.size (.cells [.int .i64 xi, .int .i64 xt, .string xd].toArray 57)).grown hgrow (by have := hB.size; simp; omega) (fun k hk => by have := ownBlock_ge hown hk; omega))
        go_roundw
        case rel => exact ⟨k + 1, by omega, by go_num, by rw [HT2.out, HC.out, List.length_append]; exact hown3, hB3⟩
        case measure => simp [intOf]; omega
      · have HT2 := Lib.hid (show froL (l.take (k + 1)) i = X by rw [HT.out, if_neg hc, List.append_nil])
        clear HT
        go_wp2
        go_roundw
        case rel => exact ⟨k + 1, by omega, by go_num, by rw [HT2.out]; exact hown, hB⟩
        case measure => simp [intOf]; omega
    · obtain rfl : k = l.length := by omega
      rw [List.take_length] at hown
      obtain ⟨X, hX⟩ : ∃ X, X = froL l i := ⟨_, rfl⟩
      rw [← hX] at hown
      have HXe := Lib.hid hX
      clear hX
      obtain ⟨va, vc, rfl, -, -⟩ := rowV_own hown
      have HO := Lib.hid hown
      clear hown
      go_wp2
      go_ret
      rw [← HXe.out]
      exact ⟨va, vc, rfl, HO.out, hB⟩

set_option maxRecDepth 100000 in
set_option maxHeartbeats 4000000 in
theorem refAt_any (id fi te ht hv hc : Int) (l : List EntryC) (a : Option Addr) (cap : Nat) (i : Int) (w : World) (hg : HasG w a ⟨id, fi, te, ht, hv, hc, l⟩) : Gives Try.prog 20 #[.agg #[.int .i64 id, .int .i64 fi, .int .i64 te, .int .i64 ht, .int .i64 hv, .int .i64 hc, .slice a l.length cap], .int .i64 i] w (.int .i64 (atM l i)) := by
  have hm := hg.1
  have hcs := hg.2.2.2
  dsimp only at hm hcs
  have HA := Lib.hid (bel_alloc (Below.refl w.heap.size w) (.cells #[.int .i64 id, .int .i64 fi, .int .i64 te, .int .i64 ht, .int .i64 hv, .int .i64 hc, .slice a l.length cap] 31))
  clear hg
  unfold Gives
  go_enter Try.func20, Try.ntmps20
  go_wp2
  go_loopw [5] (fun q wr => ∃ k : Nat, k ≤ l.length ∧ q = .int .i64 k ∧ (∀ j (hj : j < l.length), j < k → l[j].i ≠ i) ∧ Below (w.alloc (.cells #[.int .i64 id, .int .i64 fi, .int .i64 te, .int .i64 ht, .int .i64 hv, .int .i64 hc, .slice a l.length cap] 31)).heap.size (w.alloc (.cells #[.int .i64 id, .int .i64 fi, .int .i64 te, .int .i64 ht, .int .i64 hv, .int .i64 hc, .slice a l.length cap] 31)) wr) (fun q _ => l.length - (intOf q).toNat)
  case atStart => exact ⟨0, by omega, rfl, fun j _ h => by omega, Below.refl _ _⟩
  case round =>
    obtain ⟨k, hk, rfl, hno, hB⟩ := hrel
    have HN := Lib.hid hno
    clear hno
    have hBw := bel2 HA.out hB
    obtain ⟨-, -, -, -, -, -, g6⟩ := gbox hB
    by_cases hlt : k < l.length
    · obtain ⟨b, off, rfl, hb, hx⟩ := hcs (by omega)
      obtain ⟨d0, d1, d2⟩ := entry_at hb hBw hx hlt
      have hk0 : (0 : Int) ≤ (k : Int) := by omega
      have hkl : (k : Int) < (l.length : Int) := by omega
      have HY := Lib.hid (show l[k].i = i → atM l i = k from fun h => atM_at hlt h fun j hj => HN.out j (by omega) hj)
      have HN2 := Lib.hid (show l[k].i ≠ i → ∀ j (hj : j < l.length), j < k + 1 → l[j].i ≠ i from fun h j hj hjk => by
        by_cases e : j = k
        · subst e; exact h
        · exact HN.out j hj (by omega))
      clear hx HN
      generalize l[k] = x at *
      obtain ⟨xi, xt, xd⟩ := x
      dsimp only at *
      by_cases hc : xi = i
      · have ht0 : (xi == i) = true := by rw [beq_iff_eq]; exact hc
        have HR := Lib.hid (HY.out hc)
        clear HY HN2 hc
        go_wp2
        go_ret
        exact ⟨by rw [HR.out]; rfl, hBw⟩
      · have ht0 : (xi == i) = false := by rw [beq_eq_false_iff_ne]; exact hc
        have HN3 := Lib.hid (HN2.out hc)
        clear HY HN2 hc
        go_wp2
        go_roundw
        case rel => exact ⟨k + 1, by omega, by go_num, HN3.out, hB⟩
        case measure => simp [intOf]; omega
    · obtain rfl : k = l.length := by omega
      have HR := Lib.hid (atM_no (l := l) (i := i) fun j hj => HN.out j hj hj)
      go_wp2
      go_ret
      exact ⟨by rw [HR.out]; rfl, hBw⟩

end Go.Proofs.Ytloojgbkohpcfaa
