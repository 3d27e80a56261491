/- The contracts of package group's Is, Last, New. -/
import Derived.Test.YtfbibpnkfmgkaaaGrpBtw
import Derived.Test.YtfbibpnkfmgkaaaPartIs6
import Derived.Test.YtfbibpnkfmgkaaaPartFacts
namespace Go.Proofs.Ytfbibpnkfmgkaaa
open Go.RowKit Go.Shelf
set_option linter.unusedVariables false
attribute [local go_sem] Oper.semAt_some wide_fn wide_round_fn

theorem isB_hard (ht hv hc : Int) : isB ⟨0, 2, none, 0, 0, ht, hv, hc, 0, 0, false, false⟩ [] = hardB ht hv hc := by
  rw [Bool.eq_iff_iff, isB_iff]; simp
theorem isG_iff {g : GM} : isG g = true ↔ ((0 ≤ g.id ∧ g.id ≤ 999) ∧ (1 ≤ g.fi ∧ g.fi ≤ 1099511627777) ∧ (0 ≤ g.te ∧ g.te ≤ 1099511627776)) ∧ hardB g.ht g.hv g.hc = true ∧ denseB g.l g.fi = true := by
  simp only [isG, Bool.and_eq_true, wB_iff]; grind
/-- The cells of a group's box in later worlds. -/
theorem gbox {w W : World} {id fi te ht hv hc : Int} {a : Option Addr} {n cap : Nat} (h : Below (w.alloc (.cells #[.int .i64 id, .int .i64 fi, .int .i64 te, .int .i64 ht, .int .i64 hv, .int .i64 hc, .slice a n cap] 26)).heap.size (w.alloc (.cells #[.int .i64 id, .int .i64 fi, .int .i64 te, .int .i64 ht, .int .i64 hv, .int .i64 hc, .slice a n cap] 26)) W) :
    W.cell? ⟨w.heap.size, 0, none⟩ = some (.int .i64 id) ∧ W.cell? ⟨w.heap.size, 1, none⟩ = some (.int .i64 fi) ∧ W.cell? ⟨w.heap.size, 2, none⟩ = some (.int .i64 te) ∧ W.cell? ⟨w.heap.size, 3, none⟩ = some (.int .i64 ht) ∧ W.cell? ⟨w.heap.size, 4, none⟩ = some (.int .i64 hv) ∧ W.cell? ⟨w.heap.size, 5, none⟩ = some (.int .i64 hc) ∧ W.cell? ⟨w.heap.size, 6, none⟩ = some (.slice a n cap) :=
  ⟨blk_cell h 0, blk_cell h 1, blk_cell h 2, blk_cell h 3, blk_cell h 4, blk_cell h 5, blk_cell h 6⟩

set_option maxRecDepth 100000 in
set_option maxHeartbeats 4000000 in
theorem grpIs_bad (id fi te ht hv hc : Int) (l : List EntryC) (a : Option Addr) (cap : Nat) (w : World) (h : ¬ ((0 ≤ id ∧ id ≤ 999) ∧ (1 ≤ fi ∧ fi ≤ 1099511627777) ∧ (0 ≤ te ∧ te ≤ 1099511627776))) : Gives Try.prog 31 #[.agg #[.int .i64 id, .int .i64 fi, .int .i64 te, .int .i64 ht, .int .i64 hv, .int .i64 hc, .slice a l.length cap]] w (.bool false) := by
  have h2 : id < 0 ∨ (0 ≤ id ∧ 999 < id) ∨ ((0 ≤ id ∧ id ≤ 999) ∧ fi < 1) ∨ ((0 ≤ id ∧ id ≤ 999) ∧ 1 ≤ fi ∧ 1099511627777 < fi) ∨ ((0 ≤ id ∧ id ≤ 999) ∧ (1 ≤ fi ∧ fi ≤ 1099511627777) ∧ te < 0) ∨ ((0 ≤ id ∧ id ≤ 999) ∧ (1 ≤ fi ∧ fi ≤ 1099511627777) ∧ 0 ≤ te ∧ 1099511627776 < te) := by omega
  clear h
  unfold Gives
  rcases h2 with h | ⟨h0, h⟩ | ⟨⟨h0, h1⟩, h⟩ | ⟨⟨h0, h1⟩, h2, h⟩ | ⟨⟨h0, h1⟩, ⟨h2, h3⟩, h⟩ | ⟨⟨h0, h1⟩, ⟨h2, h3⟩, h4, h⟩
  all_goals
    go_enter Try.func31, Try.ntmps31
    go_wp2
    go_ret
    exact ⟨by simp, bel_alloc (Below.refl _ _) _⟩

set_option maxRecDepth 100000 in
set_option maxHeartbeats 4000000 in
theorem grpIs_any (id fi te ht hv hc : Int) (l : List EntryC) (a : Option Addr) (cap : Nat) (w : World) (hg : HasG w a ⟨id, fi, te, ht, hv, hc, l⟩) : Gives Try.prog 31 #[.agg #[.int .i64 id, .int .i64 fi, .int .i64 te, .int .i64 ht, .int .i64 hv, .int .i64 hc, .slice a l.length cap]] w (.bool (isG ⟨id, fi, te, ht, hv, hc, l⟩)) := by
  by_cases hb : (0 ≤ id ∧ id ≤ 999) ∧ (1 ≤ fi ∧ fi ≤ 1099511627777) ∧ (0 ≤ te ∧ te ≤ 1099511627776)
  · have HV := Lib.hid (show isG ⟨id, fi, te, ht, hv, hc, l⟩ = (hardB ht hv hc && denseB l fi) by
      rw [Bool.eq_iff_iff, isG_iff]; simp only [hb, true_and, Bool.and_eq_true])
    rw [HV.out]
    obtain ⟨⟨h0, h1⟩, ⟨h2, h3⟩, h4, h5⟩ := hb
    have GH := Lib.hid (fun W => is_any ⟨0, 2, none, 0, 0, ht, hv, hc, 0, 0, false, false⟩ [] W (hasE_nil rfl rfl))
    rw [isB_hard] at GH
    have hm := hg.1
    have hcs := hg.2.2.2
    dsimp only at hm hcs
    clear hg HV
    unfold Gives
    generalize hardB ht hv hc = bh at *
    cases bh
    · go_enter Try.func31, Try.ntmps31
      go_wp2_with (go_at_call 24; ((with_reducible refine (GH.out _).mono ?_); rintro e w1 ⟨rfl, hB1⟩))
      go_ret
      exact ⟨by simp, blk_below hB1⟩
    · simp only [Bool.true_and]
      go_enter Try.func31, Try.ntmps31
      go_wp2_with (go_at_call 24; ((with_reducible refine (GH.out _).mono ?_); rintro e w1 ⟨rfl, hB1⟩; obtain ⟨g0, g1, g2, g3, g4, g5, g6⟩ := gbox hB1))
      clear g0 g1 g2 g3 g4 g5 g6
      go_loopw [41, 3, 4] (fun q _ _ wr => ∃ k : Nat, k ≤ l.length ∧ q = .int .i64 k ∧ denseB (l.take k) fi = true ∧ Below (w.alloc (.cells #[.int .i64 id, .int .i64 fi, .int .i64 te, .int .i64 ht, .int .i64 hv, .int .i64 hc, .slice a l.length cap] 26)).heap.size (w.alloc (.cells #[.int .i64 id, .int .i64 fi, .int .i64 te, .int .i64 ht, .int .i64 hv, .int .i64 hc, .slice a l.length cap] 26)) wr) (fun q _ _ _ => l.length - (intOf q).toNat)
      case atStart => exact ⟨0, by omega, rfl, rfl, hB1⟩
      case round =>
        obtain ⟨k, hk, rfl, hd, hB⟩ := hrel
        clear hB1
        have hBw := blk_below hB
        by_cases hlt : k < l.length
        · obtain ⟨b, off, rfl, hb, hx⟩ := hcs (by omega)
          obtain ⟨d0, d1, d2⟩ := entry_at hb hBw hx hlt
          obtain ⟨-, g1, -, -, -, -, -⟩ := gbox hB
          have HT := Lib.hid (denseB_take l fi k hlt)
          have HN := Lib.hid (fun h => denseB_no (f := fi) hlt h)
          have HD := Lib.hid hd
          have hk0 : (0 : Int) ≤ (k : Int) := by omega
          have hsum : fi + (k : Int) ≤ 9223372036854775807 := by omega
          have hgs : w.heap.size < wr.heap.size := by have := hB.size; simp at this; omega
          clear hx hd
          generalize l[k] = x at *
          have GE := Lib.hid (isEntry_any x)
          obtain ⟨xi, xt, xd⟩ := x
          dsimp only [EntryC.val] at *
          cases he : entryB ⟨xi, xt, xd⟩
          · have HN2 := Lib.hid (HN.out (by rw [he]; rfl))
            rw [he] at GE
            clear HT HN he
            go_wp2_with (go_at_call 30; ((with_reducible refine (GE.out _).mono ?_); rintro e w2 ⟨rfl, hB2⟩))
            go_ret
            exact ⟨by simp [HN2.out], bel2 hBw (bel2 (bel_alloc (Below.refl _ _) _) hB2)⟩
          · rw [he] at GE
            by_cases hi : xi = fi + k
            · have HT2 := Lib.hid (show denseB (l.take (k + 1)) fi = true by rw [HT.out, HD.out, he, decide_eq_true hi]; rfl)
              have ht0 : (xi == fi + (k : Int)) = true := by rw [beq_iff_eq]; exact hi
              have ht1 : (xi != fi + (k : Int)) = false := by rw [bne_eq_false_iff_eq]; exact hi
              clear HT HN he hi
              go_wp2_with (go_at_call 30; ((with_reducible refine (GE.out _).mono ?_); rintro e w2 ⟨rfl, hB2⟩; have hA2 := bel2 (bel_alloc (Below.refl wr.heap.size wr) (.cells #[.int .i64 xi, .int .i64 xt, .string xd] 38)) hB2; have g1b := (hA2.cell (p := ⟨w.heap.size, 1, none⟩) hgs).trans g1; have x0 : w2.cell? ⟨wr.heap.size, 0, none⟩ = some (.int .i64 xi) := blk_cell hB2 0))
              go_roundw
              case rel => exact ⟨k + 1, by omega, by go_num, HT2.out, bel2 hB hA2⟩
              case measure => simp [intOf]; omega
            · have HN2 := Lib.hid (HN.out (by rw [he, decide_eq_false hi]; rfl))
              have ht0 : (xi == fi + (k : Int)) = false := by rw [beq_eq_false_iff_ne]; exact hi
              have ht1 : (xi != fi + (k : Int)) = true := by rw [bne_iff_ne]; exact hi
              clear HT HN he hi
              go_wp2_with (go_at_call 30; ((with_reducible refine (GE.out _).mono ?_); rintro e w2 ⟨rfl, hB2⟩; have hA2 := bel2 (bel_alloc (Below.refl wr.heap.size wr) (.cells #[.int .i64 xi, .int .i64 xt, .string xd] 38)) hB2; have g1b := (hA2.cell (p := ⟨w.heap.size, 1, none⟩) hgs).trans g1; have x0 : w2.cell? ⟨wr.heap.size, 0, none⟩ = some (.int .i64 xi) := blk_cell hB2 0))
              go_ret
              exact ⟨by simp [HN2.out], bel2 hBw hA2⟩
        · obtain rfl : k = l.length := by omega
          rw [List.take_length] at hd
          have HD := Lib.hid hd
          clear hd
          go_wp2
          go_ret
          exact ⟨by simp [HD.out], hBw⟩
  · have HV := Lib.hid (show isG ⟨id, fi, te, ht, hv, hc, l⟩ = false by
      rw [Bool.eq_false_iff]; intro h; exact hb (isG_iff.1 h).1)
    rw [HV.out]
    exact grpIs_bad id fi te ht hv hc l a cap w hb

end Go.Proofs.Ytfbibpnkfmgkaaa
