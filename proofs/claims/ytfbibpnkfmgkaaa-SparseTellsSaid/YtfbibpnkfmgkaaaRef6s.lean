/- The document's groups with holes: which are some. -/
import Derived.Test.YtfbibpnkfmgkaaaRef6a
import Derived.Test.YtfbibpnkfmgkaaaSprCmp
namespace Go.Proofs.Ytfbibpnkfmgkaaa
open Go.RowKit Go.Shelf
set_option linter.unusedVariables false
attribute [local go_sem] Oper.semAt_some wide_fn wide_round_fn

set_option maxRecDepth 100000 in
set_option maxHeartbeats 4000000 in
theorem refIsBadS_any (id fi te ht hv hc : Int) (l : List EntryC) (a : Option Addr) (cap : Nat) (w : World) (h : ¬ ((0 ≤ id ∧ id ≤ 999) ∧ (1 ≤ fi ∧ fi ≤ 1099511627777) ∧ (0 ≤ te ∧ te ≤ 1099511627776))) : Gives Try.prog 32 #[.agg #[.int .i64 id, .int .i64 fi, .int .i64 te, .int .i64 ht, .int .i64 hv, .int .i64 hc, .slice a l.length cap], .bool false] w (.bool false) := by
  have h2 : id < 0 ∨ (0 ≤ id ∧ 999 < id) ∨ ((0 ≤ id ∧ id ≤ 999) ∧ fi < 1) ∨ ((0 ≤ id ∧ id ≤ 999) ∧ 1 ≤ fi ∧ 1099511627777 < fi) ∨ ((0 ≤ id ∧ id ≤ 999) ∧ (1 ≤ fi ∧ fi ≤ 1099511627777) ∧ te < 0) ∨ ((0 ≤ id ∧ id ≤ 999) ∧ (1 ≤ fi ∧ fi ≤ 1099511627777) ∧ 0 ≤ te ∧ 1099511627776 < te) := by omega
  clear h
  unfold Gives
  rcases h2 with h | ⟨h0, h⟩ | ⟨⟨h0, h1⟩, h⟩ | ⟨⟨h0, h1⟩, h2, h⟩ | ⟨⟨h0, h1⟩, ⟨h2, h3⟩, h⟩ | ⟨⟨h0, h1⟩, ⟨h2, h3⟩, h4, h⟩
  all_goals
    go_enter Try.func32, Try.ntmps32
    go_wp2
    go_ret
    exact ⟨by simp, bel_alloc (Below.refl _ _) _⟩

set_option maxRecDepth 100000 in
set_option maxHeartbeats 4000000 in
theorem refIs_sparse (id fi te ht hv hc : Int) (l : List EntryC) (a : Option Addr) (cap : Nat) (w : World) (hg : HasG w a ⟨id, fi, te, ht, hv, hc, l⟩) : Gives Try.prog 32 #[.agg #[.int .i64 id, .int .i64 fi, .int .i64 te, .int .i64 ht, .int .i64 hv, .int .i64 hc, .slice a l.length cap], .bool false] w (.bool (isSp ⟨id, fi, te, ht, hv, hc, l⟩)) := by
  by_cases hb : (0 ≤ id ∧ id ≤ 999) ∧ (1 ≤ fi ∧ fi ≤ 1099511627777) ∧ (0 ≤ te ∧ te ≤ 1099511627776)
  · have HV := Lib.hid (show isSp ⟨id, fi, te, ht, hv, hc, l⟩ = (hardB ht hv hc && sprB l fi) by
      rw [Bool.eq_iff_iff, isSp_iff]; simp only [hb, true_and, Bool.and_eq_true])
    rw [HV.out]
    obtain ⟨⟨h0, h1⟩, ⟨h2, h3⟩, h4, h5⟩ := hb
    have GH := Lib.hid (fun W => refIsHard_any ht hv hc W)
    rw [hardB_swap] at GH
    have hm := hg.1
    have hcs := hg.2.2.2
    dsimp only at hm hcs
    clear hg HV
    unfold Gives
    generalize hardB ht hv hc = bh at *
    cases bh
    · go_enter Try.func32, Try.ntmps32
      go_wp2_with (go_at_call 40; ((with_reducible refine (GH.out _).mono ?_); rintro e w1 ⟨rfl, hB1⟩))
      go_ret
      exact ⟨by simp, blk_below hB1⟩
    · simp only [Bool.true_and]
      go_enter Try.func32, Try.ntmps32
      go_wp2_with (go_at_call 40; ((with_reducible refine (GH.out _).mono ?_); rintro e w1 ⟨rfl, hB1⟩; obtain ⟨g0, g1, g2, g3, g4, g5, g6⟩ := gbox hB1))
      clear g0 g1 g2 g3 g4 g5 g6
      go_loopw [5, 6, 7] (fun qa q _ wr => ∃ (k : Nat) (m : Int), k ≤ l.length ∧ q = .int .i64 k ∧ qa = .int .i64 m ∧ sprB l fi = sprB (l.drop k) m ∧ Below (w.alloc (.cells #[.int .i64 id, .int .i64 fi, .int .i64 te, .int .i64 ht, .int .i64 hv, .int .i64 hc, .slice a l.length cap] 26)).heap.size (w.alloc (.cells #[.int .i64 id, .int .i64 fi, .int .i64 te, .int .i64 ht, .int .i64 hv, .int .i64 hc, .slice a l.length cap] 26)) wr) (fun _ q _ _ => l.length - (intOf q).toNat)
      case atStart => exact ⟨0, fi, by omega, rfl, rfl, rfl, hB1⟩
      case round =>
        obtain ⟨k, m, hk, rfl, rfl, hsp, hB⟩ := hrel
        have HSP := Lib.hid hsp
        clear hB1 hsp
        have hBw := blk_below hB
        obtain ⟨-, -, -, -, -, -, g6⟩ := gbox hB
        by_cases hlt : k < l.length
        · obtain ⟨b, off, rfl, hb, hx⟩ := hcs (by omega)
          obtain ⟨d0, d1, d2⟩ := entry_at hb hBw hx hlt
          have HT := Lib.hid (show sprB l fi = ((entryB l[k] && decide (m ≤ l[k].i)) && sprB (l.drop (k + 1)) (l[k].i + 1)) by rw [HSP.out, List.drop_eq_getElem_cons hlt]; rfl)
          have hk0 : (0 : Int) ≤ (k : Int) := by omega
          have hkl : (k : Int) < (l.length : Int) := by omega
          have hgs : w.heap.size < wr.heap.size := by have := hB.size; simp at this; omega
          clear hx hcs HSP
          generalize l[k] = x at *
          have GE := Lib.hid (refIsEntry_any x)
          have hbd := fun h => (entryB_bd (e := x) h).1
          obtain ⟨xi, xt, xd⟩ := x
          dsimp only [EntryC.val] at *
          cases he : entryB ⟨xi, xt, xd⟩
          · have HN := Lib.hid (show sprB l fi = false by rw [HT.out, he]; rfl)
            rw [he] at GE
            clear HT hbd he
            go_wp2_with (go_at_call 53; ((with_reducible refine (GE.out _).mono ?_); rintro e w2 ⟨rfl, hB2⟩; have hA2 := bel2 (bel_alloc (Below.refl wr.heap.size wr) (.cells #[.int .i64 xi, .int .i64 xt, .string xd] 38)) hB2; have x0 : w2.cell? ⟨wr.heap.size, 0, none⟩ = some (.int .i64 xi) := blk_cell hB2 0))
            go_ret
            exact ⟨by simp [HN.out], bel2 hBw hA2⟩
          · rw [he] at GE
            have hb9 := hbd he
            by_cases hmi : m ≤ xi
            · have HT2 := Lib.hid (show sprB l fi = sprB (l.drop (k + 1)) (xi + 1) by rw [HT.out, he, decide_eq_true hmi]; rfl)
              obtain ⟨hb1, hb2⟩ := hb9
              clear HT hbd he
              go_wp2_with (go_at_call 53; ((with_reducible refine (GE.out _).mono ?_); rintro e w2 ⟨rfl, hB2⟩; have hA2 := bel2 (bel_alloc (Below.refl wr.heap.size wr) (.cells #[.int .i64 xi, .int .i64 xt, .string xd] 38)) hB2; have x0 : w2.cell? ⟨wr.heap.size, 0, none⟩ = some (.int .i64 xi) := blk_cell hB2 0))
              go_roundw
              case rel => exact ⟨k + 1, xi + 1, by omega, by go_num, rfl, HT2.out, bel2 hB hA2⟩
              case measure => simp [intOf]; omega
            · have HN := Lib.hid (show sprB l fi = false by rw [HT.out, decide_eq_false hmi]; simp)
              replace hmi : xi < m := by omega
              clear HT hbd he hb9
              go_wp2_with (go_at_call 53; ((with_reducible refine (GE.out _).mono ?_); rintro e w2 ⟨rfl, hB2⟩; have hA2 := bel2 (bel_alloc (Below.refl wr.heap.size wr) (.cells #[.int .i64 xi, .int .i64 xt, .string xd] 38)) hB2; have x0 : w2.cell? ⟨wr.heap.size, 0, none⟩ = some (.int .i64 xi) := blk_cell hB2 0))
              go_ret
              exact ⟨by simp [HN.out], bel2 hBw hA2⟩
        · obtain rfl : k = l.length := by omega
          have HN := Lib.hid (show sprB l fi = true by rw [HSP.out, List.drop_length]; rfl)
          clear HSP hcs
          go_wp2
          go_ret
          exact ⟨by simp [HN.out], hBw⟩
  · have HV := Lib.hid (show isSp ⟨id, fi, te, ht, hv, hc, l⟩ = false by
      rw [Bool.eq_false_iff]; intro h; exact hb (isSp_iff.1 h).1)
    rw [HV.out]
    exact refIsBadS_any id fi te ht hv hc l a cap w hb

theorem refIsSp_any (id fi te ht hv hc : Int) (l : List EntryC) (a : Option Addr) (cap : Nat) (w : World) (hg : HasG w a ⟨id, fi, te, ht, hv, hc, l⟩) : Gives Try.prog 14 #[.agg #[.int .i64 id, .int .i64 fi, .int .i64 te, .int .i64 ht, .int .i64 hv, .int .i64 hc, .slice a l.length cap]] w (.bool (isSp ⟨id, fi, te, ht, hv, hc, l⟩)) := by
  have GI := Lib.hid (fun W (hB : Below w.heap.size w W) => refIs_sparse id fi te ht hv hc l a cap W (hg.below hB))
  generalize isSp ⟨id, fi, te, ht, hv, hc, l⟩ = b at *
  have HA := Lib.hid (bel_alloc (Below.refl w.heap.size w) (.cells #[.int .i64 id, .int .i64 fi, .int .i64 te, .int .i64 ht, .int .i64 hv, .int .i64 hc, .slice a l.length cap] 26))
  clear hg
  unfold Gives
  go_enter Try.func14, Try.ntmps14
  go_wp2_with (go_at_call 32; ((with_reducible refine (GI.out _ HA.out).mono ?_); rintro e w1 ⟨rfl, hB1⟩))
  go_ret
  exact ⟨rfl, bel2 HA.out hB1⟩

end Go.Proofs.Ytfbibpnkfmgkaaa
