/- RefSame, RefBytes, RefBytes1: in one text. -/
import Derived.Test.YtflaanffjjidaaaPartSame
import Derived.Test.YtflaanffjjidaaaQuietC
import Derived.Test.YtflaanffjjidaaaPartFacts
import Derived.Test.YtflaanffjjidaaaRef
/- The contracts of the document's SamePart, and of what it calls: it comes to the same. -/
namespace Go.Proofs.Ytflaanffjjidaaa
open Go.RowKit Go.Shelf
set_option linter.unusedVariables false
attribute [local go_sem] Oper.semAt_some wide_fn wide_round_fn

set_option maxRecDepth 100000 in
set_option maxHeartbeats 1000000 in
theorem refEqual_any (a b : Option Addr) (n1 n2 c1 c2 : Nat) (l m : List EntryC) (hl : l.length = n1) (hm : m.length = n2) (hn1 : n1 < 1000000) (hn2 : n2 < 1000000) (w : World) (h1 : RowV w a n1 3 (entryCells l)) (h2 : RowV w b n2 3 (entryCells m)) :
    Gives Try.prog 97 #[.slice a n1 c1, .slice b n2 c2] w (.bool (decide (l = m))) := by
  have hc1 := h1.2.2
  have hc2 := h2.2.2
  clear h1 h2
  unfold Gives
  by_cases hne : n1 = n2
  · subst hne
    go_enter Try.func97, Try.ntmps97
    go_wp2
    go_loopw [5] (fun i wr => ∃ k : Nat, k ≤ n1 ∧ i = .int .i64 k ∧ l.take k = m.take k ∧ Below w.heap.size w wr) (fun i _ => n1 - (intOf i).toNat)
    case atStart => exact ⟨0, by omega, rfl, rfl, Below.refl _ _⟩
    case round =>
      obtain ⟨k, hk, rfl, ht, hB⟩ := hrel
      have HT := Lib.hid ht
      clear ht
      by_cases hlt : k < n1
      · obtain ⟨b1, o1, rfl, hb1, hx1⟩ := hc1 (by omega)
        obtain ⟨b2, o2, rfl, hb2, hx2⟩ := hc2 (by omega)
        have hkl : k < l.length := by omega
        have hkm : k < m.length := by omega
        obtain ⟨d0, d1, d2⟩ := entry_at hb1 hB hx1 hkl
        obtain ⟨f0, f1, f2⟩ := entry_at hb2 hB hx2 hkm
        have HS := Lib.hid (show l[k] = m[k] → l.take (k + 1) = m.take (k + 1) by intro h; rw [List.take_succ_eq_append_getElem hkl, List.take_succ_eq_append_getElem hkm, HT.out, h])
        have HN := Lib.hid (show l[k] ≠ m[k] → decide (l = m) = false by intro h; simp; rintro rfl; exact h rfl)
        clear hx1 hx2
        generalize l[k] = x at *
        generalize m[k] = y at *
        have hne := fun w => neqEntry x y w
        by_cases hxy : x = y
        · rw [decide_eq_true hxy] at hne
          have HS' := Lib.hid (HS.out hxy)
          clear HS HN
          subst hxy
          go_wp2
          go_quiet (fail)
          go_wp2
          go_roundw
          case rel => exact ⟨k + 1, by omega, by go_num, HS'.out, below_drewN hB _⟩
          case measure => simp [intOf]; omega
        · rw [decide_eq_false hxy] at hne
          have HN' := Lib.hid (HN.out hxy)
          clear HS HN hxy
          go_wp2
          go_quiet (fail)
          go_wp2
          go_ret
          exact ⟨by rw [HN'.out]; rfl, below_drewN hB _⟩
      · obtain rfl : k = n1 := by omega
        have HV := Lib.hid (show decide (l = m) = true by
          have := HT.out
          rw [List.take_of_length_le (by omega), List.take_of_length_le (by omega)] at this
          simp [this])
        go_wp2
        go_ret
        exact ⟨by rw [HV.out]; rfl, hB⟩
  · have HV := Lib.hid (show decide (l = m) = false by simp; rintro rfl; omega)
    go_enter Try.func97, Try.ntmps97
    go_wp2
    go_ret
    exact ⟨by rw [HV.out]; rfl, Below.refl _ _⟩

set_option maxRecDepth 100000 in
set_option maxHeartbeats 2000000 in
theorem refSame_any (p q : PartC) (l m : List EntryC) (w : World) (h1 : HasE w p l) (h2 : HasE w q m) : Gives Try.prog 76 #[p.val, q.val] w (.bool (sameB p q l m)) := by
  have G := Lib.hid (fun W (hB : Below w.heap.size w W) => refEqual_any p.a q.a p.len q.len p.cap q.cap l m h1.1 h2.1 h1.2.1 h2.2.1 W (h1.2.2.below hB) (h2.2.2.below hB))
  have hH := fun w => beqHard p.ht p.hv p.hc q.ht q.hv q.hc w
  clear h1 h2
  obtain ⟨g, k, a, len, cap, ht, hv, hc, i, t, mk, hd⟩ := p
  obtain ⟨g', k', a', len', cap', ht', hv', hc', i', t', mk', hd'⟩ := q
  dsimp only [PartC.val, sameB] at *
  generalize decide (l = m) = b3 at *
  generalize decide (ht = ht' ∧ hv = hv' ∧ hc = hc') = b4 at *
  unfold Gives
  have bA := bel_alloc (bel_alloc (Below.refl w.heap.size w) (.cells #[.int .i64 g, .int .i64 k, .slice a len cap, .int .i64 ht, .int .i64 hv, .int .i64 hc, .int .i64 i, .int .i64 t, .bool mk, .bool hd] 70)) (.cells #[.int .i64 g', .int .i64 k', .slice a' len' cap', .int .i64 ht', .int .i64 hv', .int .i64 hc', .int .i64 i', .int .i64 t', .bool mk', .bool hd'] 70)
  by_cases e1 : g = g'
  · subst e1
    by_cases e2 : k = k'
    · subst e2
      cases b3 with
      | false =>
        go_enter Try.func76, Try.ntmps76
        go_wp2_with (go_at_call 97; ((with_reducible refine (G.out _ bA).mono ?_); rintro e w1 ⟨rfl, hB1⟩))
        go_ret
        exact ⟨by simp , bA.trans (hB1.mono bA.size)⟩
      | true =>
        cases b4 with
        | false =>
          go_enter Try.func76, Try.ntmps76
          go_wp2_with (go_at_call 97; ((with_reducible refine (G.out _ bA).mono ?_); rintro e w1 ⟨rfl, hB1⟩; have c3 : w1.cell? ⟨w.heap.size, 3, none⟩ = some (.int .i64 ht) := (blk2_cell hB1 3).1; have d3 : w1.cell? ⟨w.heap.size + 1, 3, none⟩ = some (.int .i64 ht') := (blk2_cell hB1 3).2; have c4 : w1.cell? ⟨w.heap.size, 4, none⟩ = some (.int .i64 hv) := (blk2_cell hB1 4).1; have d4 : w1.cell? ⟨w.heap.size + 1, 4, none⟩ = some (.int .i64 hv') := (blk2_cell hB1 4).2; have c5 : w1.cell? ⟨w.heap.size, 5, none⟩ = some (.int .i64 hc) := (blk2_cell hB1 5).1; have d5 : w1.cell? ⟨w.heap.size + 1, 5, none⟩ = some (.int .i64 hc') := (blk2_cell hB1 5).2; have c6 : w1.cell? ⟨w.heap.size, 6, none⟩ = some (.int .i64 i) := (blk2_cell hB1 6).1; have d6 : w1.cell? ⟨w.heap.size + 1, 6, none⟩ = some (.int .i64 i') := (blk2_cell hB1 6).2; have c7 : w1.cell? ⟨w.heap.size, 7, none⟩ = some (.int .i64 t) := (blk2_cell hB1 7).1; have d7 : w1.cell? ⟨w.heap.size + 1, 7, none⟩ = some (.int .i64 t') := (blk2_cell hB1 7).2; have c8 : w1.cell? ⟨w.heap.size, 8, none⟩ = some (.bool mk) := (blk2_cell hB1 8).1; have d8 : w1.cell? ⟨w.heap.size + 1, 8, none⟩ = some (.bool mk') := (blk2_cell hB1 8).2; have c9 : w1.cell? ⟨w.heap.size, 9, none⟩ = some (.bool hd) := (blk2_cell hB1 9).1; have d9 : w1.cell? ⟨w.heap.size + 1, 9, none⟩ = some (.bool hd') := (blk2_cell hB1 9).2))
          go_ret
          exact ⟨by simp , bA.trans (hB1.mono bA.size)⟩
        | true =>
          by_cases e4 : i = i'
          · subst e4
            by_cases e5 : t = t'
            · subst e5
              by_cases e6 : mk = mk'
              · subst e6
                by_cases e7 : hd = hd'
                · subst e7
                  go_enter Try.func76, Try.ntmps76
                  go_wp2_with (go_at_call 97; ((with_reducible refine (G.out _ bA).mono ?_); rintro e w1 ⟨rfl, hB1⟩; have c3 : w1.cell? ⟨w.heap.size, 3, none⟩ = some (.int .i64 ht) := (blk2_cell hB1 3).1; have d3 : w1.cell? ⟨w.heap.size + 1, 3, none⟩ = some (.int .i64 ht') := (blk2_cell hB1 3).2; have c4 : w1.cell? ⟨w.heap.size, 4, none⟩ = some (.int .i64 hv) := (blk2_cell hB1 4).1; have d4 : w1.cell? ⟨w.heap.size + 1, 4, none⟩ = some (.int .i64 hv') := (blk2_cell hB1 4).2; have c5 : w1.cell? ⟨w.heap.size, 5, none⟩ = some (.int .i64 hc) := (blk2_cell hB1 5).1; have d5 : w1.cell? ⟨w.heap.size + 1, 5, none⟩ = some (.int .i64 hc') := (blk2_cell hB1 5).2; have c6 : w1.cell? ⟨w.heap.size, 6, none⟩ = some (.int .i64 i) := (blk2_cell hB1 6).1; have d6 : w1.cell? ⟨w.heap.size + 1, 6, none⟩ = some (.int .i64 i) := (blk2_cell hB1 6).2; have c7 : w1.cell? ⟨w.heap.size, 7, none⟩ = some (.int .i64 t) := (blk2_cell hB1 7).1; have d7 : w1.cell? ⟨w.heap.size + 1, 7, none⟩ = some (.int .i64 t) := (blk2_cell hB1 7).2; have c8 : w1.cell? ⟨w.heap.size, 8, none⟩ = some (.bool mk) := (blk2_cell hB1 8).1; have d8 : w1.cell? ⟨w.heap.size + 1, 8, none⟩ = some (.bool mk) := (blk2_cell hB1 8).2; have c9 : w1.cell? ⟨w.heap.size, 9, none⟩ = some (.bool hd) := (blk2_cell hB1 9).1; have d9 : w1.cell? ⟨w.heap.size + 1, 9, none⟩ = some (.bool hd) := (blk2_cell hB1 9).2))
                  go_ret
                  exact ⟨by simp , bA.trans (hB1.mono bA.size)⟩
                · go_enter Try.func76, Try.ntmps76
                  go_wp2_with (go_at_call 97; ((with_reducible refine (G.out _ bA).mono ?_); rintro e w1 ⟨rfl, hB1⟩; have c3 : w1.cell? ⟨w.heap.size, 3, none⟩ = some (.int .i64 ht) := (blk2_cell hB1 3).1; have d3 : w1.cell? ⟨w.heap.size + 1, 3, none⟩ = some (.int .i64 ht') := (blk2_cell hB1 3).2; have c4 : w1.cell? ⟨w.heap.size, 4, none⟩ = some (.int .i64 hv) := (blk2_cell hB1 4).1; have d4 : w1.cell? ⟨w.heap.size + 1, 4, none⟩ = some (.int .i64 hv') := (blk2_cell hB1 4).2; have c5 : w1.cell? ⟨w.heap.size, 5, none⟩ = some (.int .i64 hc) := (blk2_cell hB1 5).1; have d5 : w1.cell? ⟨w.heap.size + 1, 5, none⟩ = some (.int .i64 hc') := (blk2_cell hB1 5).2; have c6 : w1.cell? ⟨w.heap.size, 6, none⟩ = some (.int .i64 i) := (blk2_cell hB1 6).1; have d6 : w1.cell? ⟨w.heap.size + 1, 6, none⟩ = some (.int .i64 i) := (blk2_cell hB1 6).2; have c7 : w1.cell? ⟨w.heap.size, 7, none⟩ = some (.int .i64 t) := (blk2_cell hB1 7).1; have d7 : w1.cell? ⟨w.heap.size + 1, 7, none⟩ = some (.int .i64 t) := (blk2_cell hB1 7).2; have c8 : w1.cell? ⟨w.heap.size, 8, none⟩ = some (.bool mk) := (blk2_cell hB1 8).1; have d8 : w1.cell? ⟨w.heap.size + 1, 8, none⟩ = some (.bool mk) := (blk2_cell hB1 8).2; have c9 : w1.cell? ⟨w.heap.size, 9, none⟩ = some (.bool hd) := (blk2_cell hB1 9).1; have d9 : w1.cell? ⟨w.heap.size + 1, 9, none⟩ = some (.bool hd') := (blk2_cell hB1 9).2))
                  go_ret
                  exact ⟨by simp [e7], bA.trans (hB1.mono bA.size)⟩
              · go_enter Try.func76, Try.ntmps76
                go_wp2_with (go_at_call 97; ((with_reducible refine (G.out _ bA).mono ?_); rintro e w1 ⟨rfl, hB1⟩; have c3 : w1.cell? ⟨w.heap.size, 3, none⟩ = some (.int .i64 ht) := (blk2_cell hB1 3).1; have d3 : w1.cell? ⟨w.heap.size + 1, 3, none⟩ = some (.int .i64 ht') := (blk2_cell hB1 3).2; have c4 : w1.cell? ⟨w.heap.size, 4, none⟩ = some (.int .i64 hv) := (blk2_cell hB1 4).1; have d4 : w1.cell? ⟨w.heap.size + 1, 4, none⟩ = some (.int .i64 hv') := (blk2_cell hB1 4).2; have c5 : w1.cell? ⟨w.heap.size, 5, none⟩ = some (.int .i64 hc) := (blk2_cell hB1 5).1; have d5 : w1.cell? ⟨w.heap.size + 1, 5, none⟩ = some (.int .i64 hc') := (blk2_cell hB1 5).2; have c6 : w1.cell? ⟨w.heap.size, 6, none⟩ = some (.int .i64 i) := (blk2_cell hB1 6).1; have d6 : w1.cell? ⟨w.heap.size + 1, 6, none⟩ = some (.int .i64 i) := (blk2_cell hB1 6).2; have c7 : w1.cell? ⟨w.heap.size, 7, none⟩ = some (.int .i64 t) := (blk2_cell hB1 7).1; have d7 : w1.cell? ⟨w.heap.size + 1, 7, none⟩ = some (.int .i64 t) := (blk2_cell hB1 7).2; have c8 : w1.cell? ⟨w.heap.size, 8, none⟩ = some (.bool mk) := (blk2_cell hB1 8).1; have d8 : w1.cell? ⟨w.heap.size + 1, 8, none⟩ = some (.bool mk') := (blk2_cell hB1 8).2; have c9 : w1.cell? ⟨w.heap.size, 9, none⟩ = some (.bool hd) := (blk2_cell hB1 9).1; have d9 : w1.cell? ⟨w.heap.size + 1, 9, none⟩ = some (.bool hd') := (blk2_cell hB1 9).2))
                go_ret
                exact ⟨by simp [e6], bA.trans (hB1.mono bA.size)⟩
            · go_enter Try.func76, Try.ntmps76
              go_wp2_with (go_at_call 97; ((with_reducible refine (G.out _ bA).mono ?_); rintro e w1 ⟨rfl, hB1⟩; have c3 : w1.cell? ⟨w.heap.size, 3, none⟩ = some (.int .i64 ht) := (blk2_cell hB1 3).1; have d3 : w1.cell? ⟨w.heap.size + 1, 3, none⟩ = some (.int .i64 ht') := (blk2_cell hB1 3).2; have c4 : w1.cell? ⟨w.heap.size, 4, none⟩ = some (.int .i64 hv) := (blk2_cell hB1 4).1; have d4 : w1.cell? ⟨w.heap.size + 1, 4, none⟩ = some (.int .i64 hv') := (blk2_cell hB1 4).2; have c5 : w1.cell? ⟨w.heap.size, 5, none⟩ = some (.int .i64 hc) := (blk2_cell hB1 5).1; have d5 : w1.cell? ⟨w.heap.size + 1, 5, none⟩ = some (.int .i64 hc') := (blk2_cell hB1 5).2; have c6 : w1.cell? ⟨w.heap.size, 6, none⟩ = some (.int .i64 i) := (blk2_cell hB1 6).1; have d6 : w1.cell? ⟨w.heap.size + 1, 6, none⟩ = some (.int .i64 i) := (blk2_cell hB1 6).2; have c7 : w1.cell? ⟨w.heap.size, 7, none⟩ = some (.int .i64 t) := (blk2_cell hB1 7).1; have d7 : w1.cell? ⟨w.heap.size + 1, 7, none⟩ = some (.int .i64 t') := (blk2_cell hB1 7).2; have c8 : w1.cell? ⟨w.heap.size, 8, none⟩ = some (.bool mk) := (blk2_cell hB1 8).1; have d8 : w1.cell? ⟨w.heap.size + 1, 8, none⟩ = some (.bool mk') := (blk2_cell hB1 8).2; have c9 : w1.cell? ⟨w.heap.size, 9, none⟩ = some (.bool hd) := (blk2_cell hB1 9).1; have d9 : w1.cell? ⟨w.heap.size + 1, 9, none⟩ = some (.bool hd') := (blk2_cell hB1 9).2))
              go_ret
              exact ⟨by simp [e5], bA.trans (hB1.mono bA.size)⟩
          · go_enter Try.func76, Try.ntmps76
            go_wp2_with (go_at_call 97; ((with_reducible refine (G.out _ bA).mono ?_); rintro e w1 ⟨rfl, hB1⟩; have c3 : w1.cell? ⟨w.heap.size, 3, none⟩ = some (.int .i64 ht) := (blk2_cell hB1 3).1; have d3 : w1.cell? ⟨w.heap.size + 1, 3, none⟩ = some (.int .i64 ht') := (blk2_cell hB1 3).2; have c4 : w1.cell? ⟨w.heap.size, 4, none⟩ = some (.int .i64 hv) := (blk2_cell hB1 4).1; have d4 : w1.cell? ⟨w.heap.size + 1, 4, none⟩ = some (.int .i64 hv') := (blk2_cell hB1 4).2; have c5 : w1.cell? ⟨w.heap.size, 5, none⟩ = some (.int .i64 hc) := (blk2_cell hB1 5).1; have d5 : w1.cell? ⟨w.heap.size + 1, 5, none⟩ = some (.int .i64 hc') := (blk2_cell hB1 5).2; have c6 : w1.cell? ⟨w.heap.size, 6, none⟩ = some (.int .i64 i) := (blk2_cell hB1 6).1; have d6 : w1.cell? ⟨w.heap.size + 1, 6, none⟩ = some (.int .i64 i') := (blk2_cell hB1 6).2; have c7 : w1.cell? ⟨w.heap.size, 7, none⟩ = some (.int .i64 t) := (blk2_cell hB1 7).1; have d7 : w1.cell? ⟨w.heap.size + 1, 7, none⟩ = some (.int .i64 t') := (blk2_cell hB1 7).2; have c8 : w1.cell? ⟨w.heap.size, 8, none⟩ = some (.bool mk) := (blk2_cell hB1 8).1; have d8 : w1.cell? ⟨w.heap.size + 1, 8, none⟩ = some (.bool mk') := (blk2_cell hB1 8).2; have c9 : w1.cell? ⟨w.heap.size, 9, none⟩ = some (.bool hd) := (blk2_cell hB1 9).1; have d9 : w1.cell? ⟨w.heap.size + 1, 9, none⟩ = some (.bool hd') := (blk2_cell hB1 9).2))
            go_ret
            exact ⟨by simp [e4], bA.trans (hB1.mono bA.size)⟩
    · go_enter Try.func76, Try.ntmps76
      go_wp2
      go_ret
      exact ⟨by simp [e2], bA⟩
  · go_enter Try.func76, Try.ntmps76
    go_wp2
    go_ret
    exact ⟨by simp [e1], bA⟩


end Go.Proofs.Ytflaanffjjidaaa

/- The bytes that the document's PartBytes tells. -/
namespace Go.Proofs.Ytflaanffjjidaaa
open Go.RowKit Go.Shelf
set_option linter.unusedVariables false
attribute [local go_sem] Oper.semAt_some wide_fn wide_round_fn

def mkB (l : List UInt8) : ByteArray := ⟨l.toArray⟩
theorem mkB_app (l m : List UInt8) : mkB l ++ mkB m = mkB (l ++ m) := by
  apply ByteArray.ext; simp [mkB]
theorem mkB_list (b : ByteArray) : mkB b.data.toList = b := by apply ByteArray.ext; simp [mkB]
theorem size_mkB (l : List UInt8) : (mkB l).size = l.length := by simp [mkB, ByteArray.size]
theorem app_list (a b : ByteArray) : (a ++ b).data.toList = a.data.toList ++ b.data.toList := by simp
theorem putL3 (t v c : Int) : putL [t, v, c] = (sevL t.toNat ++ sevL v.toNat) ++ sevL c.toNat := by simp [putL]
theorem putV (n : Int) (hn : n < 9223372036854775808) : ∃ A : ByteArray, A = mkB (sevL n.toNat) ∧ A.size ≤ 9 ∧ ∀ W, Gives Try.prog 44 #[.int .i64 n] W (.string A) :=
  ⟨_, rfl, by rw [size_mkB]; exact sevL_len _, fun W => refPut_any n hn W⟩
theorem textV (d : ByteArray) (hd : d.size ≤ 40) : ∃ A : ByteArray, A = textS d ∧ A.size ≤ 49 ∧ ∀ W, Gives Try.prog 73 #[.string d] W (.string A) :=
  ⟨_, rfl, by have := sevL_len d.size; show (mkB (sevL d.size) ++ d).size ≤ 49; rw [ByteArray.size_append, size_mkB]; omega, fun W => refText_any d (by omega) W⟩

set_option maxRecDepth 100000 in
set_option maxHeartbeats 1000000 in
theorem refHardB_any (t v c : Int) (h1 : t < 9223372036854775808) (h2 : v < 9223372036854775808) (h3 : c < 9223372036854775808) (w : World) : Gives Try.prog 74 #[.agg #[.int .i64 t, .int .i64 v, .int .i64 c]] w (.string (mkB (putL [t, v, c]))) := by
  obtain ⟨A, eA, sA, GA⟩ := putV t h1
  have HA := Lib.hid eA; clear eA; replace GA := Lib.hid GA
  obtain ⟨B, eB, sB, GB⟩ := putV v h2
  have HB := Lib.hid eB; clear eB; replace GB := Lib.hid GB
  obtain ⟨C, eC, sC, GC⟩ := putV c h3
  have HC := Lib.hid eC; clear eC; replace GC := Lib.hid GC
  have HV := Lib.hid (show (A ++ B) ++ C = mkB (putL [t, v, c]) by rw [HA.out, HB.out, HC.out, mkB_app, mkB_app, putL3])
  rw [← HV.out]
  unfold Gives
  have HS := Lib.hid (fun W (hW : Below (w.alloc (.cells #[.int .i64 t, .int .i64 v, .int .i64 c] 55)).heap.size (w.alloc (.cells #[.int .i64 t, .int .i64 v, .int .i64 c] 55)) W) => (⟨blk_cell hW 0, blk_cell hW 1, blk_cell hW 2⟩ : W.cell? ⟨w.heap.size, 0, none⟩ = some (.int .i64 t) ∧ W.cell? ⟨w.heap.size, 1, none⟩ = some (.int .i64 v) ∧ W.cell? ⟨w.heap.size, 2, none⟩ = some (.int .i64 c)))
  go_enter Try.func74, Try.ntmps74
  go_wp2
  refine wp_region_below (by kernel_rfl) (by kernel_rfl) ?_
  repeat (first
    | (refine BigFrame.wpQuiet_skip (by rfl) ?_; (try simp only [Act.put, List.setIfInBounds_toArray, List.set_cons_zero, List.set_cons_succ]))
    | (refine BigFrame.wpQuiet_want (by rfl) (fun K hK => ?_); apply Exists.intro; refine ⟨fun W hW => ?_, hK _ ?_⟩; (focus (obtain ⟨z0, z1, z2⟩ := HS.out _ hW; go_simp; (first | done | with_reducible rfl | ((go_at_call 44; first | with_reducible exact gives_above hW (GA.out _) | with_reducible exact gives_above hW (GB.out _) | with_reducible exact gives_above hW (GC.out _))) | (rw [if_neg (by omega)]; go_simp; (first | done | with_reducible rfl))))); clear hK K; (try simp only [Act.put, List.setIfInBounds_toArray, List.set_cons_zero, List.set_cons_succ])))
  refine wpQuiet_nil ?_
  intro W hW
  go_wp2
  go_ret
  exact ⟨rfl, blk_below hW⟩


set_option maxRecDepth 100000 in
set_option maxHeartbeats 8000000 in
theorem refFwd_any (g : Int) (a : Option Addr) (len cap : Nat) (ht hv hc i t : Int) (mk hd : Bool) (l : List EntryC) (w : World) (hE : HasE w (⟨g, 6, a, len, cap, ht, hv, hc, i, t, mk, hd⟩ : PartC) l) (hR : PartR (⟨g, 6, a, len, cap, ht, hv, hc, i, t, mk, hd⟩ : PartC)) (hen : ∀ e ∈ l, entryB e = true) (h6 : len ≤ 6) :
    Gives Try.prog 75 #[(⟨g, 6, a, len, cap, ht, hv, hc, i, t, mk, hd⟩ : PartC).val] w (.string (mkB (putL (fwdN (⟨g, 6, a, len, cap, ht, hv, hc, i, t, mk, hd⟩ : PartC)) ++ (l.map (textOf 6)).flatMap fun s => s.data.toList))) := by
  obtain ⟨r0, r1, r2, r3, r4, r5, r6⟩ := hR
  dsimp only at r0 r1 r2 r3 r4 r5 r6
  have HLN := Lib.hid (show l.length = len from hE.1)
  have HEN := Lib.hid hen
  have hcs := hE.2.2.2.2
  clear hE hen
  obtain ⟨I, eI, sI, GI⟩ := putV i r4
  have HI := Lib.hid eI; clear eI; replace GI := Lib.hid GI
  obtain ⟨T, eT, sT, GT⟩ := putV t r5
  have HT := Lib.hid eT; clear eT; replace GT := Lib.hid GT
  obtain ⟨N, eN, sN, GN⟩ := putV (len : Int) (by omega)
  have HN := Lib.hid eN; clear eN; replace GN := Lib.hid GN
  obtain ⟨F0, eF0, sF0, GF0⟩ := putV 0 (by decide)
  have HF0 := Lib.hid eF0; clear eF0; replace GF0 := Lib.hid GF0
  obtain ⟨F1, eF1, sF1, GF1⟩ := putV 1 (by decide)
  have HF1 := Lib.hid eF1; clear eF1; replace GF1 := Lib.hid GF1
  obtain ⟨F2, eF2, sF2, GF2⟩ := putV 2 (by decide)
  have HF2 := Lib.hid eF2; clear eF2; replace GF2 := Lib.hid GF2
  obtain ⟨F3, eF3, sF3, GF3⟩ := putV 3 (by decide)
  have HF3 := Lib.hid eF3; clear eF3; replace GF3 := Lib.hid GF3
  have GH := Lib.hid (fun W => refHardB_any ht hv hc r1 r2 r3 W)
  have sH : (mkB (putL [ht, hv, hc])).size ≤ 27 := by rw [size_mkB]; exact putL_len _
  have HH := Lib.hid (show mkB (putL [ht, hv, hc]) = mkB (putL [ht, hv, hc]) from rfl)
  generalize hXe : mkB (putL [ht, hv, hc]) = X at GH sH
  have HX := Lib.hid hXe
  clear hXe HH
  generalize hbs : putL (fwdN (⟨g, 6, a, len, cap, ht, hv, hc, i, t, mk, hd⟩ : PartC)) = base
  have HBs := Lib.hid hbs
  clear hbs
  dsimp only [PartC.val] at *
  unfold Gives
  have hA := bel_alloc (Below.refl w.heap.size w) (.cells #[.int .i64 g, .int .i64 6, .slice a len cap, .int .i64 ht, .int .i64 hv, .int .i64 hc, .int .i64 i, .int .i64 t, .bool mk, .bool hd] 70)
  have hs : w.heap.size < (w.alloc (.cells #[.int .i64 g, .int .i64 6, .slice a len cap, .int .i64 ht, .int .i64 hv, .int .i64 hc, .int .i64 i, .int .i64 t, .bool mk, .bool hd] 70)).heap.size := by simp
  have c0 : (w.alloc (.cells #[.int .i64 g, .int .i64 6, .slice a len cap, .int .i64 ht, .int .i64 hv, .int .i64 hc, .int .i64 i, .int .i64 t, .bool mk, .bool hd] 70)).cell? ⟨w.heap.size, 0, none⟩ = some (.int .i64 g) := cell_of_row _ _ 0 _ _ _ (World.alloc_heap_new w _)
  have c1 : (w.alloc (.cells #[.int .i64 g, .int .i64 6, .slice a len cap, .int .i64 ht, .int .i64 hv, .int .i64 hc, .int .i64 i, .int .i64 t, .bool mk, .bool hd] 70)).cell? ⟨w.heap.size, 1, none⟩ = some (.int .i64 6) := cell_of_row _ _ 1 _ _ _ (World.alloc_heap_new w _)
  have c2 : (w.alloc (.cells #[.int .i64 g, .int .i64 6, .slice a len cap, .int .i64 ht, .int .i64 hv, .int .i64 hc, .int .i64 i, .int .i64 t, .bool mk, .bool hd] 70)).cell? ⟨w.heap.size, 2, none⟩ = some (.slice a len cap) := cell_of_row _ _ 2 _ _ _ (World.alloc_heap_new w _)
  have c3 : (w.alloc (.cells #[.int .i64 g, .int .i64 6, .slice a len cap, .int .i64 ht, .int .i64 hv, .int .i64 hc, .int .i64 i, .int .i64 t, .bool mk, .bool hd] 70)).cell? ⟨w.heap.size, 3, none⟩ = some (.int .i64 ht) := cell_of_row _ _ 3 _ _ _ (World.alloc_heap_new w _)
  have c4 : (w.alloc (.cells #[.int .i64 g, .int .i64 6, .slice a len cap, .int .i64 ht, .int .i64 hv, .int .i64 hc, .int .i64 i, .int .i64 t, .bool mk, .bool hd] 70)).cell? ⟨w.heap.size, 4, none⟩ = some (.int .i64 hv) := cell_of_row _ _ 4 _ _ _ (World.alloc_heap_new w _)
  have c5 : (w.alloc (.cells #[.int .i64 g, .int .i64 6, .slice a len cap, .int .i64 ht, .int .i64 hv, .int .i64 hc, .int .i64 i, .int .i64 t, .bool mk, .bool hd] 70)).cell? ⟨w.heap.size, 5, none⟩ = some (.int .i64 hc) := cell_of_row _ _ 5 _ _ _ (World.alloc_heap_new w _)
  have c6 : (w.alloc (.cells #[.int .i64 g, .int .i64 6, .slice a len cap, .int .i64 ht, .int .i64 hv, .int .i64 hc, .int .i64 i, .int .i64 t, .bool mk, .bool hd] 70)).cell? ⟨w.heap.size, 6, none⟩ = some (.int .i64 i) := cell_of_row _ _ 6 _ _ _ (World.alloc_heap_new w _)
  have c7 : (w.alloc (.cells #[.int .i64 g, .int .i64 6, .slice a len cap, .int .i64 ht, .int .i64 hv, .int .i64 hc, .int .i64 i, .int .i64 t, .bool mk, .bool hd] 70)).cell? ⟨w.heap.size, 7, none⟩ = some (.int .i64 t) := cell_of_row _ _ 7 _ _ _ (World.alloc_heap_new w _)
  have c8 : (w.alloc (.cells #[.int .i64 g, .int .i64 6, .slice a len cap, .int .i64 ht, .int .i64 hv, .int .i64 hc, .int .i64 i, .int .i64 t, .bool mk, .bool hd] 70)).cell? ⟨w.heap.size, 8, none⟩ = some (.bool mk) := cell_of_row _ _ 8 _ _ _ (World.alloc_heap_new w _)
  have c9 : (w.alloc (.cells #[.int .i64 g, .int .i64 6, .slice a len cap, .int .i64 ht, .int .i64 hv, .int .i64 hc, .int .i64 i, .int .i64 t, .bool mk, .bool hd] 70)).cell? ⟨w.heap.size, 9, none⟩ = some (.bool hd) := cell_of_row _ _ 9 _ _ _ (World.alloc_heap_new w _)
  cases mk with
  | true =>
    cases hd with
    | true =>
      go_enter Try.func75, Try.ntmps75
      go_wp2
      have HS := Lib.hid (fun W (hW : Above (w.alloc (.cells #[.int .i64 g, .int .i64 6, .slice a len cap, .int .i64 ht, .int .i64 hv, .int .i64 hc, .int .i64 i, .int .i64 t, .bool true, .bool true] 70)) W) => above10 hs c0 c1 c2 c3 c4 c5 c6 c7 c8 c9 hW)
      refine wp_region_below (by kernel_rfl) (by kernel_rfl) ?_
      repeat (first
        | (refine BigFrame.wpQuiet_skip (by rfl) ?_; (try simp only [Act.put, List.setIfInBounds_toArray, List.set_cons_zero, List.set_cons_succ]))
        | (refine BigFrame.wpQuiet_want (by rfl) (fun K hK => ?_); apply Exists.intro; refine ⟨fun W hW => ?_, hK _ ?_⟩; (focus (obtain ⟨z0, z1, z2, z3, z4, z5, z6, z7, z8, z9⟩ := HS.out _ hW; go_simp; (first | done | with_reducible rfl | ((go_at_call 44; first | with_reducible exact gives_above hW (GI.out _) | with_reducible exact gives_above hW (GT.out _))) | (rw [if_neg (by omega)]; go_simp; (first | done | with_reducible rfl))))); clear hK K; (try simp only [Act.put, List.setIfInBounds_toArray, List.set_cons_zero, List.set_cons_succ])))
      refine wpQuiet_nil ?_
      intro w1 hB
      clear HS
      replace hB : Below _ _ w1 := hB
      replace hA := bel2 hA hB; obtain ⟨c0, c1, c2, c3, c4, c5, c6, c7, c8, c9⟩ := above10 hs c0 c1 c2 c3 c4 c5 c6 c7 c8 c9 hB; replace hs := Nat.lt_of_lt_of_le hs hB.size; clear hB
      go_wp2_with (go_at_call 74; ((with_reducible refine (GH.out _).mono ?_); rintro e w2 ⟨rfl, hB⟩; replace hA := bel2 hA hB; obtain ⟨c0, c1, c2, c3, c4, c5, c6, c7, c8, c9⟩ := above10 hs c0 c1 c2 c3 c4 c5 c6 c7 c8 c9 hB; replace hs := Nat.lt_of_lt_of_le hs hB.size; clear hB))
      have HS := Lib.hid (fun W (hW : Above (w2) W) => above10 hs c0 c1 c2 c3 c4 c5 c6 c7 c8 c9 hW)
      refine wp_region_below (by kernel_rfl) (by kernel_rfl) ?_
      repeat (first
        | (refine BigFrame.wpQuiet_skip (by rfl) ?_; (try simp only [Act.put, List.setIfInBounds_toArray, List.set_cons_zero, List.set_cons_succ]))
        | (refine BigFrame.wpQuiet_want (by rfl) (fun K hK => ?_); apply Exists.intro; refine ⟨fun W hW => ?_, hK _ ?_⟩; (focus (obtain ⟨z0, z1, z2, z3, z4, z5, z6, z7, z8, z9⟩ := HS.out _ hW; go_simp; (first | done | with_reducible rfl | ((go_at_call 44; first | with_reducible exact gives_above hW (GF3.out _) | with_reducible exact gives_above hW (GN.out _))) | (rw [if_neg (by omega)]; go_simp; (first | done | with_reducible rfl))))); clear hK K; (try simp only [Act.put, List.setIfInBounds_toArray, List.set_cons_zero, List.set_cons_succ])))
      refine wpQuiet_nil ?_
      intro w3 hB
      clear HS
      replace hB : Below _ _ w3 := hB
      replace hA := bel2 hA hB; obtain ⟨c0, c1, c2, c3, c4, c5, c6, c7, c8, c9⟩ := above10 hs c0 c1 c2 c3 c4 c5 c6 c7 c8 c9 hB; replace hs := Nat.lt_of_lt_of_le hs hB.size; clear hB
      go_wp2
      have hbx := c2
      clear c0 c1 c3 c4 c5 c6 c7 c8 c9
      go_loopw [4, 5] (fun s q wr => ∃ (n : Nat) (S : ByteArray), n ≤ len ∧ q = .int .i64 n ∧ s = .string S ∧ S.data.toList = base ++ (((l.take n).map (textOf 6)).flatMap fun s => s.data.toList) ∧ S.size ≤ 200 + 67 * n ∧ Below w.heap.size w wr ∧ w.heap.size < wr.heap.size ∧ wr.cell? ⟨w.heap.size, 2, none⟩ = some (.slice a len cap)) (fun _ q _ => len - (intOf q).toNat)
      case atStart => exact ⟨0, _, by omega, rfl, rfl, by rw [← HBs.out]; rw [HF3.out, HI.out, HT.out, ← HX.out, HN.out]; simp [mkB, putL, fwdN, flagN], by simp only [ByteArray.size_append]; (try rw [show (⟨#[]⟩ : ByteArray).size = 0 from rfl]); omega, hA, hs, hbx⟩
      case round =>
        obtain ⟨n, S, hn, rfl, rfl, hS, hz, hBr, hsr, hcr⟩ := hrel
        have HST := Lib.hid hS
        clear hS
        by_cases hlt : n < len
        · obtain ⟨b, off, rfl, hb, hx⟩ := hcs (by omega)
          have hkl : n < l.length := by rw [HLN.out]; exact hlt
          obtain ⟨d0, d1, d2⟩ := entry_at hb hBr hx hkl
          have hlen := HLN.out
          have hbr : b < wr.heap.size := Nat.lt_of_lt_of_le hb hBr.size
          have hen := HEN.out l[n] (List.getElem_mem _)
          have HT1 := Lib.hid (List.take_succ_eq_append_getElem hkl)
          clear hx hcs
          generalize l[n] = x at *
          obtain ⟨xi, xt, xd⟩ := x
          dsimp only at *
          obtain ⟨⟨q1, q2⟩, ⟨q3, q4⟩, hd40⟩ := entryB_bd hen
          dsimp only at *
          obtain ⟨T1, e1, s1, G1⟩ := putV xt (by omega)
          obtain ⟨T2, e2, s2, G2⟩ := textV xd hd40
          obtain ⟨T0, e0, s0, G0⟩ := putV xi (by omega)
          have H1 := Lib.hid e1; have H2 := Lib.hid e2; have H0 := Lib.hid e0
          replace G0 := Lib.hid G0; replace G1 := Lib.hid G1; replace G2 := Lib.hid G2
          clear e0 e1 e2 hen
          have hz6 : S.size ≤ 1000 := by omega
          have hq0 : (0 : Int) ≤ (n : Int) := by omega
          have hq1 : (n : Int) < (len : Int) := by omega
          have HS := Lib.hid (fun W (hW : Above wr W) => (⟨(Below.cell hW (p := ⟨w.heap.size, 2, none⟩) hsr).trans hcr, (Below.cell hW (p := ⟨b, off + n * 3, none⟩) hbr).trans d0, (Below.cell hW (p := ⟨b, off + n * 3 + 1, none⟩) hbr).trans d1, (Below.cell hW (p := ⟨b, off + n * 3 + 2, none⟩) hbr).trans d2⟩ : W.cell? ⟨w.heap.size, 2, none⟩ = _ ∧ W.cell? ⟨b, off + n * 3, none⟩ = _ ∧ W.cell? ⟨b, off + n * 3 + 1, none⟩ = _ ∧ W.cell? ⟨b, off + n * 3 + 2, none⟩ = _))
          go_wp2
          refine wp_region_below (by kernel_rfl) (by kernel_rfl) ?_
          repeat (first
            | (refine BigFrame.wpQuiet_skip (by rfl) ?_; (try simp only [Act.put, List.setIfInBounds_toArray, List.set_cons_zero, List.set_cons_succ]))
            | (refine BigFrame.wpQuiet_want (by rfl) (fun K hK => ?_); apply Exists.intro; refine ⟨fun W hW => ?_, hK _ ?_⟩; (focus (obtain ⟨z0, z1, z2, z3⟩ := HS.out _ hW; go_simp; (first | done | with_reducible rfl | (first | (go_at_call 73; with_reducible exact gives_above hW (G2.out _)) | (go_at_call 44; first | with_reducible exact gives_above hW (G1.out _) | with_reducible exact gives_above hW (G0.out _))) | (rw [if_neg (by omega)]; go_simp; (first | done | with_reducible rfl))))); clear hK K; (try simp only [Act.put, List.setIfInBounds_toArray, List.set_cons_zero, List.set_cons_succ])))
          refine wpQuiet_nil ?_
          intro W4 hB4
          replace hB4 : Below _ _ W4 := hB4
          have hc4 := (hB4.cell (p := ⟨w.heap.size, 2, none⟩) hsr).trans hcr
          have HN := Lib.hid (show (S ++ T0 ++ T1 ++ T2).data.toList = base ++ (((l.take (n + 1)).map (textOf 6)).flatMap fun s => s.data.toList) from by
            rw [HT1.out]; simp only [app_list, HST.out, List.map_append, List.flatMap_append, List.map_cons, List.map_nil, List.flatMap_cons, List.flatMap_nil, List.append_nil, textOf]; rw [H0.out, H1.out, H2.out]; simp [mkB, putS, textS])
          go_wp2
          go_roundw
          case rel => exact ⟨n + 1, _, by omega, by go_num, rfl, HN.out, by simp only [ByteArray.size_append]; omega, hBr.trans (hB4.mono hBr.size), Nat.lt_of_lt_of_le hsr hB4.size, hc4⟩
          case measure => simp [intOf]; omega
        · obtain rfl : n = len := by omega
          have HLN' := Lib.hid (show l.take n = l by rw [List.take_of_length_le (Nat.le_of_eq HLN.out)])
          have HV := Lib.hid (show mkB (base ++ (((l).map (textOf 6)).flatMap fun s => s.data.toList)) = S by rw [← mkB_list S, HST.out, HLN'.out])
          go_wp2
          go_ret
          exact ⟨by rw [HV.out]; rfl, hBr⟩
    | false =>
      go_enter Try.func75, Try.ntmps75
      go_wp2
      have HS := Lib.hid (fun W (hW : Above (w.alloc (.cells #[.int .i64 g, .int .i64 6, .slice a len cap, .int .i64 ht, .int .i64 hv, .int .i64 hc, .int .i64 i, .int .i64 t, .bool true, .bool false] 70)) W) => above10 hs c0 c1 c2 c3 c4 c5 c6 c7 c8 c9 hW)
      refine wp_region_below (by kernel_rfl) (by kernel_rfl) ?_
      repeat (first
        | (refine BigFrame.wpQuiet_skip (by rfl) ?_; (try simp only [Act.put, List.setIfInBounds_toArray, List.set_cons_zero, List.set_cons_succ]))
        | (refine BigFrame.wpQuiet_want (by rfl) (fun K hK => ?_); apply Exists.intro; refine ⟨fun W hW => ?_, hK _ ?_⟩; (focus (obtain ⟨z0, z1, z2, z3, z4, z5, z6, z7, z8, z9⟩ := HS.out _ hW; go_simp; (first | done | with_reducible rfl | ((go_at_call 44; first | with_reducible exact gives_above hW (GI.out _) | with_reducible exact gives_above hW (GT.out _))) | (rw [if_neg (by omega)]; go_simp; (first | done | with_reducible rfl))))); clear hK K; (try simp only [Act.put, List.setIfInBounds_toArray, List.set_cons_zero, List.set_cons_succ])))
      refine wpQuiet_nil ?_
      intro w1 hB
      clear HS
      replace hB : Below _ _ w1 := hB
      replace hA := bel2 hA hB; obtain ⟨c0, c1, c2, c3, c4, c5, c6, c7, c8, c9⟩ := above10 hs c0 c1 c2 c3 c4 c5 c6 c7 c8 c9 hB; replace hs := Nat.lt_of_lt_of_le hs hB.size; clear hB
      go_wp2
      have HS := Lib.hid (fun W (hW : Above (w1) W) => above10 hs c0 c1 c2 c3 c4 c5 c6 c7 c8 c9 hW)
      refine wp_region_below (by kernel_rfl) (by kernel_rfl) ?_
      repeat (first
        | (refine BigFrame.wpQuiet_skip (by rfl) ?_; (try simp only [Act.put, List.setIfInBounds_toArray, List.set_cons_zero, List.set_cons_succ]))
        | (refine BigFrame.wpQuiet_want (by rfl) (fun K hK => ?_); apply Exists.intro; refine ⟨fun W hW => ?_, hK _ ?_⟩; (focus (obtain ⟨z0, z1, z2, z3, z4, z5, z6, z7, z8, z9⟩ := HS.out _ hW; go_simp; (first | done | with_reducible rfl | ((go_at_call 44; first | with_reducible exact gives_above hW (GF1.out _) | with_reducible exact gives_above hW (GN.out _))) | (rw [if_neg (by omega)]; go_simp; (first | done | with_reducible rfl))))); clear hK K; (try simp only [Act.put, List.setIfInBounds_toArray, List.set_cons_zero, List.set_cons_succ])))
      refine wpQuiet_nil ?_
      intro w3 hB
      clear HS
      replace hB : Below _ _ w3 := hB
      replace hA := bel2 hA hB; obtain ⟨c0, c1, c2, c3, c4, c5, c6, c7, c8, c9⟩ := above10 hs c0 c1 c2 c3 c4 c5 c6 c7 c8 c9 hB; replace hs := Nat.lt_of_lt_of_le hs hB.size; clear hB
      go_wp2
      have hbx := c2
      clear c0 c1 c3 c4 c5 c6 c7 c8 c9
      go_loopw [4, 5] (fun s q wr => ∃ (n : Nat) (S : ByteArray), n ≤ len ∧ q = .int .i64 n ∧ s = .string S ∧ S.data.toList = base ++ (((l.take n).map (textOf 6)).flatMap fun s => s.data.toList) ∧ S.size ≤ 200 + 67 * n ∧ Below w.heap.size w wr ∧ w.heap.size < wr.heap.size ∧ wr.cell? ⟨w.heap.size, 2, none⟩ = some (.slice a len cap)) (fun _ q _ => len - (intOf q).toNat)
      case atStart => exact ⟨0, _, by omega, rfl, rfl, by rw [← HBs.out]; rw [HF1.out, HI.out, HT.out, HN.out]; simp [mkB, putL, fwdN, flagN], by simp only [ByteArray.size_append]; (try rw [show (⟨#[]⟩ : ByteArray).size = 0 from rfl]); omega, hA, hs, hbx⟩
      case round =>
        obtain ⟨n, S, hn, rfl, rfl, hS, hz, hBr, hsr, hcr⟩ := hrel
        have HST := Lib.hid hS
        clear hS
        by_cases hlt : n < len
        · obtain ⟨b, off, rfl, hb, hx⟩ := hcs (by omega)
          have hkl : n < l.length := by rw [HLN.out]; exact hlt
          obtain ⟨d0, d1, d2⟩ := entry_at hb hBr hx hkl
          have hlen := HLN.out
          have hbr : b < wr.heap.size := Nat.lt_of_lt_of_le hb hBr.size
          have hen := HEN.out l[n] (List.getElem_mem _)
          have HT1 := Lib.hid (List.take_succ_eq_append_getElem hkl)
          clear hx hcs
          generalize l[n] = x at *
          obtain ⟨xi, xt, xd⟩ := x
          dsimp only at *
          obtain ⟨⟨q1, q2⟩, ⟨q3, q4⟩, hd40⟩ := entryB_bd hen
          dsimp only at *
          obtain ⟨T1, e1, s1, G1⟩ := putV xt (by omega)
          obtain ⟨T2, e2, s2, G2⟩ := textV xd hd40
          obtain ⟨T0, e0, s0, G0⟩ := putV xi (by omega)
          have H1 := Lib.hid e1; have H2 := Lib.hid e2; have H0 := Lib.hid e0
          replace G0 := Lib.hid G0; replace G1 := Lib.hid G1; replace G2 := Lib.hid G2
          clear e0 e1 e2 hen
          have hz6 : S.size ≤ 1000 := by omega
          have hq0 : (0 : Int) ≤ (n : Int) := by omega
          have hq1 : (n : Int) < (len : Int) := by omega
          have HS := Lib.hid (fun W (hW : Above wr W) => (⟨(Below.cell hW (p := ⟨w.heap.size, 2, none⟩) hsr).trans hcr, (Below.cell hW (p := ⟨b, off + n * 3, none⟩) hbr).trans d0, (Below.cell hW (p := ⟨b, off + n * 3 + 1, none⟩) hbr).trans d1, (Below.cell hW (p := ⟨b, off + n * 3 + 2, none⟩) hbr).trans d2⟩ : W.cell? ⟨w.heap.size, 2, none⟩ = _ ∧ W.cell? ⟨b, off + n * 3, none⟩ = _ ∧ W.cell? ⟨b, off + n * 3 + 1, none⟩ = _ ∧ W.cell? ⟨b, off + n * 3 + 2, none⟩ = _))
          go_wp2
          refine wp_region_below (by kernel_rfl) (by kernel_rfl) ?_
          repeat (first
            | (refine BigFrame.wpQuiet_skip (by rfl) ?_; (try simp only [Act.put, List.setIfInBounds_toArray, List.set_cons_zero, List.set_cons_succ]))
            | (refine BigFrame.wpQuiet_want (by rfl) (fun K hK => ?_); apply Exists.intro; refine ⟨fun W hW => ?_, hK _ ?_⟩; (focus (obtain ⟨z0, z1, z2, z3⟩ := HS.out _ hW; go_simp; (first | done | with_reducible rfl | (first | (go_at_call 73; with_reducible exact gives_above hW (G2.out _)) | (go_at_call 44; first | with_reducible exact gives_above hW (G1.out _) | with_reducible exact gives_above hW (G0.out _))) | (rw [if_neg (by omega)]; go_simp; (first | done | with_reducible rfl))))); clear hK K; (try simp only [Act.put, List.setIfInBounds_toArray, List.set_cons_zero, List.set_cons_succ])))
          refine wpQuiet_nil ?_
          intro W4 hB4
          replace hB4 : Below _ _ W4 := hB4
          have hc4 := (hB4.cell (p := ⟨w.heap.size, 2, none⟩) hsr).trans hcr
          have HN := Lib.hid (show (S ++ T0 ++ T1 ++ T2).data.toList = base ++ (((l.take (n + 1)).map (textOf 6)).flatMap fun s => s.data.toList) from by
            rw [HT1.out]; simp only [app_list, HST.out, List.map_append, List.flatMap_append, List.map_cons, List.map_nil, List.flatMap_cons, List.flatMap_nil, List.append_nil, textOf]; rw [H0.out, H1.out, H2.out]; simp [mkB, putS, textS])
          go_wp2
          go_roundw
          case rel => exact ⟨n + 1, _, by omega, by go_num, rfl, HN.out, by simp only [ByteArray.size_append]; omega, hBr.trans (hB4.mono hBr.size), Nat.lt_of_lt_of_le hsr hB4.size, hc4⟩
          case measure => simp [intOf]; omega
        · obtain rfl : n = len := by omega
          have HLN' := Lib.hid (show l.take n = l by rw [List.take_of_length_le (Nat.le_of_eq HLN.out)])
          have HV := Lib.hid (show mkB (base ++ (((l).map (textOf 6)).flatMap fun s => s.data.toList)) = S by rw [← mkB_list S, HST.out, HLN'.out])
          go_wp2
          go_ret
          exact ⟨by rw [HV.out]; rfl, hBr⟩
  | false =>
    cases hd with
    | true =>
      go_enter Try.func75, Try.ntmps75
      go_wp2_with (go_at_call 74; ((with_reducible refine (GH.out _).mono ?_); rintro e w2 ⟨rfl, hB⟩; replace hA := bel2 hA hB; obtain ⟨c0, c1, c2, c3, c4, c5, c6, c7, c8, c9⟩ := above10 hs c0 c1 c2 c3 c4 c5 c6 c7 c8 c9 hB; replace hs := Nat.lt_of_lt_of_le hs hB.size; clear hB))
      have HS := Lib.hid (fun W (hW : Above (w2) W) => above10 hs c0 c1 c2 c3 c4 c5 c6 c7 c8 c9 hW)
      refine wp_region_below (by kernel_rfl) (by kernel_rfl) ?_
      repeat (first
        | (refine BigFrame.wpQuiet_skip (by rfl) ?_; (try simp only [Act.put, List.setIfInBounds_toArray, List.set_cons_zero, List.set_cons_succ]))
        | (refine BigFrame.wpQuiet_want (by rfl) (fun K hK => ?_); apply Exists.intro; refine ⟨fun W hW => ?_, hK _ ?_⟩; (focus (obtain ⟨z0, z1, z2, z3, z4, z5, z6, z7, z8, z9⟩ := HS.out _ hW; go_simp; (first | done | with_reducible rfl | ((go_at_call 44; first | with_reducible exact gives_above hW (GF2.out _) | with_reducible exact gives_above hW (GN.out _))) | (rw [if_neg (by omega)]; go_simp; (first | done | with_reducible rfl))))); clear hK K; (try simp only [Act.put, List.setIfInBounds_toArray, List.set_cons_zero, List.set_cons_succ])))
      refine wpQuiet_nil ?_
      intro w3 hB
      clear HS
      replace hB : Below _ _ w3 := hB
      replace hA := bel2 hA hB; obtain ⟨c0, c1, c2, c3, c4, c5, c6, c7, c8, c9⟩ := above10 hs c0 c1 c2 c3 c4 c5 c6 c7 c8 c9 hB; replace hs := Nat.lt_of_lt_of_le hs hB.size; clear hB
      go_wp2
      have hbx := c2
      clear c0 c1 c3 c4 c5 c6 c7 c8 c9
      go_loopw [4, 5] (fun s q wr => ∃ (n : Nat) (S : ByteArray), n ≤ len ∧ q = .int .i64 n ∧ s = .string S ∧ S.data.toList = base ++ (((l.take n).map (textOf 6)).flatMap fun s => s.data.toList) ∧ S.size ≤ 200 + 67 * n ∧ Below w.heap.size w wr ∧ w.heap.size < wr.heap.size ∧ wr.cell? ⟨w.heap.size, 2, none⟩ = some (.slice a len cap)) (fun _ q _ => len - (intOf q).toNat)
      case atStart => exact ⟨0, _, by omega, rfl, rfl, by rw [← HBs.out]; rw [HF2.out, ← HX.out, HN.out]; simp [mkB, putL, fwdN, flagN], by simp only [ByteArray.size_append]; (try rw [show (⟨#[]⟩ : ByteArray).size = 0 from rfl]); omega, hA, hs, hbx⟩
      case round =>
        obtain ⟨n, S, hn, rfl, rfl, hS, hz, hBr, hsr, hcr⟩ := hrel
        have HST := Lib.hid hS
        clear hS
        by_cases hlt : n < len
        · obtain ⟨b, off, rfl, hb, hx⟩ := hcs (by omega)
          have hkl : n < l.length := by rw [HLN.out]; exact hlt
          obtain ⟨d0, d1, d2⟩ := entry_at hb hBr hx hkl
          have hlen := HLN.out
          have hbr : b < wr.heap.size := Nat.lt_of_lt_of_le hb hBr.size
          have hen := HEN.out l[n] (List.getElem_mem _)
          have HT1 := Lib.hid (List.take_succ_eq_append_getElem hkl)
          clear hx hcs
          generalize l[n] = x at *
          obtain ⟨xi, xt, xd⟩ := x
          dsimp only at *
          obtain ⟨⟨q1, q2⟩, ⟨q3, q4⟩, hd40⟩ := entryB_bd hen
          dsimp only at *
          obtain ⟨T1, e1, s1, G1⟩ := putV xt (by omega)
          obtain ⟨T2, e2, s2, G2⟩ := textV xd hd40
          obtain ⟨T0, e0, s0, G0⟩ := putV xi (by omega)
          have H1 := Lib.hid e1; have H2 := Lib.hid e2; have H0 := Lib.hid e0
          replace G0 := Lib.hid G0; replace G1 := Lib.hid G1; replace G2 := Lib.hid G2
          clear e0 e1 e2 hen
          have hz6 : S.size ≤ 1000 := by omega
          have hq0 : (0 : Int) ≤ (n : Int) := by omega
          have hq1 : (n : Int) < (len : Int) := by omega
          have HS := Lib.hid (fun W (hW : Above wr W) => (⟨(Below.cell hW (p := ⟨w.heap.size, 2, none⟩) hsr).trans hcr, (Below.cell hW (p := ⟨b, off + n * 3, none⟩) hbr).trans d0, (Below.cell hW (p := ⟨b, off + n * 3 + 1, none⟩) hbr).trans d1, (Below.cell hW (p := ⟨b, off + n * 3 + 2, none⟩) hbr).trans d2⟩ : W.cell? ⟨w.heap.size, 2, none⟩ = _ ∧ W.cell? ⟨b, off + n * 3, none⟩ = _ ∧ W.cell? ⟨b, off + n * 3 + 1, none⟩ = _ ∧ W.cell? ⟨b, off + n * 3 + 2, none⟩ = _))
          go_wp2
          refine wp_region_below (by kernel_rfl) (by kernel_rfl) ?_
          repeat (first
            | (refine BigFrame.wpQuiet_skip (by rfl) ?_; (try simp only [Act.put, List.setIfInBounds_toArray, List.set_cons_zero, List.set_cons_succ]))
            | (refine BigFrame.wpQuiet_want (by rfl) (fun K hK => ?_); apply Exists.intro; refine ⟨fun W hW => ?_, hK _ ?_⟩; (focus (obtain ⟨z0, z1, z2, z3⟩ := HS.out _ hW; go_simp; (first | done | with_reducible rfl | (first | (go_at_call 73; with_reducible exact gives_above hW (G2.out _)) | (go_at_call 44; first | with_reducible exact gives_above hW (G1.out _) | with_reducible exact gives_above hW (G0.out _))) | (rw [if_neg (by omega)]; go_simp; (first | done | with_reducible rfl))))); clear hK K; (try simp only [Act.put, List.setIfInBounds_toArray, List.set_cons_zero, List.set_cons_succ])))
          refine wpQuiet_nil ?_
          intro W4 hB4
          replace hB4 : Below _ _ W4 := hB4
          have hc4 := (hB4.cell (p := ⟨w.heap.size, 2, none⟩) hsr).trans hcr
          have HN := Lib.hid (show (S ++ T0 ++ T1 ++ T2).data.toList = base ++ (((l.take (n + 1)).map (textOf 6)).flatMap fun s => s.data.toList) from by
            rw [HT1.out]; simp only [app_list, HST.out, List.map_append, List.flatMap_append, List.map_cons, List.map_nil, List.flatMap_cons, List.flatMap_nil, List.append_nil, textOf]; rw [H0.out, H1.out, H2.out]; simp [mkB, putS, textS])
          go_wp2
          go_roundw
          case rel => exact ⟨n + 1, _, by omega, by go_num, rfl, HN.out, by simp only [ByteArray.size_append]; omega, hBr.trans (hB4.mono hBr.size), Nat.lt_of_lt_of_le hsr hB4.size, hc4⟩
          case measure => simp [intOf]; omega
        · obtain rfl : n = len := by omega
          have HLN' := Lib.hid (show l.take n = l by rw [List.take_of_length_le (Nat.le_of_eq HLN.out)])
          have HV := Lib.hid (show mkB (base ++ (((l).map (textOf 6)).flatMap fun s => s.data.toList)) = S by rw [← mkB_list S, HST.out, HLN'.out])
          go_wp2
          go_ret
          exact ⟨by rw [HV.out]; rfl, hBr⟩
    | false =>
      go_enter Try.func75, Try.ntmps75
      go_wp2
      have HS := Lib.hid (fun W (hW : Above (w.alloc (.cells #[.int .i64 g, .int .i64 6, .slice a len cap, .int .i64 ht, .int .i64 hv, .int .i64 hc, .int .i64 i, .int .i64 t, .bool false, .bool false] 70)) W) => above10 hs c0 c1 c2 c3 c4 c5 c6 c7 c8 c9 hW)
      refine wp_region_below (by kernel_rfl) (by kernel_rfl) ?_
      repeat (first
        | (refine BigFrame.wpQuiet_skip (by rfl) ?_; (try simp only [Act.put, List.setIfInBounds_toArray, List.set_cons_zero, List.set_cons_succ]))
        | (refine BigFrame.wpQuiet_want (by rfl) (fun K hK => ?_); apply Exists.intro; refine ⟨fun W hW => ?_, hK _ ?_⟩; (focus (obtain ⟨z0, z1, z2, z3, z4, z5, z6, z7, z8, z9⟩ := HS.out _ hW; go_simp; (first | done | with_reducible rfl | ((go_at_call 44; first | with_reducible exact gives_above hW (GF0.out _) | with_reducible exact gives_above hW (GN.out _))) | (rw [if_neg (by omega)]; go_simp; (first | done | with_reducible rfl))))); clear hK K; (try simp only [Act.put, List.setIfInBounds_toArray, List.set_cons_zero, List.set_cons_succ])))
      refine wpQuiet_nil ?_
      intro w3 hB
      clear HS
      replace hB : Below _ _ w3 := hB
      replace hA := bel2 hA hB; obtain ⟨c0, c1, c2, c3, c4, c5, c6, c7, c8, c9⟩ := above10 hs c0 c1 c2 c3 c4 c5 c6 c7 c8 c9 hB; replace hs := Nat.lt_of_lt_of_le hs hB.size; clear hB
      go_wp2
      have hbx := c2
      clear c0 c1 c3 c4 c5 c6 c7 c8 c9
      go_loopw [4, 5] (fun s q wr => ∃ (n : Nat) (S : ByteArray), n ≤ len ∧ q = .int .i64 n ∧ s = .string S ∧ S.data.toList = base ++ (((l.take n).map (textOf 6)).flatMap fun s => s.data.toList) ∧ S.size ≤ 200 + 67 * n ∧ Below w.heap.size w wr ∧ w.heap.size < wr.heap.size ∧ wr.cell? ⟨w.heap.size, 2, none⟩ = some (.slice a len cap)) (fun _ q _ => len - (intOf q).toNat)
      case atStart => exact ⟨0, _, by omega, rfl, rfl, by rw [← HBs.out]; rw [HF0.out, HN.out]; simp [mkB, putL, fwdN, flagN], by simp only [ByteArray.size_append]; (try rw [show (⟨#[]⟩ : ByteArray).size = 0 from rfl]); omega, hA, hs, hbx⟩
      case round =>
        obtain ⟨n, S, hn, rfl, rfl, hS, hz, hBr, hsr, hcr⟩ := hrel
        have HST := Lib.hid hS
        clear hS
        by_cases hlt : n < len
        · obtain ⟨b, off, rfl, hb, hx⟩ := hcs (by omega)
          have hkl : n < l.length := by rw [HLN.out]; exact hlt
          obtain ⟨d0, d1, d2⟩ := entry_at hb hBr hx hkl
          have hlen := HLN.out
          have hbr : b < wr.heap.size := Nat.lt_of_lt_of_le hb hBr.size
          have hen := HEN.out l[n] (List.getElem_mem _)
          have HT1 := Lib.hid (List.take_succ_eq_append_getElem hkl)
          clear hx hcs
          generalize l[n] = x at *
          obtain ⟨xi, xt, xd⟩ := x
          dsimp only at *
          obtain ⟨⟨q1, q2⟩, ⟨q3, q4⟩, hd40⟩ := entryB_bd hen
          dsimp only at *
          obtain ⟨T1, e1, s1, G1⟩ := putV xt (by omega)
          obtain ⟨T2, e2, s2, G2⟩ := textV xd hd40
          obtain ⟨T0, e0, s0, G0⟩ := putV xi (by omega)
          have H1 := Lib.hid e1; have H2 := Lib.hid e2; have H0 := Lib.hid e0
          replace G0 := Lib.hid G0; replace G1 := Lib.hid G1; replace G2 := Lib.hid G2
          clear e0 e1 e2 hen
          have hz6 : S.size ≤ 1000 := by omega
          have hq0 : (0 : Int) ≤ (n : Int) := by omega
          have hq1 : (n : Int) < (len : Int) := by omega
          have HS := Lib.hid (fun W (hW : Above wr W) => (⟨(Below.cell hW (p := ⟨w.heap.size, 2, none⟩) hsr).trans hcr, (Below.cell hW (p := ⟨b, off + n * 3, none⟩) hbr).trans d0, (Below.cell hW (p := ⟨b, off + n * 3 + 1, none⟩) hbr).trans d1, (Below.cell hW (p := ⟨b, off + n * 3 + 2, none⟩) hbr).trans d2⟩ : W.cell? ⟨w.heap.size, 2, none⟩ = _ ∧ W.cell? ⟨b, off + n * 3, none⟩ = _ ∧ W.cell? ⟨b, off + n * 3 + 1, none⟩ = _ ∧ W.cell? ⟨b, off + n * 3 + 2, none⟩ = _))
          go_wp2
          refine wp_region_below (by kernel_rfl) (by kernel_rfl) ?_
          repeat (first
            | (refine BigFrame.wpQuiet_skip (by rfl) ?_; (try simp only [Act.put, List.setIfInBounds_toArray, List.set_cons_zero, List.set_cons_succ]))
            | (refine BigFrame.wpQuiet_want (by rfl) (fun K hK => ?_); apply Exists.intro; refine ⟨fun W hW => ?_, hK _ ?_⟩; (focus (obtain ⟨z0, z1, z2, z3⟩ := HS.out _ hW; go_simp; (first | done | with_reducible rfl | (first | (go_at_call 73; with_reducible exact gives_above hW (G2.out _)) | (go_at_call 44; first | with_reducible exact gives_above hW (G1.out _) | with_reducible exact gives_above hW (G0.out _))) | (rw [if_neg (by omega)]; go_simp; (first | done | with_reducible rfl))))); clear hK K; (try simp only [Act.put, List.setIfInBounds_toArray, List.set_cons_zero, List.set_cons_succ])))
          refine wpQuiet_nil ?_
          intro W4 hB4
          replace hB4 : Below _ _ W4 := hB4
          have hc4 := (hB4.cell (p := ⟨w.heap.size, 2, none⟩) hsr).trans hcr
          have HN := Lib.hid (show (S ++ T0 ++ T1 ++ T2).data.toList = base ++ (((l.take (n + 1)).map (textOf 6)).flatMap fun s => s.data.toList) from by
            rw [HT1.out]; simp only [app_list, HST.out, List.map_append, List.flatMap_append, List.map_cons, List.map_nil, List.flatMap_cons, List.flatMap_nil, List.append_nil, textOf]; rw [H0.out, H1.out, H2.out]; simp [mkB, putS, textS])
          go_wp2
          go_roundw
          case rel => exact ⟨n + 1, _, by omega, by go_num, rfl, HN.out, by simp only [ByteArray.size_append]; omega, hBr.trans (hB4.mono hBr.size), Nat.lt_of_lt_of_le hsr hB4.size, hc4⟩
          case measure => simp [intOf]; omega
        · obtain rfl : n = len := by omega
          have HLN' := Lib.hid (show l.take n = l by rw [List.take_of_length_le (Nat.le_of_eq HLN.out)])
          have HV := Lib.hid (show mkB (base ++ (((l).map (textOf 6)).flatMap fun s => s.data.toList)) = S by rw [← mkB_list S, HST.out, HLN'.out])
          go_wp2
          go_ret
          exact ⟨by rw [HV.out]; rfl, hBr⟩

end Go.Proofs.Ytflaanffjjidaaa

/- The contract of the document's PartBytes: the bytes that part.Bytes tells. -/
namespace Go.Proofs.Ytflaanffjjidaaa
open Go.RowKit Go.Shelf
set_option linter.unusedVariables false
attribute [local go_sem] Oper.semAt_some wide_fn wide_round_fn

set_option maxRecDepth 100000 in
set_option maxHeartbeats 8000000 in
theorem refBytes5_any (g : Int) (a : Option Addr) (len cap : Nat) (ht hv hc i t : Int) (mk hd : Bool) (l : List EntryC) (w : World) (hE : HasE w (⟨g, 5, a, len, cap, ht, hv, hc, i, t, mk, hd⟩ : PartC) l) (hR : PartR (⟨g, 5, a, len, cap, ht, hv, hc, i, t, mk, hd⟩ : PartC)) (hen : ∀ e ∈ l, entryB e = true) (h6 : len ≤ 6) (hI : isB (⟨g, 5, a, len, cap, ht, hv, hc, i, t, mk, hd⟩ : PartC) l = true) :
    Gives Try.prog 45 #[(⟨g, 5, a, len, cap, ht, hv, hc, i, t, mk, hd⟩ : PartC).val] w (.string (mkB (bytesL (⟨g, 5, a, len, cap, ht, hv, hc, i, t, mk, hd⟩ : PartC) l))) := by
  obtain ⟨r0, r1, r2, r3, r4, r5, r6⟩ := hR
  dsimp only at r0 r1 r2 r3 r4 r5 r6
  obtain rfl : l = [] := by obtain ⟨_, h⟩ := (isB_iff _ _).1 hI; dsimp only at h; rcases h with h | h | h | h | h | h <;> first | (exact absurd h.1 (by decide)) | exact h.2.1 | exact h.2.2.1 | exact h.2.2.2.1
  obtain ⟨A, eA, sA, GA⟩ := putV g r0
  have HA := Lib.hid eA; clear eA; replace GA := Lib.hid GA
  obtain ⟨B, eB, sB, GB⟩ := putV 5 (by decide)
  have HB := Lib.hid eB; clear eB; replace GB := Lib.hid GB
  have HV := Lib.hid (show mkB (bytesL (⟨g, 5, a, len, cap, ht, hv, hc, i, t, mk, hd⟩ : PartC) []) = A ++ B by rw [HA.out, HB.out]; simp only [mkB_app]; (first | (congr 1; simp [bytesL, headN, putL]; done) | (congr 1; done)))
  clear hE hI
  dsimp only [PartC.val] at *
  unfold Gives
  have hA := bel_alloc (Below.refl w.heap.size w) (.cells #[.int .i64 g, .int .i64 5, .slice a len cap, .int .i64 ht, .int .i64 hv, .int .i64 hc, .int .i64 i, .int .i64 t, .bool mk, .bool hd] 70)
  have hs : w.heap.size < (w.alloc (.cells #[.int .i64 g, .int .i64 5, .slice a len cap, .int .i64 ht, .int .i64 hv, .int .i64 hc, .int .i64 i, .int .i64 t, .bool mk, .bool hd] 70)).heap.size := by simp
  have c0 : (w.alloc (.cells #[.int .i64 g, .int .i64 5, .slice a len cap, .int .i64 ht, .int .i64 hv, .int .i64 hc, .int .i64 i, .int .i64 t, .bool mk, .bool hd] 70)).cell? ⟨w.heap.size, 0, none⟩ = some (.int .i64 g) := cell_of_row _ _ 0 _ _ _ (World.alloc_heap_new w _)
  have c1 : (w.alloc (.cells #[.int .i64 g, .int .i64 5, .slice a len cap, .int .i64 ht, .int .i64 hv, .int .i64 hc, .int .i64 i, .int .i64 t, .bool mk, .bool hd] 70)).cell? ⟨w.heap.size, 1, none⟩ = some (.int .i64 5) := cell_of_row _ _ 1 _ _ _ (World.alloc_heap_new w _)
  have c2 : (w.alloc (.cells #[.int .i64 g, .int .i64 5, .slice a len cap, .int .i64 ht, .int .i64 hv, .int .i64 hc, .int .i64 i, .int .i64 t, .bool mk, .bool hd] 70)).cell? ⟨w.heap.size, 2, none⟩ = some (.slice a len cap) := cell_of_row _ _ 2 _ _ _ (World.alloc_heap_new w _)
  have c3 : (w.alloc (.cells #[.int .i64 g, .int .i64 5, .slice a len cap, .int .i64 ht, .int .i64 hv, .int .i64 hc, .int .i64 i, .int .i64 t, .bool mk, .bool hd] 70)).cell? ⟨w.heap.size, 3, none⟩ = some (.int .i64 ht) := cell_of_row _ _ 3 _ _ _ (World.alloc_heap_new w _)
  have c4 : (w.alloc (.cells #[.int .i64 g, .int .i64 5, .slice a len cap, .int .i64 ht, .int .i64 hv, .int .i64 hc, .int .i64 i, .int .i64 t, .bool mk, .bool hd] 70)).cell? ⟨w.heap.size, 4, none⟩ = some (.int .i64 hv) := cell_of_row _ _ 4 _ _ _ (World.alloc_heap_new w _)
  have c5 : (w.alloc (.cells #[.int .i64 g, .int .i64 5, .slice a len cap, .int .i64 ht, .int .i64 hv, .int .i64 hc, .int .i64 i, .int .i64 t, .bool mk, .bool hd] 70)).cell? ⟨w.heap.size, 5, none⟩ = some (.int .i64 hc) := cell_of_row _ _ 5 _ _ _ (World.alloc_heap_new w _)
  have c6 : (w.alloc (.cells #[.int .i64 g, .int .i64 5, .slice a len cap, .int .i64 ht, .int .i64 hv, .int .i64 hc, .int .i64 i, .int .i64 t, .bool mk, .bool hd] 70)).cell? ⟨w.heap.size, 6, none⟩ = some (.int .i64 i) := cell_of_row _ _ 6 _ _ _ (World.alloc_heap_new w _)
  have c7 : (w.alloc (.cells #[.int .i64 g, .int .i64 5, .slice a len cap, .int .i64 ht, .int .i64 hv, .int .i64 hc, .int .i64 i, .int .i64 t, .bool mk, .bool hd] 70)).cell? ⟨w.heap.size, 7, none⟩ = some (.int .i64 t) := cell_of_row _ _ 7 _ _ _ (World.alloc_heap_new w _)
  have c8 : (w.alloc (.cells #[.int .i64 g, .int .i64 5, .slice a len cap, .int .i64 ht, .int .i64 hv, .int .i64 hc, .int .i64 i, .int .i64 t, .bool mk, .bool hd] 70)).cell? ⟨w.heap.size, 8, none⟩ = some (.bool mk) := cell_of_row _ _ 8 _ _ _ (World.alloc_heap_new w _)
  have c9 : (w.alloc (.cells #[.int .i64 g, .int .i64 5, .slice a len cap, .int .i64 ht, .int .i64 hv, .int .i64 hc, .int .i64 i, .int .i64 t, .bool mk, .bool hd] 70)).cell? ⟨w.heap.size, 9, none⟩ = some (.bool hd) := cell_of_row _ _ 9 _ _ _ (World.alloc_heap_new w _)
  go_enter Try.func45, Try.ntmps45
  go_wp2
  have HS := Lib.hid (fun W (hW : Above (w.alloc (.cells #[.int .i64 g, .int .i64 5, .slice a len cap, .int .i64 ht, .int .i64 hv, .int .i64 hc, .int .i64 i, .int .i64 t, .bool mk, .bool hd] 70)) W) => above10 hs c0 c1 c2 c3 c4 c5 c6 c7 c8 c9 hW)
  refine wp_region_below (by kernel_rfl) (by kernel_rfl) ?_
  repeat (first
    | (refine BigFrame.wpQuiet_skip (by rfl) ?_; (try simp only [Act.put, List.setIfInBounds_toArray, List.set_cons_zero, List.set_cons_succ]))
    | (refine BigFrame.wpQuiet_want (by rfl) (fun K hK => ?_); apply Exists.intro; refine ⟨fun W hW => ?_, hK _ ?_⟩; (focus (obtain ⟨z0, z1, z2, z3, z4, z5, z6, z7, z8, z9⟩ := HS.out _ hW; go_simp; (first | done | with_reducible rfl | ((go_at_call 44; first | with_reducible exact gives_above hW (GA.out _) | with_reducible exact gives_above hW (GB.out _))) | (rw [if_neg (by omega)]; go_simp; (first | done | with_reducible rfl))))); clear hK K; (try simp only [Act.put, List.setIfInBounds_toArray, List.set_cons_zero, List.set_cons_succ])))
  refine wpQuiet_nil ?_
  intro w1 hB
  clear HS
  replace hB : Below _ _ w1 := hB
  replace hA := bel2 hA hB; obtain ⟨c0, c1, c2, c3, c4, c5, c6, c7, c8, c9⟩ := above10 hs c0 c1 c2 c3 c4 c5 c6 c7 c8 c9 hB; replace hs := Nat.lt_of_lt_of_le hs hB.size; clear hB
  go_wp2
  go_ret
  exact ⟨by rw [HV.out]; rfl, hA⟩

set_option maxRecDepth 100000 in
set_option maxHeartbeats 8000000 in
theorem refBytes2_any (g : Int) (a : Option Addr) (len cap : Nat) (ht hv hc i t : Int) (mk hd : Bool) (l : List EntryC) (w : World) (hE : HasE w (⟨g, 2, a, len, cap, ht, hv, hc, i, t, mk, hd⟩ : PartC) l) (hR : PartR (⟨g, 2, a, len, cap, ht, hv, hc, i, t, mk, hd⟩ : PartC)) (hen : ∀ e ∈ l, entryB e = true) (h6 : len ≤ 6) (hI : isB (⟨g, 2, a, len, cap, ht, hv, hc, i, t, mk, hd⟩ : PartC) l = true) :
    Gives Try.prog 45 #[(⟨g, 2, a, len, cap, ht, hv, hc, i, t, mk, hd⟩ : PartC).val] w (.string (mkB (bytesL (⟨g, 2, a, len, cap, ht, hv, hc, i, t, mk, hd⟩ : PartC) l))) := by
  obtain ⟨r0, r1, r2, r3, r4, r5, r6⟩ := hR
  dsimp only at r0 r1 r2 r3 r4 r5 r6
  obtain rfl : l = [] := by obtain ⟨_, h⟩ := (isB_iff _ _).1 hI; dsimp only at h; rcases h with h | h | h | h | h | h <;> first | (exact absurd h.1 (by decide)) | exact h.2.1 | exact h.2.2.1 | exact h.2.2.2.1
  obtain ⟨A, eA, sA, GA⟩ := putV g r0
  have HA := Lib.hid eA; clear eA; replace GA := Lib.hid GA
  obtain ⟨B, eB, sB, GB⟩ := putV 2 (by decide)
  have HB := Lib.hid eB; clear eB; replace GB := Lib.hid GB
  have GH := Lib.hid (fun W => refHardB_any ht hv hc r1 r2 r3 W)
  have sH : (mkB (putL [ht, hv, hc])).size ≤ 27 := by rw [size_mkB]; exact putL_len _
  generalize hXe : mkB (putL [ht, hv, hc]) = X at GH sH
  have HX := Lib.hid hXe
  clear hXe
  have HV := Lib.hid (show mkB (bytesL (⟨g, 2, a, len, cap, ht, hv, hc, i, t, mk, hd⟩ : PartC) []) = (A ++ B) ++ X by rw [HA.out, HB.out, ← HX.out]; simp only [mkB_app]; (first | (congr 1; simp [bytesL, headN, putL]; done) | (congr 1; done)))
  clear hE hI
  dsimp only [PartC.val] at *
  unfold Gives
  have hA := bel_alloc (Below.refl w.heap.size w) (.cells #[.int .i64 g, .int .i64 2, .slice a len cap, .int .i64 ht, .int .i64 hv, .int .i64 hc, .int .i64 i, .int .i64 t, .bool mk, .bool hd] 70)
  have hs : w.heap.size < (w.alloc (.cells #[.int .i64 g, .int .i64 2, .slice a len cap, .int .i64 ht, .int .i64 hv, .int .i64 hc, .int .i64 i, .int .i64 t, .bool mk, .bool hd] 70)).heap.size := by simp
  have c0 : (w.alloc (.cells #[.int .i64 g, .int .i64 2, .slice a len cap, .int .i64 ht, .int .i64 hv, .int .i64 hc, .int .i64 i, .int .i64 t, .bool mk, .bool hd] 70)).cell? ⟨w.heap.size, 0, none⟩ = some (.int .i64 g) := cell_of_row _ _ 0 _ _ _ (World.alloc_heap_new w _)
  have c1 : (w.alloc (.cells #[.int .i64 g, .int .i64 2, .slice a len cap, .int .i64 ht, .int .i64 hv, .int .i64 hc, .int .i64 i, .int .i64 t, .bool mk, .bool hd] 70)).cell? ⟨w.heap.size, 1, none⟩ = some (.int .i64 2) := cell_of_row _ _ 1 _ _ _ (World.alloc_heap_new w _)
  have c2 : (w.alloc (.cells #[.int .i64 g, .int .i64 2, .slice a len cap, .int .i64 ht, .int .i64 hv, .int .i64 hc, .int .i64 i, .int .i64 t, .bool mk, .bool hd] 70)).cell? ⟨w.heap.size, 2, none⟩ = some (.slice a len cap) := cell_of_row _ _ 2 _ _ _ (World.alloc_heap_new w _)
  have c3 : (w.alloc (.cells #[.int .i64 g, .int .i64 2, .slice a len cap, .int .i64 ht, .int .i64 hv, .int .i64 hc, .int .i64 i, .int .i64 t, .bool mk, .bool hd] 70)).cell? ⟨w.heap.size, 3, none⟩ = some (.int .i64 ht) := cell_of_row _ _ 3 _ _ _ (World.alloc_heap_new w _)
  have c4 : (w.alloc (.cells #[.int .i64 g, .int .i64 2, .slice a len cap, .int .i64 ht, .int .i64 hv, .int .i64 hc, .int .i64 i, .int .i64 t, .bool mk, .bool hd] 70)).cell? ⟨w.heap.size, 4, none⟩ = some (.int .i64 hv) := cell_of_row _ _ 4 _ _ _ (World.alloc_heap_new w _)
  have c5 : (w.alloc (.cells #[.int .i64 g, .int .i64 2, .slice a len cap, .int .i64 ht, .int .i64 hv, .int .i64 hc, .int .i64 i, .int .i64 t, .bool mk, .bool hd] 70)).cell? ⟨w.heap.size, 5, none⟩ = some (.int .i64 hc) := cell_of_row _ _ 5 _ _ _ (World.alloc_heap_new w _)
  have c6 : (w.alloc (.cells #[.int .i64 g, .int .i64 2, .slice a len cap, .int .i64 ht, .int .i64 hv, .int .i64 hc, .int .i64 i, .int .i64 t, .bool mk, .bool hd] 70)).cell? ⟨w.heap.size, 6, none⟩ = some (.int .i64 i) := cell_of_row _ _ 6 _ _ _ (World.alloc_heap_new w _)
  have c7 : (w.alloc (.cells #[.int .i64 g, .int .i64 2, .slice a len cap, .int .i64 ht, .int .i64 hv, .int .i64 hc, .int .i64 i, .int .i64 t, .bool mk, .bool hd] 70)).cell? ⟨w.heap.size, 7, none⟩ = some (.int .i64 t) := cell_of_row _ _ 7 _ _ _ (World.alloc_heap_new w _)
  have c8 : (w.alloc (.cells #[.int .i64 g, .int .i64 2, .slice a len cap, .int .i64 ht, .int .i64 hv, .int .i64 hc, .int .i64 i, .int .i64 t, .bool mk, .bool hd] 70)).cell? ⟨w.heap.size, 8, none⟩ = some (.bool mk) := cell_of_row _ _ 8 _ _ _ (World.alloc_heap_new w _)
  have c9 : (w.alloc (.cells #[.int .i64 g, .int .i64 2, .slice a len cap, .int .i64 ht, .int .i64 hv, .int .i64 hc, .int .i64 i, .int .i64 t, .bool mk, .bool hd] 70)).cell? ⟨w.heap.size, 9, none⟩ = some (.bool hd) := cell_of_row _ _ 9 _ _ _ (World.alloc_heap_new w _)
  go_enter Try.func45, Try.ntmps45
  go_wp2
  have HS := Lib.hid (fun W (hW : Above (w.alloc (.cells #[.int .i64 g, .int .i64 2, .slice a len cap, .int .i64 ht, .int .i64 hv, .int .i64 hc, .int .i64 i, .int .i64 t, .bool mk, .bool hd] 70)) W) => above10 hs c0 c1 c2 c3 c4 c5 c6 c7 c8 c9 hW)
  refine wp_region_below (by kernel_rfl) (by kernel_rfl) ?_
  repeat (first
    | (refine BigFrame.wpQuiet_skip (by rfl) ?_; (try simp only [Act.put, List.setIfInBounds_toArray, List.set_cons_zero, List.set_cons_succ]))
    | (refine BigFrame.wpQuiet_want (by rfl) (fun K hK => ?_); apply Exists.intro; refine ⟨fun W hW => ?_, hK _ ?_⟩; (focus (obtain ⟨z0, z1, z2, z3, z4, z5, z6, z7, z8, z9⟩ := HS.out _ hW; go_simp; (first | done | with_reducible rfl | ((go_at_call 44; first | with_reducible exact gives_above hW (GA.out _) | with_reducible exact gives_above hW (GB.out _))) | (rw [if_neg (by omega)]; go_simp; (first | done | with_reducible rfl))))); clear hK K; (try simp only [Act.put, List.setIfInBounds_toArray, List.set_cons_zero, List.set_cons_succ])))
  refine wpQuiet_nil ?_
  intro w1 hB
  clear HS
  replace hB : Below _ _ w1 := hB
  replace hA := bel2 hA hB; obtain ⟨c0, c1, c2, c3, c4, c5, c6, c7, c8, c9⟩ := above10 hs c0 c1 c2 c3 c4 c5 c6 c7 c8 c9 hB; replace hs := Nat.lt_of_lt_of_le hs hB.size; clear hB
  go_wp2_with (go_at_call 74; ((with_reducible refine (GH.out _).mono ?_); rintro e w2 ⟨rfl, hB⟩; replace hA := bel2 hA hB; obtain ⟨c0, c1, c2, c3, c4, c5, c6, c7, c8, c9⟩ := above10 hs c0 c1 c2 c3 c4 c5 c6 c7 c8 c9 hB; replace hs := Nat.lt_of_lt_of_le hs hB.size; clear hB))
  go_ret
  exact ⟨by rw [HV.out]; rfl, hA⟩

set_option maxRecDepth 100000 in
set_option maxHeartbeats 8000000 in
theorem refBytes3_any (g : Int) (a : Option Addr) (len cap : Nat) (ht hv hc i t : Int) (mk hd : Bool) (l : List EntryC) (w : World) (hE : HasE w (⟨g, 3, a, len, cap, ht, hv, hc, i, t, mk, hd⟩ : PartC) l) (hR : PartR (⟨g, 3, a, len, cap, ht, hv, hc, i, t, mk, hd⟩ : PartC)) (hen : ∀ e ∈ l, entryB e = true) (h6 : len ≤ 6) (hI : isB (⟨g, 3, a, len, cap, ht, hv, hc, i, t, mk, hd⟩ : PartC) l = true) :
    Gives Try.prog 45 #[(⟨g, 3, a, len, cap, ht, hv, hc, i, t, mk, hd⟩ : PartC).val] w (.string (mkB (bytesL (⟨g, 3, a, len, cap, ht, hv, hc, i, t, mk, hd⟩ : PartC) l))) := by
  obtain ⟨r0, r1, r2, r3, r4, r5, r6⟩ := hR
  dsimp only at r0 r1 r2 r3 r4 r5 r6
  obtain rfl : l = [] := by obtain ⟨_, h⟩ := (isB_iff _ _).1 hI; dsimp only at h; rcases h with h | h | h | h | h | h <;> first | (exact absurd h.1 (by decide)) | exact h.2.1 | exact h.2.2.1 | exact h.2.2.2.1
  obtain ⟨A, eA, sA, GA⟩ := putV g r0
  have HA := Lib.hid eA; clear eA; replace GA := Lib.hid GA
  obtain ⟨B, eB, sB, GB⟩ := putV 3 (by decide)
  have HB := Lib.hid eB; clear eB; replace GB := Lib.hid GB
  obtain ⟨I, eI, sI, GI⟩ := putV i r4
  have HI := Lib.hid eI; clear eI; replace GI := Lib.hid GI
  obtain ⟨T, eT, sT, GT⟩ := putV t r5
  have HT := Lib.hid eT; clear eT; replace GT := Lib.hid GT
  have HV := Lib.hid (show mkB (bytesL (⟨g, 3, a, len, cap, ht, hv, hc, i, t, mk, hd⟩ : PartC) []) = ((A ++ B) ++ I) ++ T by rw [HA.out, HB.out, HI.out, HT.out]; simp only [mkB_app]; (first | (congr 1; simp [bytesL, headN, putL]; done) | (congr 1; done)))
  clear hE hI
  dsimp only [PartC.val] at *
  unfold Gives
  have hA := bel_alloc (Below.refl w.heap.size w) (.cells #[.int .i64 g, .int .i64 3, .slice a len cap, .int .i64 ht, .int .i64 hv, .int .i64 hc, .int .i64 i, .int .i64 t, .bool mk, .bool hd] 70)
  have hs : w.heap.size < (w.alloc (.cells #[.int .i64 g, .int .i64 3, .slice a len cap, .int .i64 ht, .int .i64 hv, .int .i64 hc, .int .i64 i, .int .i64 t, .bool mk, .bool hd] 70)).heap.size := by simp
  have c0 : (w.alloc (.cells #[.int .i64 g, .int .i64 3, .slice a len cap, .int .i64 ht, .int .i64 hv, .int .i64 hc, .int .i64 i, .int .i64 t, .bool mk, .bool hd] 70)).cell? ⟨w.heap.size, 0, none⟩ = some (.int .i64 g) := cell_of_row _ _ 0 _ _ _ (World.alloc_heap_new w _)
  have c1 : (w.alloc (.cells #[.int .i64 g, .int .i64 3, .slice a len cap, .int .i64 ht, .int .i64 hv, .int .i64 hc, .int .i64 i, .int .i64 t, .bool mk, .bool hd] 70)).cell? ⟨w.heap.size, 1, none⟩ = some (.int .i64 3) := cell_of_row _ _ 1 _ _ _ (World.alloc_heap_new w _)
  have c2 : (w.alloc (.cells #[.int .i64 g, .int .i64 3, .slice a len cap, .int .i64 ht, .int .i64 hv, .int .i64 hc, .int .i64 i, .int .i64 t, .bool mk, .bool hd] 70)).cell? ⟨w.heap.size, 2, none⟩ = some (.slice a len cap) := cell_of_row _ _ 2 _ _ _ (World.alloc_heap_new w _)
  have c3 : (w.alloc (.cells #[.int .i64 g, .int .i64 3, .slice a len cap, .int .i64 ht, .int .i64 hv, .int .i64 hc, .int .i64 i, .int .i64 t, .bool mk, .bool hd] 70)).cell? ⟨w.heap.size, 3, none⟩ = some (.int .i64 ht) := cell_of_row _ _ 3 _ _ _ (World.alloc_heap_new w _)
  have c4 : (w.alloc (.cells #[.int .i64 g, .int .i64 3, .slice a len cap, .int .i64 ht, .int .i64 hv, .int .i64 hc, .int .i64 i, .int .i64 t, .bool mk, .bool hd] 70)).cell? ⟨w.heap.size, 4, none⟩ = some (.int .i64 hv) := cell_of_row _ _ 4 _ _ _ (World.alloc_heap_new w _)
  have c5 : (w.alloc (.cells #[.int .i64 g, .int .i64 3, .slice a len cap, .int .i64 ht, .int .i64 hv, .int .i64 hc, .int .i64 i, .int .i64 t, .bool mk, .bool hd] 70)).cell? ⟨w.heap.size, 5, none⟩ = some (.int .i64 hc) := cell_of_row _ _ 5 _ _ _ (World.alloc_heap_new w _)
  have c6 : (w.alloc (.cells #[.int .i64 g, .int .i64 3, .slice a len cap, .int .i64 ht, .int .i64 hv, .int .i64 hc, .int .i64 i, .int .i64 t, .bool mk, .bool hd] 70)).cell? ⟨w.heap.size, 6, none⟩ = some (.int .i64 i) := cell_of_row _ _ 6 _ _ _ (World.alloc_heap_new w _)
  have c7 : (w.alloc (.cells #[.int .i64 g, .int .i64 3, .slice a len cap, .int .i64 ht, .int .i64 hv, .int .i64 hc, .int .i64 i, .int .i64 t, .bool mk, .bool hd] 70)).cell? ⟨w.heap.size, 7, none⟩ = some (.int .i64 t) := cell_of_row _ _ 7 _ _ _ (World.alloc_heap_new w _)
  have c8 : (w.alloc (.cells #[.int .i64 g, .int .i64 3, .slice a len cap, .int .i64 ht, .int .i64 hv, .int .i64 hc, .int .i64 i, .int .i64 t, .bool mk, .bool hd] 70)).cell? ⟨w.heap.size, 8, none⟩ = some (.bool mk) := cell_of_row _ _ 8 _ _ _ (World.alloc_heap_new w _)
  have c9 : (w.alloc (.cells #[.int .i64 g, .int .i64 3, .slice a len cap, .int .i64 ht, .int .i64 hv, .int .i64 hc, .int .i64 i, .int .i64 t, .bool mk, .bool hd] 70)).cell? ⟨w.heap.size, 9, none⟩ = some (.bool hd) := cell_of_row _ _ 9 _ _ _ (World.alloc_heap_new w _)
  go_enter Try.func45, Try.ntmps45
  go_wp2
  have HS := Lib.hid (fun W (hW : Above (w.alloc (.cells #[.int .i64 g, .int .i64 3, .slice a len cap, .int .i64 ht, .int .i64 hv, .int .i64 hc, .int .i64 i, .int .i64 t, .bool mk, .bool hd] 70)) W) => above10 hs c0 c1 c2 c3 c4 c5 c6 c7 c8 c9 hW)
  refine wp_region_below (by kernel_rfl) (by kernel_rfl) ?_
  repeat (first
    | (refine BigFrame.wpQuiet_skip (by rfl) ?_; (try simp only [Act.put, List.setIfInBounds_toArray, List.set_cons_zero, List.set_cons_succ]))
    | (refine BigFrame.wpQuiet_want (by rfl) (fun K hK => ?_); apply Exists.intro; refine ⟨fun W hW => ?_, hK _ ?_⟩; (focus (obtain ⟨z0, z1, z2, z3, z4, z5, z6, z7, z8, z9⟩ := HS.out _ hW; go_simp; (first | done | with_reducible rfl | ((go_at_call 44; first | with_reducible exact gives_above hW (GA.out _) | with_reducible exact gives_above hW (GB.out _))) | (rw [if_neg (by omega)]; go_simp; (first | done | with_reducible rfl))))); clear hK K; (try simp only [Act.put, List.setIfInBounds_toArray, List.set_cons_zero, List.set_cons_succ])))
  refine wpQuiet_nil ?_
  intro w1 hB
  clear HS
  replace hB : Below _ _ w1 := hB
  replace hA := bel2 hA hB; obtain ⟨c0, c1, c2, c3, c4, c5, c6, c7, c8, c9⟩ := above10 hs c0 c1 c2 c3 c4 c5 c6 c7 c8 c9 hB; replace hs := Nat.lt_of_lt_of_le hs hB.size; clear hB
  go_wp2
  have HS := Lib.hid (fun W (hW : Above (w1) W) => above10 hs c0 c1 c2 c3 c4 c5 c6 c7 c8 c9 hW)
  refine wp_region_below (by kernel_rfl) (by kernel_rfl) ?_
  repeat (first
    | (refine BigFrame.wpQuiet_skip (by rfl) ?_; (try simp only [Act.put, List.setIfInBounds_toArray, List.set_cons_zero, List.set_cons_succ]))
    | (refine BigFrame.wpQuiet_want (by rfl) (fun K hK => ?_); apply Exists.intro; refine ⟨fun W hW => ?_, hK _ ?_⟩; (focus (obtain ⟨z0, z1, z2, z3, z4, z5, z6, z7, z8, z9⟩ := HS.out _ hW; go_simp; (first | done | with_reducible rfl | ((go_at_call 44; first | with_reducible exact gives_above hW (GI.out _) | with_reducible exact gives_above hW (GT.out _))) | (rw [if_neg (by omega)]; go_simp; (first | done | with_reducible rfl))))); clear hK K; (try simp only [Act.put, List.setIfInBounds_toArray, List.set_cons_zero, List.set_cons_succ])))
  refine wpQuiet_nil ?_
  intro w2 hB
  clear HS
  replace hB : Below _ _ w2 := hB
  replace hA := bel2 hA hB; obtain ⟨c0, c1, c2, c3, c4, c5, c6, c7, c8, c9⟩ := above10 hs c0 c1 c2 c3 c4 c5 c6 c7 c8 c9 hB; replace hs := Nat.lt_of_lt_of_le hs hB.size; clear hB
  go_wp2
  go_ret
  exact ⟨by rw [HV.out]; rfl, hA⟩

set_option maxRecDepth 100000 in
set_option maxHeartbeats 8000000 in
theorem refBytes4_any (g : Int) (a : Option Addr) (len cap : Nat) (ht hv hc i t : Int) (mk hd : Bool) (l : List EntryC) (w : World) (hE : HasE w (⟨g, 4, a, len, cap, ht, hv, hc, i, t, mk, hd⟩ : PartC) l) (hR : PartR (⟨g, 4, a, len, cap, ht, hv, hc, i, t, mk, hd⟩ : PartC)) (hen : ∀ e ∈ l, entryB e = true) (h6 : len ≤ 6) (hI : isB (⟨g, 4, a, len, cap, ht, hv, hc, i, t, mk, hd⟩ : PartC) l = true) :
    Gives Try.prog 45 #[(⟨g, 4, a, len, cap, ht, hv, hc, i, t, mk, hd⟩ : PartC).val] w (.string (mkB (bytesL (⟨g, 4, a, len, cap, ht, hv, hc, i, t, mk, hd⟩ : PartC) l))) := by
  obtain ⟨r0, r1, r2, r3, r4, r5, r6⟩ := hR
  dsimp only at r0 r1 r2 r3 r4 r5 r6
  obtain rfl : l = [] := by obtain ⟨_, h⟩ := (isB_iff _ _).1 hI; dsimp only at h; rcases h with h | h | h | h | h | h <;> first | (exact absurd h.1 (by decide)) | exact h.2.1 | exact h.2.2.1 | exact h.2.2.2.1
  obtain ⟨A, eA, sA, GA⟩ := putV g r0
  have HA := Lib.hid eA; clear eA; replace GA := Lib.hid GA
  obtain ⟨B, eB, sB, GB⟩ := putV 4 (by decide)
  have HB := Lib.hid eB; clear eB; replace GB := Lib.hid GB
  obtain ⟨I, eI, sI, GI⟩ := putV i r4
  have HI := Lib.hid eI; clear eI; replace GI := Lib.hid GI
  obtain ⟨T, eT, sT, GT⟩ := putV t r5
  have HT := Lib.hid eT; clear eT; replace GT := Lib.hid GT
  have HV := Lib.hid (show mkB (bytesL (⟨g, 4, a, len, cap, ht, hv, hc, i, t, mk, hd⟩ : PartC) []) = ((A ++ B) ++ I) ++ T by rw [HA.out, HB.out, HI.out, HT.out]; simp only [mkB_app]; (first | (congr 1; simp [bytesL, headN, putL]; done) | (congr 1; done)))
  clear hE hI
  dsimp only [PartC.val] at *
  unfold Gives
  have hA := bel_alloc (Below.refl w.heap.size w) (.cells #[.int .i64 g, .int .i64 4, .slice a len cap, .int .i64 ht, .int .i64 hv, .int .i64 hc, .int .i64 i, .int .i64 t, .bool mk, .bool hd] 70)
  have hs : w.heap.size < (w.alloc (.cells #[.int .i64 g, .int .i64 4, .slice a len cap, .int .i64 ht, .int .i64 hv, .int .i64 hc, .int .i64 i, .int .i64 t, .bool mk, .bool hd] 70)).heap.size := by simp
  have c0 : (w.alloc (.cells #[.int .i64 g, .int .i64 4, .slice a len cap, .int .i64 ht, .int .i64 hv, .int .i64 hc, .int .i64 i, .int .i64 t, .bool mk, .bool hd] 70)).cell? ⟨w.heap.size, 0, none⟩ = some (.int .i64 g) := cell_of_row _ _ 0 _ _ _ (World.alloc_heap_new w _)
  have c1 : (w.alloc (.cells #[.int .i64 g, .int .i64 4, .slice a len cap, .int .i64 ht, .int .i64 hv, .int .i64 hc, .int .i64 i, .int .i64 t, .bool mk, .bool hd] 70)).cell? ⟨w.heap.size, 1, none⟩ = some (.int .i64 4) := cell_of_row _ _ 1 _ _ _ (World.alloc_heap_new w _)
  have c2 : (w.alloc (.cells #[.int .i64 g, .int .i64 4, .slice a len cap, .int .i64 ht, .int .i64 hv, .int .i64 hc, .int .i64 i, .int .i64 t, .bool mk, .bool hd] 70)).cell? ⟨w.heap.size, 2, none⟩ = some (.slice a len cap) := cell_of_row _ _ 2 _ _ _ (World.alloc_heap_new w _)
  have c3 : (w.alloc (.cells #[.int .i64 g, .int .i64 4, .slice a len cap, .int .i64 ht, .int .i64 hv, .int .i64 hc, .int .i64 i, .int .i64 t, .bool mk, .bool hd] 70)).cell? ⟨w.heap.size, 3, none⟩ = some (.int .i64 ht) := cell_of_row _ _ 3 _ _ _ (World.alloc_heap_new w _)
  have c4 : (w.alloc (.cells #[.int .i64 g, .int .i64 4, .slice a len cap, .int .i64 ht, .int .i64 hv, .int .i64 hc, .int .i64 i, .int .i64 t, .bool mk, .bool hd] 70)).cell? ⟨w.heap.size, 4, none⟩ = some (.int .i64 hv) := cell_of_row _ _ 4 _ _ _ (World.alloc_heap_new w _)
  have c5 : (w.alloc (.cells #[.int .i64 g, .int .i64 4, .slice a len cap, .int .i64 ht, .int .i64 hv, .int .i64 hc, .int .i64 i, .int .i64 t, .bool mk, .bool hd] 70)).cell? ⟨w.heap.size, 5, none⟩ = some (.int .i64 hc) := cell_of_row _ _ 5 _ _ _ (World.alloc_heap_new w _)
  have c6 : (w.alloc (.cells #[.int .i64 g, .int .i64 4, .slice a len cap, .int .i64 ht, .int .i64 hv, .int .i64 hc, .int .i64 i, .int .i64 t, .bool mk, .bool hd] 70)).cell? ⟨w.heap.size, 6, none⟩ = some (.int .i64 i) := cell_of_row _ _ 6 _ _ _ (World.alloc_heap_new w _)
  have c7 : (w.alloc (.cells #[.int .i64 g, .int .i64 4, .slice a len cap, .int .i64 ht, .int .i64 hv, .int .i64 hc, .int .i64 i, .int .i64 t, .bool mk, .bool hd] 70)).cell? ⟨w.heap.size, 7, none⟩ = some (.int .i64 t) := cell_of_row _ _ 7 _ _ _ (World.alloc_heap_new w _)
  have c8 : (w.alloc (.cells #[.int .i64 g, .int .i64 4, .slice a len cap, .int .i64 ht, .int .i64 hv, .int .i64 hc, .int .i64 i, .int .i64 t, .bool mk, .bool hd] 70)).cell? ⟨w.heap.size, 8, none⟩ = some (.bool mk) := cell_of_row _ _ 8 _ _ _ (World.alloc_heap_new w _)
  have c9 : (w.alloc (.cells #[.int .i64 g, .int .i64 4, .slice a len cap, .int .i64 ht, .int .i64 hv, .int .i64 hc, .int .i64 i, .int .i64 t, .bool mk, .bool hd] 70)).cell? ⟨w.heap.size, 9, none⟩ = some (.bool hd) := cell_of_row _ _ 9 _ _ _ (World.alloc_heap_new w _)
  go_enter Try.func45, Try.ntmps45
  go_wp2
  have HS := Lib.hid (fun W (hW : Above (w.alloc (.cells #[.int .i64 g, .int .i64 4, .slice a len cap, .int .i64 ht, .int .i64 hv, .int .i64 hc, .int .i64 i, .int .i64 t, .bool mk, .bool hd] 70)) W) => above10 hs c0 c1 c2 c3 c4 c5 c6 c7 c8 c9 hW)
  refine wp_region_below (by kernel_rfl) (by kernel_rfl) ?_
  repeat (first
    | (refine BigFrame.wpQuiet_skip (by rfl) ?_; (try simp only [Act.put, List.setIfInBounds_toArray, List.set_cons_zero, List.set_cons_succ]))
    | (refine BigFrame.wpQuiet_want (by rfl) (fun K hK => ?_); apply Exists.intro; refine ⟨fun W hW => ?_, hK _ ?_⟩; (focus (obtain ⟨z0, z1, z2, z3, z4, z5, z6, z7, z8, z9⟩ := HS.out _ hW; go_simp; (first | done | with_reducible rfl | ((go_at_call 44; first | with_reducible exact gives_above hW (GA.out _) | with_reducible exact gives_above hW (GB.out _))) | (rw [if_neg (by omega)]; go_simp; (first | done | with_reducible rfl))))); clear hK K; (try simp only [Act.put, List.setIfInBounds_toArray, List.set_cons_zero, List.set_cons_succ])))
  refine wpQuiet_nil ?_
  intro w1 hB
  clear HS
  replace hB : Below _ _ w1 := hB
  replace hA := bel2 hA hB; obtain ⟨c0, c1, c2, c3, c4, c5, c6, c7, c8, c9⟩ := above10 hs c0 c1 c2 c3 c4 c5 c6 c7 c8 c9 hB; replace hs := Nat.lt_of_lt_of_le hs hB.size; clear hB
  go_wp2
  have HS := Lib.hid (fun W (hW : Above (w1) W) => above10 hs c0 c1 c2 c3 c4 c5 c6 c7 c8 c9 hW)
  refine wp_region_below (by kernel_rfl) (by kernel_rfl) ?_
  repeat (first
    | (refine BigFrame.wpQuiet_skip (by rfl) ?_; (try simp only [Act.put, List.setIfInBounds_toArray, List.set_cons_zero, List.set_cons_succ]))
    | (refine BigFrame.wpQuiet_want (by rfl) (fun K hK => ?_); apply Exists.intro; refine ⟨fun W hW => ?_, hK _ ?_⟩; (focus (obtain ⟨z0, z1, z2, z3, z4, z5, z6, z7, z8, z9⟩ := HS.out _ hW; go_simp; (first | done | with_reducible rfl | ((go_at_call 44; first | with_reducible exact gives_above hW (GI.out _) | with_reducible exact gives_above hW (GT.out _))) | (rw [if_neg (by omega)]; go_simp; (first | done | with_reducible rfl))))); clear hK K; (try simp only [Act.put, List.setIfInBounds_toArray, List.set_cons_zero, List.set_cons_succ])))
  refine wpQuiet_nil ?_
  intro w2 hB
  clear HS
  replace hB : Below _ _ w2 := hB
  replace hA := bel2 hA hB; obtain ⟨c0, c1, c2, c3, c4, c5, c6, c7, c8, c9⟩ := above10 hs c0 c1 c2 c3 c4 c5 c6 c7 c8 c9 hB; replace hs := Nat.lt_of_lt_of_le hs hB.size; clear hB
  go_wp2
  go_ret
  exact ⟨by rw [HV.out]; rfl, hA⟩

set_option maxRecDepth 100000 in
set_option maxHeartbeats 8000000 in
theorem refBytes6_any (g : Int) (a : Option Addr) (len cap : Nat) (ht hv hc i t : Int) (mk hd : Bool) (l : List EntryC) (w : World) (hE : HasE w (⟨g, 6, a, len, cap, ht, hv, hc, i, t, mk, hd⟩ : PartC) l) (hR : PartR (⟨g, 6, a, len, cap, ht, hv, hc, i, t, mk, hd⟩ : PartC)) (hen : ∀ e ∈ l, entryB e = true) (h6 : len ≤ 6) (hI : isB (⟨g, 6, a, len, cap, ht, hv, hc, i, t, mk, hd⟩ : PartC) l = true) :
    Gives Try.prog 45 #[(⟨g, 6, a, len, cap, ht, hv, hc, i, t, mk, hd⟩ : PartC).val] w (.string (mkB (bytesL (⟨g, 6, a, len, cap, ht, hv, hc, i, t, mk, hd⟩ : PartC) l))) := by
  obtain ⟨r0, r1, r2, r3, r4, r5, r6⟩ := hR
  dsimp only at r0 r1 r2 r3 r4 r5 r6
  obtain ⟨A, eA, sA, GA⟩ := putV g r0
  have HA := Lib.hid eA; clear eA; replace GA := Lib.hid GA
  obtain ⟨B, eB, sB, GB⟩ := putV 6 (by decide)
  have HB := Lib.hid eB; clear eB; replace GB := Lib.hid GB
  have GF := Lib.hid (fun W (hB : Below w.heap.size w W) => refFwd_any g a len cap ht hv hc i t mk hd l W (hE.below hB) ⟨r0, r1, r2, r3, r4, r5, r6⟩ hen h6)
  have sF : (mkB (putL (fwdN (⟨g, 6, a, len, cap, ht, hv, hc, i, t, mk, hd⟩ : PartC)) ++ (l.map (textOf 6)).flatMap fun s => s.data.toList)).size ≤ 1000 := by
    rw [size_mkB, List.length_append]
    have h1 := putL_len (fwdN (⟨g, 6, a, len, cap, ht, hv, hc, i, t, mk, hd⟩ : PartC))
    have h2 := fwdN_len (⟨g, 6, a, len, cap, ht, hv, hc, i, t, mk, hd⟩ : PartC)
    have h3 := text_len 6 l (fun e he => (entryB_bd (hen e he)).2.2)
    have h4 : l.length ≤ 6 := by rw [show l.length = len from hE.1]; exact h6
    omega
  have HV := Lib.hid (show mkB (bytesL (⟨g, 6, a, len, cap, ht, hv, hc, i, t, mk, hd⟩ : PartC) l) = (A ++ B) ++ mkB (putL (fwdN (⟨g, 6, a, len, cap, ht, hv, hc, i, t, mk, hd⟩ : PartC)) ++ (l.map (textOf 6)).flatMap fun s => s.data.toList) by rw [HA.out, HB.out]; simp only [mkB_app]; (first | (congr 1; simp [bytesL, headN, putL]; done) | (congr 1; done)))
  generalize hXe : mkB (putL (fwdN (⟨g, 6, a, len, cap, ht, hv, hc, i, t, mk, hd⟩ : PartC)) ++ (l.map (textOf 6)).flatMap fun s => s.data.toList) = X at GF sF HV
  clear hXe hE hen hI
  dsimp only [PartC.val] at *
  unfold Gives
  have hA := bel_alloc (Below.refl w.heap.size w) (.cells #[.int .i64 g, .int .i64 6, .slice a len cap, .int .i64 ht, .int .i64 hv, .int .i64 hc, .int .i64 i, .int .i64 t, .bool mk, .bool hd] 70)
  have hs : w.heap.size < (w.alloc (.cells #[.int .i64 g, .int .i64 6, .slice a len cap, .int .i64 ht, .int .i64 hv, .int .i64 hc, .int .i64 i, .int .i64 t, .bool mk, .bool hd] 70)).heap.size := by simp
  have c0 : (w.alloc (.cells #[.int .i64 g, .int .i64 6, .slice a len cap, .int .i64 ht, .int .i64 hv, .int .i64 hc, .int .i64 i, .int .i64 t, .bool mk, .bool hd] 70)).cell? ⟨w.heap.size, 0, none⟩ = some (.int .i64 g) := cell_of_row _ _ 0 _ _ _ (World.alloc_heap_new w _)
  have c1 : (w.alloc (.cells #[.int .i64 g, .int .i64 6, .slice a len cap, .int .i64 ht, .int .i64 hv, .int .i64 hc, .int .i64 i, .int .i64 t, .bool mk, .bool hd] 70)).cell? ⟨w.heap.size, 1, none⟩ = some (.int .i64 6) := cell_of_row _ _ 1 _ _ _ (World.alloc_heap_new w _)
  have c2 : (w.alloc (.cells #[.int .i64 g, .int .i64 6, .slice a len cap, .int .i64 ht, .int .i64 hv, .int .i64 hc, .int .i64 i, .int .i64 t, .bool mk, .bool hd] 70)).cell? ⟨w.heap.size, 2, none⟩ = some (.slice a len cap) := cell_of_row _ _ 2 _ _ _ (World.alloc_heap_new w _)
  have c3 : (w.alloc (.cells #[.int .i64 g, .int .i64 6, .slice a len cap, .int .i64 ht, .int .i64 hv, .int .i64 hc, .int .i64 i, .int .i64 t, .bool mk, .bool hd] 70)).cell? ⟨w.heap.size, 3, none⟩ = some (.int .i64 ht) := cell_of_row _ _ 3 _ _ _ (World.alloc_heap_new w _)
  have c4 : (w.alloc (.cells #[.int .i64 g, .int .i64 6, .slice a len cap, .int .i64 ht, .int .i64 hv, .int .i64 hc, .int .i64 i, .int .i64 t, .bool mk, .bool hd] 70)).cell? ⟨w.heap.size, 4, none⟩ = some (.int .i64 hv) := cell_of_row _ _ 4 _ _ _ (World.alloc_heap_new w _)
  have c5 : (w.alloc (.cells #[.int .i64 g, .int .i64 6, .slice a len cap, .int .i64 ht, .int .i64 hv, .int .i64 hc, .int .i64 i, .int .i64 t, .bool mk, .bool hd] 70)).cell? ⟨w.heap.size, 5, none⟩ = some (.int .i64 hc) := cell_of_row _ _ 5 _ _ _ (World.alloc_heap_new w _)
  have c6 : (w.alloc (.cells #[.int .i64 g, .int .i64 6, .slice a len cap, .int .i64 ht, .int .i64 hv, .int .i64 hc, .int .i64 i, .int .i64 t, .bool mk, .bool hd] 70)).cell? ⟨w.heap.size, 6, none⟩ = some (.int .i64 i) := cell_of_row _ _ 6 _ _ _ (World.alloc_heap_new w _)
  have c7 : (w.alloc (.cells #[.int .i64 g, .int .i64 6, .slice a len cap, .int .i64 ht, .int .i64 hv, .int .i64 hc, .int .i64 i, .int .i64 t, .bool mk, .bool hd] 70)).cell? ⟨w.heap.size, 7, none⟩ = some (.int .i64 t) := cell_of_row _ _ 7 _ _ _ (World.alloc_heap_new w _)
  have c8 : (w.alloc (.cells #[.int .i64 g, .int .i64 6, .slice a len cap, .int .i64 ht, .int .i64 hv, .int .i64 hc, .int .i64 i, .int .i64 t, .bool mk, .bool hd] 70)).cell? ⟨w.heap.size, 8, none⟩ = some (.bool mk) := cell_of_row _ _ 8 _ _ _ (World.alloc_heap_new w _)
  have c9 : (w.alloc (.cells #[.int .i64 g, .int .i64 6, .slice a len cap, .int .i64 ht, .int .i64 hv, .int .i64 hc, .int .i64 i, .int .i64 t, .bool mk, .bool hd] 70)).cell? ⟨w.heap.size, 9, none⟩ = some (.bool hd) := cell_of_row _ _ 9 _ _ _ (World.alloc_heap_new w _)
  go_enter Try.func45, Try.ntmps45
  go_wp2
  have HS := Lib.hid (fun W (hW : Above (w.alloc (.cells #[.int .i64 g, .int .i64 6, .slice a len cap, .int .i64 ht, .int .i64 hv, .int .i64 hc, .int .i64 i, .int .i64 t, .bool mk, .bool hd] 70)) W) => above10 hs c0 c1 c2 c3 c4 c5 c6 c7 c8 c9 hW)
  refine wp_region_below (by kernel_rfl) (by kernel_rfl) ?_
  repeat (first
    | (refine BigFrame.wpQuiet_skip (by rfl) ?_; (try simp only [Act.put, List.setIfInBounds_toArray, List.set_cons_zero, List.set_cons_succ]))
    | (refine BigFrame.wpQuiet_want (by rfl) (fun K hK => ?_); apply Exists.intro; refine ⟨fun W hW => ?_, hK _ ?_⟩; (focus (obtain ⟨z0, z1, z2, z3, z4, z5, z6, z7, z8, z9⟩ := HS.out _ hW; go_simp; (first | done | with_reducible rfl | ((go_at_call 44; first | with_reducible exact gives_above hW (GA.out _) | with_reducible exact gives_above hW (GB.out _))) | (rw [if_neg (by omega)]; go_simp; (first | done | with_reducible rfl))))); clear hK K; (try simp only [Act.put, List.setIfInBounds_toArray, List.set_cons_zero, List.set_cons_succ])))
  refine wpQuiet_nil ?_
  intro w1 hB
  clear HS
  replace hB : Below _ _ w1 := hB
  replace hA := bel2 hA hB; obtain ⟨c0, c1, c2, c3, c4, c5, c6, c7, c8, c9⟩ := above10 hs c0 c1 c2 c3 c4 c5 c6 c7 c8 c9 hB; replace hs := Nat.lt_of_lt_of_le hs hB.size; clear hB
  go_wp2_with (go_at_call 75; ((with_reducible refine (GF.out _ hA).mono ?_); rintro e w2 ⟨rfl, hB⟩; replace hA := bel2 hA hB; obtain ⟨c0, c1, c2, c3, c4, c5, c6, c7, c8, c9⟩ := above10 hs c0 c1 c2 c3 c4 c5 c6 c7 c8 c9 hB; replace hs := Nat.lt_of_lt_of_le hs hB.size; clear hB))
  go_ret
  exact ⟨by rw [HV.out]; rfl, hA⟩

set_option maxRecDepth 100000 in
set_option maxHeartbeats 8000000 in
theorem refBytes1_any (g : Int) (a : Option Addr) (len cap : Nat) (ht hv hc i t : Int) (mk hd : Bool) (l : List EntryC) (w : World) (hE : HasE w (⟨g, 1, a, len, cap, ht, hv, hc, i, t, mk, hd⟩ : PartC) l) (hR : PartR (⟨g, 1, a, len, cap, ht, hv, hc, i, t, mk, hd⟩ : PartC)) (hen : ∀ e ∈ l, entryB e = true) (h6 : len ≤ 6) (hI : isB (⟨g, 1, a, len, cap, ht, hv, hc, i, t, mk, hd⟩ : PartC) l = true) :
    Gives Try.prog 45 #[(⟨g, 1, a, len, cap, ht, hv, hc, i, t, mk, hd⟩ : PartC).val] w (.string (mkB (bytesL (⟨g, 1, a, len, cap, ht, hv, hc, i, t, mk, hd⟩ : PartC) l))) := by
  obtain ⟨r0, r1, r2, r3, r4, r5, r6⟩ := hR
  dsimp only at r0 r1 r2 r3 r4 r5 r6
  obtain ⟨A, eA, sA, GA⟩ := putV g r0
  have HA := Lib.hid eA; clear eA; replace GA := Lib.hid GA
  obtain ⟨B, eB, sB, GB⟩ := putV 1 (by decide)
  have HB := Lib.hid eB; clear eB; replace GB := Lib.hid GB
  have HLN := Lib.hid (show l.length = len from hE.1)
  have HEN := Lib.hid hen
  have hcs := hE.2.2.2.2
  have hl0 : 0 < len := by obtain ⟨_, h⟩ := (isB_iff _ _).1 hI; dsimp only at h; rcases h with h | h | h | h | h | h <;> first | (exact absurd h.1 (by decide)) | (have := h.2.1; omega)
  have hlp : 0 < l.length := by rw [HLN.out]; exact hl0
  obtain ⟨b0, off0, ha0, hb0, hx0⟩ := hcs hl0
  have HA0 := Lib.hid ha0
  clear ha0
  have hd0 : w.cell? ⟨b0, off0, none⟩ = some (.int .i64 l[0].i) := by simpa using (entry_at hb0 (Below.refl _ _) hx0 hlp).1
  have hi0 := (entryB_bd (hen _ (List.getElem_mem hlp))).1.2
  clear hx0 hE hen hI
  have hls : ∃ e r, l = e :: r := by cases l with | nil => simp at hlp | cons e r => exact ⟨e, r, rfl⟩
  have HHd := Lib.hid (show (l.head?.map (·.i)).getD 0 = l[0].i by obtain ⟨e, r, rfl⟩ := hls; rfl)
  clear hls
  generalize hIX : l[0].i = x0 at *
  clear hIX
  obtain ⟨C, eC, sC, GC⟩ := putV (len : Int) (by omega)
  have HC := Lib.hid eC; clear eC; replace GC := Lib.hid GC
  obtain ⟨D, eD, sD, GD⟩ := putV x0 (by omega)
  have HD := Lib.hid eD; clear eD; replace GD := Lib.hid GD
  generalize hbs : putL [g, 1] ++ putL (headN (⟨g, 1, a, len, cap, ht, hv, hc, i, t, mk, hd⟩ : PartC) l) = base
  have HBs := Lib.hid hbs
  clear hbs
  rw [show bytesL (⟨g, 1, a, len, cap, ht, hv, hc, i, t, mk, hd⟩ : PartC) l = base ++ (l.map (textOf 1)).flatMap (fun s => s.data.toList) by rw [← HBs.out]; simp [bytesL]]
  have hbx0 : b0 < w.heap.size := hb0
  dsimp only [PartC.val] at *
  unfold Gives
  have hA := bel_alloc (Below.refl w.heap.size w) (.cells #[.int .i64 g, .int .i64 1, .slice a len cap, .int .i64 ht, .int .i64 hv, .int .i64 hc, .int .i64 i, .int .i64 t, .bool mk, .bool hd] 70)
  have hs : w.heap.size < (w.alloc (.cells #[.int .i64 g, .int .i64 1, .slice a len cap, .int .i64 ht, .int .i64 hv, .int .i64 hc, .int .i64 i, .int .i64 t, .bool mk, .bool hd] 70)).heap.size := by simp
  have c0 : (w.alloc (.cells #[.int .i64 g, .int .i64 1, .slice a len cap, .int .i64 ht, .int .i64 hv, .int .i64 hc, .int .i64 i, .int .i64 t, .bool mk, .bool hd] 70)).cell? ⟨w.heap.size, 0, none⟩ = some (.int .i64 g) := cell_of_row _ _ 0 _ _ _ (World.alloc_heap_new w _)
  have c1 : (w.alloc (.cells #[.int .i64 g, .int .i64 1, .slice a len cap, .int .i64 ht, .int .i64 hv, .int .i64 hc, .int .i64 i, .int .i64 t, .bool mk, .bool hd] 70)).cell? ⟨w.heap.size, 1, none⟩ = some (.int .i64 1) := cell_of_row _ _ 1 _ _ _ (World.alloc_heap_new w _)
  have c2 : (w.alloc (.cells #[.int .i64 g, .int .i64 1, .slice a len cap, .int .i64 ht, .int .i64 hv, .int .i64 hc, .int .i64 i, .int .i64 t, .bool mk, .bool hd] 70)).cell? ⟨w.heap.size, 2, none⟩ = some (.slice a len cap) := cell_of_row _ _ 2 _ _ _ (World.alloc_heap_new w _)
  have c3 : (w.alloc (.cells #[.int .i64 g, .int .i64 1, .slice a len cap, .int .i64 ht, .int .i64 hv, .int .i64 hc, .int .i64 i, .int .i64 t, .bool mk, .bool hd] 70)).cell? ⟨w.heap.size, 3, none⟩ = some (.int .i64 ht) := cell_of_row _ _ 3 _ _ _ (World.alloc_heap_new w _)
  have c4 : (w.alloc (.cells #[.int .i64 g, .int .i64 1, .slice a len cap, .int .i64 ht, .int .i64 hv, .int .i64 hc, .int .i64 i, .int .i64 t, .bool mk, .bool hd] 70)).cell? ⟨w.heap.size, 4, none⟩ = some (.int .i64 hv) := cell_of_row _ _ 4 _ _ _ (World.alloc_heap_new w _)
  have c5 : (w.alloc (.cells #[.int .i64 g, .int .i64 1, .slice a len cap, .int .i64 ht, .int .i64 hv, .int .i64 hc, .int .i64 i, .int .i64 t, .bool mk, .bool hd] 70)).cell? ⟨w.heap.size, 5, none⟩ = some (.int .i64 hc) := cell_of_row _ _ 5 _ _ _ (World.alloc_heap_new w _)
  have c6 : (w.alloc (.cells #[.int .i64 g, .int .i64 1, .slice a len cap, .int .i64 ht, .int .i64 hv, .int .i64 hc, .int .i64 i, .int .i64 t, .bool mk, .bool hd] 70)).cell? ⟨w.heap.size, 6, none⟩ = some (.int .i64 i) := cell_of_row _ _ 6 _ _ _ (World.alloc_heap_new w _)
  have c7 : (w.alloc (.cells #[.int .i64 g, .int .i64 1, .slice a len cap, .int .i64 ht, .int .i64 hv, .int .i64 hc, .int .i64 i, .int .i64 t, .bool mk, .bool hd] 70)).cell? ⟨w.heap.size, 7, none⟩ = some (.int .i64 t) := cell_of_row _ _ 7 _ _ _ (World.alloc_heap_new w _)
  have c8 : (w.alloc (.cells #[.int .i64 g, .int .i64 1, .slice a len cap, .int .i64 ht, .int .i64 hv, .int .i64 hc, .int .i64 i, .int .i64 t, .bool mk, .bool hd] 70)).cell? ⟨w.heap.size, 8, none⟩ = some (.bool mk) := cell_of_row _ _ 8 _ _ _ (World.alloc_heap_new w _)
  have c9 : (w.alloc (.cells #[.int .i64 g, .int .i64 1, .slice a len cap, .int .i64 ht, .int .i64 hv, .int .i64 hc, .int .i64 i, .int .i64 t, .bool mk, .bool hd] 70)).cell? ⟨w.heap.size, 9, none⟩ = some (.bool hd) := cell_of_row _ _ 9 _ _ _ (World.alloc_heap_new w _)
  go_enter Try.func45, Try.ntmps45
  go_wp2
  have HS := Lib.hid (fun W (hW : Above (w.alloc (.cells #[.int .i64 g, .int .i64 1, .slice a len cap, .int .i64 ht, .int .i64 hv, .int .i64 hc, .int .i64 i, .int .i64 t, .bool mk, .bool hd] 70)) W) => above10 hs c0 c1 c2 c3 c4 c5 c6 c7 c8 c9 hW)
  refine wp_region_below (by kernel_rfl) (by kernel_rfl) ?_
  repeat (first
    | (refine BigFrame.wpQuiet_skip (by rfl) ?_; (try simp only [Act.put, List.setIfInBounds_toArray, List.set_cons_zero, List.set_cons_succ]))
    | (refine BigFrame.wpQuiet_want (by rfl) (fun K hK => ?_); apply Exists.intro; refine ⟨fun W hW => ?_, hK _ ?_⟩; (focus (obtain ⟨z0, z1, z2, z3, z4, z5, z6, z7, z8, z9⟩ := HS.out _ hW; go_simp; (first | done | with_reducible rfl | ((go_at_call 44; first | with_reducible exact gives_above hW (GA.out _) | with_reducible exact gives_above hW (GB.out _))) | (rw [if_neg (by omega)]; go_simp; (first | done | with_reducible rfl))))); clear hK K; (try simp only [Act.put, List.setIfInBounds_toArray, List.set_cons_zero, List.set_cons_succ])))
  refine wpQuiet_nil ?_
  intro w1 hB
  clear HS
  replace hB : Below _ _ w1 := hB
  replace hA := bel2 hA hB; obtain ⟨c0, c1, c2, c3, c4, c5, c6, c7, c8, c9⟩ := above10 hs c0 c1 c2 c3 c4 c5 c6 c7 c8 c9 hB; replace hs := Nat.lt_of_lt_of_le hs hB.size; clear hB
  go_wp2
  have hce : w1.cell? ⟨b0, off0, none⟩ = some (.int .i64 x0) := (hA.cell (p := ⟨b0, off0, none⟩) hb0).trans hd0
  have hb1 : b0 < w1.heap.size := Nat.lt_of_lt_of_le hb0 hA.size
  have hc2 : w1.cell? ⟨w.heap.size, 2, none⟩ = some (.slice (some ⟨b0, off0, none⟩) len cap) := by rw [← HA0.out]; exact c2
  have hq1 : (0 : Int) < (len : Int) := by omega
  have HS := Lib.hid (fun W (hW : Above (w1) W) => (⟨(Below.cell hW (p := ⟨w.heap.size, 2, none⟩) hs).trans hc2, (Below.cell hW (p := ⟨b0, off0, none⟩) hb1).trans hce⟩ : W.cell? ⟨w.heap.size, 2, none⟩ = _ ∧ W.cell? ⟨b0, off0, none⟩ = _))
  refine wp_region_below (by kernel_rfl) (by kernel_rfl) ?_
  repeat (first
    | (refine BigFrame.wpQuiet_skip (by rfl) ?_; (try simp only [Act.put, List.setIfInBounds_toArray, List.set_cons_zero, List.set_cons_succ]))
    | (refine BigFrame.wpQuiet_want (by rfl) (fun K hK => ?_); apply Exists.intro; refine ⟨fun W hW => ?_, hK _ ?_⟩; (focus (obtain ⟨z0, z1⟩ := HS.out _ hW; go_simp; (first | done | with_reducible rfl | ((go_at_call 44; first | with_reducible exact gives_above hW (GC.out _) | with_reducible exact gives_above hW (GD.out _))) | (rw [if_neg (by omega)]; go_simp; (first | done | with_reducible rfl))))); clear hK K; (try simp only [Act.put, List.setIfInBounds_toArray, List.set_cons_zero, List.set_cons_succ])))
  refine wpQuiet_nil ?_
  intro w2 hB
  clear HS
  replace hB : Below _ _ w2 := hB
  replace hA := bel2 hA hB; obtain ⟨c0, c1, c2, c3, c4, c5, c6, c7, c8, c9⟩ := above10 hs c0 c1 c2 c3 c4 c5 c6 c7 c8 c9 hB; replace hs := Nat.lt_of_lt_of_le hs hB.size; clear hB
  go_wp2
  have hbx := c2
  clear c0 c1 c3 c4 c5 c6 c7 c8 c9
  go_loopw [3, 4] (fun s q wr => ∃ (n : Nat) (S : ByteArray), n ≤ len ∧ q = .int .i64 n ∧ s = .string S ∧ S.data.toList = base ++ (((l.take n).map (textOf 1)).flatMap fun s => s.data.toList) ∧ S.size ≤ 200 + 67 * n ∧ Below w.heap.size w wr ∧ w.heap.size < wr.heap.size ∧ wr.cell? ⟨w.heap.size, 2, none⟩ = some (.slice a len cap)) (fun _ q _ => len - (intOf q).toNat)
  case atStart => exact ⟨0, _, by omega, rfl, rfl, by rw [← HBs.out]; rw [HA.out, HB.out, HC.out, HD.out]; simp [mkB, putL, headN, HHd.out], by simp only [ByteArray.size_append]; (try rw [show (⟨#[]⟩ : ByteArray).size = 0 from rfl]); omega, hA, hs, hbx⟩
  case round =>
    obtain ⟨n, S, hn, rfl, rfl, hS, hz, hBr, hsr, hcr⟩ := hrel
    have HST := Lib.hid hS
    clear hS
    by_cases hlt : n < len
    · obtain ⟨b, off, rfl, hb, hx⟩ := hcs (by omega)
      have hkl : n < l.length := by rw [HLN.out]; exact hlt
      obtain ⟨d0, d1, d2⟩ := entry_at hb hBr hx hkl
      have hlen := HLN.out
      have hbr : b < wr.heap.size := Nat.lt_of_lt_of_le hb hBr.size
      have hen := HEN.out l[n] (List.getElem_mem _)
      have HT1 := Lib.hid (List.take_succ_eq_append_getElem hkl)
      clear hx hcs
      generalize l[n] = x at *
      obtain ⟨xi, xt, xd⟩ := x
      dsimp only at *
      obtain ⟨⟨q1, q2⟩, ⟨q3, q4⟩, hd40⟩ := entryB_bd hen
      dsimp only at *
      obtain ⟨T1, e1, s1, G1⟩ := putV xt (by omega)
      obtain ⟨T2, e2, s2, G2⟩ := textV xd hd40
      obtain ⟨T0, e0, s0, G0⟩ := putV xi (by omega)
      have H1 := Lib.hid e1; have H2 := Lib.hid e2; have H0 := Lib.hid e0
      replace G0 := Lib.hid G0; replace G1 := Lib.hid G1; replace G2 := Lib.hid G2
      clear e0 e1 e2 hen
      have hz6 : S.size ≤ 1000 := by omega
      have hq0 : (0 : Int) ≤ (n : Int) := by omega
      have hq1 : (n : Int) < (len : Int) := by omega
      have HS := Lib.hid (fun W (hW : Above wr W) => (⟨(Below.cell hW (p := ⟨w.heap.size, 2, none⟩) hsr).trans hcr, (Below.cell hW (p := ⟨b, off + n * 3, none⟩) hbr).trans d0, (Below.cell hW (p := ⟨b, off + n * 3 + 1, none⟩) hbr).trans d1, (Below.cell hW (p := ⟨b, off + n * 3 + 2, none⟩) hbr).trans d2⟩ : W.cell? ⟨w.heap.size, 2, none⟩ = _ ∧ W.cell? ⟨b, off + n * 3, none⟩ = _ ∧ W.cell? ⟨b, off + n * 3 + 1, none⟩ = _ ∧ W.cell? ⟨b, off + n * 3 + 2, none⟩ = _))
      go_wp2
      refine wp_region_below (by kernel_rfl) (by kernel_rfl) ?_
      repeat (first
        | (refine BigFrame.wpQuiet_skip (by rfl) ?_; (try simp only [Act.put, List.setIfInBounds_toArray, List.set_cons_zero, List.set_cons_succ]))
        | (refine BigFrame.wpQuiet_want (by rfl) (fun K hK => ?_); apply Exists.intro; refine ⟨fun W hW => ?_, hK _ ?_⟩; (focus (obtain ⟨z0, z1, z2, z3⟩ := HS.out _ hW; go_simp; (first | done | with_reducible rfl | (first | (go_at_call 73; with_reducible exact gives_above hW (G2.out _)) | (go_at_call 44; first | with_reducible exact gives_above hW (G1.out _) | with_reducible exact gives_above hW (G0.out _))) | (rw [if_neg (by omega)]; go_simp; (first | done | with_reducible rfl))))); clear hK K; (try simp only [Act.put, List.setIfInBounds_toArray, List.set_cons_zero, List.set_cons_succ])))
      refine wpQuiet_nil ?_
      intro W4 hB4
      replace hB4 : Below _ _ W4 := hB4
      have hc4 := (hB4.cell (p := ⟨w.heap.size, 2, none⟩) hsr).trans hcr
      have HN := Lib.hid (show (S ++ T1 ++ T2).data.toList = base ++ (((l.take (n + 1)).map (textOf 1)).flatMap fun s => s.data.toList) from by
        rw [HT1.out]; simp only [app_list, HST.out, List.map_append, List.flatMap_append, List.map_cons, List.map_nil, List.flatMap_cons, List.flatMap_nil, List.append_nil, textOf]; rw [H1.out, H2.out]; simp [mkB, putS, textS])
      go_wp2
      go_roundw
      case rel => exact ⟨n + 1, _, by omega, by go_num, rfl, HN.out, by simp only [ByteArray.size_append]; omega, hBr.trans (hB4.mono hBr.size), Nat.lt_of_lt_of_le hsr hB4.size, hc4⟩
      case measure => simp [intOf]; omega
    · obtain rfl : n = len := by omega
      have HLN' := Lib.hid (show l.take n = l by rw [List.take_of_length_le (Nat.le_of_eq HLN.out)])
      have HV := Lib.hid (show mkB (base ++ (((l).map (textOf 1)).flatMap fun s => s.data.toList)) = S by rw [← mkB_list S, HST.out, HLN'.out])
      go_wp2
      go_ret
      exact ⟨by rw [HV.out]; rfl, hBr⟩

theorem refBytes_any (p : PartC) (l : List EntryC) (w : World) (hE : HasE w p l) (h : isB p l = true) : Gives Try.prog 45 #[p.val] w (.string (mkB (bytesL p l))) := by
  obtain ⟨hR, -, -, h6, hen⟩ := isB_bounds hE.1 h
  obtain ⟨-, hk⟩ := (isB_iff p l).1 h
  obtain ⟨g, k, a, len, cap, ht, hv, hc, i, t, mk, hd⟩ := p
  dsimp only at hk
  rcases hk with hk | hk | hk | hk | hk | hk
  · obtain ⟨rfl, _⟩ := hk; exact refBytes1_any g a len cap ht hv hc i t mk hd l w hE hR hen h6 h
  · obtain ⟨rfl, _⟩ := hk; exact refBytes2_any g a len cap ht hv hc i t mk hd l w hE hR hen h6 h
  · obtain ⟨rfl, _⟩ := hk; exact refBytes3_any g a len cap ht hv hc i t mk hd l w hE hR hen h6 h
  · obtain ⟨rfl, _⟩ := hk; exact refBytes4_any g a len cap ht hv hc i t mk hd l w hE hR hen h6 h
  · obtain ⟨rfl, _⟩ := hk; exact refBytes5_any g a len cap ht hv hc i t mk hd l w hE hR hen h6 h
  · obtain ⟨rfl, _⟩ := hk; exact refBytes6_any g a len cap ht hv hc i t mk hd l w hE hR hen h6 h

end Go.Proofs.Ytflaanffjjidaaa
