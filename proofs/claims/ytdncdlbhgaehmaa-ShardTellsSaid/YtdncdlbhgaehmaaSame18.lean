/- RefSame, Same18, SameF: in one text. -/
import Derived.Test.YtdncdlbhgaehmaaPartSame
import Derived.Test.YtdncdlbhgaehmaaRec
import Derived.Test.YtdncdlbhgaehmaaQuietC
import Derived.Test.YtdncdlbhgaehmaaShd
/- The contracts of the document's SamePart, and of what it calls: it comes to the same. -/
namespace Go.Proofs.Ytdncdlbhgaehmaa
open Go.RowKit Go.Shelf
set_option linter.unusedVariables false
attribute [local go_sem] Oper.semAt_some wide_fn wide_round_fn

set_option maxRecDepth 100000 in
set_option maxHeartbeats 1000000 in
theorem refEqual_any (a b : Option Addr) (n1 n2 c1 c2 : Nat) (l m : List EntryC) (hl : l.length = n1) (hm : m.length = n2) (hn1 : n1 < 1000000) (hn2 : n2 < 1000000) (w : World) (h1 : RowV w a n1 3 (entryCells l)) (h2 : RowV w b n2 3 (entryCells m)) :
    Gives Try.prog 110 #[.slice a n1 c1, .slice b n2 c2] w (.bool (decide (l = m))) := by
  have hc1 := h1.2.2
  have hc2 := h2.2.2
  clear h1 h2
  unfold Gives
  by_cases hne : n1 = n2
  · subst hne
    go_enter Try.func110, Try.ntmps110
    go_wp2
    go_loopw [5] (fun i wr => ∃ k : Nat, k ≤ n1 ∧ i = .int .i64 k ∧ l.take k = m.take k ∧ Below w.heap.size w wr) (fun i _ => n1 - (intOf i).toNat)
    case atStart => exact ⟨0, by omega, rfl, rfl, Below.refl _ _⟩
    case round =>
      obtain ⟨k, hk, rfl, ht, hB⟩ := hrel
      have HT := Lib.hid ht
      clear ht
      by_cases hlt : k < n1
      · obtain ⟨b1, o1, rfl, hb1, hx1⟩ := hc1 (by omega)
        obtain ⟨b2, o2, rfl, hb2, hx2⟩ := hc2 (by omega)
        have hkl : k < l.length := by omega
        have hkm : k < m.length := by omega
        obtain ⟨d0, d1, d2⟩ := entry_at hb1 hB hx1 hkl
        obtain ⟨f0, f1, f2⟩ := entry_at hb2 hB hx2 hkm
        have HS := Lib.hid (show l[k] = m[k] → l.take (k + 1) = m.take (k + 1) by intro h; rw [List.take_succ_eq_append_getElem hkl, List.take_succ_eq_append_getElem hkm, HT.out, h])
        have HN := Lib.hid (show l[k] ≠ m[k] → decide (l = m) = false by intro h; simp; rintro rfl; exact h rfl)
        clear hx1 hx2
        generalize l[k] = x at *
        generalize m[k] = y at *
        have hne := fun w => neqEntry x y w
        by_cases hxy : x = y
        · rw [decide_eq_true hxy] at hne
          have HS' := Lib.hid (HS.out hxy)
          clear HS HN
          subst hxy
          go_wp2
          go_quiet (fail)
          go_wp2
          go_roundw
          case rel => exact ⟨k + 1, by omega, by go_num, HS'.out, below_drewN hB _⟩
          case measure => simp [intOf]; omega
        · rw [decide_eq_false hxy] at hne
          have HN' := Lib.hid (HN.out hxy)
          clear HS HN hxy
          go_wp2
          go_quiet (fail)
          go_wp2
          go_ret
          exact ⟨by rw [HN'.out]; rfl, below_drewN hB _⟩
      · obtain rfl : k = n1 := by omega
        have HV := Lib.hid (show decide (l = m) = true by
          have := HT.out
          rw [List.take_of_length_le (by omega), List.take_of_length_le (by omega)] at this
          simp [this])
        go_wp2
        go_ret
        exact ⟨by rw [HV.out]; rfl, hB⟩
  · have HV := Lib.hid (show decide (l = m) = false by simp; rintro rfl; omega)
    go_enter Try.func110, Try.ntmps110
    go_wp2
    go_ret
    exact ⟨by rw [HV.out]; rfl, Below.refl _ _⟩

set_option maxRecDepth 100000 in
set_option maxHeartbeats 2000000 in
theorem refSame_any (p q : PartC) (l m : List EntryC) (w : World) (h1 : HasE w p l) (h2 : HasE w q m) : Gives Try.prog 86 #[p.val, q.val] w (.bool (sameB p q l m)) := by
  have G := Lib.hid (fun W (hB : Below w.heap.size w W) => refEqual_any p.a q.a p.len q.len p.cap q.cap l m h1.1 h2.1 h1.2.1 h2.2.1 W (h1.2.2.below hB) (h2.2.2.below hB))
  have hH := fun w => beqHard p.ht p.hv p.hc q.ht q.hv q.hc w
  clear h1 h2
  obtain ⟨g, k, a, len, cap, ht, hv, hc, i, t, mk, hd⟩ := p
  obtain ⟨g', k', a', len', cap', ht', hv', hc', i', t', mk', hd'⟩ := q
  dsimp only [PartC.val, sameB] at *
  generalize decide (l = m) = b3 at *
  generalize decide (ht = ht' ∧ hv = hv' ∧ hc = hc') = b4 at *
  unfold Gives
  have bA := bel_alloc (bel_alloc (Below.refl w.heap.size w) (.cells #[.int .i64 g, .int .i64 k, .slice a len cap, .int .i64 ht, .int .i64 hv, .int .i64 hc, .int .i64 i, .int .i64 t, .bool mk, .bool hd] 41)) (.cells #[.int .i64 g', .int .i64 k', .slice a' len' cap', .int .i64 ht', .int .i64 hv', .int .i64 hc', .int .i64 i', .int .i64 t', .bool mk', .bool hd'] 41)
  by_cases e1 : g = g'
  · subst e1
    by_cases e2 : k = k'
    · subst e2
      cases b3 with
      | false =>
        go_enter Try.func86, Try.ntmps86
        go_wp2_with (go_at_call 110; ((with_reducible refine (G.out _ bA).mono ?_); rintro e w1 ⟨rfl, hB1⟩))
        go_ret
        exact ⟨by simp , bA.trans (hB1.mono bA.size)⟩
      | true =>
        cases b4 with
        | false =>
          go_enter Try.func86, Try.ntmps86
          go_wp2_with (go_at_call 110; ((with_reducible refine (G.out _ bA).mono ?_); rintro e w1 ⟨rfl, hB1⟩; have c3 : w1.cell? ⟨w.heap.size, 3, none⟩ = some (.int .i64 ht) := (blk2_cell hB1 3).1; have d3 : w1.cell? ⟨w.heap.size + 1, 3, none⟩ = some (.int .i64 ht') := (blk2_cell hB1 3).2; have c4 : w1.cell? ⟨w.heap.size, 4, none⟩ = some (.int .i64 hv) := (blk2_cell hB1 4).1; have d4 : w1.cell? ⟨w.heap.size + 1, 4, none⟩ = some (.int .i64 hv') := (blk2_cell hB1 4).2; have c5 : w1.cell? ⟨w.heap.size, 5, none⟩ = some (.int .i64 hc) := (blk2_cell hB1 5).1; have d5 : w1.cell? ⟨w.heap.size + 1, 5, none⟩ = some (.int .i64 hc') := (blk2_cell hB1 5).2; have c6 : w1.cell? ⟨w.heap.size, 6, none⟩ = some (.int .i64 i) := (blk2_cell hB1 6).1; have d6 : w1.cell? ⟨w.heap.size + 1, 6, none⟩ = some (.int .i64 i') := (blk2_cell hB1 6).2; have c7 : w1.cell? ⟨w.heap.size, 7, none⟩ = some (.int .i64 t) := (blk2_cell hB1 7).1; have d7 : w1.cell? ⟨w.heap.size + 1, 7, none⟩ = some (.int .i64 t') := (blk2_cell hB1 7).2; have c8 : w1.cell? ⟨w.heap.size, 8, none⟩ = some (.bool mk) := (blk2_cell hB1 8).1; have d8 : w1.cell? ⟨w.heap.size + 1, 8, none⟩ = some (.bool mk') := (blk2_cell hB1 8).2; have c9 : w1.cell? ⟨w.heap.size, 9, none⟩ = some (.bool hd) := (blk2_cell hB1 9).1; have d9 : w1.cell? ⟨w.heap.size + 1, 9, none⟩ = some (.bool hd') := (blk2_cell hB1 9).2))
          go_ret
          exact ⟨by simp , bA.trans (hB1.mono bA.size)⟩
        | true =>
          by_cases e4 : i = i'
          · subst e4
            by_cases e5 : t = t'
            · subst e5
              by_cases e6 : mk = mk'
              · subst e6
                by_cases e7 : hd = hd'
                · subst e7
                  go_enter Try.func86, Try.ntmps86
                  go_wp2_with (go_at_call 110; ((with_reducible refine (G.out _ bA).mono ?_); rintro e w1 ⟨rfl, hB1⟩; have c3 : w1.cell? ⟨w.heap.size, 3, none⟩ = some (.int .i64 ht) := (blk2_cell hB1 3).1; have d3 : w1.cell? ⟨w.heap.size + 1, 3, none⟩ = some (.int .i64 ht') := (blk2_cell hB1 3).2; have c4 : w1.cell? ⟨w.heap.size, 4, none⟩ = some (.int .i64 hv) := (blk2_cell hB1 4).1; have d4 : w1.cell? ⟨w.heap.size + 1, 4, none⟩ = some (.int .i64 hv') := (blk2_cell hB1 4).2; have c5 : w1.cell? ⟨w.heap.size, 5, none⟩ = some (.int .i64 hc) := (blk2_cell hB1 5).1; have d5 : w1.cell? ⟨w.heap.size + 1, 5, none⟩ = some (.int .i64 hc') := (blk2_cell hB1 5).2; have c6 : w1.cell? ⟨w.heap.size, 6, none⟩ = some (.int .i64 i) := (blk2_cell hB1 6).1; have d6 : w1.cell? ⟨w.heap.size + 1, 6, none⟩ = some (.int .i64 i) := (blk2_cell hB1 6).2; have c7 : w1.cell? ⟨w.heap.size, 7, none⟩ = some (.int .i64 t) := (blk2_cell hB1 7).1; have d7 : w1.cell? ⟨w.heap.size + 1, 7, none⟩ = some (.int .i64 t) := (blk2_cell hB1 7).2; have c8 : w1.cell? ⟨w.heap.size, 8, none⟩ = some (.bool mk) := (blk2_cell hB1 8).1; have d8 : w1.cell? ⟨w.heap.size + 1, 8, none⟩ = some (.bool mk) := (blk2_cell hB1 8).2; have c9 : w1.cell? ⟨w.heap.size, 9, none⟩ = some (.bool hd) := (blk2_cell hB1 9).1; have d9 : w1.cell? ⟨w.heap.size + 1, 9, none⟩ = some (.bool hd) := (blk2_cell hB1 9).2))
                  go_ret
                  exact ⟨by simp , bA.trans (hB1.mono bA.size)⟩
                · go_enter Try.func86, Try.ntmps86
                  go_wp2_with (go_at_call 110; ((with_reducible refine (G.out _ bA).mono ?_); rintro e w1 ⟨rfl, hB1⟩; have c3 : w1.cell? ⟨w.heap.size, 3, none⟩ = some (.int .i64 ht) := (blk2_cell hB1 3).1; have d3 : w1.cell? ⟨w.heap.size + 1, 3, none⟩ = some (.int .i64 ht') := (blk2_cell hB1 3).2; have c4 : w1.cell? ⟨w.heap.size, 4, none⟩ = some (.int .i64 hv) := (blk2_cell hB1 4).1; have d4 : w1.cell? ⟨w.heap.size + 1, 4, none⟩ = some (.int .i64 hv') := (blk2_cell hB1 4).2; have c5 : w1.cell? ⟨w.heap.size, 5, none⟩ = some (.int .i64 hc) := (blk2_cell hB1 5).1; have d5 : w1.cell? ⟨w.heap.size + 1, 5, none⟩ = some (.int .i64 hc') := (blk2_cell hB1 5).2; have c6 : w1.cell? ⟨w.heap.size, 6, none⟩ = some (.int .i64 i) := (blk2_cell hB1 6).1; have d6 : w1.cell? ⟨w.heap.size + 1, 6, none⟩ = some (.int .i64 i) := (blk2_cell hB1 6).2; have c7 : w1.cell? ⟨w.heap.size, 7, none⟩ = some (.int .i64 t) := (blk2_cell hB1 7).1; have d7 : w1.cell? ⟨w.heap.size + 1, 7, none⟩ = some (.int .i64 t) := (blk2_cell hB1 7).2; have c8 : w1.cell? ⟨w.heap.size, 8, none⟩ = some (.bool mk) := (blk2_cell hB1 8).1; have d8 : w1.cell? ⟨w.heap.size + 1, 8, none⟩ = some (.bool mk) := (blk2_cell hB1 8).2; have c9 : w1.cell? ⟨w.heap.size, 9, none⟩ = some (.bool hd) := (blk2_cell hB1 9).1; have d9 : w1.cell? ⟨w.heap.size + 1, 9, none⟩ = some (.bool hd') := (blk2_cell hB1 9).2))
                  go_ret
                  exact ⟨by simp [e7], bA.trans (hB1.mono bA.size)⟩
              · go_enter Try.func86, Try.ntmps86
                go_wp2_with (go_at_call 110; ((with_reducible refine (G.out _ bA).mono ?_); rintro e w1 ⟨rfl, hB1⟩; have c3 : w1.cell? ⟨w.heap.size, 3, none⟩ = some (.int .i64 ht) := (blk2_cell hB1 3).1; have d3 : w1.cell? ⟨w.heap.size + 1, 3, none⟩ = some (.int .i64 ht') := (blk2_cell hB1 3).2; have c4 : w1.cell? ⟨w.heap.size, 4, none⟩ = some (.int .i64 hv) := (blk2_cell hB1 4).1; have d4 : w1.cell? ⟨w.heap.size + 1, 4, none⟩ = some (.int .i64 hv') := (blk2_cell hB1 4).2; have c5 : w1.cell? ⟨w.heap.size, 5, none⟩ = some (.int .i64 hc) := (blk2_cell hB1 5).1; have d5 : w1.cell? ⟨w.heap.size + 1, 5, none⟩ = some (.int .i64 hc') := (blk2_cell hB1 5).2; have c6 : w1.cell? ⟨w.heap.size, 6, none⟩ = some (.int .i64 i) := (blk2_cell hB1 6).1; have d6 : w1.cell? ⟨w.heap.size + 1, 6, none⟩ = some (.int .i64 i) := (blk2_cell hB1 6).2; have c7 : w1.cell? ⟨w.heap.size, 7, none⟩ = some (.int .i64 t) := (blk2_cell hB1 7).1; have d7 : w1.cell? ⟨w.heap.size + 1, 7, none⟩ = some (.int .i64 t) := (blk2_cell hB1 7).2; have c8 : w1.cell? ⟨w.heap.size, 8, none⟩ = some (.bool mk) := (blk2_cell hB1 8).1; have d8 : w1.cell? ⟨w.heap.size + 1, 8, none⟩ = some (.bool mk') := (blk2_cell hB1 8).2; have c9 : w1.cell? ⟨w.heap.size, 9, none⟩ = some (.bool hd) := (blk2_cell hB1 9).1; have d9 : w1.cell? ⟨w.heap.size + 1, 9, none⟩ = some (.bool hd') := (blk2_cell hB1 9).2))
                go_ret
                exact ⟨by simp [e6], bA.trans (hB1.mono bA.size)⟩
            · go_enter Try.func86, Try.ntmps86
              go_wp2_with (go_at_call 110; ((with_reducible refine (G.out _ bA).mono ?_); rintro e w1 ⟨rfl, hB1⟩; have c3 : w1.cell? ⟨w.heap.size, 3, none⟩ = some (.int .i64 ht) := (blk2_cell hB1 3).1; have d3 : w1.cell? ⟨w.heap.size + 1, 3, none⟩ = some (.int .i64 ht') := (blk2_cell hB1 3).2; have c4 : w1.cell? ⟨w.heap.size, 4, none⟩ = some (.int .i64 hv) := (blk2_cell hB1 4).1; have d4 : w1.cell? ⟨w.heap.size + 1, 4, none⟩ = some (.int .i64 hv') := (blk2_cell hB1 4).2; have c5 : w1.cell? ⟨w.heap.size, 5, none⟩ = some (.int .i64 hc) := (blk2_cell hB1 5).1; have d5 : w1.cell? ⟨w.heap.size + 1, 5, none⟩ = some (.int .i64 hc') := (blk2_cell hB1 5).2; have c6 : w1.cell? ⟨w.heap.size, 6, none⟩ = some (.int .i64 i) := (blk2_cell hB1 6).1; have d6 : w1.cell? ⟨w.heap.size + 1, 6, none⟩ = some (.int .i64 i) := (blk2_cell hB1 6).2; have c7 : w1.cell? ⟨w.heap.size, 7, none⟩ = some (.int .i64 t) := (blk2_cell hB1 7).1; have d7 : w1.cell? ⟨w.heap.size + 1, 7, none⟩ = some (.int .i64 t') := (blk2_cell hB1 7).2; have c8 : w1.cell? ⟨w.heap.size, 8, none⟩ = some (.bool mk) := (blk2_cell hB1 8).1; have d8 : w1.cell? ⟨w.heap.size + 1, 8, none⟩ = some (.bool mk') := (blk2_cell hB1 8).2; have c9 : w1.cell? ⟨w.heap.size, 9, none⟩ = some (.bool hd) := (blk2_cell hB1 9).1; have d9 : w1.cell? ⟨w.heap.size + 1, 9, none⟩ = some (.bool hd') := (blk2_cell hB1 9).2))
              go_ret
              exact ⟨by simp [e5], bA.trans (hB1.mono bA.size)⟩
          · go_enter Try.func86, Try.ntmps86
            go_wp2_with (go_at_call 110; ((with_reducible refine (G.out _ bA).mono ?_); rintro e w1 ⟨rfl, hB1⟩; have c3 : w1.cell? ⟨w.heap.size, 3, none⟩ = some (.int .i64 ht) := (blk2_cell hB1 3).1; have d3 : w1.cell? ⟨w.heap.size + 1, 3, none⟩ = some (.int .i64 ht') := (blk2_cell hB1 3).2; have c4 : w1.cell? ⟨w.heap.size, 4, none⟩ = some (.int .i64 hv) := (blk2_cell hB1 4).1; have d4 : w1.cell? ⟨w.heap.size + 1, 4, none⟩ = some (.int .i64 hv') := (blk2_cell hB1 4).2; have c5 : w1.cell? ⟨w.heap.size, 5, none⟩ = some (.int .i64 hc) := (blk2_cell hB1 5).1; have d5 : w1.cell? ⟨w.heap.size + 1, 5, none⟩ = some (.int .i64 hc') := (blk2_cell hB1 5).2; have c6 : w1.cell? ⟨w.heap.size, 6, none⟩ = some (.int .i64 i) := (blk2_cell hB1 6).1; have d6 : w1.cell? ⟨w.heap.size + 1, 6, none⟩ = some (.int .i64 i') := (blk2_cell hB1 6).2; have c7 : w1.cell? ⟨w.heap.size, 7, none⟩ = some (.int .i64 t) := (blk2_cell hB1 7).1; have d7 : w1.cell? ⟨w.heap.size + 1, 7, none⟩ = some (.int .i64 t') := (blk2_cell hB1 7).2; have c8 : w1.cell? ⟨w.heap.size, 8, none⟩ = some (.bool mk) := (blk2_cell hB1 8).1; have d8 : w1.cell? ⟨w.heap.size + 1, 8, none⟩ = some (.bool mk') := (blk2_cell hB1 8).2; have c9 : w1.cell? ⟨w.heap.size, 9, none⟩ = some (.bool hd) := (blk2_cell hB1 9).1; have d9 : w1.cell? ⟨w.heap.size + 1, 9, none⟩ = some (.bool hd') := (blk2_cell hB1 9).2))
            go_ret
            exact ⟨by simp [e4], bA.trans (hB1.mono bA.size)⟩
    · go_enter Try.func86, Try.ntmps86
      go_wp2
      go_ret
      exact ⟨by simp [e2], bA⟩
  · go_enter Try.func86, Try.ntmps86
    go_wp2
    go_ret
    exact ⟨by simp [e1], bA⟩


end Go.Proofs.Ytdncdlbhgaehmaa

/- laderef4.SameParts, Same, by themselves. -/
namespace Go.Proofs.Ytdncdlbhgaehmaa
open Go.RowKit Go.Shelf
set_option linter.unusedVariables false
attribute [local go_sem] Oper.semAt_some wide_fn wide_round_fn
attribute [local irreducible] wpQuiet

set_option maxRecDepth 100000 in
set_option maxHeartbeats 4000000 in
theorem refSamePs18 (a1 a2 : Option Addr) (n1 n2 k1 k2 : Nat) (L M : List PL) (w : World) (h1 : HasP w a1 n1 L) (h2 : HasP w a2 n2 M) :
    Gives Try.prog 58 #[.slice a1 n1 k1, .slice a2 n2 k2] w (.bool (samePs L M)) := by
  obtain ⟨hL, hm1, hr1, hE1⟩ := h1
  obtain ⟨hM, hm2, hr2, hE2⟩ := h2
  have hc1 := hr1.2.2
  have hc2 := hr2.2.2
  have HE1 := Lib.hid hE1
  have HE2 := Lib.hid hE2
  clear hr1 hr2 hE1 hE2
  unfold Gives
  by_cases hne : n1 = n2
  · subst hne
    have HL := Lib.hid hL
    have HM := Lib.hid hM
    clear hL hM
    go_enter Try.func58, Try.ntmps58
    go_wp2
    go_loopw [5] (fun i wr => ∃ k : Nat, k ≤ n1 ∧ i = .int .i64 k ∧ samePs (L.take k) (M.take k) = true ∧ Below w.heap.size w wr) (fun i _ => n1 - (intOf i).toNat)
    case atStart => exact ⟨0, by omega, rfl, by simp [samePs], Below.refl _ _⟩
    case round =>
      obtain ⟨k, hk, rfl, ht, hB⟩ := hrel
      have HT := Lib.hid ht
      clear ht
      by_cases hlt : k < n1
      · obtain ⟨b1, o1, rfl, hb1, hx1⟩ := hc1 (by omega)
        obtain ⟨b2, o2, rfl, hb2, hx2⟩ := hc2 (by omega)
        have hkl : k < L.length := by rw [HL.out]; exact hlt
        have hkm : k < M.length := by rw [HM.out]; exact hlt
        have HS9 := Lib.hid (fun W (hW : Above wr W) => And.intro (part_at10 hb1 (bel2 hB hW) hx1 hkl) (part_at10 hb2 (bel2 hB hW) hx2 hkm))
        have HS := Lib.hid (show samePs (L.take (k + 1)) (M.take (k + 1)) = (true && sameB L[k].1 M[k].1 L[k].2 M[k].2) by rw [samePs_take hkl hkm, HT.out])
        have HN := Lib.hid (fun h => samePs_no hkl hkm h)
        have hx := HE1.out L[k] (List.getElem_mem _)
        have hy := HE2.out M[k] (List.getElem_mem _)
        have G := Lib.hid (fun W (hW : Below w.heap.size w W) => refSame_any _ _ _ _ W (hx.below hW) (hy.below hW))
        have hk0 : (0 : Int) ≤ (k : Int) := by omega
        have hk1 : (k : Int) < (n1 : Int) := by omega
        clear hx hy hx1 hx2 hc1 hc2 HE1 HE2 HT
        generalize L[k] = x at *
        generalize M[k] = y at *
        obtain ⟨p, l⟩ := x
        obtain ⟨q, m⟩ := y
        dsimp only at *
        generalize hs : sameB p q l m = c at *
        clear hs
        obtain ⟨pg, pk, pa, plen, pcap, pht, phv, phc, pi, pt, pm, ph⟩ := p
        obtain ⟨qg, qk, qa, qlen, qcap, qht, qhv, qhc, qi, qt, qm, qh⟩ := q
        dsimp only [PartC.val] at *
        cases c
        · have HN2 := Lib.hid (HN.out rfl)
          clear HN HS
          go_wp2
          refine wp_region_below (by kernel_rfl) (by kernel_rfl) ?_
          repeat (first
            | (refine BigFrame.wpQuiet_skip (by rfl) ?_; (try simp only [Act.put, List.setIfInBounds_toArray, List.set_cons_zero, List.set_cons_succ]))
            | (refine BigFrame.wpQuiet_want (by rfl) (fun K hK => ?_); apply Exists.intro; refine ⟨fun W hW => ?_, hK _ ?_⟩; (focus (have hWB : Below _ _ W := hW; obtain ⟨⟨y0, y1, y2, y3, y4, y5, y6, y7, y8, y9⟩, ⟨z0, z1, z2, z3, z4, z5, z6, z7, z8, z9⟩⟩ := HS9.out _ hW; go_simp; (first | done | with_reducible rfl | (go_at_call 86; with_reducible exact gives_above hW (G.out _ (bel2 hB hWB))) | (rw [if_neg (by omega)]; go_simp; (first | done | with_reducible rfl))))); clear hK K; (try simp only [Act.put, List.setIfInBounds_toArray, List.set_cons_zero, List.set_cons_succ])))
          refine wpQuiet_nil ?_
          intro w9 hB9
          replace hB9 : Below _ _ w9 := hB9
          go_wp2
          go_ret
          exact ⟨by rw [HN2.out]; rfl, bel2 hB hB9⟩
        · have HS2 := Lib.hid HS.out
          clear HN HS
          go_wp2
          refine wp_region_below (by kernel_rfl) (by kernel_rfl) ?_
          repeat (first
            | (refine BigFrame.wpQuiet_skip (by rfl) ?_; (try simp only [Act.put, List.setIfInBounds_toArray, List.set_cons_zero, List.set_cons_succ]))
            | (refine BigFrame.wpQuiet_want (by rfl) (fun K hK => ?_); apply Exists.intro; refine ⟨fun W hW => ?_, hK _ ?_⟩; (focus (have hWB : Below _ _ W := hW; obtain ⟨⟨y0, y1, y2, y3, y4, y5, y6, y7, y8, y9⟩, ⟨z0, z1, z2, z3, z4, z5, z6, z7, z8, z9⟩⟩ := HS9.out _ hW; go_simp; (first | done | with_reducible rfl | (go_at_call 86; with_reducible exact gives_above hW (G.out _ (bel2 hB hWB))) | (rw [if_neg (by omega)]; go_simp; (first | done | with_reducible rfl))))); clear hK K; (try simp only [Act.put, List.setIfInBounds_toArray, List.set_cons_zero, List.set_cons_succ])))
          refine wpQuiet_nil ?_
          intro w9 hB9
          replace hB9 : Below _ _ w9 := hB9
          go_wp2
          go_roundw
          case rel => exact ⟨k + 1, by omega, by go_num, HS2.out, bel2 hB hB9⟩
          case measure => simp [intOf]; omega
      · obtain rfl : k = n1 := by omega
        have HV := Lib.hid (show samePs L M = true by
          have := HT.out
          rwa [List.take_of_length_le (by rw [HL.out]; omega), List.take_of_length_le (by rw [HM.out]; omega)] at this)
        go_wp2
        go_ret
        exact ⟨by rw [HV.out]; rfl, hB⟩
  · have HV := Lib.hid (show samePs L M = false by rw [Bool.eq_false_iff]; intro h; have := samePs_len h; omega)
    go_enter Try.func58, Try.ntmps58
    go_wp2
    go_ret
    exact ⟨by rw [HV.out]; rfl, Below.refl _ _⟩

set_option maxRecDepth 100000 in
set_option maxHeartbeats 1000000 in
theorem refSameR18 (s t : Int) (a1 a2 : Option Addr) (n1 n2 k1 k2 : Nat) (L M : List PL) (w : World) (h1 : HasP w a1 n1 L) (h2 : HasP w a2 n2 M) :
    Gives Try.prog 37 #[.agg #[.int .i64 s, .slice a1 n1 k1], .agg #[.int .i64 t, .slice a2 n2 k2]] w (.bool (sameR s t L M)) := by
  have G := Lib.hid (fun W (hW : Below w.heap.size w W) => refSamePs18 a1 a2 n1 n2 k1 k2 L M W (h1.below hW) (h2.below hW))
  have hBw := bel_alloc (bel_alloc (Below.refl w.heap.size w) (.cells #[.int .i64 s, .slice a1 n1 k1] 32)) (.cells #[.int .i64 t, .slice a2 n2 k2] 32)
  clear h1 h2
  unfold Gives sameR
  by_cases e : s = t
  · subst e
    go_enter Try.func37, Try.ntmps37
    go_wp2_with (go_at_call 58; ((with_reducible refine (G.out _ hBw).mono ?_); rintro e w1 ⟨rfl, hB1⟩))
    go_ret
    exact ⟨by simp, bel2 hBw hB1⟩
  · go_enter Try.func37, Try.ntmps37
    go_wp2
    go_ret
    exact ⟨by simp [e], hBw⟩

end Go.Proofs.Ytdncdlbhgaehmaa

/- Two rows of records that were found, alike: ladelaw18.same. -/
namespace Go.Proofs.Ytdncdlbhgaehmaa
open Go.RowKit Go.Shelf
set_option linter.unusedVariables false
attribute [local go_sem] Oper.semAt_some wide_fn wide_round_fn
attribute [local irreducible] wpQuiet

theorem eqPlace18 (a b c d : Int) (w : World) : (Op.equalIn 10000 34 (.agg #[.int .i64 a, .int .i64 b]) (.agg #[.int .i64 c, .int .i64 d])).run Try.prog w = .ok (a == c && b == d) w := by
  have hS : Try.prog.underlying 34 = some (.struct (Try.prog.fieldsOf 34)) := by kernel_rfl
  rw [show (10000 : Nat) = 9999 + 1 from rfl, run_equalIn_agg w 9999 34 _ _ hS (by kernel_rfl)]
  simp only [Program.fieldsOf, Try.underlying34]
  go_simp
  by_cases h1 : a = c <;> by_cases h2 : b = d <;> simp [h1, h2]
theorem neqPlace18 (a b : Int) (w : World) : (binOp .neq 34 (.agg #[.int .i64 a, .int .i64 b]) (.agg #[.int .i64 a, .int .i64 b])).run Try.prog w = .ok (.bool false) w := by
  rw [run_neq_struct, eqPlace18]; simp
set_option maxRecDepth 100000 in
set_option maxHeartbeats 4000000 in
theorem sameF18 (a b : Option Addr) (n c1 c2 : Nat) (L M : List FV) (w : World) (hL : L.length = n) (hm : n < 1000000) (h1 : RowV w a n 4 (fvCells L)) (h2 : RowV w b n 4 (fvCells M)) (p1 : ∀ x ∈ L, HasP w x.a x.len x.L) (p2 : ∀ x ∈ M, HasP w x.a x.len x.L) (he : L.map fcore = M.map fcore) :
    Gives Try.prog 14 #[.slice a n c1, .slice b n c2] w (.bool true) := by
  have hc1 := h1.2.2
  have hc2 := h2.2.2
  have hM : M.length = n := by have := congrArg List.length he; simp only [List.length_map] at this; omega
  have HE1 := Lib.hid p1
  have HE2 := Lib.hid p2
  have HL := Lib.hid hL
  have HM := Lib.hid hM
  have HQ := Lib.hid (fun k (h1 : k < L.length) (h2 : k < M.length) => (show fcore L[k] = fcore M[k] from by
    have h : (L.map fcore)[k]? = (M.map fcore)[k]? := by rw [he]
    rw [List.getElem?_map, List.getElem?_map, List.getElem?_eq_getElem h1, List.getElem?_eq_getElem h2] at h
    exact Option.some.inj h))
  clear h1 h2 p1 p2 hL hM he
  unfold Gives
  go_enter Try.func14, Try.ntmps14
  go_wp2
  go_loopw [5] (fun i wr => ∃ k : Nat, k ≤ n ∧ i = .int .i64 k ∧ Below w.heap.size w wr) (fun i _ => n - (intOf i).toNat)
  case atStart => exact ⟨0, by omega, rfl, Below.refl _ _⟩
  case round =>
    obtain ⟨k, hk, rfl, hB⟩ := hrel
    by_cases hlt : k < n
    · obtain ⟨b1, o1, rfl, hb1, hx1⟩ := hc1 (by omega)
      obtain ⟨b2, o2, rfl, hb2, hx2⟩ := hc2 (by omega)
      have hkl : k < L.length := by rw [HL.out]; exact hlt
      have hkm : k < M.length := by rw [HM.out]; exact hlt
      have HS9 := Lib.hid (fun W (hW : Above wr W) => And.intro (fv_at4 hb1 (bel2 hB hW) hx1 hkl) (fv_at4 hb2 (bel2 hB hW) hx2 hkm))
      have hx := HE1.out L[k] (List.getElem_mem _)
      have hy := HE2.out M[k] (List.getElem_mem _)
      have hq := HQ.out k hkl hkm
      have hk0 : (0 : Int) ≤ (k : Int) := by omega
      have hk1 : (k : Int) < (n : Int) := by omega
      clear hx1 hx2 hc1 hc2 HE1 HE2
      generalize L[k] = x at *
      generalize M[k] = y at *
      obtain ⟨xq, xa, xlen, xcap, xL, xs, xt⟩ := x
      obtain ⟨yq, ya, ylen, ycap, yL, ys, yt⟩ := y
      simp only [fcore, FC.mk.injEq] at hq
      obtain ⟨rfl, hc, rfl, rfl⟩ := hq
      dsimp only at *
      have G := Lib.hid (fun W (hW : Below w.heap.size w W) => (show Gives Try.prog 37 #[.agg #[.int .i64 xq, .slice xa xlen xcap], .agg #[.int .i64 xq, .slice ya ylen ycap]] W (.bool true) from by
        have := refSameR18 xq xq xa ya xlen ylen xcap ycap xL yL W (hx.below hW) (hy.below hW)
        rwa [sameR_iff.2 ⟨rfl, hc⟩] at this))
      have hne := fun w => neqPlace18 xs xt w
      clear hx hy hc HQ
      go_wp2
      refine wp_region_below (by kernel_rfl) (by kernel_rfl) ?_
      repeat (first
        | (refine BigFrame.wpQuiet_skip (by rfl) ?_; (try simp only [Act.put, List.setIfInBounds_toArray, List.set_cons_zero, List.set_cons_succ]))
        | (refine BigFrame.wpQuiet_want (by rfl) (fun K hK => ?_); apply Exists.intro; refine ⟨fun W hW => ?_, hK _ ?_⟩; (focus (have hWB : Below _ _ W := hW; obtain ⟨⟨y0, y1, y2, y3⟩, ⟨z0, z1, z2, z3⟩⟩ := HS9.out _ hW; go_simp; (first | done | with_reducible rfl | (go_at_call 37; with_reducible exact gives_above hW (G.out _ (bel2 hB hWB))) | (rw [if_neg (by omega)]; go_simp; (first | done | with_reducible rfl))))); clear hK K; (try simp only [Act.put, List.setIfInBounds_toArray, List.set_cons_zero, List.set_cons_succ])))
      refine wpQuiet_nil ?_
      intro w9 hB9
      replace hB9 : Below _ _ w9 := hB9
      go_wp2
      go_roundw
      case rel => exact ⟨k + 1, by omega, by go_num, bel2 hB hB9⟩
      case measure => simp [intOf]; omega
    · obtain rfl : k = n := by omega
      go_wp2
      go_ret
      exact ⟨rfl, hB⟩

end Go.Proofs.Ytdncdlbhgaehmaa
