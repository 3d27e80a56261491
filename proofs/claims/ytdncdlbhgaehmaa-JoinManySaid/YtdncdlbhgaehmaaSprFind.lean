/- The contracts of package sparse's find, below, from. -/
import Derived.Test.YtdncdlbhgaehmaaSprM
namespace Go.Proofs.Ytdncdlbhgaehmaa
open Go.RowKit Go.Shelf
set_option linter.unusedVariables false
attribute [local go_sem] Oper.semAt_some wide_fn wide_round_fn

def hasB (l : List EntryC) (i : Int) : Bool := (l[fnd l i]?.map fun e => e.i == i).getD false
def cmpI (a b : Int) : Int := if a < b then -1 else if b < a then 1 else 0
set_option maxHeartbeats 1000000 in
theorem cmp_any (a b : Int) (w : World) : Gives Try.prog 103 #[.int .i64 a, .int .i64 b] w (.int .i64 (cmpI a b)) := by
  unfold Gives cmpI
  by_cases h1 : a < b
  · rw [if_pos h1]
    go_enter Try.func103, Try.ntmps103
    go_wp2
    go_ret
    exact ⟨rfl, Below.refl _ _⟩
  · rw [if_neg h1]
    replace h1 : b ≤ a := by omega
    by_cases h2 : b < a
    · rw [if_pos h2]
      go_enter Try.func103, Try.ntmps103
      go_wp2
      go_ret
      exact ⟨rfl, Below.refl _ _⟩
    · rw [if_neg h2]
      replace h2 : a ≤ b := by omega
      go_enter Try.func103, Try.ntmps103
      go_wp2
      go_ret
      exact ⟨rfl, Below.refl _ _⟩
set_option maxHeartbeats 1000000 in
theorem fnd1_any (e : EntryC) (i : Int) (w : World) : Gives Try.prog 121 #[.agg #[.int .i64 e.i, .int .i64 e.t, .string e.d], .int .i64 i] w (.int .i64 (cmpI e.i i)) := by
  have GC := Lib.hid (cmp_any e.i i)
  unfold Gives
  generalize cmpI e.i i = c at *
  go_enter Try.func121, Try.ntmps121
  go_wp2_with (go_at_call 103; ((with_reducible refine (GC.out _).mono ?_); rintro e w1 ⟨rfl, hB1⟩))
  go_ret
  exact ⟨rfl, blk_below hB1⟩

set_option maxRecDepth 100000 in
set_option maxHeartbeats 4000000 in
theorem bsf_any (l : List EntryC) (a : Option Addr) (cap : Nat) (i : Int) (w : World) (hm : l.length < 1000000) (hr : RowV w a l.length 3 (entryCells l)) (hs : Ris l) : Gives Try.prog 101 #[.slice a l.length cap, .int .i64 i, .func (.func 121) #[] #[]] w (.tuple #[.int .i64 (fnd l i), .bool (hasB l i)]) := by
  have hcs := hr.2.2
  have HS := Lib.hid hs
  clear hr hs
  unfold Gives
  go_enter Try.func101, Try.ntmps101
  go_wp2
  go_loopw [9, 10] (fun q r wr => ∃ lo hi : Nat, lo ≤ hi ∧ hi ≤ l.length ∧ q = .int .i64 lo ∧ r = .int .i64 hi ∧ (∀ j (hj : j < l.length), j < lo → l[j].i < i) ∧ (∀ j (hj : j < l.length), hi ≤ j → i ≤ l[j].i) ∧ Below w.heap.size w wr) (fun q r _ => (intOf r).toNat - (intOf q).toNat)
  case atStart => exact ⟨0, l.length, by omega, by omega, rfl, rfl, fun j _ h => by omega, fun j h1 h2 => by omega, Below.refl _ _⟩
  case round =>
    obtain ⟨lo, hi, hlh, hhl, rfl, rfl, h1, h2, hB⟩ := hrel
    have H1 := Lib.hid h1
    have H2 := Lib.hid h2
    clear h1 h2
    by_cases hlt : lo < hi
    · have hlt' : (lo : Int) < (hi : Int) := by omega
      have hh9 : (hi : Int) ≤ 1000000 := by omega
      have hl0 : (0 : Int) ≤ (lo : Int) := by omega
      obtain ⟨b, off, rfl, hb, hx⟩ := hcs (by omega)
      have hml : (lo + hi) / 2 < l.length := by omega
      obtain ⟨d0, d1, d2⟩ := entry_at hb hB hx hml
      have HY := Lib.hid (show l[(lo + hi) / 2].i < i → ∀ j (hj : j < l.length), j < (lo + hi) / 2 + 1 → l[j].i < i from fun h j hj hjm => by
        by_cases e : j = (lo + hi) / 2
        · subst e; exact h
        · have := HS.out j ((lo + hi) / 2) (by omega) hml; omega)
      have HN := Lib.hid (show i ≤ l[(lo + hi) / 2].i → ∀ j (hj : j < l.length), (lo + hi) / 2 ≤ j → i ≤ l[j].i from fun h j hj hjm => by
        by_cases e : j = (lo + hi) / 2
        · subst e; exact h
        · have := HS.out ((lo + hi) / 2) j (by omega) hj; omega)
      clear hx hcs
      generalize l[(lo + hi) / 2] = x at *
      have GF := Lib.hid (fnd1_any x i)
      unfold cmpI at GF
      obtain ⟨xi, xt, xd⟩ := x
      dsimp only at *
      by_cases hc : xi < i
      · rw [if_pos hc] at GF
        have HY2 := Lib.hid (HY.out hc)
        clear HY HN hc
        go_wp2_with (go_at_call 121; ((with_reducible refine (GF.out _).mono ?_); rintro e w1 ⟨rfl, hB1⟩))
        go_roundw
        case rel => exact ⟨(lo + hi) / 2 + 1, hi, by omega, hhl, by rw [show (((lo + hi) / 2 + 1 : Nat) : Int) = ((lo : Int) + (hi : Int)) / 2 + 1 by omega], rfl, HY2.out, H2.out, bel2 hB hB1⟩
        case measure => simp [intOf]; omega
      · replace hc : i ≤ xi := by omega
        obtain ⟨c, hce, hc0⟩ : ∃ c, (if xi < i then (-1 : Int) else if i < xi then 1 else 0) = c ∧ 0 ≤ c := ⟨_, rfl, by rw [if_neg (by omega)]; split <;> omega⟩
        rw [hce] at GF
        have HN2 := Lib.hid (HN.out hc)
        clear HY HN hce hc
        go_wp2_with (go_at_call 121; ((with_reducible refine (GF.out _).mono ?_); rintro e w1 ⟨rfl, hB1⟩))
        go_roundw
        case rel => exact ⟨lo, (lo + hi) / 2, by omega, by omega, rfl, by rw [show (((lo + hi) / 2 : Nat) : Int) = ((lo : Int) + (hi : Int)) / 2 by omega], H1.out, HN2.out, bel2 hB hB1⟩
        case measure => simp [intOf]; omega
    · obtain rfl : lo = hi := by omega
      have HF := Lib.hid (fnd_eq (l := l) (i := i) (k := lo) hhl (fun j hj => H1.out j (by omega) hj) (fun j hj h => H2.out j hj h))
      by_cases hll : lo < l.length
      · obtain ⟨b, off, rfl, hb, hx⟩ := hcs (by omega)
        obtain ⟨d0, d1, d2⟩ := entry_at hb hB hx hll
        have HB := Lib.hid (show hasB l i = (l[lo].i == i) by unfold hasB; rw [HF.out, List.getElem?_eq_getElem hll]; rfl)
        have hl0 : (0 : Int) ≤ (lo : Int) := by omega
        have hl1 : (lo : Int) < (l.length : Int) := by omega
        clear hx hcs H1 H2
        generalize l[lo] = x at *
        have GF := Lib.hid (fnd1_any x i)
        unfold cmpI at GF
        obtain ⟨xi, xt, xd⟩ := x
        dsimp only at *
        by_cases hc : xi = i
        · rw [if_neg (by omega), if_neg (by omega)] at GF
          have HB2 := Lib.hid (HB.out.trans (show (xi == i) = true by rw [beq_iff_eq]; exact hc))
          clear HB hc
          go_wp2_with (go_at_call 121; ((with_reducible refine (GF.out _).mono ?_); rintro e w1 ⟨rfl, hB1⟩))
          go_ret2
          rw [HF.out, HB2.out]
          exact ⟨by simp, bel2 hB hB1⟩
        · obtain ⟨c, hce, hc0⟩ : ∃ c, (if xi < i then (-1 : Int) else if i < xi then 1 else 0) = c ∧ (c == 0) = false := ⟨_, rfl, by rw [beq_eq_false_iff_ne]; split; omega; rw [if_pos (by omega)]; omega⟩
          rw [hce] at GF
          have HB2 := Lib.hid (HB.out.trans (show (xi == i) = false by rw [beq_eq_false_iff_ne]; exact hc))
          clear HB hce hc
          go_wp2_with (go_at_call 121; ((with_reducible refine (GF.out _).mono ?_); rintro e w1 ⟨rfl, hB1⟩))
          go_ret2
          rw [HF.out, HB2.out]
          exact ⟨by simp, bel2 hB hB1⟩
      · obtain rfl : lo = l.length := by omega
        have HB := Lib.hid (show hasB l i = false by unfold hasB; rw [HF.out, List.getElem?_eq_none (Nat.le_refl _)]; rfl)
        clear hcs H1 H2
        go_wp2
        go_ret2
        rw [HF.out, HB.out]
        exact ⟨by simp, hB⟩

theorem find_any (l : List EntryC) (a : Option Addr) (cap : Nat) (i : Int) (w : World) (hm : l.length < 1000000) (hr : RowV w a l.length 3 (entryCells l)) (hs : Ris l) : Gives Try.prog 113 #[.slice a l.length cap, .int .i64 i] w (.tuple #[.int .i64 (fnd l i), .bool (hasB l i)]) := by
  have GB := Lib.hid (bsf_any l a cap i w hm hr hs)
  generalize fnd l i = k at *
  generalize hasB l i = bb at *
  clear hr hs
  unfold Gives
  go_enter Try.func113, Try.ntmps113
  go_wp2_with (go_at_call 101; ((with_reducible refine GB.out.mono ?_); rintro e w1 ⟨rfl, hB1⟩))
  go_ret2
  exact ⟨rfl, hB1⟩

def CutP (w : World) (a : Option Addr) (n : Nat) (L : List EntryC) (e : Ending) (w' : World) : Prop := ∃ va vc, e = .returned (.slice va L.length vc) ∧ RowV w' va L.length 3 (entryCells L) ∧ L.length ≤ vc ∧ Below w.heap.size w w' ∧ ∀ k, inBlkE va L.length k → inBlkE a n k

theorem rowV_take {w : World} {a : Option Addr} {l : List EntryC} (h : RowV w a l.length 3 (entryCells l)) (hl : l.length < 1000000) {k : Nat} (hk : k ≤ l.length) : RowV w a (l.take k).length 3 (entryCells (l.take k)) := by
  rcases Nat.eq_zero_or_pos k with h0 | h0
  · subst h0; rw [List.take_zero]; exact RowV.nil _ _ _
  · obtain ⟨b, off, rfl, hb, hx⟩ := h.2.2 (by omega)
    have := row_part hb hx (k := 0) (m := k) h0 hk hl
    simpa using this
theorem rowV_drop {w : World} {b off : Nat} {l : List EntryC} (h : RowV w (some ⟨b, off, none⟩) l.length 3 (entryCells l)) (hl : l.length < 1000000) {k : Nat} (hk : k < l.length) : RowV w (some ⟨b, off + k * 3, none⟩) (l.drop k).length 3 (entryCells (l.drop k)) := by
  obtain ⟨b', off', e, hb, hx⟩ := h.2.2 (by omega)
  cases e
  have := row_part hb hx (k := k) (m := l.length) hk (Nat.le_refl _) hl
  rwa [List.take_length] at this

set_option maxRecDepth 100000 in
set_option maxHeartbeats 4000000 in
theorem sbelow_any (l : List EntryC) (a : Option Addr) (cap : Nat) (i : Int) (w : World) (hm : l.length < 1000000) (hcap : l.length ≤ cap) (hr : RowV w a l.length 3 (entryCells l)) (hs : Ris l) : Calls Try.prog 91 #[.slice a l.length cap, .int .i64 i] w (CutP w a l.length (l.take (fnd l i))) := by
  have GF := Lib.hid (find_any l a cap i w hm hr hs)
  have hfl := fnd_le l i
  generalize fnd l i = k at *
  generalize hasB l i = bb at *
  have HR := Lib.hid hr
  have hk0 : (0 : Int) ≤ (k : Int) := by omega
  have hkl : (k : Int) ≤ (l.length : Int) := by omega
  have hkc : (k : Int) ≤ (cap : Int) := by omega
  have hlc : (l.length : Int) ≤ (cap : Int) := by omega
  have hcs := hr.2.2
  clear hr hs
  go_enter Try.func91, Try.ntmps91
  go_wp2_with (go_at_call 113; ((with_reducible refine GF.out.mono ?_); rintro e w1 ⟨rfl, hB1⟩))
  go_ret
  exact ⟨a, cap, by rw [List.length_take, Nat.min_eq_left hfl]; rfl, (rowV_take HR.out hm hfl).below hB1, by rw [List.length_take]; omega, hB1, fun q hq => by obtain ⟨_, o9, e9, h9, rfl⟩ := hq; exact ⟨_, o9, e9, by rw [List.length_take] at h9; omega, rfl⟩⟩

set_option maxRecDepth 100000 in
set_option maxHeartbeats 4000000 in
theorem sfrom_any (l : List EntryC) (a : Option Addr) (cap : Nat) (i : Int) (w : World) (hm : l.length < 1000000) (hcap : l.length ≤ cap) (hr : RowV w a l.length 3 (entryCells l)) (hs : Ris l) : Calls Try.prog 95 #[.slice a l.length cap, .int .i64 i] w (CutP w a l.length (l.drop (fnd l i))) := by
  have GF := Lib.hid (find_any l a cap i w hm hr hs)
  have hfl := fnd_le l i
  generalize fnd l i = k at *
  generalize hasB l i = bb at *
  have HR := Lib.hid hr
  have hk0 : (0 : Int) ≤ (k : Int) := by omega
  have hkl : (k : Int) ≤ (l.length : Int) := by omega
  have hkc : (k : Int) ≤ (cap : Int) := by omega
  have hlc : (l.length : Int) ≤ (cap : Int) := by omega
  have hcs := hr.2.2
  clear hr hs
  by_cases hkk : k < l.length
  · obtain ⟨b, off, rfl, hb, hx⟩ := hcs (by omega)
    have n4 : ¬ cap = k := by omega
    clear hcs hx
    go_enter Try.func95, Try.ntmps95
    go_wp2_with (go_at_call 113; ((with_reducible refine GF.out.mono ?_); rintro e w1 ⟨rfl, hB1⟩))
    go_ret
    refine ⟨some ⟨b, off + k * 3, none⟩, cap - k, by simp, ?_, by (try rw [List.length_drop]); omega, hB1, fun q hq => by obtain ⟨b9, o9, e9, h9, rfl⟩ := hq; cases e9; exact ⟨b, off, rfl, by omega, rfl⟩⟩
    have := (rowV_drop HR.out hm hkk).below hB1
    simpa using this
  · obtain rfl : k = l.length := by omega
    clear hcs
    go_enter Try.func95, Try.ntmps95
    go_wp2_with (go_at_call 113; ((with_reducible refine GF.out.mono ?_); rintro e w1 ⟨rfl, hB1⟩))
    all_goals
      go_ret
      exact ⟨_, _, rfl, RowV.nil _ _ _, by simp, hB1, fun q hq => by obtain ⟨_, o9, e9, h9, rfl⟩ := hq; simp at h9⟩


end Go.Proofs.Ytdncdlbhgaehmaa
