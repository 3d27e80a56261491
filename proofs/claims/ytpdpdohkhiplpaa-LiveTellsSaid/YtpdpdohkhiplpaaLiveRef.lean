/- The document's counts: In, Rounds. -/
import Derived.Test.YtpdpdohkhiplpaaVictim
import Derived.Deep.QuietTactic
import Derived.BigQuiet
namespace Go.Proofs.Ytpdpdohkhiplpaa
open Go.RowKit Go.Shelf
set_option linter.unusedVariables false
attribute [local go_sem] Oper.semAt_some wide_fn wide_round_fn

theorem infoSpot : (Try.prog.info? 33).map (fun i => (i.zero, i.size, i.bytes)) = some (some (.agg #[.int .i64 0, .int .i64 0, .int .i64 0, .int .i64 0]), 4, 32) := by kernel_rfl

set_option maxRecDepth 100000 in
set_option maxHeartbeats 1000000 in
theorem refIn_any (l : List SpotC) (z : Int) (a : Option Addr) (len cap : Nat) (hl : l.length = len) (hm : len < 1000000) (w : World) (h : RowV w a len 4 (spotCells l)) :
    GivesRow Try.prog 13 #[.slice a len cap, .int .i64 z] w 33 4 (cnt l z) (spotCells (inL l z)) := by
  obtain ⟨hlen, hml, hcs⟩ := h
  obtain ⟨i0, hi, hz0, hz1, hz2⟩ := info_parts infoSpot
  unfold GivesRow
  go_enter Try.func13, Try.ntmps13
  go_wp2
  go_loopw [5, 6] (fun v q wr => ∃ k : Nat, k ≤ len ∧ q = .int .i64 k ∧ wr.ownsRow w.heap.size 33 4 v (cnt (l.take k) z) (spotCells (inL (l.take k) z)) ∧ Below w.heap.size w wr) (fun _ q _ => len - (intOf q).toNat)
  case atStart => exact ⟨0, by omega, rfl, World.ownsRow_nil _ _ _ _, Below.refl _ _⟩
  case round =>
    obtain ⟨k, hk, rfl, hrow, hB⟩ := hrel
    by_cases hlt : k < len
    · obtain ⟨b, off, rfl, hb, hc⟩ := hcs (by omega)
      have hkl : k < l.length := by omega
      obtain ⟨c0, c1, c2, c3⟩ := spot_at hb hB hc hkl
      have HI := Lib.hid (inL_take l z k hkl)
      have HC := Lib.hid (cnt_take l z k hkl)
      have hcm : cnt (l.take k) z ≤ k := Nat.le_trans (cnt_le _ _) (by simp; omega)
      generalize l[k] = f at *
      by_cases he : f.s = z
      · rw [if_pos he] at HI HC
        have t0 : (f.s == z) = true := by rw [beq_iff_eq]; exact he
        have HE := Lib.hid he
        clear he
        generalize cnt (l.take k) z = m at *
        generalize inL (l.take k) z = L at *
        go_wp2_with (at_builtin; refine wpList_append_own _ rfl _ _ 22 rfl w.heap.size 33 i0 (.agg #[.int .i64 0, .int .i64 0, .int .i64 0, .int .i64 0]) 4 32 Try.underlying22 hi hz0 hz1 hz2 rfl (by decide) _ _ _ rfl (hrow.alloc _) ⟨wr.heap.size, 0, none⟩ 1 1 f.cells rfl rfl (news_new _ _ _) (by simp [Value.oneCell', SpotC.cells]) (by unfold maxLen; omega) (by omega) (by have := hB.size; simp; omega) ?_; intro v' w2 hown' hgrow _)
        have hB2 : Below w.heap.size w w2 := (bel_alloc hB _).grown hgrow (by have := hB.size; simp; omega) (fun g e => ownBlock_ge hrow e)
        exact ⟨⟨k + 1, by omega, by go_num, by rw [HI.out, HC.out, spotCells_snoc]; exact hown', hB2⟩, by simp [intOf]; omega⟩
      · rw [if_neg he] at HI HC
        have t0 : (f.s == z) = false := by rw [beq_eq_false_iff_ne]; exact he
        have HE := Lib.hid he
        clear he
        generalize cnt (l.take k) z = m at *
        generalize inL (l.take k) z = L at *
        go_wp2
        exact ⟨⟨k + 1, by omega, by go_num, by rw [HI.out, HC.out, List.append_nil]; exact hrow, hB⟩, by simp [intOf]; omega⟩
    · obtain rfl : k = len := by omega
      rw [List.take_of_length_le (by omega)] at hrow
      go_wp2
      go_ret
      exact ⟨_, rfl, hrow, hB⟩

set_option maxRecDepth 100000 in
set_option maxHeartbeats 1000000 in
theorem refRounds_any (l : List SpotC) (zs : List Int) (a b : Option Addr) (len cap len2 cap2 : Nat) (hl : l.length = len) (hm : len < 1000000) (hm2 : len2 < 1000000)
    (w : World) (h : RowV w a len 4 (spotCells l)) (h2 : RowI .i64 w b len2 zs) : Gives Try.prog 23 #[.slice b len2 cap2, .slice a len cap] w (.int .i64 (roundsB zs l)) := by
  have HIn := Lib.hid (fun (z : Int) (w1 : World) (hB : Below w.heap.size w w1) => refIn_any l z a len cap hl hm w1 (h.below hB))
  obtain ⟨hzl, -, -, hcz⟩ := h2
  obtain ⟨f, hf⟩ : ∃ f : Nat → Nat, ∀ i, f i = cnt l (zs.getD i 0) := ⟨_, fun _ => rfl⟩
  unfold roundsB
  rw [show (fun i => cnt l (zs.getD i 0)) = f from funext fun i => (hf i).symm, hzl]
  have HF := Lib.hid hf
  clear hf
  unfold Gives
  go_enter Try.func23, Try.ntmps23
  go_wp2
  go_loopw [5, 6] (fun n q wr => ∃ k : Nat, (k + 1 ≤ len2 ∨ k = 0) ∧ q = .int .i64 k ∧ n = .int .i64 (back f k) ∧ Below w.heap.size w wr) (fun _ q _ => len2 - (intOf q).toNat)
  case atStart => exact ⟨0, .inr rfl, rfl, rfl, Below.refl _ _⟩
  case round =>
    obtain ⟨k, hk, rfl, rfl, hB⟩ := hrel
    by_cases hlt : k + 1 < len2
    · obtain ⟨bb, off, rfl, hb, hc⟩ := hcz (by omega)
      have hkl : k < zs.length := by omega
      have hcell := (hB.cell (p := ⟨bb, off + k, none⟩) hb).trans (hc k hkl)
      have hfk := HF.out k
      have HFK := Lib.hid (show f k = cnt l zs[k] by rw [hfk]; simp [List.getD, List.getElem?_eq_getElem hkl])
      have hlt' : (k : Int) + 1 < (len2 : Int) := by omega
      have HBK := Lib.hid (show back f (k + 1) = if f k = 0 then back f k else k + 1 from rfl)
      clear hfk hk
      generalize zs[k] = z at *
      have G := Lib.hid (HIn.out z wr hB)
      generalize back f k = m at *
      by_cases h0 : f k = 0
      · rw [if_pos h0] at HBK
        have hc0 : cnt l z = 0 := by rw [← HFK.out]; exact h0
        rw [hc0] at G
        clear h0 hc0
        go_wp2_with (go_at_call 13; ((with_reducible refine (G.out).mono ?_); rintro e w2 ⟨v, rfl, hown, hB2⟩; obtain ⟨a2, c2, rfl, hn2, -⟩ := rowV_own hown; clear hown))
        exact ⟨⟨k + 1, .inl (by omega), by go_num, by rw [HBK.out], hB.trans (hB2.mono hB.size)⟩, by simp [intOf]; omega⟩
      · rw [if_neg h0] at HBK
        have hc0 : 0 < cnt l z := by rw [← HFK.out]; omega
        clear h0
        generalize cnt l z = c at *
        go_wp2_with (go_at_call 13; ((with_reducible refine (G.out).mono ?_); rintro e w2 ⟨v, rfl, hown, hB2⟩; obtain ⟨a2, c2, rfl, hn2, -⟩ := rowV_own hown; clear hown))
        exact ⟨⟨k + 1, .inl (by omega), by go_num, by rw [HBK.out]; go_num, hB.trans (hB2.mono hB.size)⟩, by simp [intOf]; omega⟩
    · have HK := Lib.hid (show k = len2 - 1 by omega)
      have hge : (len2 : Int) ≤ (k : Int) + 1 := by omega
      have hkm : k < 1000000 := by omega
      clear hk
      go_wp2
      go_ret
      exact ⟨by rw [HK.out]; rfl, hB⟩

end Go.Proofs.Ytpdpdohkhiplpaa
