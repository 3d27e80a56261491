/- The contracts of the document's groups: Term, Entries. -/
import Derived.Test.YtfmcebmkclaafaaRef6a
import Derived.Test.YtfmcebmkclaafaaGrpMath
import Derived.Test.YtfmcebmkclaafaaFew6
namespace Go.Proofs.Ytfmcebmkclaafaa
open Go.RowKit Go.Shelf Go.Deep Go.ChangeShapes Go.WideShapes
set_option linter.unusedVariables false
attribute [local go_sem] Oper.semAt_some wide_fn wide_round_fn

theorem group_le {H : Type} {enc : TypeId × Value → H} {W : World} {d : DataW H} {ps : List MemPlace} {g : GM} {a : Option Addr} {cap : Nat}
    (h : DataW.Trod enc Try.prog W 0 (fun _ => true) true 26 (g.val a cap) d ps) : g.l.length ≤ cap := by
  obtain ⟨id, fi, te, ht, hv, hc, l⟩ := g
  replace h : DataW.Trod enc Try.prog W 0 (fun _ => true) true 26 (.agg #[.int .i64 id, .int .i64 fi, .int .i64 te, .int .i64 ht, .int .i64 hv, .int .i64 hc, .slice a l.length cap]) d ps := h
  obtain ⟨fuel, hf⟩ := h
  have ks : Try.prog.cellsOf 24 = 1 := by kernel_rfl
  simp only [Value.cells] at hf
  obtain ⟨xs, n', _, _, _, hxl, hf⟩ := DataW.trod_struct Try.underlying26 hf
  match xs, hxl with
  | [y0, y1, y2, y3, y4], _ =>
    have hen := trod_field hf 4 6 1 24 rfl ks
    rcases open_slice Try.underlying24 hen with ⟨hcs, _⟩ | ⟨ad, len', cap', _, _, _, _, hcs, _, hl, _⟩
    · simp at hcs; simp [hcs]
    · simp at hcs; obtain ⟨-, rfl, rfl⟩ := hcs; exact hl

/-- A part of a row. -/
theorem row_part {w : World} {b off : Nat} {l : List EntryC} (hb : b < w.heap.size) (hc : ∀ j (h : j < (entryCells l).length), w.cell? ⟨b, off + j, none⟩ = some (entryCells l)[j]) {k m : Nat} (hkm : k < m) (hm : m ≤ l.length) (hl : l.length < 1000000) :
    RowV w (some ⟨b, off + k * 3, none⟩) ((l.take m).drop k).length 3 (entryCells ((l.take m).drop k)) := by
  have hlen : ∀ x : List EntryC, (entryCells x).length = x.length * 3 := fun x => by
    induction x with
    | nil => rfl
    | cons e r ih => simp [entryCells] at ih ⊢; simp [EntryC.cells]; omega
  have hd : ((l.take m).drop k).length = m - k := by simp; omega
  refine ⟨by rw [hlen], by rw [hd]; simp [maxLen]; omega, fun _ => ⟨b, off + k * 3, rfl, hb, fun j hj => ?_⟩⟩
  have hsp : entryCells l = entryCells (l.take k) ++ (entryCells ((l.take m).drop k) ++ entryCells (l.drop m)) := by
    unfold entryCells
    rw [← List.flatten_append, ← List.map_append, ← List.flatten_append, ← List.map_append]
    congr 1
    have e1 : l.take m = l.take k ++ (l.take m).drop k := by
      conv => lhs; rw [← List.take_append_drop k (l.take m)]
      rw [List.take_take, Nat.min_eq_left (by omega)]
    rw [← List.append_assoc, ← e1, List.take_append_drop]
  have h9 : (entryCells (l.take k)).length = k * 3 := by rw [hlen]; simp; omega
  have hj2 : k * 3 + j < (entryCells l).length := by rw [hsp]; simp only [List.length_append]; omega
  have := hc (k * 3 + j) hj2
  rw [show off + k * 3 + j = off + (k * 3 + j) by omega, this]
  congr 1
  rw [List.getElem_of_eq hsp, List.getElem_append_right (by omega), List.getElem_append_left (by rw [h9]; omega)]
  congr 1
  omega

set_option maxRecDepth 100000 in
set_option maxHeartbeats 4000000 in
theorem refTerm_any (id fi te ht hv hc : Int) (l : List EntryC) (a : Option Addr) (cap : Nat) (i : Int) (w : World) (hg : HasG w a ⟨id, fi, te, ht, hv, hc, l⟩) (hG : isG ⟨id, fi, te, ht, hv, hc, l⟩ = true) : Gives Try.prog 28 #[.agg #[.int .i64 id, .int .i64 fi, .int .i64 te, .int .i64 ht, .int .i64 hv, .int .i64 hc, .slice a l.length cap], .int .i64 i] w (.tuple #[.int .i64 (termG ⟨id, fi, te, ht, hv, hc, l⟩ i).1, .int .i64 (termG ⟨id, fi, te, ht, hv, hc, l⟩ i).2]) := by
  have GL := Lib.hid (fun W (hB : Below w.heap.size w W) => refLast_any id fi te ht hv hc l a cap W (hg.below hB) hG)
  obtain ⟨⟨_, ⟨h1, h2⟩, _⟩, _, hd⟩ := isG_iff.1 hG
  have hm := hg.1
  have hcs := hg.2.2.2
  have HE := Lib.hid (entT_dense hd i)
  dsimp only [GM.val] at hm h1 h2 hcs HE
  have HA := Lib.hid (bel_alloc (Below.refl w.heap.size w) (.cells #[.int .i64 id, .int .i64 fi, .int .i64 te, .int .i64 ht, .int .i64 hv, .int .i64 hc, .slice a l.length cap] 26))
  clear hg hG hd
  unfold Gives termG lastG
  dsimp only
  by_cases hc1 : i < fi - 1
  · rw [if_pos hc1]
    have t1 : decide (i < fi - 1) = true := decide_eq_true hc1
    go_enter Try.func28, Try.ntmps28
    go_wp2
    go_ret2
    exact ⟨rfl, HA.out⟩
  · rw [if_neg hc1]
    have t1 : decide (i < fi - 1) = false := decide_eq_false hc1
    by_cases hc2 : i = fi - 1
    · have t2 : (i == fi - 1) = true := by rw [beq_iff_eq]; exact hc2
      by_cases hc3 : te = 0
      · have t3 : (te == 0) = true := by rw [beq_iff_eq]; exact hc3
        rw [if_pos ⟨hc2, hc3⟩]
        clear hc1 hc2 hc3
        go_enter Try.func28, Try.ntmps28
        go_wp2
        go_ret2
        exact ⟨rfl, HA.out⟩
      · have t3 : (te == 0) = false := by rw [beq_eq_false_iff_ne]; exact hc3
        rw [if_neg (fun h => hc3 h.2), if_pos hc2]
        clear hc1 hc2 hc3
        go_enter Try.func28, Try.ntmps28
        go_wp2
        go_ret2
        exact ⟨rfl, HA.out⟩
    · have t2 : (i == fi - 1) = false := by rw [beq_eq_false_iff_ne]; exact hc2
      rw [if_neg (fun h => hc2 h.1), if_neg hc2]
      by_cases hc4 : fi - 1 + (l.length : Int) < i
      · rw [if_pos hc4]
        have t4 : decide (fi - 1 + (l.length : Int) < i) = true := decide_eq_true hc4
        clear hc1 hc2 hc4
        go_enter Try.func28, Try.ntmps28
        go_wp2_with (go_at_call 26; ((with_reducible refine (GL.out _ HA.out).mono ?_); rintro e w2 ⟨rfl, hB2⟩; obtain ⟨g0, g1, g2, g3, g4, g5, g6⟩ := gbox hB2))
        go_ret2
        exact ⟨rfl, blk_below hB2⟩
      · rw [if_neg hc4]
        have t4 : decide (fi - 1 + (l.length : Int) < i) = false := decide_eq_false hc4
        obtain ⟨k, rfl, hk⟩ : ∃ k : Nat, i = fi + (k : Int) ∧ k < l.length := ⟨(i - fi).toNat, by omega, by omega⟩
        have hE := HE.out
        have hkk : (fi + (k : Int) - fi).toNat = k := by omega
        simp only [hkk] at hE
        rw [dif_pos ⟨by omega, hk⟩] at hE
        rw [hE]
        dsimp only
        obtain ⟨b, off, rfl, hb, hx⟩ := hcs (by omega)
        have HX := Lib.hid (fun W (hB : Below w.heap.size w W) => entry_at hb hB hx hk)
        have hk0 : (0 : Int) ≤ (k : Int) := by omega
        have hkl : (k : Int) < (l.length : Int) := by omega
        have s1 : fi + (k : Int) - fi = (k : Int) := by omega
        have s2 : IntKind.i64.wrap (fi + (k : Int) - fi) = (k : Int) := (IntWalk.i64_in _ (by omega)).trans s1
        clear hc1 hc2 hc4 hx hE HE hcs
        generalize l[k] = x at *
        clear hkk
        go_enter Try.func28, Try.ntmps28
        go_wp2_with (go_at_call 26; ((with_reducible refine (GL.out _ HA.out).mono ?_); rintro e w2 ⟨rfl, hB2⟩; obtain ⟨g0, g1, g2, g3, g4, g5, g6⟩ := gbox hB2; obtain ⟨d0, d1, d2⟩ := HX.out _ (blk_below hB2)))
        go_ret2
        exact ⟨by simp, blk_below hB2⟩

set_option maxRecDepth 100000 in
set_option maxHeartbeats 4000000 in
theorem refEnts_any (id fi te ht hv hc : Int) (l : List EntryC) (a : Option Addr) (cap : Nat) (lo hi : Int) (w : World) (hg : HasG w a ⟨id, fi, te, ht, hv, hc, l⟩) (hG : isG ⟨id, fi, te, ht, hv, hc, l⟩ = true) (hcap : l.length ≤ cap) (hi64 : hi ≤ 9223372036854775807) : Calls Try.prog 30 #[.agg #[.int .i64 id, .int .i64 fi, .int .i64 te, .int .i64 ht, .int .i64 hv, .int .i64 hc, .slice a l.length cap], .int .i64 lo, .int .i64 hi] w (RowPost w (entsG ⟨id, fi, te, ht, hv, hc, l⟩ lo hi).1 (entsG ⟨id, fi, te, ht, hv, hc, l⟩ lo hi).2) := by
  have GL := Lib.hid (fun W (hB : Below w.heap.size w W) => refLast_any id fi te ht hv hc l a cap W (hg.below hB) hG)
  obtain ⟨⟨_, ⟨h1, h2⟩, _⟩, _, hd⟩ := isG_iff.1 hG
  have hm := hg.1
  have hcs := hg.2.2.2
  have HD := Lib.hid (fun lo hi => btw_dense hd lo hi)
  dsimp only at hm h1 h2 hcs HD
  have HA := Lib.hid (bel_alloc (Below.refl w.heap.size w) (.cells #[.int .i64 id, .int .i64 fi, .int .i64 te, .int .i64 ht, .int .i64 hv, .int .i64 hc, .slice a l.length cap] 26))
  clear hg hG hd
  unfold entsG lastG
  dsimp only
  by_cases hc1 : hi < lo
  · rw [if_pos hc1]
    go_enter Try.func30, Try.ntmps30
    go_wp2
    go_ret2
    exact ⟨none, 0, rfl, RowV.nil _ _ _, HA.out⟩
  · rw [if_neg hc1]
    by_cases hc2 : lo < fi
    · rw [if_pos hc2]
      go_enter Try.func30, Try.ntmps30
      go_wp2
      go_ret2
      exact ⟨none, 0, rfl, RowV.nil _ _ _, HA.out⟩
    · rw [if_neg hc2]
      have s0 : IntKind.i64.wrap (hi - 1) = hi - 1 := IntWalk.i64_in _ (by omega)
      by_cases hc3 : fi - 1 + (l.length : Int) + 1 < hi
      · rw [if_pos hc3]
        have t3 : decide (fi - 1 + (l.length : Int) < hi - 1) = true := decide_eq_true (by omega)
        go_enter Try.func30, Try.ntmps30
        go_wp2_with (go_at_call 26; ((with_reducible refine (GL.out _ HA.out).mono ?_); rintro e w2 ⟨rfl, hB2⟩; obtain ⟨g0, g1, g2, g3, g4, g5, g6⟩ := gbox hB2))
        go_ret2
        exact ⟨none, 0, rfl, RowV.nil _ _ _, blk_below hB2⟩
      · rw [if_neg hc3]
        have t3 : decide (fi - 1 + (l.length : Int) < hi - 1) = false := decide_eq_false (by omega)
        obtain ⟨k, rfl⟩ : ∃ k : Nat, lo = fi + (k : Int) := ⟨(lo - fi).toNat, by omega⟩
        obtain ⟨m, rfl⟩ : ∃ m : Nat, hi = fi + (m : Int) := ⟨(hi - fi).toNat, by omega⟩
        have hml : m ≤ l.length := by omega
        have hkm : k ≤ m := by omega
        have hkz : (0 : Int) ≤ (k : Int) := by omega
        have hki : (k : Int) ≤ (m : Int) := by omega
        have hmc : (m : Int) ≤ (cap : Int) := by omega
        have s1 : IntKind.i64.wrap (fi + (k : Int) - fi) = (k : Int) := (IntWalk.i64_in _ (by omega)).trans (by omega)
        have s2 : IntKind.i64.wrap (fi + (m : Int) - fi) = (m : Int) := (IntWalk.i64_in _ (by omega)).trans (by omega)
        by_cases hc4 : k = m
        · rw [if_pos (by omega)]
          subst hc4
          clear hc1 hc2 hc3 HD hcs
          go_enter Try.func30, Try.ntmps30
          go_wp2_with (go_at_call 26; ((with_reducible refine (GL.out _ HA.out).mono ?_); rintro e w2 ⟨rfl, hB2⟩; obtain ⟨g0, g1, g2, g3, g4, g5, g6⟩ := gbox hB2))
          all_goals
            go_ret2
            exact ⟨_, _, rfl, RowV.nil _ _ _, blk_below hB2⟩
        · rw [if_neg (by omega), HD.out, show (fi + (m : Int) - 1 - fi + 1).toNat = m by omega, show (fi + (k : Int) - fi).toNat = k by omega]
          obtain ⟨b, off, rfl, hb, hx⟩ := hcs (by omega)
          have HR := Lib.hid (fun W (hB : Below w.heap.size w W) => (row_part hb hx (k := k) (m := m) (by omega) hml hm).below hB)
          have HL := Lib.hid (show ((l.take m).drop k).length = m - k by simp; omega)
          have n4 : ¬ cap = k := by omega
          clear hc1 hc2 hc3 hc4 HD hcs hx
          go_enter Try.func30, Try.ntmps30
          go_wp2_with (go_at_call 26; ((with_reducible refine (GL.out _ HA.out).mono ?_); rintro e w2 ⟨rfl, hB2⟩; obtain ⟨g0, g1, g2, g3, g4, g5, g6⟩ := gbox hB2))
          go_ret2
          exact ⟨some ⟨b, off + k * 3, none⟩, cap - k, by rw [HL.out]; simp, HR.out _ (blk_below hB2), blk_below hB2⟩

end Go.Proofs.Ytfmcebmkclaafaa
