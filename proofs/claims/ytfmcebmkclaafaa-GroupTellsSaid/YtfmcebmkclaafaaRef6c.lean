/- The contracts of the document's groups: below, from, At. -/
import Derived.Test.YtfmcebmkclaafaaRef6b
namespace Go.Proofs.Ytfmcebmkclaafaa
open Go.RowKit Go.Shelf Go.ChangeShapes Go.WideShapes Go.ChangeAt
set_option linter.unusedVariables false
attribute [local go_sem] Oper.semAt_some wide_fn wide_round_fn

def belL (l : List EntryC) (i : Int) : List EntryC := l.filter fun e => decide (e.i < i)
def froL (l : List EntryC) (i : Int) : List EntryC := l.filter fun e => decide (i ≤ e.i)
theorem belL_take (l : List EntryC) (i : Int) (k : Nat) (h : k < l.length) : belL (l.take (k + 1)) i = belL (l.take k) i ++ if l[k].i < i then [l[k]] else [] := by
  unfold belL
  rw [List.take_succ_eq_append_getElem h, List.filter_append]
  congr 1
  by_cases hc : l[k].i < i <;> simp [hc]
theorem froL_take (l : List EntryC) (i : Int) (k : Nat) (h : k < l.length) : froL (l.take (k + 1)) i = froL (l.take k) i ++ if i ≤ l[k].i then [l[k]] else [] := by
  unfold froL
  rw [List.take_succ_eq_append_getElem h, List.filter_append]
  congr 1
  by_cases hc : i ≤ l[k].i <;> simp [hc]
theorem belL_le (l : List EntryC) (i : Int) : (belL l i).length ≤ l.length := List.length_filter_le _ _
theorem froL_le (l : List EntryC) (i : Int) : (froL l i).length ≤ l.length := List.length_filter_le _ _
/-- Where the first entry of an index stands; -1. -/
def atM (l : List EntryC) (i : Int) : Int := if l.findIdx (fun e => e.i == i) < l.length then (l.findIdx (fun e => e.i == i) : Int) else -1
theorem atM_at {l : List EntryC} {i : Int} {k : Nat} (hk : k < l.length) (h : l[k].i = i) (hn : ∀ j (hj : j < k), (l[j]'(by omega)).i ≠ i) : atM l i = k := by
  have : l.findIdx (fun e => e.i == i) = k := (List.findIdx_eq hk).2 ⟨by simp [h], fun j hj => by simpa using hn j hj⟩
  unfold atM; rw [this, if_pos hk]
theorem atM_no {l : List EntryC} {i : Int} (hn : ∀ j (hj : j < l.length), l[j].i ≠ i) : atM l i = -1 := by
  unfold atM
  rw [if_neg]
  intro h
  have := List.findIdx_getElem (w := h)
  exact hn _ h (by simpa using this)
theorem atM_dense {l : List EntryC} {f : Int} (h : denseB l f = true) (i : Int) : atM l i = if f ≤ i ∧ i < f + l.length then i - f else -1 := by
  by_cases hc : f ≤ i ∧ i < f + l.length
  · rw [if_pos hc, atM_at (k := (i - f).toNat) (by omega) (by rw [(denseB_at h (by omega)).1]; omega) (fun j hj => by rw [(denseB_at h (by omega)).1]; omega)]
    omega
  · rw [if_neg hc]
    exact atM_no fun j hj => by rw [(denseB_at h hj).1]; omega
theorem belL_dense {l : List EntryC} {f : Int} (h : denseB l f = true) (hf : 1 ≤ f ∧ f ≤ 1099511627777) (i : Int) : belL l i = btw l minI (i - 1) := by
  unfold belL btw
  refine List.filter_congr fun e he => ?_
  obtain ⟨k, hk, rfl⟩ := List.getElem_of_mem he
  have := (denseB_at h hk).1
  have h0 : minI ≤ l[k].i := by unfold minI; omega
  simp [h0]; omega
theorem froL_dense {l : List EntryC} {f : Int} (h : denseB l f = true) (hf : 1 ≤ f ∧ f ≤ 1099511627777) (hl : l.length ≤ 100000) (i : Int) : froL l i = btw l i maxI := by
  unfold froL btw
  refine List.filter_congr fun e he => ?_
  obtain ⟨k, hk, rfl⟩ := List.getElem_of_mem he
  have := (denseB_at h hk).1
  have h0 : l[k].i ≤ maxI := by unfold maxI; omega
  simp [h0]

set_option maxRecDepth 100000 in
set_option maxHeartbeats 4000000 in
theorem refBelow_any (l : List EntryC) (a : Option Addr) (cap : Nat) (i : Int) (w : World) (hm : l.length < 1000000) (hr : RowV w a l.length 3 (entryCells l)) : Calls Try.prog 43 #[.slice a l.length cap, .int .i64 i] w fun e w' => ∃ va vc, e = .returned (.slice va (belL l i).length vc) ∧ w'.ownsRow w.heap.size 55 3 (.slice va (belL l i).length vc) (belL l i).length (entryCells (belL l i)) ∧ Below w.heap.size w w' := by
  obtain ⟨i9, hi, hz0, hz1, hz2⟩ := info_parts infoEntry
  have hcs := hr.2.2
  clear hr
  go_enter Try.func43, Try.ntmps43
  go_wp2
  go_loopw [5, 6] (fun v q wr => ∃ k : Nat, k ≤ l.length ∧ q = .int .i64 k ∧ wr.ownsRow w.heap.size 55 3 v (belL (l.take k) i).length (entryCells (belL (l.take k) i)) ∧ Below w.heap.size w wr) (fun _ q _ => l.length - (intOf q).toNat)
  case atStart => exact ⟨0, by omega, rfl, World.ownsRow_nil _ _ _ _, Below.refl _ _⟩
  case round =>
    rename_i v _
    obtain ⟨k, hk, rfl, hown, hB⟩ := hrel
    by_cases hlt : k < l.length
    · obtain ⟨b, off, rfl, hb, hx⟩ := hcs (by omega)
      obtain ⟨d0, d1, d2⟩ := entry_at hb hB hx hlt
      have hk0 : (0 : Int) ≤ (k : Int) := by omega
      have hkl : (k : Int) < (l.length : Int) := by omega
      have hXl : (belL (l.take k) i).length ≤ 1000000 := Nat.le_trans (belL_le _ _) (by rw [List.length_take]; omega)
      have HT := Lib.hid (belL_take l i k hlt)
      clear hx hcs
      generalize belL (l.take k) i = X at *
      generalize l[k] = x at *
      obtain ⟨xi, xt, xd⟩ := x
      dsimp only at *
      by_cases hc : xi < i
      · have HT2 := Lib.hid (show belL (l.take (k + 1)) i = X ++ [⟨xi, xt, xd⟩] by rw [HT.out, if_pos hc])
        have HC := Lib.hid (entryCells_snoc X ⟨xi, xt, xd⟩)
        clear HT
        go_wp2_with (at_builtin; refine wpList_append_own _ rfl _ _ 24 rfl w.heap.size 55 i9 (.agg #[.int .i64 0, .int .i64 0, .string ⟨#[]⟩]) 3 32 Try.underlying24 hi hz0 hz1 hz2 rfl (by decide) _ _ _ rfl (hown.alloc _) ⟨wr.heap.size, 0, none⟩ 1 1 [.int .i64 xi, .int .i64 xt, .string xd] rfl rfl (news_new _ _ _) (by simp [Value.oneCell']) (by unfold maxLen; omega) (by omega) (by have := hB.size; simp; omega) ?_; intro v' w3 hown3 hgrow _; have hB3 := (hB.alloc hB.size (.cells [.int .i64 xi, .int .i64 xt, .string xd].toArray 55)).grown hgrow (by have := hB.size; simp; omega) (fun k hk => by have := ownBlock_ge hown hk; omega))
        go_roundw
        case rel => exact ⟨k + 1, by omega, by go_num, by rw [HT2.out, HC.out, List.length_append]; exact hown3, hB3⟩
        case measure => simp [intOf]; omega
      · have HT2 := Lib.hid (show belL (l.take (k + 1)) i = X by rw [HT.out, if_neg hc, List.append_nil])
        clear HT
        go_wp2
        go_roundw
        case rel => exact ⟨k + 1, by omega, by go_num, by rw [HT2.out]; exact hown, hB⟩
        case measure => simp [intOf]; omega
    · obtain rfl : k = l.length := by omega
      rw [List.take_length] at hown
      obtain ⟨X, hX⟩ : ∃ X, X = belL l i := ⟨_, rfl⟩
      rw [← hX] at hown
      have HXe := Lib.hid hX
      clear hX
      obtain ⟨va, vc, rfl, -, -⟩ := rowV_own hown
      have HO := Lib.hid hown
      clear hown
      go_wp2
      go_ret
      rw [← HXe.out]
      exact ⟨va, vc, rfl, HO.out, hB⟩

set_option maxRecDepth 100000 in
set_option maxHeartbeats 4000000 in
theorem refFrom_any (l : List EntryC) (a : Option Addr) (cap : Nat) (i : Int) (w : World) (hm : l.length < 1000000) (hr : RowV w a l.length 3 (entryCells l)) : Calls Try.prog 45 #[.slice a l.length cap, .int .i64 i] w fun e w' => ∃ va vc, e = .returned (.slice va (froL l i).length vc) ∧ w'.ownsRow w.heap.size 55 3 (.slice va (froL l i).length vc) (froL l i).length (entryCells (froL l i)) ∧ Below w.heap.size w w' := by
  obtain ⟨i9, hi, hz0, hz1, hz2⟩ := info_parts infoEntry
  have hcs := hr.2.2
  clear hr
  go_enter Try.func45, Try.ntmps45
  go_wp2
  go_loopw [5, 6] (fun v q wr => ∃ k : Nat, k ≤ l.length ∧ q = .int .i64 k ∧ wr.ownsRow w.heap.size 55 3 v (froL (l.take k) i).length (entryCells (froL (l.take k) i)) ∧ Below w.heap.size w wr) (fun _ q _ => l.length - (intOf q).toNat)
  case atStart => exact ⟨0, by omega, rfl, World.ownsRow_nil _ _ _ _, Below.refl _ _⟩
  case round =>
    rename_i v _
    obtain ⟨k, hk, rfl, hown, hB⟩ := hrel
    by_cases hlt : k < l.length
    · obtain ⟨b, off, rfl, hb, hx⟩ := hcs (by omega)
      obtain ⟨d0, d1, d2⟩ := entry_at hb hB hx hlt
      have hk0 : (0 : Int) ≤ (k : Int) := by omega
      have hkl : (k : Int) < (l.length : Int) := by omega
      have hXl : (froL (l.take k) i).length ≤ 1000000 := Nat.le_trans (froL_le _ _) (by rw [List.length_take]; omega)
      have HT := Lib.hid (froL_take l i k hlt)
      clear hx hcs
      generalize froL (l.take k) i = X at *
      generalize l[k] = x at *
      obtain ⟨xi, xt, xd⟩ := x
      dsimp only at *
      by_cases hc : i ≤ xi
      · have HT2 := Lib.hid (show froL (l.take (k + 1)) i = X ++ [⟨xi, xt, xd⟩] by rw [HT.out, if_pos hc])
        have HC := Lib.hid (entryCells_snoc X ⟨xi, xt, xd⟩)
        clear HT
        go_wp2_with (at_builtin; refine wpList_append_own _ rfl _ _ 24 rfl w.heap.size 55 i9 (.agg #[.int .i64 0, .int .i64 0, .string ⟨#[]⟩]) 3 32 Try.underlying24 hi hz0 hz1 hz2 rfl (by decide) _ _ _ rfl (hown.alloc _) ⟨wr.heap.size, 0, none⟩ 1 1 [.int .i64 xi, .int .i64 xt, .string xd] rfl rfl (news_new _ _ _) (by simp [Value.oneCell']) (by unfold maxLen; omega) (by omega) (by have := hB.size; simp; omega) ?_; intro v' w3 hown3 hgrow _; have hB3 := (hB.alloc hB.size (.cells [.int .i64 xi, .int .i64 xt, .string xd].toArray 55)).grown hgrow (by have := hB.size; simp; omega) (fun k hk => by have := ownBlock_ge hown hk; omega))
        go_roundw
        case rel => exact ⟨k + 1, by omega, by go_num, by rw [HT2.out, HC.out, List.length_append]; exact hown3, hB3⟩
        case measure => simp [intOf]; omega
      · have HT2 := Lib.hid (show froL (l.take (k + 1)) i = X by rw [HT.out, if_neg hc, List.append_nil])
        clear HT
        go_wp2
        go_roundw
        case rel => exact ⟨k + 1, by omega, by go_num, by rw [HT2.out]; exact hown, hB⟩
        case measure => simp [intOf]; omega
    · obtain rfl : k = l.length := by omega
      rw [List.take_length] at hown
      obtain ⟨X, hX⟩ : ∃ X, X = froL l i := ⟨_, rfl⟩
      rw [← hX] at hown
      have HXe := Lib.hid hX
      clear hX
      obtain ⟨va, vc, rfl, -, -⟩ := rowV_own hown
      have HO := Lib.hid hown
      clear hown
      go_wp2
      go_ret
      rw [← HXe.out]
      exact ⟨va, vc, rfl, HO.out, hB⟩

set_option maxRecDepth 100000 in
set_option maxHeartbeats 4000000 in
theorem refAt_any (id fi te ht hv hc : Int) (l : List EntryC) (a : Option Addr) (cap : Nat) (i : Int) (w : World) (hg : HasG w a ⟨id, fi, te, ht, hv, hc, l⟩) : Gives Try.prog 44 #[.agg #[.int .i64 id, .int .i64 fi, .int .i64 te, .int .i64 ht, .int .i64 hv, .int .i64 hc, .slice a l.length cap], .int .i64 i] w (.int .i64 (atM l i)) := by
  have hm := hg.1
  have hcs := hg.2.2.2
  dsimp only at hm hcs
  have HA := Lib.hid (bel_alloc (Below.refl w.heap.size w) (.cells #[.int .i64 id, .int .i64 fi, .int .i64 te, .int .i64 ht, .int .i64 hv, .int .i64 hc, .slice a l.length cap] 26))
  clear hg
  unfold Gives
  go_enter Try.func44, Try.ntmps44
  go_wp2
  go_loopw [5] (fun q wr => ∃ k : Nat, k ≤ l.length ∧ q = .int .i64 k ∧ (∀ j (hj : j < l.length), j < k → l[j].i ≠ i) ∧ Below (w.alloc (.cells #[.int .i64 id, .int .i64 fi, .int .i64 te, .int .i64 ht, .int .i64 hv, .int .i64 hc, .slice a l.length cap] 26)).heap.size (w.alloc (.cells #[.int .i64 id, .int .i64 fi, .int .i64 te, .int .i64 ht, .int .i64 hv, .int .i64 hc, .slice a l.length cap] 26)) wr) (fun q _ => l.length - (intOf q).toNat)
  case atStart => exact ⟨0, by omega, rfl, fun j _ h => by omega, Below.refl _ _⟩
  case round =>
    obtain ⟨k, hk, rfl, hno, hB⟩ := hrel
    have HN := Lib.hid hno
    clear hno
    have hBw := bel2 HA.out hB
    obtain ⟨-, -, -, -, -, -, g6⟩ := gbox hB
    by_cases hlt : k < l.length
    · obtain ⟨b, off, rfl, hb, hx⟩ := hcs (by omega)
      obtain ⟨d0, d1, d2⟩ := entry_at hb hBw hx hlt
      have hk0 : (0 : Int) ≤ (k : Int) := by omega
      have hkl : (k : Int) < (l.length : Int) := by omega
      have HY := Lib.hid (show l[k].i = i → atM l i = k from fun h => atM_at hlt h fun j hj => HN.out j (by omega) hj)
      have HN2 := Lib.hid (show l[k].i ≠ i → ∀ j (hj : j < l.length), j < k + 1 → l[j].i ≠ i from fun h j hj hjk => by
        by_cases e : j = k
        · subst e; exact h
        · exact HN.out j hj (by omega))
      clear hx HN
      generalize l[k] = x at *
      obtain ⟨xi, xt, xd⟩ := x
      dsimp only at *
      by_cases hc : xi = i
      · have ht0 : (xi == i) = true := by rw [beq_iff_eq]; exact hc
        have HR := Lib.hid (HY.out hc)
        clear HY HN2 hc
        go_wp2
        go_ret
        exact ⟨by rw [HR.out]; rfl, hBw⟩
      · have ht0 : (xi == i) = false := by rw [beq_eq_false_iff_ne]; exact hc
        have HN3 := Lib.hid (HN2.out hc)
        clear HY HN2 hc
        go_wp2
        go_roundw
        case rel => exact ⟨k + 1, by omega, by go_num, HN3.out, hB⟩
        case measure => simp [intOf]; omega
    · obtain rfl : k = l.length := by omega
      have HR := Lib.hid (atM_no (l := l) (i := i) fun j hj => HN.out j hj hj)
      go_wp2
      go_ret
      exact ⟨by rw [HR.out]; rfl, hBw⟩

end Go.Proofs.Ytfmcebmkclaafaa
