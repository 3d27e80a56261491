/- Groups on lists alone: what a part makes of a group is a group; what is read of it. -/
import Derived.Test.YtdncdlbhgaehmaaGrpTrm
import Derived.Test.YtdncdlbhgaehmaaPartFacts
namespace Go.Proofs.Ytdncdlbhgaehmaa
open Go.RowKit Go.Shelf
set_option linter.unusedVariables false

theorem btw_dense : ∀ {l : List EntryC} {f : Int}, denseB l f = true → ∀ lo hi : Int, btw l lo hi = (l.take (hi - f + 1).toNat).drop (lo - f).toNat
  | [], _, _, lo, hi => by simp [btw]
  | e :: r, f, h, lo, hi => by
    simp only [denseB, Bool.and_eq_true, decide_eq_true_eq] at h
    obtain ⟨⟨_, he⟩, hr⟩ := h
    have ih := btw_dense hr lo hi
    have hb : btw (e :: r) lo hi = (if lo ≤ f ∧ f ≤ hi then [e] else []) ++ btw r lo hi := by
      unfold btw
      by_cases hc : lo ≤ f ∧ f ≤ hi
      · rw [if_pos hc, List.filter_cons, if_pos (by rw [he]; simp [hc.1, hc.2])]; rfl
      · rw [if_neg hc, List.filter_cons, if_neg (by rw [he]; simp; omega)]; rfl
    rw [hb, ih]
    by_cases h1 : f ≤ hi
    · obtain ⟨n, hn⟩ : ∃ n, (hi - f + 1).toNat = n + 1 := ⟨(hi - f).toNat, by omega⟩
      rw [hn, show (hi - (f + 1) + 1).toNat = n by omega, List.take_succ_cons]
      by_cases h2 : lo ≤ f
      · rw [if_pos ⟨h2, h1⟩, show (lo - f).toNat = 0 by omega, show (lo - (f + 1)).toNat = 0 by omega]; rfl
      · obtain ⟨m, hm⟩ : ∃ m, (lo - f).toNat = m + 1 := ⟨(lo - f - 1).toNat, by omega⟩
        rw [if_neg (fun h => h2 h.1), hm, show (lo - (f + 1)).toNat = m by omega]; rfl
    · rw [if_neg (fun h => h1 h.2), show (hi - f + 1).toNat = 0 by omega, show (hi - (f + 1) + 1).toNat = 0 by omega]; simp
theorem dense_take : ∀ {l : List EntryC} {f : Int} (n : Nat), denseB l f = true → denseB (l.take n) f = true
  | [], _, n, _ => by simp [denseB]
  | e :: r, f, 0, _ => rfl
  | e :: r, f, n + 1, h => by
    simp only [List.take_succ_cons, denseB, Bool.and_eq_true] at h ⊢
    exact ⟨h.1, dense_take n h.2⟩
theorem dense_drop : ∀ {l : List EntryC} {f : Int} (n : Nat), denseB l f = true → n ≤ l.length → denseB (l.drop n) (f + n) = true
  | l, f, 0, h, _ => by simpa using h
  | e :: r, f, n + 1, h, hn => by
    simp only [denseB, Bool.and_eq_true] at h
    have := dense_drop n h.2 (by simpa using hn)
    rw [List.drop_succ_cons, show f + ((n + 1 : Nat) : Int) = f + 1 + (n : Int) by push_cast; omega]
    exact this
theorem dense_app : ∀ {l m : List EntryC} {f : Int}, denseB l f = true → denseB m (f + l.length) = true → denseB (l ++ m) f = true
  | [], m, f, _, h => by simpa using h
  | e :: r, m, f, h, hm => by
    simp only [denseB, Bool.and_eq_true] at h
    simp only [List.cons_append, denseB, Bool.and_eq_true]
    exact ⟨h.1, dense_app h.2 (by rw [show f + 1 + (r.length : Int) = f + ((e :: r).length : Nat) by simp; omega]; exact hm)⟩
theorem steps_dense : ∀ {r : List EntryC} {q : Int}, 1 ≤ q → q ≤ 1099511627776 → (stepsOf (some q) r).all (stepB 1) = true → denseB r (q + 1) = true
  | [], _, _, _, _ => rfl
  | e :: r, q, h1, h2, h => by
    simp only [stepsOf, List.all_cons, Bool.and_eq_true, stepB] at h
    obtain ⟨⟨he, hw⟩, hr⟩ := h
    have hb := (entryB_bd he).1
    rw [wB_iff, IntWalk.wrap64_in _ (by omega)] at hw
    have hi : e.i = q + 1 := by omega
    simp only [denseB, Bool.and_eq_true, decide_eq_true_eq]
    refine ⟨⟨he, hi⟩, ?_⟩
    have := steps_dense hb.1 hb.2 hr
    rwa [hi] at this
theorem are_dense {l : List EntryC} (h : areB 1 l = true) : denseB l (headI l) = true := by
  cases l with
  | nil => rfl
  | cons e r =>
    simp only [areB, Bool.and_eq_true, stepsOf, List.all_cons, stepB] at h
    obtain ⟨_, ⟨he, _⟩, hr⟩ := h
    have hb := (entryB_bd he).1
    simp only [denseB, Bool.and_eq_true, decide_eq_true_eq]
    exact ⟨⟨he, rfl⟩, steps_dense hb.1 hb.2 hr⟩
theorem entT_dense {l : List EntryC} {f : Int} (h : denseB l f = true) (i : Int) : entT l i = if hk : f ≤ i ∧ (i - f).toNat < l.length then (l[(i - f).toNat]'hk.2).t else 0 := by
  unfold entT
  rw [btw_dense h]
  by_cases h1 : f ≤ i
  · rw [show (i - f + 1).toNat = (i - f).toNat + 1 by omega]
    generalize (i - f).toNat = k
    by_cases hk : k < l.length
    · rw [dif_pos ⟨h1, hk⟩, List.take_succ_eq_append_getElem hk, List.drop_left' (by simp; omega)]; rfl
    · rw [dif_neg (fun h => hk h.2), List.drop_of_length_le (by simp; omega)]; rfl
  · rw [dif_neg (fun h => h1 h.1), show (i - f + 1).toNat = 0 by omega]; simp
theorem denseB_bd {l : List EntryC} {f : Int} (h : denseB l f = true) (hl : 0 < l.length) : f + l.length - 1 ≤ 1099511627776 := by
  have := denseB_at h (k := l.length - 1) (by omega)
  have hb := (entryB_bd this.2).1
  omega
/-- What Check lets, by kinds. -/
theorem chk_zero {g : GM} {p : PartC} {pl : List EntryC} (h : chkG g p pl = 0) : isB p pl = true ∧ p.g = g.id ∧
    ((p.k = 1 ∧ g.fi ≤ headI pl ∧ headI pl ≤ lastG g + 1) ∨ p.k = 2 ∨ (p.k = 3 ∧ g.fi ≤ p.i ∧ p.i ≤ lastG g ∧ (p.t = 0 ∨ p.t = entT g.l p.i)) ∨ (p.k = 4 ∧ g.fi ≤ p.i)) := by
  unfold chkG at h
  split at h
  · cases h
  · rename_i hn
    have h1 : isB p pl = true := by
      cases hb : isB p pl
      · exact absurd (.inl hb) hn
      · rfl
    have hg : p.g = g.id := by
      by_cases hg : p.g = g.id
      · exact hg
      · exact absurd (.inr (.inr (.inr hg))) hn
    refine ⟨h1, hg, ?_⟩
    split at h
    · rename_i hk
      unfold chkA at h
      split at h
      · cases h
      · split at h
        · cases h
        · exact .inl ⟨hk, by omega, by omega⟩
    · split at h
      · rename_i hk
        unfold chkC at h
        split at h
        · cases h
        · split at h
          · cases h
          · split at h
            · cases h
            · rename_i h3
              exact .inr (.inr (.inl ⟨hk, by omega, by omega, by by_cases ht : p.t = 0; exact .inl ht; exact .inr (by by_cases hu : p.t = entT g.l p.i; exact hu; exact absurd ⟨ht, hu⟩ h3)⟩))
      · split at h
        · rename_i hk
          split at h
          · cases h
          · exact .inr (.inr (.inr ⟨hk, by omega⟩))
        · rename_i h3 h4 h5
          rcases (isB_iff p pl).1 h1 with ⟨_, h | h | h | h | h | h⟩
          · exact absurd h.1 h3
          · exact .inr (.inl h.1)
          · exact absurd h.1 h4
          · exact absurd h.1 h5
          · exact absurd (.inr (.inr (.inl h.1))) hn
          · exact absurd (.inr (.inl h.1)) hn
theorem btw_all {l : List EntryC} {f : Int} (h : denseB l f = true) (hf : 1 ≤ f ∧ f ≤ 1099511627777) (hl : l.length ≤ 100000) : btw l minI maxI = l := by
  rw [btw_dense h, show (minI - f).toNat = 0 by unfold minI; omega, List.take_of_length_le (by unfold maxI; omega)]; rfl
theorem btw_below {l : List EntryC} {f : Int} (h : denseB l f = true) (hf : 1 ≤ f ∧ f ≤ 1099511627777) (i : Int) : btw l minI (i - 1) = l.take (i - f).toNat := by
  rw [btw_dense h, show (minI - f).toNat = 0 by unfold minI; omega, show (i - 1 - f + 1).toNat = (i - f).toNat by omega]; rfl
theorem btw_above {l : List EntryC} {f : Int} (h : denseB l f = true) (hf : 1 ≤ f ∧ f ≤ 1099511627777) (hl : l.length ≤ 100000) (i : Int) : btw l i maxI = l.drop (i - f).toNat := by
  rw [btw_dense h, List.take_of_length_le (by unfold maxI; omega)]
theorem btw_none {l : List EntryC} {f : Int} (h : denseB l f = true) (hf : 1 ≤ f ∧ f ≤ 1099511627777) (i : Int) : btw l i minI = [] := by
  rw [btw_dense h, show (minI - f + 1).toNat = 0 by unfold minI; omega]; simp
theorem doG_nil {p : PartC} {pl : List EntryC} (hb : isB p pl = true) (hk : p.k = 2 ∨ p.k = 3 ∨ p.k = 4) : pl = [] := by
  rcases (isB_iff p pl).1 hb with ⟨_, h | h | h | h | h | h⟩
  · omega
  · exact h.2.2.1
  · exact h.2.2.2.1
  · exact h.2.2.2.1
  · omega
  · omega
/-- WHAT A PART MAKES OF A GROUP IS A GROUP; its mark doesn't go back. -/
theorem doG_isG {g : GM} {p : PartC} {pl : List EntryC} (hG : isG g = true) (hl : g.l.length ≤ 100000) (hpl : pl.length = p.len) : isG (doG g p pl) = true ∧ g.fi ≤ (doG g p pl).fi ∧ (doG g p pl).id = g.id ∧ (doG g p pl).l.length ≤ g.l.length + 6 := by
  by_cases hc : chkG g p pl = 0
  · obtain ⟨hb, hg, hk⟩ := chk_zero hc
    obtain ⟨⟨h1, h2, h3⟩, h4, hd⟩ := isG_iff.1 hG
    have h6 := (isB_bounds hpl hb).2.2.2.1
    unfold doG
    rw [if_neg (by omega)]
    rcases hk with ⟨hk, ha, hz⟩ | hk | ⟨hk, ha, hz, ht⟩ | ⟨hk, ha⟩
    · rw [if_pos hk]
      have hare : areB 1 pl = true := by
        rcases (isB_iff p pl).1 hb with ⟨_, h | h | h | h | h | h⟩
        · exact h.2.2.1
        all_goals omega
      rw [btw_below hd h2]
      unfold lastG at hz
      have htl : (g.l.take (headI pl - g.fi).toNat).length = (headI pl - g.fi).toNat := by rw [List.length_take]; omega
      refine ⟨isG_iff.2 ⟨⟨h1, h2, h3⟩, h4, dense_app (dense_take _ hd) ?_⟩, Int.le_refl _, rfl, by simp only [List.length_append, htl]; omega⟩
      rw [htl, show g.fi + ((headI pl - g.fi).toNat : Int) = headI pl by omega]
      exact are_dense hare
    · obtain rfl := doG_nil hb (.inl hk)
      rw [if_neg (by omega), if_pos hk]
      rw [btw_all hd h2 hl, List.append_nil]
      have hh : hardB p.ht p.hv p.hc = true := by
        rcases (isB_iff p []).1 hb with ⟨_, h | h | h | h | h | h⟩
        · omega
        · exact h.2.1
        all_goals omega
      exact ⟨isG_iff.2 ⟨⟨h1, h2, h3⟩, hh, hd⟩, Int.le_refl _, rfl, by simp⟩
    · obtain rfl := doG_nil hb (.inr (.inl hk))
      rw [if_neg (by omega), if_neg (by omega), if_pos hk]
      rw [btw_above hd h2 hl, List.append_nil]
      unfold lastG at hz
      have hpi : 1 ≤ p.i ∧ p.i ≤ 1099511627776 := by
        rcases (isB_iff p []).1 hb with ⟨_, h | h | h | h | h | h⟩
        · omega
        · omega
        · exact wB_iff.1 h.2.1
        all_goals omega
      have hdd := dense_drop (p.i + 1 - g.fi).toNat hd (by omega)
      rw [show g.fi + ((p.i + 1 - g.fi).toNat : Int) = p.i + 1 by omega] at hdd
      have hte : 0 ≤ entT g.l p.i ∧ entT g.l p.i ≤ 1099511627776 := by
        rw [entT_dense hd]
        split
        · rename_i hk2
          have := (entryB_bd (denseB_at hd hk2.2).2).2.1
          omega
        · omega
      exact ⟨isG_iff.2 ⟨⟨h1, ⟨by show 1 ≤ p.i + 1; omega, by show p.i + 1 ≤ _; omega⟩, hte⟩, h4, hdd⟩, by show g.fi ≤ p.i + 1; omega, rfl, by simp; omega⟩
    · obtain rfl := doG_nil hb (.inr (.inr hk))
      rw [if_neg (by omega), if_neg (by omega), if_neg (by omega)]
      have hpi : (1 ≤ p.i ∧ p.i ≤ 1099511627776) ∧ 1 ≤ p.t ∧ p.t ≤ 1099511627776 := by
        rcases (isB_iff p []).1 hb with ⟨_, h | h | h | h | h | h⟩
        · omega
        · omega
        · omega
        · exact ⟨wB_iff.1 h.2.1, wB_iff.1 h.2.2.1⟩
        all_goals omega
      refine ⟨isG_iff.2 ⟨⟨h1, ⟨by show 1 ≤ p.i + 1; omega, by show p.i + 1 ≤ _; omega⟩, by show 0 ≤ p.t; omega, by show p.t ≤ _; omega⟩, h4, ?_⟩, by show g.fi ≤ p.i + 1; omega, rfl, ?_⟩
      · show denseB (btw g.l (p.i + 1) (if entT g.l p.i ≠ p.t then minI else maxI) ++ []) (p.i + 1) = true
        rw [List.append_nil]
        split
        · rw [btw_none hd h2]; rfl
        · rw [btw_above hd h2 hl]
          by_cases hn : (p.i + 1 - g.fi).toNat ≤ g.l.length
          · have hdd := dense_drop (p.i + 1 - g.fi).toNat hd hn
            rwa [show g.fi + ((p.i + 1 - g.fi).toNat : Int) = p.i + 1 by omega] at hdd
          · rw [List.drop_of_length_le (by omega)]; rfl
      · show (btw g.l (p.i + 1) (if entT g.l p.i ≠ p.t then minI else maxI) ++ []).length ≤ _
        rw [List.append_nil]
        exact Nat.le_trans (btw_len _ _ _) (Nat.le_add_right _ _)
  · have : doG g p pl = g := if_pos hc
    rw [this]
    exact ⟨hG, Int.le_refl _, rfl, by omega⟩

end Go.Proofs.Ytdncdlbhgaehmaa
