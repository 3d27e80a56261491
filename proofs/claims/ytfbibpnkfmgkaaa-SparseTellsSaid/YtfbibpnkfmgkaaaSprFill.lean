/- The document's way to put entries where there are none yet, on lists alone: the same as what is put together in rising order. -/
import Derived.Test.YtfbibpnkfmgkaaaSprM
namespace Go.Proofs.Ytfbibpnkfmgkaaa
open Go.RowKit Go.Shelf
set_option linter.unusedVariables false

def ins (L : List EntryC) (e : EntryC) : List EntryC := belL L e.i ++ [e] ++ froL L e.i
/-- One entry. -/
def fill1 (f : Int) (L : List EntryC) (e : EntryC) : List EntryC := if e.i < f ∨ 0 ≤ atM L e.i then L else ins L e
def fillL (f : Int) (L pl : List EntryC) : List EntryC := pl.foldl (fill1 f) L
theorem fillL_take (f : Int) (L pl : List EntryC) (k : Nat) (h : k < pl.length) : fillL f L (pl.take (k + 1)) = fill1 f (fillL f L (pl.take k)) pl[k] := by
  unfold fillL; rw [List.take_succ_eq_append_getElem h, List.foldl_append]; rfl
theorem bel_fro_len : ∀ (L : List EntryC) (i : Int), (belL L i).length + (froL L i).length = L.length
  | [], _ => rfl
  | e :: r, i => by
    have h9 := bel_fro_len r i
    unfold belL froL at *
    by_cases h : e.i < i
    · have h2 : ¬ i ≤ e.i := by omega
      simp only [List.filter_cons, h, h2, decide_true, decide_false, if_true, List.length_cons, Bool.false_eq_true, if_false]; omega
    · have h2 : i ≤ e.i := by omega
      simp only [List.filter_cons, h, h2, decide_true, decide_false, if_true, List.length_cons, Bool.false_eq_true, if_false]; omega
theorem ins_len (L : List EntryC) (e : EntryC) (h : ∀ x ∈ L, x.i ≠ e.i) : (ins L e).length = L.length + 1 := by
  have h1 := bel_fro_len L e.i
  unfold ins
  simp only [List.length_append, List.length_cons, List.length_nil]
  omega
theorem ins_len_le (L : List EntryC) (e : EntryC) : (ins L e).length ≤ 2 * L.length + 1 := by
  have h1 := belL_le L e.i
  have h2 := froL_le L e.i
  unfold ins
  simp only [List.length_append, List.length_cons, List.length_nil]
  omega
theorem atM_neg {L : List EntryC} {i : Int} : ¬ 0 ≤ atM L i ↔ ∀ x ∈ L, x.i ≠ i := by
  constructor
  · intro h x hx e
    refine h ?_
    unfold atM
    rw [if_pos (List.findIdx_lt_length_of_exists ⟨x, hx, by simp [e]⟩)]
    omega
  · intro h h0
    rw [atM_no fun j hj => h _ (List.getElem_mem hj)] at h0
    omega
theorem fill1_len (f : Int) (L : List EntryC) (e : EntryC) : (fill1 f L e).length ≤ L.length + 1 := by
  unfold fill1
  by_cases h : e.i < f ∨ 0 ≤ atM L e.i
  · rw [if_pos h]; omega
  · rw [if_neg h, ins_len L e (atM_neg.1 fun h0 => h (.inr h0))]; omega
theorem fillL_len (f : Int) (L pl : List EntryC) (k : Nat) : (fillL f L (pl.take k)).length ≤ L.length + k := by
  induction k with
  | zero => simp [fillL]
  | succ k ih =>
    by_cases h : k < pl.length
    · rw [fillL_take f L pl k h]
      have := fill1_len f (fillL f L (pl.take k)) pl[k]
      omega
    · rw [List.take_of_length_le (by omega)]
      rw [List.take_of_length_le (by omega)] at ih
      omega
theorem ins_mem {L : List EntryC} {e x : EntryC} : x ∈ ins L e ↔ x = e ∨ x ∈ L := by
  unfold ins belL froL
  simp only [List.mem_append, List.mem_filter, List.mem_singleton, decide_eq_true_eq]
  constructor
  · rintro ((h | h) | h)
    · exact .inr h.1
    · exact .inl h
    · exact .inr h.1
  · rintro (h | h)
    · exact .inl (.inr h)
    · by_cases hc : x.i < e.i
      · exact .inl (.inl ⟨h, hc⟩)
      · exact .inr ⟨h, by omega⟩
theorem ins_pw {L : List EntryC} {e : EntryC} (h : Pw L) (hn : ∀ x ∈ L, x.i ≠ e.i) : Pw (ins L e) := by
  unfold ins belL froL
  refine List.pairwise_append.2 ⟨List.pairwise_append.2 ⟨h.sublist List.filter_sublist, List.pairwise_singleton _ _, fun x hx y hy => ?_⟩, h.sublist List.filter_sublist, fun x hx y hy => ?_⟩
  · rw [List.mem_filter] at hx; rw [List.mem_singleton] at hy; subst hy; simpa using hx.2
  · rw [List.mem_filter] at hy
    have hy2 : e.i ≤ y.i := by simpa using hy.2
    have hy3 := hn y hy.1
    rcases List.mem_append.1 hx with hx | hx
    · rw [List.mem_filter] at hx
      have : x.i < e.i := by simpa using hx.2
      omega
    · rw [List.mem_singleton] at hx; subst hx; omega
/-- What is in it. -/
theorem fillL_spec {f : Int} {L pl : List EntryC} (hL : Pw L) (hp : Pw pl) : ∀ k, k ≤ pl.length → Pw (fillL f L (pl.take k)) ∧ ∀ x, x ∈ fillL f L (pl.take k) ↔ x ∈ L ∨ (x ∈ pl.take k ∧ f ≤ x.i ∧ ∀ y ∈ L, y.i ≠ x.i)
  | 0, _ => ⟨hL, fun x => by simp [fillL]⟩
  | k + 1, hk => by
    obtain ⟨h1, h2⟩ := fillL_spec hL hp k (by omega)
    have hlt : k < pl.length := by omega
    have hbe : ∀ x ∈ pl.take k, x.i < pl[k].i := fun x hx => by
      obtain ⟨j, hj, rfl⟩ := List.getElem_of_mem hx
      rw [List.length_take] at hj
      rw [List.getElem_take]
      exact List.pairwise_iff_getElem.1 hp j k (by omega) hlt (by omega)
    rw [fillL_take f L pl k hlt, List.take_succ_eq_append_getElem hlt]
    unfold fill1
    by_cases hc : pl[k].i < f ∨ 0 ≤ atM (fillL f L (pl.take k)) pl[k].i
    · rw [if_pos hc]
      refine ⟨h1, fun x => ?_⟩
      rw [h2 x]
      constructor
      · rintro (h | h)
        · exact .inl h
        · exact .inr ⟨List.mem_append_left _ h.1, h.2⟩
      · rintro (h | ⟨h, h3, h4⟩)
        · exact .inl h
        · rcases List.mem_append.1 h with h | h
          · exact .inr ⟨h, h3, h4⟩
          · rw [List.mem_singleton] at h
            subst h
            rcases hc with hc | hc
            · omega
            · exfalso
              refine atM_neg.2 (fun y hy e => ?_) hc
              rcases (h2 y).1 hy with h9 | h9
              · exact h4 y h9 e
              · have := hbe y h9.1; omega
    · rw [if_neg hc]
      have hn := atM_neg.1 fun h0 => hc (.inr h0)
      refine ⟨ins_pw h1 hn, fun x => ?_⟩
      rw [ins_mem, h2 x]
      constructor
      · rintro (h | h | h)
        · subst h
          exact .inr ⟨List.mem_append_right _ (by simp), by omega, fun y hy => hn y ((h2 y).2 (.inl hy))⟩
        · exact .inl h
        · exact .inr ⟨List.mem_append_left _ h.1, h.2⟩
      · rintro (h | ⟨h, h3, h4⟩)
        · exact .inr (.inl h)
        · rcases List.mem_append.1 h with h | h
          · exact .inr (.inr ⟨h, h3, h4⟩)
          · exact .inl (List.mem_singleton.1 h)
theorem mrg_mem_iff {a b : List EntryC} (ha : Pw a) (hb : Pw b) {e : EntryC} : e ∈ mrg a b ↔ e ∈ a ∨ (e ∈ b ∧ ∀ y ∈ a, y.i ≠ e.i) := by
  constructor
  · intro h
    by_cases h1 : e ∈ a
    · exact .inl h1
    · refine .inr ⟨(mrg_mem h).resolve_left h1, fun y hy he => h1 ?_⟩
      have hp := mrg_pw ha hb
      obtain ⟨j, hj, e1⟩ := List.getElem_of_mem h
      obtain ⟨k, hk, e2⟩ := List.getElem_of_mem (mrg_left (b := b) hy)
      have : j = k := by
        rcases Nat.lt_trichotomy j k with h9 | h9 | h9
        · have := List.pairwise_iff_getElem.1 hp j k hj hk h9; rw [e1, e2] at this; omega
        · exact h9
        · have := List.pairwise_iff_getElem.1 hp k j hk hj h9; rw [e1, e2] at this; omega
      subst this
      rw [← e1, e2]; exact hy
  · rintro (h | ⟨h, hn⟩)
    · exact mrg_left h
    · obtain ⟨x, h1, h2, h3⟩ := mrg_right (a := a) h
      rcases h3 with rfl | h3
      · exact h1
      · exact absurd h2 (hn x h3)
/-- THE SAME. -/
theorem fill_mrg {f : Int} {L pl : List EntryC} (hL : Pw L) (hp : Pw pl) : fillL f L pl = mrg L (pl.drop (fnd pl f)) := by
  have h := fillL_spec (f := f) hL hp pl.length (Nat.le_refl _)
  rw [List.take_length] at h
  have hd : Pw (pl.drop (fnd pl f)) := hp.sublist (List.drop_sublist _ _)
  refine pw_ext h.1 (mrg_pw hL hd) fun e => ?_
  rw [h.2 e, mrg_mem_iff hL hd, fro_mem (ris_pw.2 hp)]
  constructor
  · rintro (h | ⟨h1, h2, h3⟩)
    · exact .inl h
    · exact .inr ⟨⟨h1, h2⟩, h3⟩
  · rintro (h | ⟨⟨h1, h2⟩, h3⟩)
    · exact .inl h
    · exact .inr ⟨h1, h2, h3⟩
/-- The term of an index. -/
theorem entT_at {l : List EntryC} (hr : Ris l) {i : Int} : (0 ≤ atM l i → ∃ (q : Nat) (hq : q < l.length), atM l i = q ∧ l[q].i = i ∧ entT l i = l[q].t) ∧ (¬ 0 ≤ atM l i → entT l i = 0) := by
  constructor
  · intro h
    have hlt : l.findIdx (fun e => e.i == i) < l.length := by
      by_cases hc : l.findIdx (fun e => e.i == i) < l.length
      · exact hc
      · unfold atM at h; rw [if_neg hc] at h; omega
    refine ⟨_, hlt, if_pos hlt, by simpa using List.findIdx_getElem (p := fun e : EntryC => e.i == i) (w := hlt), ?_⟩
    have he : (l[l.findIdx (fun e => e.i == i)]'hlt).i = i := by simpa using List.findIdx_getElem (p := fun e : EntryC => e.i == i) (w := hlt)
    generalize l.findIdx (fun e => e.i == i) = q at *
    unfold entT
    rw [btw_split l i i q hlt (by omega) (by omega)]
    rw [show btw (l.take q) i i = [] from ?_]
    · rfl
    · unfold btw
      rw [List.filter_eq_nil_iff]
      intro x hx
      obtain ⟨j, hj, rfl⟩ := List.getElem_of_mem hx
      rw [List.length_take] at hj
      have := hr j q (by omega) hlt
      rw [List.getElem_take]
      simp; omega
  · intro h
    have hn := atM_neg.1 h
    unfold entT
    rw [show btw l i i = [] from ?_]
    · rfl
    · unfold btw
      rw [List.filter_eq_nil_iff]
      intro x hx
      have := hn x hx
      simp; omega

end Go.Proofs.Ytfbibpnkfmgkaaa
