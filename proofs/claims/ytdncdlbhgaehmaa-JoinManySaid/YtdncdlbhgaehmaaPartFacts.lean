/- What a well-formed part's numbers are: bounds. -/
import Derived.Test.YtdncdlbhgaehmaaPartBytes
namespace Go.Proofs.Ytdncdlbhgaehmaa
open Go.RowKit Go.Shelf
set_option linter.unusedVariables false
attribute [local go_sem] Oper.semAt_some wide_fn wide_round_fn

theorem wB_bd {n lo hi : Int} (h : wB n lo hi = true) : lo ≤ n ∧ n ≤ hi := wB_iff.1 h
theorem hardB_bd {t v c : Int} (h : hardB t v c = true) : (0 ≤ t ∧ t ≤ 1099511627776) ∧ (0 ≤ v ∧ v ≤ 1000) ∧ (0 ≤ c ∧ c ≤ 1099511627776) := by
  simp only [hardB, Bool.and_eq_true] at h
  exact ⟨wB_bd h.1, wB_bd h.2.1, wB_bd h.2.2⟩
theorem entryB_bd {e : EntryC} (h : entryB e = true) : (1 ≤ e.i ∧ e.i ≤ 1099511627776) ∧ (1 ≤ e.t ∧ e.t ≤ 1099511627776) ∧ e.d.size ≤ 40 := by
  simp only [entryB, Bool.and_eq_true, decide_eq_true_eq] at h
  exact ⟨wB_bd h.1, wB_bd h.2.1, h.2.2⟩
theorem steps_fst (l : List EntryC) : ∀ p, (stepsOf p l).map (·.1) = l := by
  induction l with
  | nil => intro p; cases p <;> rfl
  | cons x r ih => intro p; cases p <;> simp [stepsOf, ih]
theorem areB_bd {m : Int} {l : List EntryC} (h : areB m l = true) : l.length ≤ 6 ∧ ∀ e ∈ l, entryB e = true := by
  simp only [areB, Bool.and_eq_true, decide_eq_true_eq, List.all_eq_true] at h
  refine ⟨h.1, fun e he => ?_⟩
  rw [← steps_fst l none] at he
  obtain ⟨q, hq, rfl⟩ := List.mem_map.1 he
  have := h.2 q hq
  simp only [stepB, Bool.and_eq_true] at this
  exact this.1
theorem sameB_iff {p q : PartC} {l m : List EntryC} : sameB p q l m = true ↔ p.g = q.g ∧ p.k = q.k ∧ l = m ∧ (p.ht = q.ht ∧ p.hv = q.hv ∧ p.hc = q.hc) ∧ p.i = q.i ∧ p.t = q.t ∧ p.m = q.m ∧ p.h = q.h := by
  simp [sameB]

/-- What isB says of each kind. -/
theorem isB_iff (p : PartC) (l : List EntryC) : isB p l = true ↔ (0 ≤ p.g ∧ p.g ≤ 999) ∧
    ((p.k = 1 ∧ p.len ≠ 0 ∧ areB 1 l = true ∧ p.ht = 0 ∧ p.hv = 0 ∧ p.hc = 0 ∧ p.i = 0 ∧ p.t = 0 ∧ p.m = false ∧ p.h = false) ∨
     (p.k = 2 ∧ hardB p.ht p.hv p.hc = true ∧ l = [] ∧ p.i = 0 ∧ p.t = 0 ∧ p.m = false ∧ p.h = false) ∨
     (p.k = 3 ∧ wB p.i 1 1099511627776 = true ∧ (wB p.t 1 1099511627776 = true ∨ p.t = 0) ∧ l = [] ∧ p.ht = 0 ∧ p.hv = 0 ∧ p.hc = 0 ∧ p.m = false ∧ p.h = false) ∨
     (p.k = 4 ∧ wB p.i 1 1099511627776 = true ∧ wB p.t 1 1099511627776 = true ∧ l = [] ∧ p.ht = 0 ∧ p.hv = 0 ∧ p.hc = 0 ∧ p.m = false ∧ p.h = false) ∨
     (p.k = 5 ∧ l = [] ∧ p.ht = 0 ∧ p.hv = 0 ∧ p.hc = 0 ∧ p.i = 0 ∧ p.t = 0 ∧ p.m = false ∧ p.h = false) ∨
     (p.k = 6 ∧ isFwdB p l = true ∧ (p.m = false → p.i = 0 ∧ p.t = 0) ∧ (p.h = false → p.ht = 0 ∧ p.hv = 0 ∧ p.hc = 0))) := by
  obtain ⟨g, k, a, len, cap, ht, hv, hc, i, t, m, h⟩ := p
  unfold isB
  simp only [Bool.and_eq_true, sameB_iff, wB_iff]
  by_cases h1 : k = 1
  · subst h1; simp [okB, hasC, hasL]; grind
  by_cases h2 : k = 2
  · subst h2; simp [okB, hasC, hasL]; grind
  by_cases h3 : k = 3
  · subst h3; simp [okB, hasC, hasL, wB_iff]; grind
  by_cases h4 : k = 4
  · subst h4; simp [okB, hasC, hasL, wB_iff]; grind
  by_cases h5 : k = 5
  · subst h5; simp [okB, hasC, hasL]; grind
  by_cases h6 : k = 6
  · subst h6; cases m <;> cases h <;> simp [okB, hasC, hasL, forwardC] <;> grind
  simp [okB, h1, h2, h3, h4, h5, h6]

theorem text_len (k : Int) (l : List EntryC) (h : ∀ e ∈ l, e.d.size ≤ 40) : ((l.map (textOf k)).flatMap fun s => s.data.toList).length ≤ 67 * l.length := by
  induction l with
  | nil => simp
  | cons e r ih =>
    have h1 := ih fun x hx => h x (List.mem_cons_of_mem _ hx)
    have h2 := h e List.mem_cons_self
    have a1 := sevL_len e.i.toNat; have a2 := sevL_len e.t.toNat; have a3 := sevL_len e.d.size
    have h3 : (textOf k e).data.toList.length ≤ 67 := by
      have hs : (textOf k e).data.toList.length = (textOf k e).size := by simp
      rw [hs]
      unfold textOf
      split
      · simp only [ByteArray.size_append, textS, putS]
        show (sevL e.i.toNat).toArray.size + ((sevL e.t.toNat).toArray.size + ((sevL e.d.size).toArray.size + e.d.size)) ≤ 67
        simp only [List.size_toArray]; omega
      · simp only [ByteArray.size_append, textS, putS]
        show (sevL e.t.toNat).toArray.size + ((sevL e.d.size).toArray.size + e.d.size) ≤ 67
        simp only [List.size_toArray]; omega
    simp only [List.map_cons, List.flatMap_cons, List.length_append, List.length_cons] at *
    omega
/-- The bounds that Bytes asks. -/
theorem isB_bounds {p : PartC} {l : List EntryC} (hl : l.length = p.len) (h : isB p l = true) : PartR p ∧ (∀ e ∈ l, entryR e) ∧ ((l.map (textOf p.k)).flatMap fun s => s.data.toList).length ≤ 1000000 ∧ p.len ≤ 6 ∧ ∀ e ∈ l, entryB e = true := by
  obtain ⟨hg, h⟩ := (isB_iff p l).1 h
  have key : (p.ht < 9223372036854775808 ∧ p.hv < 9223372036854775808 ∧ p.hc < 9223372036854775808 ∧ p.i < 9223372036854775808 ∧ p.t < 9223372036854775808) ∧ l.length ≤ 6 ∧ ∀ e ∈ l, entryB e = true := by
    rcases h with h | h | h | h | h | h
    · obtain ⟨_, _, ha, h1, h2, h3, h4, h5, _⟩ := h
      exact ⟨by omega, areB_bd ha⟩
    · obtain ⟨_, hh, rfl, h4, h5, _⟩ := h
      have := hardB_bd hh
      exact ⟨by omega, by simp, by simp⟩
    · obtain ⟨_, hi, ht, rfl, h1, h2, h3, _⟩ := h
      have := wB_bd hi
      have : p.t < 9223372036854775808 := by rcases ht with ht | ht; have := wB_bd ht; omega; omega
      exact ⟨by omega, by simp, by simp⟩
    · obtain ⟨_, hi, ht, rfl, h1, h2, h3, _⟩ := h
      have := wB_bd hi; have := wB_bd ht
      exact ⟨by omega, by simp, by simp⟩
    · obtain ⟨_, rfl, h1, h2, h3, h4, h5, _⟩ := h
      exact ⟨by omega, by simp, by simp⟩
    · obtain ⟨_, hf, hm, hh⟩ := h
      simp only [isFwdB, Bool.and_eq_true, Bool.or_eq_true, Bool.not_eq_true'] at hf
      obtain ⟨_, hf1, hf2, hf3⟩ := hf
      have b1 : p.i < 9223372036854775808 ∧ p.t < 9223372036854775808 := by
        rcases hf1 with hf1 | hf1
        · have := hm hf1; omega
        · have := wB_bd hf1.1; have := wB_bd hf1.2; omega
      have b2 : p.ht < 9223372036854775808 ∧ p.hv < 9223372036854775808 ∧ p.hc < 9223372036854775808 := by
        rcases hf2 with hf2 | hf2
        · have := hh hf2; omega
        · have := hardB_bd hf2; omega
      exact ⟨by omega, areB_bd hf3⟩
  obtain ⟨⟨b1, b2, b3, b4, b5⟩, k1, k2⟩ := key
  have hd : ∀ e ∈ l, e.d.size ≤ 40 := fun e he => (entryB_bd (k2 e he)).2.2
  refine ⟨⟨by omega, b1, b2, b3, b4, b5, by omega⟩, fun e he => ?_, ?_, by omega, k2⟩
  · have := entryB_bd (k2 e he)
    exact ⟨by omega, by omega, by omega⟩
  · have := text_len p.k l hd
    omega

def bytesS (p : PartC) (l : List EntryC) : ByteArray := if isB p l then ⟨(bytesL p l).toArray⟩ else ⟨#[]⟩
def bytesE (p : PartC) (l : List EntryC) : Int := if isB p l then 0 else 11
end Go.Proofs.Ytdncdlbhgaehmaa
