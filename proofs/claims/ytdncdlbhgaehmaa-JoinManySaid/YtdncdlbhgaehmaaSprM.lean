/- SprM, SprM2, SprM3, SprM4: in one text. -/
import Derived.Test.YtdncdlbhgaehmaaRef6a
import Derived.Test.YtdncdlbhgaehmaaPartFacts
import Derived.Test.YtdncdlbhgaehmaaGrpMath
/- Groups with holes on lists alone: which are some, where an index stands, what is put together, what a part makes. -/
namespace Go.Proofs.Ytdncdlbhgaehmaa
open Go.RowKit Go.Shelf
set_option linter.unusedVariables false

/-- Well-formed entries that rise, from f on. -/
def sprB : List EntryC → Int → Bool
  | [], _ => true
  | e :: r, f => (entryB e && decide (f ≤ e.i)) && sprB r (e.i + 1)
def isSp (g : GM) : Bool := ((wB g.id 0 999 && wB g.fi 1 1099511627777) && wB g.te 0 1099511627776) && (hardB g.ht g.hv g.hc && sprB g.l g.fi)
theorem isSp_iff {g : GM} : isSp g = true ↔ ((0 ≤ g.id ∧ g.id ≤ 999) ∧ (1 ≤ g.fi ∧ g.fi ≤ 1099511627777) ∧ (0 ≤ g.te ∧ g.te ≤ 1099511627776)) ∧ hardB g.ht g.hv g.hc = true ∧ sprB g.l g.fi = true := by
  simp only [isSp, Bool.and_eq_true, wB_iff]; grind
/-- Rising. -/
def Ris (l : List EntryC) : Prop := ∀ j k (hj : j < k) (hk : k < l.length), (l[j]'(by omega)).i < l[k].i
theorem sprB_at : ∀ {l : List EntryC} {f : Int} (h : sprB l f = true) {k : Nat} (hk : k < l.length), f ≤ l[k].i ∧ entryB l[k] = true
  | e :: r, f, h, 0, _ => by
    simp only [sprB, Bool.and_eq_true, decide_eq_true_eq] at h
    exact ⟨h.1.2, h.1.1⟩
  | e :: r, f, h, k + 1, hk => by
    simp only [sprB, Bool.and_eq_true, decide_eq_true_eq] at h
    have := sprB_at h.2 (k := k) (by simpa using hk)
    exact ⟨by simp only [List.getElem_cons_succ]; omega, this.2⟩
theorem sprB_ris : ∀ {l : List EntryC} {f : Int} (h : sprB l f = true), Ris l
  | [], _, _ => fun j k hj hk => by simp at hk
  | e :: r, f, h => fun j k hj hk => by
    simp only [sprB, Bool.and_eq_true, decide_eq_true_eq] at h
    obtain ⟨k, rfl⟩ : ∃ q, k = q + 1 := ⟨k - 1, by omega⟩
    cases j with
    | zero => have := (sprB_at h.2 (k := k) (by simpa using hk)).1; simp only [List.getElem_cons_zero, List.getElem_cons_succ]; omega
    | succ j => exact sprB_ris h.2 j k (by omega) (by simpa using hk)
theorem dense_spr : ∀ {l : List EntryC} {f : Int}, denseB l f = true → sprB l f = true
  | [], _, _ => rfl
  | e :: r, f, h => by
    simp only [denseB, Bool.and_eq_true, decide_eq_true_eq] at h
    simp only [sprB, Bool.and_eq_true, decide_eq_true_eq]
    exact ⟨⟨h.1.1, by omega⟩, by rw [h.1.2]; exact dense_spr h.2⟩
theorem sprB_mono {l : List EntryC} {f g : Int} (h : sprB l f = true) (hg : g ≤ f) : sprB l g = true := by
  cases l with
  | nil => rfl
  | cons e r =>
    simp only [sprB, Bool.and_eq_true, decide_eq_true_eq] at h ⊢
    exact ⟨⟨h.1.1, by omega⟩, h.2⟩
/-- Where the entry of an index stands, or would. -/
def fnd (l : List EntryC) (i : Int) : Nat := l.findIdx fun e => decide (i ≤ e.i)
theorem fnd_le (l : List EntryC) (i : Int) : fnd l i ≤ l.length := List.findIdx_le_length
theorem fnd_eq {l : List EntryC} {i : Int} {k : Nat} (hk : k ≤ l.length) (h1 : ∀ j (hj : j < k), (l[j]'(by omega)).i < i) (h2 : ∀ j (hj : j < l.length), k ≤ j → i ≤ l[j].i) : fnd l i = k := by
  unfold fnd
  by_cases h : k < l.length
  · exact (List.findIdx_eq h).2 ⟨by simpa using h2 k h (Nat.le_refl _), fun j hj => by simpa using h1 j hj⟩
  · obtain rfl : k = l.length := by omega
    rw [List.findIdx_eq_length]
    intro e he
    obtain ⟨j, hj, rfl⟩ := List.getElem_of_mem he
    simpa using h1 j hj
theorem fnd_lt {l : List EntryC} {i : Int} {j : Nat} (hj : j < fnd l i) : (l[j]'(Nat.lt_of_lt_of_le hj (fnd_le l i))).i < i := by
  have := List.not_of_lt_findIdx hj
  simpa using this
theorem fnd_ge {l : List EntryC} (hr : Ris l) {i : Int} {j : Nat} (hj : j < l.length) (h : fnd l i ≤ j) : i ≤ l[j].i := by
  have hf : fnd l i < l.length := by omega
  have h0 : i ≤ (l[fnd l i]'hf).i := by
    have h9 := List.findIdx_getElem (p := fun e : EntryC => decide (i ≤ e.i)) (w := hf)
    exact of_decide_eq_true h9
  by_cases e : fnd l i = j
  · have : l[j].i = (l[fnd l i]'hf).i := by congr 2; exact e.symm
    omega
  · have := hr (fnd l i) j (by omega) hj
    omega
theorem filter_split {l : List EntryC} {p : EntryC → Bool} {k : Nat} (h1 : ∀ j (hj : j < l.length), j < k → p l[j] = true) (h2 : ∀ j (hj : j < l.length), k ≤ j → p l[j] = false) : l.filter p = l.take k := by
  conv => lhs; rw [← List.take_append_drop k l]
  rw [List.filter_append, List.filter_eq_self.2, List.filter_eq_nil_iff.2, List.append_nil]
  · intro e he
    obtain ⟨j, hj, rfl⟩ := List.getElem_of_mem he
    rw [List.getElem_drop, h2 _ (by simp at hj; omega) (by omega)]; simp
  · intro e he
    obtain ⟨j, hj, rfl⟩ := List.getElem_of_mem he
    simp at hj
    rw [List.getElem_take, h1 j (by omega) (by omega)]
theorem filter_split2 {l : List EntryC} {p : EntryC → Bool} {k : Nat} (h1 : ∀ j (hj : j < l.length), j < k → p l[j] = false) (h2 : ∀ j (hj : j < l.length), k ≤ j → p l[j] = true) : l.filter p = l.drop k := by
  conv => lhs; rw [← List.take_append_drop k l]
  rw [List.filter_append, List.filter_eq_nil_iff.2, List.filter_eq_self.2, List.nil_append]
  · intro e he
    obtain ⟨j, hj, rfl⟩ := List.getElem_of_mem he
    rw [List.getElem_drop, h2 _ (by simp at hj; omega) (by omega)]
  · intro e he
    obtain ⟨j, hj, rfl⟩ := List.getElem_of_mem he
    simp at hj
    rw [List.getElem_take, h1 j (by omega) (by omega)]; simp
theorem belL_ris {l : List EntryC} (hr : Ris l) (i : Int) : belL l i = l.take (fnd l i) :=
  filter_split (fun j hj h => by simpa using fnd_lt (l := l) (i := i) h) (fun j hj h => by simpa using fnd_ge hr hj h)
theorem froL_ris {l : List EntryC} (hr : Ris l) (i : Int) : froL l i = l.drop (fnd l i) :=
  filter_split2 (fun j hj h => by simpa using fnd_lt (l := l) (i := i) h) (fun j hj h => by simpa using fnd_ge hr hj h)
/-- The entries of a and b, rising; of those of one index a's. -/
def mrg : List EntryC → List EntryC → List EntryC
  | [], b => b
  | e :: a, b => (b.takeWhile fun x => decide (x.i ≤ e.i)).filter (fun x => decide (x.i < e.i)) ++ e :: mrg a (b.dropWhile fun x => decide (x.i ≤ e.i))
theorem mrg_nil : ∀ a : List EntryC, mrg a [] = a
  | [] => rfl
  | e :: a => by simp [mrg, mrg_nil a]
theorem mrg_len : ∀ (a b : List EntryC), (mrg a b).length ≤ a.length + b.length
  | [], b => by simp [mrg]
  | e :: a, b => by
    have h1 := mrg_len a (b.dropWhile fun x => decide (x.i ≤ e.i))
    have h2 := List.length_filter_le (fun x : EntryC => decide (x.i < e.i)) (b.takeWhile fun x => decide (x.i ≤ e.i))
    have h3 := congrArg List.length (List.takeWhile_append_dropWhile (p := fun x : EntryC => decide (x.i ≤ e.i)) (l := b))
    rw [List.length_append] at h3
    simp only [mrg, List.length_append, List.length_cons]
    omega

def cmpG (g : GM) (p : PartC) : GM := if p.i < g.fi then g else ⟨g.id, p.i + 1, if p.t = 0 then entT g.l p.i else p.t, g.ht, g.hv, g.hc, g.l.drop (fnd g.l (p.i + 1))⟩
def snpG (g : GM) (p : PartC) : GM := if p.i < g.fi then g else ⟨g.id, p.i + 1, p.t, g.ht, g.hv, g.hc, []⟩
def hrdG (g : GM) (p : PartC) : GM := { g with ht := p.ht, hv := p.hv, hc := p.hc }
def addG (g : GM) (M : List EntryC) : GM := { g with l := mrg g.l (M.drop (fnd M g.fi)) }
/-- What a part makes of a group with holes. -/
def doSp (g : GM) (p : PartC) (pl : List EntryC) : GM :=
  if isSp g = true ∧ isB p pl = true ∧ p.g = g.id then
    if p.k = 1 then addG { g with l := g.l.take (fnd g.l (headI pl)) } pl
    else if p.k = 2 then hrdG g p
    else if p.k = 3 then cmpG g p
    else if p.k = 4 then snpG g p
    else if p.k = 6 then addG (if p.h = true then hrdG (if p.m = true then cmpG g p else g) p else if p.m = true then cmpG g p else g) pl
    else g
  else g
theorem addG_nil (g : GM) : addG g [] = g := by
  unfold addG; rw [show ([] : List EntryC).drop (fnd [] g.fi) = [] by simp, mrg_nil]
theorem rowV_back {w w1 : World} {a : Option Addr} {n sz : Nat} {xs : List Value} (h : RowV w1 a n sz xs) (hB : Below w.heap.size w w1) (hlt : ∀ k, inBlkE a n k → k < w.heap.size) : RowV w a n sz xs := by
  refine ⟨h.1, h.2.1, fun h0 => ?_⟩
  obtain ⟨b, off, e, hb, hx⟩ := h.2.2 h0
  have hn := hlt b ⟨b, off, e, h0, rfl⟩
  exact ⟨b, off, e, hn, fun j hj => (hB.cell (p := ⟨b, off + j, none⟩) hn).symm.trans (hx j hj)⟩
/-- Steps that rise. -/
theorem steps_ris {g : Int} (hg : 1 ≤ g ∧ g ≤ 1099511627776) : ∀ {r : List EntryC} {q : Int}, 1 ≤ q → q ≤ 1099511627776 → (stepsOf (some q) r).all (stepB g) = true → sprB r (q + 1) = true
  | [], _, _, _, _ => rfl
  | e :: r, q, h1, h2, h => by
    simp only [stepsOf, List.all_cons, Bool.and_eq_true, stepB] at h
    obtain ⟨⟨he, hw⟩, hr⟩ := h
    have hb := (entryB_bd he).1
    rw [wB_iff, IntWalk.wrap64_in _ (by omega)] at hw
    simp only [sprB, Bool.and_eq_true, decide_eq_true_eq]
    exact ⟨⟨he, by omega⟩, steps_ris hg hb.1 hb.2 hr⟩
theorem are_spr {g : Int} (hg : 1 ≤ g ∧ g ≤ 1099511627776) {l : List EntryC} (h : areB g l = true) : sprB l 1 = true := by
  cases l with
  | nil => rfl
  | cons e r =>
    simp only [areB, Bool.and_eq_true, stepsOf, List.all_cons, stepB] at h
    obtain ⟨_, ⟨he, _⟩, hr⟩ := h
    have hb := (entryB_bd he).1
    simp only [sprB, Bool.and_eq_true, decide_eq_true_eq]
    exact ⟨⟨he, hb.1⟩, steps_ris hg hb.1 hb.2 hr⟩

end Go.Proofs.Ytdncdlbhgaehmaa

/- What is put together: its members, its order; a group with holes stays one. -/
namespace Go.Proofs.Ytdncdlbhgaehmaa
open Go.RowKit Go.Shelf
set_option linter.unusedVariables false

/-- Rising, pairwise. -/
abbrev Pw (l : List EntryC) : Prop := l.Pairwise fun a b => a.i < b.i
theorem ris_pw {l : List EntryC} : Ris l ↔ Pw l := by
  unfold Pw
  rw [List.pairwise_iff_getElem]
  exact ⟨fun h i j hi hj hij => h i j hij hj, fun h j k hj hk => h j k (by omega) hk hj⟩
theorem sprB_iff : ∀ {l : List EntryC} {f : Int}, sprB l f = true ↔ (∀ e ∈ l, entryB e = true) ∧ (∀ e ∈ l, f ≤ e.i) ∧ Pw l
  | [], f => by simp [sprB, Pw]
  | e :: r, f => by
    simp only [sprB, Bool.and_eq_true, decide_eq_true_eq, sprB_iff (l := r), List.mem_cons, forall_eq_or_imp, Pw, List.pairwise_cons]
    constructor
    · rintro ⟨⟨h1, h2⟩, h3, h4, h5⟩
      exact ⟨⟨h1, h3⟩, ⟨h2, fun x hx => by have := h4 x hx; omega⟩, fun x hx => by have := h4 x hx; omega, h5⟩
    · rintro ⟨⟨h1, h3⟩, ⟨h2, h6⟩, h4, h5⟩
      exact ⟨⟨h1, h2⟩, h3, fun x hx => by have := h4 x hx; omega, h5⟩
theorem dw_gt : ∀ {b : List EntryC} (h : Pw b) {c : Int} {x : EntryC} (hx : x ∈ b.dropWhile fun x => decide (x.i ≤ c)), c < x.i
  | [], _, _, _, hx => by simp at hx
  | y :: b, h, c, x, hx => by
    rw [List.dropWhile_cons] at hx
    split at hx
    · exact dw_gt (List.pairwise_cons.1 h).2 hx
    · rename_i hn
      simp at hn
      rcases List.mem_cons.1 hx with rfl | hx
      · exact hn
      · have := (List.pairwise_cons.1 h).1 x hx; omega
theorem mrg_mem : ∀ {a b : List EntryC} {e : EntryC}, e ∈ mrg a b → e ∈ a ∨ e ∈ b
  | [], b, e, h => .inr (by simpa [mrg] using h)
  | x :: a, b, e, h => by
    simp only [mrg, List.mem_append, List.mem_filter, List.mem_cons] at h
    rcases h with ⟨h, -⟩ | rfl | h
    · exact .inr ((List.takeWhile_sublist _).subset h)
    · simp
    · rcases mrg_mem h with h | h
      · simp [h]
      · exact .inr ((List.dropWhile_sublist _).subset h)
theorem mrg_pw : ∀ {a b : List EntryC}, Pw a → Pw b → Pw (mrg a b)
  | [], b, _, h => by simpa [mrg] using h
  | x :: a, b, ha, hb => by
    obtain ⟨h1, h2⟩ := List.pairwise_cons.1 ha
    simp only [mrg]
    refine List.pairwise_append.2 ⟨List.Pairwise.filter _ (hb.sublist (List.takeWhile_sublist _)), List.pairwise_cons.2 ⟨?_, mrg_pw h2 (hb.sublist (List.dropWhile_sublist _))⟩, ?_⟩
    · intro y hy
      rcases mrg_mem hy with h | h
      · exact h1 y h
      · exact dw_gt hb h
    · intro y hy z hz
      have hy2 : y.i < x.i := by simpa using (List.mem_filter.1 hy).2
      rcases List.mem_cons.1 hz with rfl | hz
      · exact hy2
      · rcases mrg_mem hz with h | h
        · have := h1 z h; omega
        · have := dw_gt hb h; omega
theorem mrg_left : ∀ {a b : List EntryC} {e : EntryC}, e ∈ a → e ∈ mrg a b
  | x :: a, b, e, h => by
    simp only [mrg, List.mem_append, List.mem_cons]
    rcases List.mem_cons.1 h with rfl | h
    · exact .inr (.inl rfl)
    · exact .inr (.inr (mrg_left h))
theorem mrg_right : ∀ {a b : List EntryC} {e : EntryC}, e ∈ b → ∃ x ∈ mrg a b, x.i = e.i ∧ (x = e ∨ x ∈ a)
  | [], b, e, h => ⟨e, by simpa [mrg] using h, rfl, .inl rfl⟩
  | x :: a, b, e, h => by
    simp only [mrg, List.mem_append, List.mem_cons, List.mem_filter]
    rw [← List.takeWhile_append_dropWhile (p := fun y : EntryC => decide (y.i ≤ x.i)) (l := b), List.mem_append] at h
    rcases h with h | h
    · have hle : e.i ≤ x.i := by
        have := List.all_takeWhile (p := fun y : EntryC => decide (y.i ≤ x.i)) (l := b)
        rw [List.all_eq_true] at this
        simpa using this e h
      by_cases hlt : e.i < x.i
      · exact ⟨e, .inl ⟨h, by simpa using hlt⟩, rfl, .inl rfl⟩
      · exact ⟨x, .inr (.inl rfl), by omega, .inr (.inl rfl)⟩
    · obtain ⟨y, h1, h2, h3⟩ := mrg_right (a := a) h
      exact ⟨y, .inr (.inr h1), h2, h3.imp id .inr⟩
theorem mrg_above : ∀ {a b : List EntryC}, (∀ x ∈ a, ∀ y ∈ b, x.i < y.i) → mrg a b = a ++ b
  | [], b, _ => rfl
  | x :: a, b, h => by
    have h1 : b.takeWhile (fun y => decide (y.i ≤ x.i)) = [] := by
      cases b with
      | nil => rfl
      | cons y b => have := h x (by simp) y (by simp); rw [List.takeWhile_cons_of_neg (by simp; omega)]
    have h2 : b.dropWhile (fun y => decide (y.i ≤ x.i)) = b := by
      have := List.takeWhile_append_dropWhile (p := fun y : EntryC => decide (y.i ≤ x.i)) (l := b)
      rwa [h1, List.nil_append] at this
    simp only [mrg, h1, h2, List.filter_nil, List.nil_append, List.cons_append]
    rw [mrg_above fun u hu y hy => h u (by simp [hu]) y hy]
/-- Two rising rows with the same members are the same. -/
theorem pw_ext : ∀ {a b : List EntryC}, Pw a → Pw b → (∀ e, e ∈ a ↔ e ∈ b) → a = b
  | [], [], _, _, _ => rfl
  | [], y :: b, _, _, h => by have := (h y).2 (by simp); simp at this
  | x :: a, [], _, _, h => by have := (h x).1 (by simp); simp at this
  | x :: a, y :: b, ha, hb, h => by
    obtain ⟨h1, h2⟩ := List.pairwise_cons.1 ha
    obtain ⟨h3, h4⟩ := List.pairwise_cons.1 hb
    have hxy : x = y := by
      rcases List.mem_cons.1 ((h x).1 (by simp)) with e | hx
      · exact e
      · rcases List.mem_cons.1 ((h y).2 (by simp)) with e | hy
        · exact e.symm
        · have := h1 y hy; have := h3 x hx; omega
    subst hxy
    rw [pw_ext h2 h4 fun e => ?_]
    constructor
    · intro he
      rcases List.mem_cons.1 ((h e).1 (by simp [he])) with rfl | h5
      · have := h1 e he; omega
      · exact h5
    · intro he
      rcases List.mem_cons.1 ((h e).2 (by simp [he])) with rfl | h5
      · have := h3 e he; omega
      · exact h5
theorem fro_mem {M : List EntryC} (hr : Ris M) {f : Int} {e : EntryC} : e ∈ M.drop (fnd M f) ↔ e ∈ M ∧ f ≤ e.i := by
  rw [← froL_ris hr]; unfold froL; rw [List.mem_filter]; simp
theorem bel_mem {M : List EntryC} (hr : Ris M) {f : Int} {e : EntryC} : e ∈ M.take (fnd M f) ↔ e ∈ M ∧ e.i < f := by
  rw [← belL_ris hr]; unfold belL; rw [List.mem_filter]; simp
theorem addG_isSp {g : GM} {M : List EntryC} (hg : isSp g = true) (hM : ∀ e ∈ M, entryB e = true) (hr : Ris M) : isSp (addG g M) = true := by
  rw [isSp_iff] at hg ⊢
  refine ⟨hg.1, hg.2.1, ?_⟩
  obtain ⟨h1, h2, h3⟩ := sprB_iff.1 hg.2.2
  refine sprB_iff.2 ⟨fun e he => ?_, fun e he => ?_, mrg_pw h3 ((ris_pw.1 hr).sublist (List.drop_sublist _ _))⟩
  · rcases mrg_mem he with h | h
    · exact h1 e h
    · exact hM e ((fro_mem hr).1 h).1
  · rcases mrg_mem he with h | h
    · exact h2 e h
    · exact ((fro_mem hr).1 h).2

end Go.Proofs.Ytdncdlbhgaehmaa

/- What each kind of part makes of a group with holes; parts of one entry. -/
namespace Go.Proofs.Ytdncdlbhgaehmaa
open Go.RowKit Go.Shelf
set_option linter.unusedVariables false

theorem doSp_1 {g : GM} {p : PartC} {pl : List EntryC} (hI : isSp g = true) (hB : isB p pl = true) (hg : p.g = g.id) (hk : p.k = 1) : doSp g p pl = addG { g with l := g.l.take (fnd g.l (headI pl)) } pl := by
  unfold doSp; rw [if_pos ⟨hI, hB, hg⟩, if_pos hk]
theorem doSp_2 {g : GM} {p : PartC} {pl : List EntryC} (hI : isSp g = true) (hB : isB p pl = true) (hg : p.g = g.id) (hk : p.k = 2) : doSp g p pl = hrdG g p := by
  unfold doSp; rw [if_pos ⟨hI, hB, hg⟩, if_neg (by omega), if_pos hk]
theorem doSp_3 {g : GM} {p : PartC} {pl : List EntryC} (hI : isSp g = true) (hB : isB p pl = true) (hg : p.g = g.id) (hk : p.k = 3) : doSp g p pl = cmpG g p := by
  unfold doSp; rw [if_pos ⟨hI, hB, hg⟩, if_neg (by omega), if_neg (by omega), if_pos hk]
theorem doSp_4 {g : GM} {p : PartC} {pl : List EntryC} (hI : isSp g = true) (hB : isB p pl = true) (hg : p.g = g.id) (hk : p.k = 4) : doSp g p pl = snpG g p := by
  unfold doSp; rw [if_pos ⟨hI, hB, hg⟩, if_neg (by omega), if_neg (by omega), if_neg (by omega), if_pos hk]
theorem doSp_5 {g : GM} {p : PartC} {pl : List EntryC} (hI : isSp g = true) (hB : isB p pl = true) (hg : p.g = g.id) (hk : p.k = 5) : doSp g p pl = g := by
  unfold doSp; rw [if_pos ⟨hI, hB, hg⟩, if_neg (by omega), if_neg (by omega), if_neg (by omega), if_neg (by omega), if_neg (by omega)]
theorem doSp_6 {g : GM} {p : PartC} {pl : List EntryC} (hI : isSp g = true) (hB : isB p pl = true) (hg : p.g = g.id) (hk : p.k = 6) : doSp g p pl = addG (if p.h = true then hrdG (if p.m = true then cmpG g p else g) p else if p.m = true then cmpG g p else g) pl := by
  unfold doSp; rw [if_pos ⟨hI, hB, hg⟩, if_neg (by omega), if_neg (by omega), if_neg (by omega), if_neg (by omega), if_pos hk]
/-- A part written anew, of one entry. -/
theorem fwd1_is {k i t : Int} (a : Option Addr) (cap : Nat) (hk : 0 ≤ k ∧ k ≤ 999) (hi : 1 ≤ i ∧ i ≤ 1099511627776) (ht : 1 ≤ t ∧ t ≤ 1099511627776) : isB ⟨k, 6, a, 1, cap, 0, 0, 0, 0, 0, false, false⟩ [⟨i, t, ⟨#[]⟩⟩] = true := by
  have h1 : entryB ⟨i, t, ⟨#[]⟩⟩ = true := by unfold entryB; rw [Bool.and_eq_true, Bool.and_eq_true, wB_iff, wB_iff]; exact ⟨hi, ht, rfl⟩
  have h2 : areB 1099511627776 [⟨i, t, ⟨#[]⟩⟩] = true := by
    unfold areB stepsOf stepsOf
    simp only [List.all_cons, List.all_nil, stepB, h1]
    rfl
  refine (isB_iff _ _).2 ⟨hk, .inr (.inr (.inr (.inr (.inr ⟨rfl, ?_, fun _ => ⟨rfl, rfl⟩, fun _ => ⟨rfl, rfl, rfl⟩⟩))))⟩
  unfold isFwdB
  dsimp only
  rw [h2]
  rfl
theorem fwd1_do {g : GM} {k i t : Int} (a : Option Addr) (cap : Nat) (hI : isSp g = true) (hg : k = g.id) (hk : 0 ≤ k ∧ k ≤ 999) (hi : 1 ≤ i ∧ i ≤ 1099511627776) (ht : 1 ≤ t ∧ t ≤ 1099511627776) :
    doSp g ⟨k, 6, a, 1, cap, 0, 0, 0, 0, 0, false, false⟩ [⟨i, t, ⟨#[]⟩⟩] = addG g [⟨i, t, ⟨#[]⟩⟩] := by
  rw [doSp_6 hI (fwd1_is a cap hk hi ht) hg rfl]; rfl
theorem ris_one (e : EntryC) : Ris [e] := fun j k hj hk => by simp at hk; omega
/-- A part that compacts, one that takes up to a mark, one whose mark is written anew. -/
theorem cmp_isB {k i t : Int} (hk : 0 ≤ k ∧ k ≤ 999) (hi : 1 ≤ i ∧ i ≤ 1099511627776) (ht : 1 ≤ t ∧ t ≤ 1099511627776) : isB ⟨k, 3, none, 0, 0, 0, 0, 0, i, t, false, false⟩ [] = true :=
  (isB_iff _ _).2 ⟨hk, .inr (.inr (.inl ⟨rfl, wB_iff.2 hi, .inl (wB_iff.2 ht), rfl, rfl, rfl, rfl, rfl, rfl⟩))⟩
theorem snp_isB {k i t : Int} (hk : 0 ≤ k ∧ k ≤ 999) (hi : 1 ≤ i ∧ i ≤ 1099511627776) (ht : 1 ≤ t ∧ t ≤ 1099511627776) : isB ⟨k, 4, none, 0, 0, 0, 0, 0, i, t, false, false⟩ [] = true :=
  (isB_iff _ _).2 ⟨hk, .inr (.inr (.inr (.inl ⟨rfl, wB_iff.2 hi, wB_iff.2 ht, rfl, rfl, rfl, rfl, rfl, rfl⟩)))⟩
theorem mrk_isB {k i t : Int} (hk : 0 ≤ k ∧ k ≤ 999) (hi : 1 ≤ i ∧ i ≤ 1099511627776) (ht : 1 ≤ t ∧ t ≤ 1099511627776) : isB ⟨k, 6, none, 0, 0, 0, 0, 0, i, t, true, false⟩ [] = true := by
  refine (isB_iff _ _).2 ⟨hk, .inr (.inr (.inr (.inr (.inr ⟨rfl, ?_, fun h => (by cases h), fun _ => ⟨rfl, rfl, rfl⟩⟩))))⟩
  unfold isFwdB
  dsimp only
  rw [wB_iff.2 hi, wB_iff.2 ht, show areB 1099511627776 [] = true from rfl]
  rfl
theorem spr_new {k : Int} (hk : 0 ≤ k ∧ k ≤ 999) {fi te : Int} (hf : 1 ≤ fi ∧ fi ≤ 1099511627777) (ht : 0 ≤ te ∧ te ≤ 1099511627776) : isSp ⟨k, fi, te, 0, 0, 0, []⟩ = true :=
  isSp_iff.2 ⟨⟨hk, hf, ht⟩, rfl, rfl⟩

end Go.Proofs.Ytdncdlbhgaehmaa

/- Of a log without holes a part that may be done makes the same; a snapshot that fits, as a compaction. -/
namespace Go.Proofs.Ytdncdlbhgaehmaa
open Go.RowKit Go.Shelf
set_option linter.unusedVariables false

theorem fnd_dense {l : List EntryC} {f : Int} (h : denseB l f = true) (i : Int) : fnd l i = min (i - f).toNat l.length :=
  fnd_eq (by omega) (fun j hj => by have := (denseB_at h (k := j) (by omega)).1; omega) (fun j hj hk => by have := (denseB_at h hj).1; omega)
theorem take_fnd {l : List EntryC} {f : Int} (h : denseB l f = true) (i : Int) : l.take (fnd l i) = l.take (i - f).toNat := by
  rw [fnd_dense h]
  by_cases hk : (i - f).toNat ≤ l.length
  · rw [Nat.min_eq_left hk]
  · rw [Nat.min_eq_right (by omega), List.take_length, List.take_of_length_le (by omega)]
theorem drop_fnd {l : List EntryC} {f : Int} (h : denseB l f = true) (i : Int) : l.drop (fnd l i) = l.drop (i - f).toNat := by
  rw [fnd_dense h]
  by_cases hk : (i - f).toNat ≤ l.length
  · rw [Nat.min_eq_left hk]
  · rw [Nat.min_eq_right (by omega), List.drop_length, List.drop_of_length_le (by omega)]
/-- A snapshot that fits, as a compaction. -/
def fitB (g : GM) (p : PartC) : Prop := p.k = 4 ∧ 0 ≤ atM g.l p.i ∧ entT g.l p.i = p.t
theorem fit_isB {p : PartC} {pl : List EntryC} (hb : isB p pl = true) (hk : p.k = 4) : isB { p with k := 3 } pl = true := by
  rcases (isB_iff p pl).1 hb with ⟨h0, h | h | h | h | h | h⟩
  · omega
  · omega
  · omega
  · obtain ⟨_, h1, h2, h3, h4, h5, h6, h7, h8⟩ := h
    exact (isB_iff _ pl).2 ⟨h0, .inr (.inr (.inl ⟨rfl, h1, .inl h2, h3, h4, h5, h6, h7, h8⟩))⟩
  · omega
  · omega
theorem isG_isSp {g : GM} (hG : isG g = true) : isSp g = true := by
  obtain ⟨⟨h1, h2, h3⟩, h4, hd⟩ := isG_iff.1 hG
  exact isSp_iff.2 ⟨⟨h1, h2, h3⟩, h4, dense_spr hd⟩
theorem dense_do {g : GM} {p : PartC} {pl : List EntryC} (hG : isG g = true) (hc : chkG g p pl = 0) (hl : g.l.length ≤ 100000) (hn : ¬ fitB g p) : doSp g p pl = doG g p pl := by
  obtain ⟨hb, hg, hk⟩ := chk_zero hc
  obtain ⟨⟨h1, h2, h3⟩, h4, hd⟩ := isG_iff.1 hG
  have hI := isG_isSp hG
  unfold doG
  rw [if_neg (by omega)]
  rcases hk with ⟨hk, ha, hz⟩ | hk | ⟨hk, ha, hz, ht⟩ | ⟨hk, ha⟩
  · rw [if_pos hk, doSp_1 hI hb hg hk]
    have hare : denseB pl (headI pl) = true := by
      rcases (isB_iff p pl).1 hb with ⟨_, h | h | h | h | h | h⟩
      · exact are_dense h.2.2.1
      all_goals omega
    have h0 : fnd pl g.fi = 0 := by rw [fnd_dense hare]; omega
    rw [btw_below hd h2, take_fnd hd]
    unfold addG
    dsimp only
    rw [h0, List.drop_zero, mrg_above]
    intro x hx y hy
    obtain ⟨j, hj, rfl⟩ := List.getElem_of_mem hx
    obtain ⟨k, hk, rfl⟩ := List.getElem_of_mem hy
    have e1 := (denseB_at (dense_take (headI pl - g.fi).toNat hd) hj).1
    have e2 := (denseB_at hare hk).1
    rw [List.length_take] at hj
    omega
  · obtain rfl := doG_nil hb (.inl hk)
    rw [if_neg (by omega), if_pos hk, btw_all hd h2 hl, List.append_nil, doSp_2 hI hb hg hk]
    rfl
  · obtain rfl := doG_nil hb (.inr (.inl hk))
    rw [if_neg (by omega), if_neg (by omega), if_pos hk, btw_above hd h2 hl, List.append_nil, doSp_3 hI hb hg hk]
    unfold cmpG
    rw [if_neg (by omega), drop_fnd hd]
    congr 1
    split
    · rfl
    · omega
  · obtain rfl := doG_nil hb (.inr (.inr hk))
    have ht : 1 ≤ p.t := by
      rcases (isB_iff p []).1 hb with ⟨_, h | h | h | h | h | h⟩
      · omega
      · omega
      · omega
      · exact (wB_iff.1 h.2.2.1).1
      · omega
      · omega
    have he : entT g.l p.i ≠ p.t := by
      intro e
      refine hn ⟨hk, ?_, e⟩
      rw [entT_dense hd] at e
      split at e
      · rename_i hh
        rw [atM_dense hd, if_pos (by omega)]; omega
      · omega
    rw [if_neg (by omega), if_neg (by omega), if_neg (by omega), if_pos he, btw_none hd h2, List.append_nil, doSp_4 hI hb hg hk]
    unfold snpG
    rw [if_neg (by omega)]
theorem fit_chk {g : GM} {p : PartC} {pl : List EntryC} (hG : isG g = true) (hc : chkG g p pl = 0) (hf : fitB g p) : chkG g { p with k := 3 } pl = 0 := by
  obtain ⟨hb, hg, hk⟩ := chk_zero hc
  obtain ⟨⟨h1, h2, h3⟩, h4, hd⟩ := isG_iff.1 hG
  obtain ⟨hk4, hA, he⟩ := hf
  have ha : g.fi ≤ p.i := by omega
  have hlast : p.i ≤ lastG g := by
    rw [atM_dense hd] at hA
    unfold lastG
    split at hA <;> omega
  have hb3 := fit_isB hb hk4
  unfold chkG
  rw [if_neg (by rw [hb3]; simp [hg]), if_neg (by simp), if_pos rfl]
  unfold chkC
  dsimp only
  rw [if_neg (by omega), if_neg (by omega), if_neg (fun h => h.2 he.symm)]
theorem at_bd {l : List EntryC} {f : Int} (h : denseB l f = true) (i : Int) : atM l i = -1 ∨ ∃ (q : Nat) (hq : q < l.length), atM l i = q ∧ entT l i = l[q].t := by
  rw [atM_dense h]
  by_cases hc : f ≤ i ∧ i < f + l.length
  · refine .inr ⟨(i - f).toNat, by omega, ?_, ?_⟩
    · rw [if_pos hc]; omega
    · rw [entT_dense h, dif_pos ⟨hc.1, by omega⟩]
  · exact .inl (if_neg hc)

end Go.Proofs.Ytdncdlbhgaehmaa
