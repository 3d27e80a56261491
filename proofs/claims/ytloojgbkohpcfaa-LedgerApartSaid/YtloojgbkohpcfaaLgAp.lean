/- A group's log depends on its own parts alone: plain data of law LedgerApart. -/
import Derived.Test.YtloojgbkohpcfaaLgK
import Derived.Test.YtloojgbkohpcfaaFew14
namespace Go.Proofs.Ytloojgbkohpcfaa
open Go.RowKit Go.Shelf
set_option linter.unusedVariables false

def kParts (k : Int) (L : List PL) : List PL := L.filter fun x => decide (x.1.g = k)
theorem kParts_take {k : Int} {L : List PL} {j : Nat} (hj : j < L.length) : kParts k (L.take (j + 1)) = if L[j].1.g = k then kParts k (L.take j) ++ [L[j]] else kParts k (L.take j) := by
  unfold kParts
  rw [List.take_succ_eq_append_getElem hj, List.filter_append]
  by_cases h : L[j].1.g = k
  · rw [if_pos h, List.filter_cons_of_pos (by simpa using h)]; rfl
  · rw [if_neg h, List.filter_cons_of_neg (by simpa using h)]; simp
theorem getD_n {A : List LG} {g : Int} : LG.n ((getZ LG.n A g).getD ⟨newP g, []⟩) = g := by
  cases h : getZ LG.n A g with
  | none => rfl
  | some L => exact (getZ_some h).2
theorem ldo1_other {A : List LG} {x : PL} {s t k : Int} (h : x.1.g ≠ k) : getZ LG.n (ldo1 A x s t) k = getZ LG.n A k := by
  unfold ldo1
  split
  · split
    · exact getZ_del_other LG.n (Ne.symm h) A
    · refine getZ_put_other LG.n (fun e => h ?_) A
      rw [← e]
      show x.1.g = (doLG _ x.1 x.2 s t).g.id
      rw [doLG_id]
      exact getD_n.symm
  · rfl
theorem ldo1_same {A B : List LG} {x : PL} {s t : Int} (h : getZ LG.n A x.1.g = getZ LG.n B x.1.g) : getZ LG.n (ldo1 A x s t) x.1.g = getZ LG.n (ldo1 B x s t) x.1.g := by
  unfold ldo1
  split
  · split
    · rw [getZ_del_same, getZ_del_same]
    · have e : ∀ C : List LG, getZ LG.n (putZ LG.n (doLG ((getZ LG.n C x.1.g).getD ⟨newP x.1.g, []⟩) x.1 x.2 s t) C) x.1.g = some (doLG ((getZ LG.n C x.1.g).getD ⟨newP x.1.g, []⟩) x.1 x.2 s t) := fun C => by
        have h1 := getZ_put_same LG.n (doLG ((getZ LG.n C x.1.g).getD ⟨newP x.1.g, []⟩) x.1 x.2 s t) C
        rw [show LG.n (doLG ((getZ LG.n C x.1.g).getD ⟨newP x.1.g, []⟩) x.1 x.2 s t) = x.1.g by
          show (doLG _ x.1 x.2 s t).g.id = _
          rw [doLG_id]; exact getD_n] at h1
        exact h1
      rw [e A, e B, h]
  · exact h
theorem ldo_apart {k s t : Int} : ∀ {L : List PL} {A B : List LG}, getZ LG.n A k = getZ LG.n B k → getZ LG.n (ldo A L s t) k = getZ LG.n (ldo B (kParts k L) s t) k
  | [], A, B, h => h
  | x :: r, A, B, h => by
    show getZ LG.n (ldo (ldo1 A x s t) r s t) k = _
    unfold kParts
    by_cases hx : x.1.g = k
    · rw [List.filter_cons_of_pos (by simpa using hx)]
      show _ = getZ LG.n (ldo (ldo1 B x s t) (kParts k r) s t) k
      refine ldo_apart ?_
      subst hx
      exact ldo1_same h
    · rw [List.filter_cons_of_neg (by simpa using hx)]
      exact ldo_apart ((ldo1_other hx).trans h)
theorem ldo1_only {k : Int} {B : List LG} (hB : ∀ L ∈ B, L.n = k) {x : PL} (hx : x.1.g = k) (s t : Int) : ∀ L ∈ ldo1 B x s t, L.n = k := by
  unfold ldo1
  split
  · split
    · intro L hL; exact hB L (mem_delZ.1 hL).1
    · intro L hL
      rcases mem_putZ.1 hL with rfl | hL
      · show (doLG _ x.1 x.2 s t).g.id = k
        rw [doLG_id, ← hx]; exact getD_n
      · exact hB L hL.1
  · exact hB
theorem ldo_only {k s t : Int} : ∀ {L : List PL} {B : List LG}, (∀ X ∈ B, X.n = k) → (∀ x ∈ L, x.1.g = k) → ∀ X ∈ ldo B L s t, X.n = k
  | [], B, h, _ => h
  | x :: r, B, h, hL => ldo_only (L := r) (ldo1_only h (hL x (by simp)) s t) (fun y hy => hL y (List.mem_cons_of_mem _ hy))
theorem kParts_all (k : Int) (L : List PL) : ∀ x ∈ kParts k L, x.1.g = k := fun x hx => by simpa using (List.mem_filter.1 hx).2
def spO (o : Option LG) : List SpotC := match o with | some L => spotsL L.g L.F | none => []
theorem spotsL_g (g : GM) (F : List LV) : ∀ x ∈ spotsL g F, x.g = g.id := by
  intro x hx
  have hx : x ∈ (if hasK F (-1) = true then [spotOf g F (-1)] else []) ++ ((if hasK F 0 = true then [spotOf g F 0] else []) ++ g.l.map (fun e => spotOf g F e.i)) := hx
  rw [List.mem_append, List.mem_append] at hx
  rcases hx with hx | hx | hx
  · split at hx
    · rw [List.mem_singleton.1 hx]; rfl
    · cases hx
  · split at hx
    · rw [List.mem_singleton.1 hx]; rfl
    · cases hx
  · obtain ⟨e, _, rfl⟩ := List.mem_map.1 hx
    rfl
theorem flA_filter {k : Int} : ∀ {A : List LG}, RisZ LG.n A → (flA A).filter (fun x => decide (x.g = k)) = spO (getZ LG.n A k)
  | [], _ => rfl
  | L :: r, h => by
    obtain ⟨h1, h2⟩ := List.pairwise_cons.1 h
    have ih := flA_filter (k := k) h2
    show (spotsL L.g L.F ++ flA r).filter _ = _
    rw [List.filter_append, ih]
    have hg : getZ LG.n (L :: r) k = if L.n = k then some L else getZ LG.n r k := by
      unfold getZ
      rw [List.find?_cons]
      by_cases h : L.n = k
      · rw [decide_eq_true h, if_pos h]
      · rw [decide_eq_false h, if_neg h]
    rw [hg]
    by_cases hk : L.n = k
    · rw [if_pos hk]
      have hr : getZ LG.n r k = none := by
        unfold getZ
        rw [List.find?_eq_none]
        intro y hy
        have := h1 y hy
        simp; omega
      rw [hr, List.filter_eq_self.2 (fun x hx => by rw [spotsL_g _ _ x hx]; simpa using hk)]
      show spotsL L.g L.F ++ [] = spotsL L.g L.F
      rw [List.append_nil]
    · rw [if_neg hk, List.filter_eq_nil_iff.2 (fun x hx => by rw [spotsL_g _ _ x hx]; simpa using hk), List.nil_append]
theorem flA_only {k : Int} {B : List LG} (hr : RisZ LG.n B) (hB : ∀ L ∈ B, L.n = k) : flA B = spO (getZ LG.n B k) := by
  rw [← flA_filter hr]
  symm
  rw [List.filter_eq_self]
  intro x hx
  obtain ⟨L, hL, hx⟩ := List.mem_flatMap.1 hx
  rw [spotsL_g _ _ x hx]
  simpa using hB L hL
/-- Behind n of the steps: all parts, group k's parts alone. -/
structure ApI (k : Int) (n : Nat) (A B : List LG) : Prop where
  get : getZ LG.n A k = getZ LG.n B k
  only : ∀ L ∈ B, L.n = k
  fa : okA (60 * n) A
  fb : okA (60 * n) B
  lenA : A.length ≤ 6 * n
  lenB : B.length ≤ 6 * n
theorem apI_new (k : Int) : ApI k 0 [] [] := ⟨rfl, (fun L hL => by cases hL), (fun L hL => by cases hL), (fun L hL => by cases hL), Nat.le_refl _, Nat.le_refl _⟩
theorem ApI.step {k s t : Int} {n : Nat} {A B : List LG} {L : List PL} (h : ApI k n A B) (hl : L.length ≤ 6) (hc : ∀ x ∈ L, x.2.length ≤ 8) : ApI k (n + 1) (ldo A L s t) (ldo B (kParts k L) s t) := by
  have hf : (kParts k L).length ≤ L.length := List.length_filter_le _ _
  have h1 := ldo_ok h.fa s t hc
  have h2 := ldo_ok h.fb s t (fun x hx => hc x (List.mem_filter.1 hx).1 : ∀ x ∈ kParts k L, x.2.length ≤ 8)
  have h3 := ldo_len L A s t
  have h4 := ldo_len (kParts k L) B s t
  refine ⟨ldo_apart h.get, ldo_only h.only (kParts_all k L), fun X hX => okLG_mono (h1 X hX) (by omega), fun X hX => okLG_mono (h2 X hX) (by omega), ?_, ?_⟩
  · have := h.lenA; omega
  · have := h.lenB; omega

theorem GoodS.below {w W : World} {x : S14} (h : GoodS w x) (hB : Below w.heap.size w W) : GoodS W x := ⟨h.1, h.2.1, h.2.2.1, h.2.2.2.1.below hB, fun y hy => ⟨⟨(h.2.2.2.2 y hy).1.1, (h.2.2.2.2 y hy).1.2.1, (h.2.2.2.2 y hy).1.2.2.1.below hB, (h.2.2.2.2 y hy).1.2.2.2⟩, (h.2.2.2.2 y hy).2⟩⟩
def optG (o : Option LG) : GM := match o with | some L => L.g | none => ⟨0, 0, 0, 0, 0, 0, []⟩
theorem tGetO {W : World} {e : Nat} {A : List LG} {T : Nat → Prop} (h : LT W e A T) (i : Int) (hi : -9223372036854775808 ≤ i ∧ i < 9223372036854775808) : Calls Try.prog 25 #[.pointer (some ⟨e, 0, none⟩), .int .i64 i] W fun r w' => ∃ va vc, r = .returned (.tuple #[(optG (getZ LG.n A i)).val va vc, .bool (getZ LG.n A i).isSome]) ∧ HasG w' va (optG (getZ LG.n A i)) ∧ Below W.heap.size W w' := by
  refine (tGet h i hi).mono ?_
  rintro r w' ⟨hB, ⟨L, va, vc, h1, h2, h3, -⟩ | ⟨h1, h2⟩⟩
  · rw [h1]; exact ⟨va, vc, h2, h3, hB⟩
  · rw [h1]; exact ⟨none, 0, h2, hasG_nil _ _ _ _ _ _ _ _, hB⟩

end Go.Proofs.Ytloojgbkohpcfaa
