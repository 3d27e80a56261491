/- Where the entries of a log lie: in one of the steps that brought them; the spots, rising. -/
import Derived.Test.YtloojgbkohpcfaaPlcK
import Derived.Test.YtloojgbkohpcfaaFew13
import Derived.Test.YtloojgbkohpcfaaRef6a
namespace Go.Proofs.Ytloojgbkohpcfaa
open Go.RowKit Go.Shelf
set_option linter.unusedVariables false

theorem getZ_delAll (i : Int) : ∀ (l : List Int) (F : List LV), getZ LV.k (delAll F l) i = if i ∈ l then none else getZ LV.k F i
  | [], F => by simp [delAll]
  | j :: r, F => by
    show getZ LV.k (delAll (delZ LV.k F j) r) i = _
    rw [getZ_delAll i r]
    by_cases h1 : i ∈ r
    · rw [if_pos h1, if_pos (List.mem_cons_of_mem _ h1)]
    · rw [if_neg h1]
      by_cases h2 : i = j
      · subst h2; rw [getZ_del_same, if_pos (by simp)]
      · rw [getZ_del_other LV.k h2, if_neg (by simp [h1, h2])]
theorem getZ_putAll (s t i : Int) : ∀ (l : List Int) (F : List LV), getZ LV.k (putAll s t F l) i = if i ∈ l then some ⟨i, s, t⟩ else getZ LV.k F i
  | [], F => by simp [putAll]
  | j :: r, F => by
    show getZ LV.k (putAll s t (putZ LV.k ⟨j, s, t⟩ F) r) i = _
    rw [getZ_putAll s t i r]
    by_cases h1 : i ∈ r
    · rw [if_pos h1, if_pos (List.mem_cons_of_mem _ h1)]
    · rw [if_neg h1]
      by_cases h2 : i = j
      · subst h2
        have h3 := getZ_put_same LV.k (⟨i, s, t⟩ : LV) F
        rw [if_pos (by simp)]
        exact h3
      · rw [getZ_put_other LV.k (x := (⟨j, s, t⟩ : LV)) (Ne.symm h2), if_neg (by simp [h1, h2])]
theorem addG_mem {g : GM} {M : List EntryC} {e : EntryC} (h : e ∈ (addG g M).l) : e ∈ g.l ∨ e ∈ M := by
  have h1 : e ∈ mrg g.l (M.drop (fnd M g.fi)) := h
  rcases mrg_mem h1 with h | h
  · exact .inl h
  · exact .inr (List.mem_of_mem_drop h)
theorem cmpG_mem {g : GM} {p : PartC} {e : EntryC} (h : e ∈ (cmpG g p).l) : e ∈ g.l := by
  unfold cmpG at h
  split at h
  · exact h
  · exact List.mem_of_mem_drop h
theorem doSp_mem {g : GM} {p : PartC} {pl : List EntryC} {e : EntryC} (h : e ∈ (doSp g p pl).l) : e ∈ g.l ∨ e ∈ pl := by
  unfold doSp at h
  split at h
  · split at h
    · rcases addG_mem h with h | h
      · exact .inl (List.mem_of_mem_take h)
      · exact .inr h
    · split at h
      · exact .inl h
      · split at h
        · exact .inl (cmpG_mem h)
        · split at h
          · unfold snpG at h
            split at h
            · exact .inl h
            · cases h
          · split at h
            · rcases addG_mem h with h | h
              · left
                split at h
                · unfold hrdG at h
                  split at h
                  · exact cmpG_mem h
                  · exact h
                · split at h
                  · exact cmpG_mem h
                  · exact h
              · exact .inr h
            · exact .inl h
  · exact .inl h
/-- Behind n of the steps, each at a segment of its own. -/
def LastI (S : List StC) (n : Nat) (L : LG) : Prop :=
  (∀ i x, getZ LV.k L.F i = some x → 1 ≤ x.s ∧ x.s ≤ n) ∧ ∀ e ∈ L.g.l, ∃ (j : Nat) (hj : j < S.length), j < n ∧ (∃ t, getZ LV.k L.F e.i = some ⟨e.i, (j : Int) + 1, t⟩) ∧ e ∈ S[j].l
theorem lastI_new (S : List StC) (id : Int) : LastI S 0 ⟨newP id, []⟩ := by
  refine ⟨fun i x h => ?_, fun e he => ?_⟩
  · cases h
  · cases he
theorem lastI_step {S : List StC} {n : Nat} {L : LG} (h : LastI S n L) (hI : isSp L.g = true) (hn : n < S.length) (t : Int) : LastI S (n + 1) (doLG L S[n].p S[n].l ((n : Int) + 1) t) := by
  unfold doLG
  split
  · generalize hG : doSp L.g S[n].p S[n].l = G
    have hGI : isSp G = true := by rw [← hG]; exact doSp_isSp hI
    refine ⟨fun i x hx => ?_, fun e he => ?_⟩
    · have hx : getZ LV.k (putAll ((n : Int) + 1) t (delAll L.F (gonL L.g.l G.l)) (brgL G S[n].p S[n].l L.g.fi)) i = some x := hx
      rw [getZ_putAll] at hx
      split at hx
      · cases hx; simp only; omega
      · rw [getZ_delAll] at hx
        split at hx
        · cases hx
        · have := h.1 i x hx; omega
    · have hent : ∀ e ∈ G.l, entryB e = true := (sprB_iff.1 (isSp_iff.1 hGI).2.2).1
      have hpw : Pw G.l := (sprB_iff.1 (isSp_iff.1 hGI).2.2).2.2
      have he : e ∈ G.l := he
      show ∃ (j : Nat) (hj : j < S.length), j < n + 1 ∧ (∃ t', getZ LV.k (putAll ((n : Int) + 1) t (delAll L.F (gonL L.g.l G.l)) (brgL G S[n].p S[n].l L.g.fi)) e.i = some ⟨e.i, (j : Int) + 1, t'⟩) ∧ e ∈ S[j].l
      by_cases hp : e ∈ S[n].l
      · refine ⟨n, hn, by omega, ⟨t, ?_⟩, hp⟩
        rw [getZ_putAll, if_pos]
        unfold brgL
        rw [List.mem_append]
        right
        exact List.mem_map.2 ⟨e, List.mem_filter.2 ⟨hp, by simpa using he⟩, rfl⟩
      · have hold : e ∈ L.g.l := by
          rw [← hG] at he
          exact (doSp_mem he).resolve_right hp
        obtain ⟨j, hj, hjn, ⟨t', ht'⟩, hej⟩ := h.2 e hold
        refine ⟨j, hj, by omega, ⟨t', ?_⟩, hej⟩
        rw [getZ_putAll, if_neg, getZ_delAll, if_neg, ht']
        · intro hg
          unfold gonL at hg
          obtain ⟨e', he', hi⟩ := List.mem_map.1 hg
          have h2 := (List.mem_filter.1 he').2
          simp only [Bool.not_eq_true', List.any_eq_false, decide_eq_true_eq] at h2
          exact h2 e he hi.symm
        · intro hb
          have h1 := (entryB_bd (hent e he)).1
          unfold brgL at hb
          rw [List.mem_append, List.mem_append] at hb
          rcases hb with (hb | hb) | hb
          · split at hb
            · have : e.i = -1 := by simpa using hb
              omega
            · cases hb
          · split at hb
            · have : e.i = 0 := by simpa using hb
              omega
            · cases hb
          · obtain ⟨y, hy, hyi⟩ := List.mem_map.1 hb
            obtain ⟨hy1, hy2⟩ := List.mem_filter.1 hy
            have hy2 : y ∈ G.l := by simpa using hy2
            have : y = e := by
              obtain ⟨a, ha, rfl⟩ := List.getElem_of_mem hy2
              obtain ⟨b, hb9, rfl⟩ := List.getElem_of_mem he
              have hr := ris_pw.2 hpw
              rcases Nat.lt_trichotomy a b with h | h | h
              · have := hr a b h hb9; omega
              · subst h; rfl
              · have := hr b a h ha; omega
            exact hp (this ▸ hy1)
  · refine ⟨fun i x hx => by have := h.1 i x hx; omega, fun e he => ?_⟩
    obtain ⟨j, hj, hjn, h1, h2⟩ := h.2 e he
    exact ⟨j, hj, by omega, h1, h2⟩
/-- The spots: first those of no entry, then the entries', rising. -/
theorem spots_shape (g : GM) (F : List LV) : ∃ H : List SpotC, H.length ≤ 2 ∧ spotsL g F = H ++ g.l.map (fun e => spotOf g F e.i) ∧ (∀ x ∈ H, (x = spotOf g F (-1) ∨ x = spotOf g F 0) ∧ hasK F x.i = true) ∧ H.Pairwise (fun a b => a.i < b.i) := by
  have key : ∀ A B : List SpotC, spotsL g F = A ++ (B ++ g.l.map (fun e => spotOf g F e.i)) → A.length ≤ 1 → B.length ≤ 1 → (∀ x ∈ A, x = spotOf g F (-1) ∧ hasK F (-1) = true) → (∀ x ∈ B, x = spotOf g F 0 ∧ hasK F 0 = true) → ∃ H : List SpotC, H.length ≤ 2 ∧ spotsL g F = H ++ g.l.map (fun e => spotOf g F e.i) ∧ (∀ x ∈ H, (x = spotOf g F (-1) ∨ x = spotOf g F 0) ∧ hasK F x.i = true) ∧ H.Pairwise (fun a b => a.i < b.i) := by
    intro A B h hA hB h1 h2
    refine ⟨A ++ B, by rw [List.length_append]; omega, by rw [h, List.append_assoc], fun x hx => ?_, ?_⟩
    · rcases List.mem_append.1 hx with hx | hx
      · obtain ⟨rfl, h⟩ := h1 x hx; exact ⟨.inl rfl, h⟩
      · obtain ⟨rfl, h⟩ := h2 x hx; exact ⟨.inr rfl, h⟩
    · have p1 : ∀ C : List SpotC, C.length ≤ 1 → C.Pairwise (fun a b => a.i < b.i) := fun C hC => by
        match C, hC with
        | [], _ => exact List.Pairwise.nil
        | [x], _ => exact List.pairwise_singleton _ _
      rw [List.pairwise_append]
      refine ⟨p1 A hA, p1 B hB, fun x hx y hy => ?_⟩
      rw [(h1 x hx).1, (h2 y hy).1]
      show (-1 : Int) < 0
      omega
  refine key (if hasK F (-1) = true then [spotOf g F (-1)] else []) (if hasK F 0 = true then [spotOf g F 0] else []) rfl (by split <;> simp) (by split <;> simp) (fun x hx => ?_) (fun x hx => ?_)
  · split at hx
    · rename_i h; exact ⟨by simpa using hx, h⟩
    · cases hx
  · split at hx
    · rename_i h; exact ⟨by simpa using hx, h⟩
    · cases hx
/-- What PlaceLast sees of the spots X of a log of m steps: h of no entry, then the entries'. -/
structure LastS (S : List StC) (id : Int) (l : List EntryC) (X : List SpotC) (h : Nat) : Prop where
  len : X.length = h + l.length
  h2 : h ≤ 2
  ris : ∀ k (hk : k + 1 < X.length), (X[k]'(by omega)).i < X[k + 1].i
  gid : ∀ k (hk : k < X.length), X[k].g = id
  seg : ∀ k (hk : k < X.length), 1 ≤ X[k].s ∧ X[k].s ≤ S.length
  head : ∀ k (hk : k < X.length), k < h → X[k].i ≤ 0
  ent : ∀ k (hk : k < X.length) (hh : h ≤ k), ∃ (hl : k - h < l.length) (j : Nat) (hj : j < S.length), X[k].i = l[k - h].i ∧ 1 ≤ X[k].i ∧ X[k].s = (j : Int) + 1 ∧ l[k - h] ∈ S[j].l
theorem lastS_of {S : List StC} {L : LG} (h : LastI S S.length L) (hI : isSp L.g = true) : ∃ q, LastS S L.g.id L.g.l (spotsL L.g L.F) q := by
  obtain ⟨H, hH2, hX, hH, hHp⟩ := spots_shape L.g L.F
  have hent : ∀ e ∈ L.g.l, entryB e = true := (sprB_iff.1 (isSp_iff.1 hI).2.2).1
  have hpw : Pw L.g.l := (sprB_iff.1 (isSp_iff.1 hI).2.2).2.2
  generalize spotsL L.g L.F = X at hX
  have hlen : X.length = H.length + L.g.l.length := by rw [hX, List.length_append, List.length_map]
  have hHd : ∀ x ∈ H, x.i ≤ 0 ∧ x.g = L.g.id ∧ 1 ≤ x.s ∧ x.s ≤ S.length := fun x hx => by
    obtain ⟨h1, h2⟩ := hH x hx
    have key : ∀ i, x = spotOf L.g L.F i → hasK L.F x.i = true → x.g = L.g.id ∧ 1 ≤ x.s ∧ x.s ≤ S.length := fun i hx h2 => by
      subst hx
      unfold hasK at h2
      cases hg : getZ LV.k L.F i with
      | none => rw [show (spotOf L.g L.F i).i = i from rfl, hg] at h2; cases h2
      | some y =>
        have h3 := h.1 i y hg
        refine ⟨rfl, ?_⟩
        show 1 ≤ plcS L.F i ∧ plcS L.F i ≤ _
        unfold plcS; rw [hg]; exact h3
    rcases h1 with h1 | h1
    · exact ⟨by rw [h1]; show (-1 : Int) ≤ 0; omega, key _ h1 h2⟩
    · exact ⟨by rw [h1]; show (0 : Int) ≤ 0; omega, key _ h1 h2⟩
  have hEd : ∀ (k : Nat) (hk : k < L.g.l.length), ∃ (j : Nat) (hj : j < S.length), 1 ≤ L.g.l[k].i ∧ plcS L.F L.g.l[k].i = (j : Int) + 1 ∧ L.g.l[k] ∈ S[j].l := fun k hk => by
    obtain ⟨j, hj, -, ⟨t, ht⟩, h2⟩ := h.2 _ (List.getElem_mem hk)
    exact ⟨j, hj, (entryB_bd (hent _ (List.getElem_mem hk))).1.1, by unfold plcS; rw [ht], h2⟩
  have hat1 : ∀ k (hk : k < X.length) (h1 : k < H.length), X[k] = H[k] := fun k hk h1 => by
    have : X[k]? = some H[k] := by rw [hX, List.getElem?_append_left h1, List.getElem?_eq_getElem h1]
    rw [List.getElem?_eq_getElem hk] at this; exact Option.some.inj this
  have hat2 : ∀ k (hk : k < X.length) (h1 : H.length ≤ k), X[k] = spotOf L.g L.F (L.g.l[k - H.length]'(by omega)).i := fun k hk h1 => by
    have hkl : k - H.length < L.g.l.length := by omega
    have : X[k]? = some (spotOf L.g L.F (L.g.l[k - H.length]'hkl).i) := by
      clear hlen
      rw [hX, List.getElem?_append_right h1, List.getElem?_map, List.getElem?_eq_getElem hkl]; rfl
    rw [List.getElem?_eq_getElem hk] at this; exact Option.some.inj this
  refine ⟨H.length, hlen, hH2, fun k hk => ?_, fun k hk => ?_, fun k hk => ?_, fun k hk hh => ?_, fun k hk hh => ?_⟩
  · by_cases h1 : k + 1 < H.length
    · rw [hat1 k (by omega) (by omega), hat1 (k + 1) hk h1]
      exact List.pairwise_iff_getElem.1 hHp k (k + 1) (by omega) h1 (by omega)
    · by_cases h2 : k < H.length
      · rw [hat1 k (by omega) h2, hat2 (k + 1) hk (by omega)]
        have h3 := (hHd _ (List.getElem_mem h2)).1
        obtain ⟨j, hj, h4, -⟩ := hEd (k + 1 - H.length) (by omega)
        show _ < (L.g.l[k + 1 - H.length]'(by omega)).i
        omega
      · rw [hat2 k (by omega) (by omega), hat2 (k + 1) hk (by omega)]
        show (L.g.l[k - H.length]'(by omega)).i < (L.g.l[k + 1 - H.length]'(by omega)).i
        exact List.pairwise_iff_getElem.1 hpw (k - H.length) (k + 1 - H.length) (by omega) (by omega) (by omega)
  · by_cases h1 : k < H.length
    · rw [hat1 k hk h1]; exact (hHd _ (List.getElem_mem h1)).2.1
    · rw [hat2 k hk (by omega)]; rfl
  · by_cases h1 : k < H.length
    · rw [hat1 k hk h1]; exact (hHd _ (List.getElem_mem h1)).2.2
    · rw [hat2 k hk (by omega)]
      obtain ⟨j, hj, h4, h5, -⟩ := hEd (k - H.length) (by omega)
      show 1 ≤ plcS L.F _ ∧ plcS L.F _ ≤ _
      rw [h5]; omega
  · rw [hat1 k hk hh]; exact (hHd _ (List.getElem_mem hh)).1
  · obtain ⟨j, hj, h4, h5, h6⟩ := hEd (k - H.length) (by omega)
    refine ⟨by omega, j, hj, ?_, ?_, ?_, h6⟩
    · rw [hat2 k hk hh]; rfl
    · rw [hat2 k hk hh]; exact h4
    · rw [hat2 k hk hh]; exact h5

end Go.Proofs.Ytloojgbkohpcfaa
