/- ManN: in one text. -/
import Derived.Test.YthedmemkckclpaaGreatManM
import Derived.Test.YthedmemkckclpaaGreatRec
/- Parts on all groups as plain data: where entries lie doesn't matter; what is settled does the same; lists of unlike groups go in either order. -/
namespace Go.Proofs.YthedmemkckclpaaGreat
open Go.RowKit Go.Shelf
set_option linter.unusedVariables false

theorem isB_at (p : PartC) (a : Option Addr) (c : Nat) (l : List EntryC) : isB { p with a := a, cap := c } l = isB p l :=
  (isB_addr p.g p.k a p.len c p.ht p.hv p.hc p.i p.t p.m p.h l).trans (isB_addr p.g p.k p.a p.len p.cap p.ht p.hv p.hc p.i p.t p.m p.h l).symm
theorem core_eq {x y : PL} (h : core x = core y) (hx : x.2.length = x.1.len) (hy : y.2.length = y.1.len) : y = ({ x.1 with a := y.1.a, cap := y.1.cap }, x.2) := by
  obtain ⟨⟨g, k, a, len, cap, ht, hv, hc, i, t, m, hh⟩, l⟩ := x
  obtain ⟨⟨g', k', a', len', cap', ht', hv', hc', i', t', m', hh'⟩, l'⟩ := y
  simp only [core, ReadC.mk.injEq] at h
  obtain ⟨rfl, rfl, rfl, rfl, rfl, rfl, rfl, rfl, rfl, rfl⟩ := h
  dsimp only at hx hy ⊢
  rw [← hx, ← hy]
theorem chkG_at (g : GM) (p : PartC) (a : Option Addr) (c : Nat) (l : List EntryC) : chkG g { p with a := a, cap := c } l = chkG g p l := by
  unfold chkG; rw [isB_at]
theorem doG_at (g : GM) (p : PartC) (a : Option Addr) (c : Nat) (l : List EntryC) : doG g { p with a := a, cap := c } l = doG g p l := by
  unfold doG; rw [chkG_at]
theorem refP_at (p : PartC) (a : Option Addr) (c : Nat) (l : List EntryC) : refP ({ p with a := a, cap := c }, l) = refP (p, l) := by
  unfold refP; dsimp only; rw [isB_at]
theorem manE_at (L : List GM) (p : PartC) (a : Option Addr) (c : Nat) (l : List EntryC) : manE L ({ p with a := a, cap := c }, l) = manE L (p, l) := by
  unfold manE manE1; dsimp only; rw [refP_at, chkG_at]
theorem manD_at (L : List GM) (p : PartC) (a : Option Addr) (c : Nat) (l : List EntryC) : manD L ({ p with a := a, cap := c }, l) = manD L (p, l) := by
  unfold manD; rw [manE_at]; dsimp only; rw [doG_at]
/-- Lists of parts alike, wherever their entries lie. -/
def CoreL (S T : List PL) : Prop := S.map core = T.map core ∧ (∀ x ∈ S, x.2.length = x.1.len) ∧ ∀ x ∈ T, x.2.length = x.1.len
theorem CoreL.cons {x y : PL} {S T : List PL} (h : CoreL (x :: S) (y :: T)) : y = ({ x.1 with a := y.1.a, cap := y.1.cap }, x.2) ∧ CoreL S T := by
  obtain ⟨h1, h2, h3⟩ := h
  simp only [List.map_cons, List.cons.injEq] at h1
  exact ⟨core_eq h1.1 (h2 x List.mem_cons_self) (h3 y List.mem_cons_self), h1.2, fun z hz => h2 z (List.mem_cons_of_mem _ hz), fun z hz => h3 z (List.mem_cons_of_mem _ hz)⟩
theorem CoreL.all : ∀ {S T : List PL} (h : CoreL S T) (L : List GM), S.length = T.length ∧ S.any refP = T.any refP ∧ manF L S = manF L T ∧ manW L S = manW L T
  | [], [], _, _ => ⟨rfl, rfl, rfl, rfl⟩
  | [], y :: T, h, _ => by have := h.1; simp at this
  | x :: S, [], h, _ => by have := h.1; simp at this
  | x :: S, y :: T, h, L => by
    obtain ⟨e, h2⟩ := h.cons
    have hE : manE L y = manE L x := by rw [e]; exact manE_at L x.1 _ _ x.2
    have hD : manD L y = manD L x := by rw [e]; exact manD_at L x.1 _ _ x.2
    have hR : refP y = refP x := by rw [e]; exact refP_at x.1 _ _ x.2
    obtain ⟨i1, i2, i3, i4⟩ := h2.all (manD L x)
    refine ⟨by simp [i1], by simp [hR, i2], ?_, ?_⟩
    · show (if manE L x ≠ 0 then manE L x else manF (manD L x) S) = if manE L y ≠ 0 then manE L y else manF (manD L y) T
      rw [hE, hD, i3]
    · show manW (manD L x) S = manW (manD L y) T
      rw [hD, i4]
theorem CoreL.man {S T : List PL} (h : CoreL S T) (L : List GM) : manT L S = manT L T ∧ manDo L S = manDo L T := by
  obtain ⟨h1, h2, h3, h4⟩ := h.all L
  have e : manT L S = manT L T := by unfold manT; rw [h1, h2, h3]
  exact ⟨e, by unfold manDo; rw [e, h4]⟩

/-! ### What is settled does the same. -/
theorem setP_does {g : GM} {p : PartC} {l : List EntryC} (hG : isG g = true) (hk5 : p.k ≠ 5) (h : chkG g p l = 0) :
    chkG g (setP g p) l = 0 ∧ doG g (setP g p) l = doG g p l ∧ (setP g p).g = p.g ∧ (setP g p).k ≠ 5 ∧ (setP g p).k ≠ 6 ∧ (setP g p).len = p.len ∧ isB (setP g p) l = true ∧ ((setP g p).k = 3 → p.k = 3 ∨ g.l ≠ []) := by
  obtain ⟨hb, hg, hk6, h0⟩ : isB p l = true ∧ p.g = g.id ∧ p.k ≠ 6 ∧ chkG g p l = 0 := by
    have h1 := h
    unfold chkG at h1
    split at h1
    · cases h1
    · rename_i hn
      exact ⟨by simpa using fun e => hn (.inl e), by simpa using fun e => hn (.inr (.inr (.inr e))), fun e => hn (.inr (.inl e)), h⟩
  have keep : chkG g p l = 0 ∧ doG g p l = doG g p l ∧ p.g = p.g ∧ p.k ≠ 5 ∧ p.k ≠ 6 ∧ p.len = p.len ∧ isB p l = true ∧ (p.k = 3 → p.k = 3 ∨ g.l ≠ []) := ⟨h, rfl, rfl, hk5, hk6, rfl, hb, .inl⟩
  obtain ⟨-, -, hD⟩ := isG_iff.1 hG
  have hfi := (isG_iff.1 hG).1.2.1
  unfold setP
  split
  · exact keep
  rename_i ht
  split
  · rename_i hk
    -- a compaction that can be done has its term
    have hc : chkC g p.i p.t = 0 := by
      have h1 := h
      unfold chkG at h1
      rw [if_neg (by rw [hb]; simp [hk, hg]), if_neg (by omega), if_pos hk] at h1
      exact h1
    unfold chkC at hc
    split at hc
    · cases hc
    split at hc
    · cases hc
    rename_i h1 h2
    have hT : termG g p.i = (entT g.l p.i, 0) := by
      unfold termG; rw [if_neg (by omega), if_neg (by omega), if_neg (by omega), if_neg h2]
    rw [hT]
    dsimp only
    unfold lastG at h2
    have hE := entT_dense hD p.i
    have hin : g.fi ≤ p.i ∧ (p.i - g.fi).toNat < g.l.length := ⟨by omega, by omega⟩
    rw [dif_pos hin] at hE
    have hen := (denseB_at hD hin.2).2
    unfold entryB at hen
    simp only [Bool.and_eq_true, wB_iff, decide_eq_true_eq] at hen
    have hb2 : isB { p with t := entT g.l p.i } l = true := by
      rw [isB_iff] at hb ⊢
      refine ⟨hb.1, ?_⟩
      rcases hb.2 with h | h | h | h | h | h
      · omega
      · omega
      · exact .inr (.inr (.inl ⟨hk, h.2.1, .inl (wB_iff.2 (by rw [hE]; exact hen.2.1)), h.2.2.2⟩))
      · omega
      · omega
      · omega
    have hc2 : chkG g { p with t := entT g.l p.i } l = 0 := by
      unfold chkG
      rw [if_neg (by rw [hb2]; simp [hk, hg]), if_neg (by show ¬ p.k = 1; omega), if_pos hk]
      unfold chkC lastG
      rw [if_neg h1, if_neg h2, if_neg (by simp)]
    refine ⟨hc2, ?_, rfl, hk5, hk6, rfl, hb2, fun _ => .inl hk⟩
    unfold doG
    rw [hc2, h]
    simp [hk]
  split
  · rename_i hk3 hk
    obtain ⟨hk4, he⟩ := hk
    have hlow : ¬ p.i < g.fi := by
      have h1 := h
      unfold chkG at h1
      rw [if_neg (by rw [hb]; simp [hk4, hg]), if_neg (by omega), if_neg (by omega), if_pos hk4] at h1
      split at h1
      · cases h1
      · assumption
    have h2 : ¬ lastG g < p.i := by
      intro h2
      apply ht
      unfold termG
      rw [if_neg (by omega), if_neg (by omega), if_neg (by omega), if_pos h2]
      show (16 : Int) ≠ 0
      decide
    have hT : termG g p.i = (entT g.l p.i, 0) := by
      unfold termG; rw [if_neg (by omega), if_neg (by omega), if_neg (by omega), if_neg h2]
    rw [hT] at he
    dsimp only at he
    have hb2 : isB { p with k := 3 } l = true := by
      rw [isB_iff] at hb ⊢
      refine ⟨hb.1, ?_⟩
      rcases hb.2 with h | h | h | h | h | h
      · omega
      · omega
      · omega
      · exact .inr (.inr (.inl ⟨rfl, h.2.1, .inl h.2.2.1, h.2.2.2⟩))
      · omega
      · omega
    have hc2 : chkG g { p with k := 3 } l = 0 := by
      unfold chkG
      rw [if_neg (by rw [hb2]; simp [hg]), if_neg (by show ¬ (3 : Int) = 1; decide), if_pos rfl]
      unfold chkC
      rw [if_neg hlow, if_neg h2, if_neg (by rw [he]; simp)]
    refine ⟨hc2, ?_, rfl, by show (3 : Int) ≠ 5; decide, by show (3 : Int) ≠ 6; decide, rfl, hb2, fun _ => .inr fun e => ?_⟩
    · unfold doG
      rw [hc2, h]
      simp [hk4, he]
    · unfold lastG at h2
      rw [e] at h2
      simp at h2
      omega
  · exact keep
theorem refP_iff {x : PL} : refP x = false ↔ isB x.1 x.2 = true ∧ x.1.k ≠ 6 := by unfold refP; simp
/-- A part that can be done to these groups, settled by them. -/
theorem setX_same {N : Nat} {L : List GM} {x : PL} (h : manOK N L) (he : manE L x = 0) :
    manE L (setX L x) = 0 ∧ manD L (setX L x) = manD L x ∧ refP (setX L x) = false ∧ (setX L x).2 = x.2 ∧ (setX L x).1.len = x.1.len ∧ (setX L x).1.g = x.1.g := by
  obtain ⟨hb, hk6⟩ := manE_ok he
  have hR : refP x = false := refP_iff.2 ⟨hb, hk6⟩
  have hid := isB_gid hb
  have hE1 : manE1 (getZ GM.id L x.1.g) x = 0 := he
  unfold setX setX1
  rw [if_pos hE1]
  by_cases hk5 : x.1.k = 5
  · have hs : setP ((getZ GM.id L x.1.g).getD (newG x.1.g)) x.1 = x.1 := by
      unfold setP
      split
      · rfl
      · rw [if_neg (by omega), if_neg (by omega)]
    rw [hs]
    exact ⟨he, rfl, hR, rfl, rfl, rfl⟩
  have hc : chkG (manG L x.1.g) x.1 x.2 = 0 := by
    unfold manE1 at hE1
    rw [hR, if_neg (by simp)] at hE1
    split at hE1
    · cases hE1
    first | exact hE1 | (rw [if_neg hk5] at hE1; exact hE1)
  obtain ⟨g1, g2, g3⟩ := manG_ok h hid
  obtain ⟨s1, s2, s3, s4, s5, s6, s7, s8⟩ := setP_does g1 hk5 hc
  have hR2 : refP (setP (manG L x.1.g) x.1, x.2) = false := by rw [refP_iff]; exact ⟨s7, s5⟩
  rw [show (getZ GM.id L x.1.g).getD (newG x.1.g) = manG L x.1.g from rfl]
  have hEs : manE L (setP (manG L x.1.g) x.1, x.2) = 0 := by
    unfold manE manE1
    dsimp only
    rw [s3, hR2, if_neg (by simp), if_neg ?_, if_neg s4]
    · exact s1
    · rintro ⟨hn, h3 | h5⟩
      · unfold manE1 at hE1
        rw [hR, if_neg (by simp)] at hE1
        rcases s8 h3 with h3 | hne
        · rw [if_pos ⟨hn, .inl h3⟩] at hE1
          cases hE1
        · apply hne
          unfold manG
          cases hg : getZ GM.id L x.1.g with
          | none => rfl
          | some g => rw [hg] at hn; cases hn
      · exact s4 h5
  refine ⟨hEs, ?_, hR2, rfl, s6, s3⟩
  unfold manD
  have h00 : ¬ (0 : Int) ≠ 0 := by simp
  rw [hEs, he, if_neg h00, if_neg h00]
  dsimp only
  rw [if_neg s4, if_neg hk5, s3, s2]
theorem manS_len : ∀ (L : List GM) (ps : List PL), (manS L ps).length = ps.length
  | _, [] => rfl
  | L, x :: r => by show (manS (manD L x) r).length + 1 = _; rw [manS_len]; rfl
theorem manS_lens : ∀ {N : Nat} {ps : List PL} {L : List GM}, manOK N L → N + 6 * ps.length ≤ 100000 → (∀ x ∈ ps, x.2.length = x.1.len) → ∀ x ∈ manS L ps, x.2.length = x.1.len := by
  intro N ps
  induction ps generalizing N with
  | nil => intro L _ _ _ x hx; cases hx
  | cons y r ih =>
    intro L h hN hl x hx
    rw [List.length_cons] at hN
    rcases List.mem_cons.1 hx with rfl | hx
    · have := hl y List.mem_cons_self
      unfold setX setX1
      split
      · show y.2.length = (setP _ y.1).len
        rw [this]
        unfold setP
        split
        · rfl
        · split
          · rfl
          · split <;> rfl
      · exact this
    · exact ih (N := N + 6) (manD_ok h (by omega) (hl y List.mem_cons_self)) (by omega) (fun z hz => hl z (List.mem_cons_of_mem _ hz)) x hx
theorem manS_same : ∀ {N : Nat} {ps : List PL} {L : List GM}, manOK N L → N + 6 * ps.length ≤ 100000 → (∀ x ∈ ps, x.2.length = x.1.len) → manF L ps = 0 →
    manF L (manS L ps) = 0 ∧ manW L (manS L ps) = manW L ps ∧ (manS L ps).any refP = false := by
  intro N ps
  induction ps generalizing N with
  | nil => intro L _ _ _ _; exact ⟨rfl, rfl, rfl⟩
  | cons y r ih =>
    intro L h hN hl hF
    rw [List.length_cons] at hN
    have hE : manE L y = 0 := by
      have hF' : (if manE L y ≠ 0 then manE L y else manF (manD L y) r) = 0 := hF
      split at hF'
      · exact hF'
      · rename_i h0; omega
    have hF2 : manF (manD L y) r = 0 := by
      have hF' : (if manE L y ≠ 0 then manE L y else manF (manD L y) r) = 0 := hF
      rw [if_neg (by rw [hE]; simp)] at hF'
      exact hF'
    obtain ⟨s1, s2, s3, -⟩ := setX_same h hE
    obtain ⟨i1, i2, i3⟩ := ih (N := N + 6) (manD_ok h (by omega) (hl y List.mem_cons_self)) (by omega) (fun z hz => hl z (List.mem_cons_of_mem _ hz)) hF2
    refine ⟨?_, ?_, ?_⟩
    · show (if manE L (setX L y) ≠ 0 then manE L (setX L y) else manF (manD L (setX L y)) (manS (manD L y) r)) = 0
      rw [s1, s2, i1, if_neg (by simp)]
    · show manW (manD L (setX L y)) (manS (manD L y) r) = manW (manD L y) r
      rw [s2, i2]
    · show (setX L y :: manS (manD L y) r).any refP = false
      rw [List.any_cons, s3, i3]; rfl
theorem manT_zero {L : List GM} {ps : List PL} (h : manT L ps = 0) : (1 ≤ ps.length ∧ ps.length ≤ 4) ∧ ps.any refP = false ∧ manF L ps = 0 := by
  unfold manT at h
  split at h
  · cases h
  · rename_i hn
    exact ⟨⟨by omega, by omega⟩, by simpa using fun e => hn (.inr (.inr e)), h⟩
/-- A list that can be done, settled: it can be done, and makes the same. -/
theorem settled_same {N : Nat} {ps S : List PL} {L : List GM} (h : manOK N L) (hN : N + 6 * ps.length ≤ 100000) (hl : ∀ x ∈ ps, x.2.length = x.1.len) (hS : S.map core = (manS L ps).map core) (hSl : ∀ x ∈ S, x.2.length = x.1.len) (h0 : manT L ps = 0) :
    manT L S = 0 ∧ manDo L S = manW L ps := by
  obtain ⟨h1, h2, h3⟩ := manT_zero h0
  obtain ⟨s1, s2, s3⟩ := manS_same h hN hl h3
  have hC : CoreL S (manS L ps) := ⟨hS, hSl, manS_lens h hN hl⟩
  obtain ⟨c1, c2⟩ := hC.man L
  have ht : manT L (manS L ps) = 0 := by
    unfold manT
    rw [manS_len, s3, s1, if_neg (by rintro (h | h | h); (omega); (omega); (cases h))]
  exact ⟨c1.trans ht, c2.trans (by unfold manDo; rw [ht, if_pos rfl, s2])⟩
/-- One part of a list that can be done, by itself. -/
theorem single_do {L : List GM} {x : PL} (h : manE L x = 0) : manT L [x] = 0 ∧ manDo L [x] = manD L x := by
  obtain ⟨hb, hk⟩ := manE_ok h
  have ht : manT L [x] = 0 := by
    unfold manT
    rw [if_neg]
    · show (if manE L x ≠ 0 then manE L x else 0) = 0
      rw [if_neg (by rw [h]; simp)]
    · rintro (e | e | e)
      · simp at e
      · simp at e
      · rw [List.any_cons, refP_iff.2 ⟨hb, hk⟩] at e; cases e
  exact ⟨ht, by unfold manDo; rw [ht, if_pos rfl]; rfl⟩
theorem manF_at : ∀ {ps : List PL} {L : List GM} (j : Nat) (hj : j < ps.length), manF L ps = 0 → manE (manW L (ps.take j)) ps[j] = 0
  | x :: r, L, j, hj, h => by
    have h' : (if manE L x ≠ 0 then manE L x else manF (manD L x) r) = 0 := h
    split at h'
    · rename_i h1; exact absurd h' h1
    cases j with
    | zero => rename_i h1; exact Decidable.not_not.1 h1
    | succ j => exact manF_at (L := manD L x) j (by simpa using hj) h'

/-! ### Lists of unlike groups. -/
theorem manE_get {L M : List GM} {x : PL} (h : getZ GM.id L x.1.g = getZ GM.id M x.1.g) : manE L x = manE M x := by unfold manE; rw [h]
theorem getZ_manW : ∀ {N : Nat} {ps : List PL} {L : List GM}, manOK N L → N + 6 * ps.length ≤ 100000 → (∀ x ∈ ps, x.2.length = x.1.len) → ∀ i, (∀ x ∈ ps, x.1.g ≠ i) → getZ GM.id (manW L ps) i = getZ GM.id L i := by
  intro N ps
  induction ps generalizing N with
  | nil => intro L _ _ _ i _; rfl
  | cons y r ih =>
    intro L h hN hl i hi
    rw [List.length_cons] at hN
    have := ih (N := N + 6) (L := manD L y) (manD_ok h (by omega) (hl y List.mem_cons_self)) (by omega) (fun z hz => hl z (List.mem_cons_of_mem _ hz)) i (fun z hz => hi z (List.mem_cons_of_mem _ hz))
    show getZ GM.id (manW (manD L y) r) i = _
    rw [this, getZ_manD h (by omega) (hl y List.mem_cons_self), if_neg (Ne.symm (hi y List.mem_cons_self))]
/-- Two lists of groups that agree on what a list of parts speaks of. -/
theorem manW_agree : ∀ {N : Nat} {ps : List PL} {L M : List GM}, manOK N L → manOK N M → N + 6 * ps.length ≤ 100000 → (∀ x ∈ ps, x.2.length = x.1.len) → (∀ x ∈ ps, getZ GM.id L x.1.g = getZ GM.id M x.1.g) →
    manF L ps = manF M ps ∧ ∀ i, (∃ x ∈ ps, x.1.g = i) → getZ GM.id (manW L ps) i = getZ GM.id (manW M ps) i := by
  intro N ps
  induction ps generalizing N with
  | nil => intro L M _ _ _ _ _; exact ⟨rfl, fun i ⟨x, hx, _⟩ => by cases hx⟩
  | cons y r ih =>
    intro L M h k hN hl ha
    rw [List.length_cons] at hN
    have hy := hl y List.mem_cons_self
    have hE := manE_get (ha y List.mem_cons_self)
    have hL := fun i => getZ_manD h (by omega) hy i
    have hM := fun i => getZ_manD k (by omega) hy i
    have hag : ∀ i, (i = y.1.g ∨ getZ GM.id L i = getZ GM.id M i) → getZ GM.id (manD L y) i = getZ GM.id (manD M y) i := fun i hi => by
      rw [hL, hM]
      by_cases e : i = y.1.g
      · rw [if_pos e, if_pos e, ha y List.mem_cons_self]
      · rw [if_neg e, if_neg e]; exact hi.resolve_left e
    obtain ⟨i1, i2⟩ := ih (N := N + 6) (L := manD L y) (M := manD M y) (manD_ok h (by omega) hy) (manD_ok k (by omega) hy) (by omega) (fun z hz => hl z (List.mem_cons_of_mem _ hz)) (fun z hz => hag _ (.inr (ha z (List.mem_cons_of_mem _ hz))))
    refine ⟨?_, fun i ⟨x, hx, hxi⟩ => ?_⟩
    · show (if manE L y ≠ 0 then manE L y else manF (manD L y) r) = if manE M y ≠ 0 then manE M y else manF (manD M y) r
      rw [hE, i1]
    · show getZ GM.id (manW (manD L y) r) i = getZ GM.id (manW (manD M y) r) i
      by_cases hr : ∃ x ∈ r, x.1.g = i
      · exact i2 i hr
      · have hn : ∀ x ∈ r, x.1.g ≠ i := fun x hx e => hr ⟨x, hx, e⟩
        have hi : i = y.1.g := by
          rcases List.mem_cons.1 hx with rfl | hx
          · exact hxi.symm
          · exact absurd hxi (hn x hx)
        rw [getZ_manW (manD_ok h (by omega) hy) (by omega) (fun z hz => hl z (List.mem_cons_of_mem _ hz)) i hn, getZ_manW (manD_ok k (by omega) hy) (by omega) (fun z hz => hl z (List.mem_cons_of_mem _ hz)) i hn]
        exact hag i (.inl hi)
theorem manDo_ok {N : Nat} {ps : List PL} {L : List GM} (h : manOK N L) (hN : N + 6 * ps.length ≤ 100000) (hl : ∀ x ∈ ps, x.2.length = x.1.len) : manOK (N + 6 * ps.length) (manDo L ps) := by
  unfold manDo
  split
  · exact manW_ok h hN hl
  · exact manOK_mono h (by omega)
/-- What a list that speaks of none of these groups' numbers leaves of them. -/
theorem getZ_manDo {N : Nat} {ps : List PL} {L : List GM} (h : manOK N L) (hN : N + 6 * ps.length ≤ 100000) (hl : ∀ x ∈ ps, x.2.length = x.1.len) (i : Int) (hi : ∀ x ∈ ps, x.1.g ≠ i) : getZ GM.id (manDo L ps) i = getZ GM.id L i := by
  unfold manDo
  split
  · exact getZ_manW h hN hl i hi
  · rfl
theorem manT_agree {N : Nat} {ps : List PL} {L M : List GM} (h : manOK N L) (k : manOK N M) (hN : N + 6 * ps.length ≤ 100000) (hl : ∀ x ∈ ps, x.2.length = x.1.len) (ha : ∀ x ∈ ps, getZ GM.id L x.1.g = getZ GM.id M x.1.g) :
    manT L ps = manT M ps ∧ ∀ i, (∃ x ∈ ps, x.1.g = i) → getZ GM.id (manDo L ps) i = getZ GM.id (manDo M ps) i := by
  obtain ⟨h1, h2⟩ := manW_agree h k hN hl ha
  have e : manT L ps = manT M ps := by unfold manT; rw [h1]
  refine ⟨e, fun i hi => ?_⟩
  unfold manDo
  rw [e]
  split
  · exact h2 i hi
  · obtain ⟨x, hx, rfl⟩ := hi
    exact ha x hx
theorem apart_same {N : Nat} {a b : List PL} {L : List GM} (h : manOK N L) (hN : N + 6 * a.length + 6 * b.length ≤ 100000) (ha : ∀ x ∈ a, x.2.length = x.1.len) (hb : ∀ x ∈ b, x.2.length = x.1.len) (hd : ∀ x ∈ a, ∀ y ∈ b, x.1.g ≠ y.1.g) :
    manT (manDo L b) a = manT L a ∧ manT (manDo L a) b = manT L b ∧ manDo (manDo L a) b = manDo (manDo L b) a := by
  have hLa := manDo_ok h (by omega) ha
  have hLb := manDo_ok h (by omega) hb
  have hA := manT_agree (N := N + 6 * b.length) (ps := a) hLb (manOK_mono h (by omega)) (by omega) ha (fun x hx => getZ_manDo h (by omega) hb _ (fun y hy => Ne.symm (hd x hx y hy)))
  have hB := manT_agree (N := N + 6 * a.length) (ps := b) hLa (manOK_mono h (by omega)) (by omega) hb (fun x hx => getZ_manDo h (by omega) ha _ (fun y hy => hd y hy x hx))
  refine ⟨hA.1, hB.1, ?_⟩
  refine risZ_ext (manDo_ok hLa (by omega) hb).1 (manDo_ok hLb (by omega) ha).1 fun i => ?_
  by_cases h1 : ∃ x ∈ a, x.1.g = i
  · rw [hA.2 i h1]
    obtain ⟨x, hx, rfl⟩ := h1
    exact getZ_manDo hLa (by omega) hb _ (fun y hy => Ne.symm (hd x hx y hy))
  · have hn : ∀ x ∈ a, x.1.g ≠ i := fun x hx e => h1 ⟨x, hx, e⟩
    rw [getZ_manDo hLb (by omega) ha i hn]
    by_cases h2 : ∃ x ∈ b, x.1.g = i
    · exact hB.2 i h2
    · have hm : ∀ x ∈ b, x.1.g ≠ i := fun x hx e => h2 ⟨x, hx, e⟩
      rw [getZ_manDo hLa (by omega) hb i hm, getZ_manDo h (by omega) ha i hn, getZ_manDo h (by omega) hb i hm]

end Go.Proofs.YthedmemkckclpaaGreat
