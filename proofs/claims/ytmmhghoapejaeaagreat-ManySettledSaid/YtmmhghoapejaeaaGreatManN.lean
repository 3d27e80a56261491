/- ManN, ManP, ManQ: in one text. -/
import Derived.Test.YtmmhghoapejaeaaGreatManM
import Derived.Test.YtmmhghoapejaeaaGreatRec
import Derived.Test.YtmmhghoapejaeaaGreatManW
import Derived.Test.YtmmhghoapejaeaaGreatMan
import Derived.Test.YtmmhghoapejaeaaGreatKnown7
/- Parts on all groups as plain data: where entries lie doesn't matter; what is settled does the same; lists of unlike groups go in either order. -/
namespace Go.Proofs.YtmmhghoapejaeaaGreat
open Go.RowKit Go.Shelf
set_option linter.unusedVariables false

theorem isB_at (p : PartC) (a : Option Addr) (c : Nat) (l : List EntryC) : isB { p with a := a, cap := c } l = isB p l :=
  (isB_addr p.g p.k a p.len c p.ht p.hv p.hc p.i p.t p.m p.h l).trans (isB_addr p.g p.k p.a p.len p.cap p.ht p.hv p.hc p.i p.t p.m p.h l).symm
theorem core_eq {x y : PL} (h : core x = core y) (hx : x.2.length = x.1.len) (hy : y.2.length = y.1.len) : y = ({ x.1 with a := y.1.a, cap := y.1.cap }, x.2) := by
  obtain ⟨⟨g, k, a, len, cap, ht, hv, hc, i, t, m, hh⟩, l⟩ := x
  obtain ⟨⟨g', k', a', len', cap', ht', hv', hc', i', t', m', hh'⟩, l'⟩ := y
  simp only [core, ReadC.mk.injEq] at h
  obtain ⟨rfl, rfl, rfl, rfl, rfl, rfl, rfl, rfl, rfl, rfl⟩ := h
  dsimp only at hx hy ⊢
  rw [← hx, ← hy]
theorem chkG_at (g : GM) (p : PartC) (a : Option Addr) (c : Nat) (l : List EntryC) : chkG g { p with a := a, cap := c } l = chkG g p l := by
  unfold chkG; rw [isB_at]
theorem doG_at (g : GM) (p : PartC) (a : Option Addr) (c : Nat) (l : List EntryC) : doG g { p with a := a, cap := c } l = doG g p l := by
  unfold doG; rw [chkG_at]
theorem refP_at (p : PartC) (a : Option Addr) (c : Nat) (l : List EntryC) : refP ({ p with a := a, cap := c }, l) = refP (p, l) := by
  unfold refP; dsimp only; rw [isB_at]
theorem manE_at (L : List GM) (p : PartC) (a : Option Addr) (c : Nat) (l : List EntryC) : manE L ({ p with a := a, cap := c }, l) = manE L (p, l) := by
  unfold manE manE1; dsimp only; rw [refP_at, chkG_at]
theorem manD_at (L : List GM) (p : PartC) (a : Option Addr) (c : Nat) (l : List EntryC) : manD L ({ p with a := a, cap := c }, l) = manD L (p, l) := by
  unfold manD; rw [manE_at]; dsimp only; rw [doG_at]
/-- Lists of parts alike, wherever their entries lie. -/
def CoreL (S T : List PL) : Prop := S.map core = T.map core ∧ (∀ x ∈ S, x.2.length = x.1.len) ∧ ∀ x ∈ T, x.2.length = x.1.len
theorem CoreL.cons {x y : PL} {S T : List PL} (h : CoreL (x :: S) (y :: T)) : y = ({ x.1 with a := y.1.a, cap := y.1.cap }, x.2) ∧ CoreL S T := by
  obtain ⟨h1, h2, h3⟩ := h
  simp only [List.map_cons, List.cons.injEq] at h1
  exact ⟨core_eq h1.1 (h2 x List.mem_cons_self) (h3 y List.mem_cons_self), h1.2, fun z hz => h2 z (List.mem_cons_of_mem _ hz), fun z hz => h3 z (List.mem_cons_of_mem _ hz)⟩
theorem CoreL.all : ∀ {S T : List PL} (h : CoreL S T) (L : List GM), S.length = T.length ∧ S.any refP = T.any refP ∧ manF L S = manF L T ∧ manW L S = manW L T
  | [], [], _, _ => ⟨rfl, rfl, rfl, rfl⟩
  | [], y :: T, h, _ => by have := h.1; simp at this
  | x :: S, [], h, _ => by have := h.1; simp at this
  | x :: S, y :: T, h, L => by
    obtain ⟨e, h2⟩ := h.cons
    have hE : manE L y = manE L x := by rw [e]; exact manE_at L x.1 _ _ x.2
    have hD : manD L y = manD L x := by rw [e]; exact manD_at L x.1 _ _ x.2
    have hR : refP y = refP x := by rw [e]; exact refP_at x.1 _ _ x.2
    obtain ⟨i1, i2, i3, i4⟩ := h2.all (manD L x)
    refine ⟨by simp [i1], by simp [hR, i2], ?_, ?_⟩
    · show (if manE L x ≠ 0 then manE L x else manF (manD L x) S) = if manE L y ≠ 0 then manE L y else manF (manD L y) T
      rw [hE, hD, i3]
    · show manW (manD L x) S = manW (manD L y) T
      rw [hD, i4]
theorem CoreL.man {S T : List PL} (h : CoreL S T) (L : List GM) : manT L S = manT L T ∧ manDo L S = manDo L T := by
  obtain ⟨h1, h2, h3, h4⟩ := h.all L
  have e : manT L S = manT L T := by unfold manT; rw [h1, h2, h3]
  exact ⟨e, by unfold manDo; rw [e, h4]⟩

/-! ### What is settled does the same. -/
theorem setP_does {g : GM} {p : PartC} {l : List EntryC} (hG : isG g = true) (hk5 : p.k ≠ 5) (h : chkG g p l = 0) :
    chkG g (setP g p) l = 0 ∧ doG g (setP g p) l = doG g p l ∧ (setP g p).g = p.g ∧ (setP g p).k ≠ 5 ∧ (setP g p).k ≠ 6 ∧ (setP g p).len = p.len ∧ isB (setP g p) l = true ∧ ((setP g p).k = 3 → p.k = 3 ∨ g.l ≠ []) := by
  obtain ⟨hb, hg, hk6, h0⟩ : isB p l = true ∧ p.g = g.id ∧ p.k ≠ 6 ∧ chkG g p l = 0 := by
    have h1 := h
    unfold chkG at h1
    split at h1
    · cases h1
    · rename_i hn
      exact ⟨by simpa using fun e => hn (.inl e), by simpa using fun e => hn (.inr (.inr (.inr e))), fun e => hn (.inr (.inl e)), h⟩
  have keep : chkG g p l = 0 ∧ doG g p l = doG g p l ∧ p.g = p.g ∧ p.k ≠ 5 ∧ p.k ≠ 6 ∧ p.len = p.len ∧ isB p l = true ∧ (p.k = 3 → p.k = 3 ∨ g.l ≠ []) := ⟨h, rfl, rfl, hk5, hk6, rfl, hb, .inl⟩
  obtain ⟨-, -, hD⟩ := isG_iff.1 hG
  have hfi := (isG_iff.1 hG).1.2.1
  unfold setP
  split
  · exact keep
  rename_i ht
  split
  · rename_i hk
    -- a compaction that can be done has its term
    have hc : chkC g p.i p.t = 0 := by
      have h1 := h
      unfold chkG at h1
      rw [if_neg (by rw [hb]; simp [hk, hg]), if_neg (by omega), if_pos hk] at h1
      exact h1
    unfold chkC at hc
    split at hc
    · cases hc
    split at hc
    · cases hc
    rename_i h1 h2
    have hT : termG g p.i = (entT g.l p.i, 0) := by
      unfold termG; rw [if_neg (by omega), if_neg (by omega), if_neg (by omega), if_neg h2]
    rw [hT]
    dsimp only
    unfold lastG at h2
    have hE := entT_dense hD p.i
    have hin : g.fi ≤ p.i ∧ (p.i - g.fi).toNat < g.l.length := ⟨by omega, by omega⟩
    rw [dif_pos hin] at hE
    have hen := (denseB_at hD hin.2).2
    unfold entryB at hen
    simp only [Bool.and_eq_true, wB_iff, decide_eq_true_eq] at hen
    have hb2 : isB { p with t := entT g.l p.i } l = true := by
      rw [isB_iff] at hb ⊢
      refine ⟨hb.1, ?_⟩
      rcases hb.2 with h | h | h | h | h | h
      · omega
      · omega
      · exact .inr (.inr (.inl ⟨hk, h.2.1, .inl (wB_iff.2 (by rw [hE]; exact hen.2.1)), h.2.2.2⟩))
      · omega
      · omega
      · omega
    have hc2 : chkG g { p with t := entT g.l p.i } l = 0 := by
      unfold chkG
      rw [if_neg (by rw [hb2]; simp [hk, hg]), if_neg (by show ¬ p.k = 1; omega), if_pos hk]
      unfold chkC lastG
      rw [if_neg h1, if_neg h2, if_neg (by simp)]
    refine ⟨hc2, ?_, rfl, hk5, hk6, rfl, hb2, fun _ => .inl hk⟩
    unfold doG
    rw [hc2, h]
    simp [hk]
  split
  · rename_i hk3 hk
    obtain ⟨hk4, he⟩ := hk
    have hlow : ¬ p.i < g.fi := by
      have h1 := h
      unfold chkG at h1
      rw [if_neg (by rw [hb]; simp [hk4, hg]), if_neg (by omega), if_neg (by omega), if_pos hk4] at h1
      split at h1
      · cases h1
      · assumption
    have h2 : ¬ lastG g < p.i := by
      intro h2
      apply ht
      unfold termG
      rw [if_neg (by omega), if_neg (by omega), if_neg (by omega), if_pos h2]
      show (16 : Int) ≠ 0
      decide
    have hT : termG g p.i = (entT g.l p.i, 0) := by
      unfold termG; rw [if_neg (by omega), if_neg (by omega), if_neg (by omega), if_neg h2]
    rw [hT] at he
    dsimp only at he
    have hb2 : isB { p with k := 3 } l = true := by
      rw [isB_iff] at hb ⊢
      refine ⟨hb.1, ?_⟩
      rcases hb.2 with h | h | h | h | h | h
      · omega
      · omega
      · omega
      · exact .inr (.inr (.inl ⟨rfl, h.2.1, .inl h.2.2.1, h.2.2.2⟩))
      · omega
      · omega
    have hc2 : chkG g { p with k := 3 } l = 0 := by
      unfold chkG
      rw [if_neg (by rw [hb2]; simp [hg]), if_neg (by show ¬ (3 : Int) = 1; decide), if_pos rfl]
      unfold chkC
      rw [if_neg hlow, if_neg h2, if_neg (by rw [he]; simp)]
    refine ⟨hc2, ?_, rfl, by show (3 : Int) ≠ 5; decide, by show (3 : Int) ≠ 6; decide, rfl, hb2, fun _ => .inr fun e => ?_⟩
    · unfold doG
      rw [hc2, h]
      simp [hk4, he]
    · unfold lastG at h2
      rw [e] at h2
      simp at h2
      omega
  · exact keep
theorem refP_iff {x : PL} : refP x = false ↔ isB x.1 x.2 = true ∧ x.1.k ≠ 6 := by unfold refP; simp
/-- A part that can be done to these groups, settled by them. -/
theorem setX_same {N : Nat} {L : List GM} {x : PL} (h : manOK N L) (he : manE L x = 0) :
    manE L (setX L x) = 0 ∧ manD L (setX L x) = manD L x ∧ refP (setX L x) = false ∧ (setX L x).2 = x.2 ∧ (setX L x).1.len = x.1.len ∧ (setX L x).1.g = x.1.g := by
  obtain ⟨hb, hk6⟩ := manE_ok he
  have hR : refP x = false := refP_iff.2 ⟨hb, hk6⟩
  have hid := isB_gid hb
  have hE1 : manE1 (getZ GM.id L x.1.g) x = 0 := he
  unfold setX setX1
  rw [if_pos hE1]
  by_cases hk5 : x.1.k = 5
  · have hs : setP ((getZ GM.id L x.1.g).getD (newG x.1.g)) x.1 = x.1 := by
      unfold setP
      split
      · rfl
      · rw [if_neg (by omega), if_neg (by omega)]
    rw [hs]
    exact ⟨he, rfl, hR, rfl, rfl, rfl⟩
  have hc : chkG (manG L x.1.g) x.1 x.2 = 0 := by
    unfold manE1 at hE1
    rw [hR, if_neg (by simp)] at hE1
    split at hE1
    · cases hE1
    first | exact hE1 | (rw [if_neg hk5] at hE1; exact hE1)
  obtain ⟨g1, g2, g3⟩ := manG_ok h hid
  obtain ⟨s1, s2, s3, s4, s5, s6, s7, s8⟩ := setP_does g1 hk5 hc
  have hR2 : refP (setP (manG L x.1.g) x.1, x.2) = false := by rw [refP_iff]; exact ⟨s7, s5⟩
  rw [show (getZ GM.id L x.1.g).getD (newG x.1.g) = manG L x.1.g from rfl]
  have hEs : manE L (setP (manG L x.1.g) x.1, x.2) = 0 := by
    unfold manE manE1
    dsimp only
    rw [s3, hR2, if_neg (by simp), if_neg ?_, if_neg s4]
    · exact s1
    · rintro ⟨hn, h3 | h5⟩
      · unfold manE1 at hE1
        rw [hR, if_neg (by simp)] at hE1
        rcases s8 h3 with h3 | hne
        · rw [if_pos ⟨hn, .inl h3⟩] at hE1
          cases hE1
        · apply hne
          unfold manG
          cases hg : getZ GM.id L x.1.g with
          | none => rfl
          | some g => rw [hg] at hn; cases hn
      · exact s4 h5
  refine ⟨hEs, ?_, hR2, rfl, s6, s3⟩
  unfold manD
  have h00 : ¬ (0 : Int) ≠ 0 := by simp
  rw [hEs, he, if_neg h00, if_neg h00]
  dsimp only
  rw [if_neg s4, if_neg hk5, s3, s2]
theorem manS_len : ∀ (L : List GM) (ps : List PL), (manS L ps).length = ps.length
  | _, [] => rfl
  | L, x :: r => by show (manS (manD L x) r).length + 1 = _; rw [manS_len]; rfl
theorem manS_lens : ∀ {N : Nat} {ps : List PL} {L : List GM}, manOK N L → N + 6 * ps.length ≤ 100000 → (∀ x ∈ ps, x.2.length = x.1.len) → ∀ x ∈ manS L ps, x.2.length = x.1.len := by
  intro N ps
  induction ps generalizing N with
  | nil => intro L _ _ _ x hx; cases hx
  | cons y r ih =>
    intro L h hN hl x hx
    rw [List.length_cons] at hN
    rcases List.mem_cons.1 hx with rfl | hx
    · have := hl y List.mem_cons_self
      unfold setX setX1
      split
      · show y.2.length = (setP _ y.1).len
        rw [this]
        unfold setP
        split
        · rfl
        · split
          · rfl
          · split <;> rfl
      · exact this
    · exact ih (N := N + 6) (manD_ok h (by omega) (hl y List.mem_cons_self)) (by omega) (fun z hz => hl z (List.mem_cons_of_mem _ hz)) x hx
theorem manS_same : ∀ {N : Nat} {ps : List PL} {L : List GM}, manOK N L → N + 6 * ps.length ≤ 100000 → (∀ x ∈ ps, x.2.length = x.1.len) → manF L ps = 0 →
    manF L (manS L ps) = 0 ∧ manW L (manS L ps) = manW L ps ∧ (manS L ps).any refP = false := by
  intro N ps
  induction ps generalizing N with
  | nil => intro L _ _ _ _; exact ⟨rfl, rfl, rfl⟩
  | cons y r ih =>
    intro L h hN hl hF
    rw [List.length_cons] at hN
    have hE : manE L y = 0 := by
      have hF' : (if manE L y ≠ 0 then manE L y else manF (manD L y) r) = 0 := hF
      split at hF'
      · exact hF'
      · rename_i h0; omega
    have hF2 : manF (manD L y) r = 0 := by
      have hF' : (if manE L y ≠ 0 then manE L y else manF (manD L y) r) = 0 := hF
      rw [if_neg (by rw [hE]; simp)] at hF'
      exact hF'
    obtain ⟨s1, s2, s3, -⟩ := setX_same h hE
    obtain ⟨i1, i2, i3⟩ := ih (N := N + 6) (manD_ok h (by omega) (hl y List.mem_cons_self)) (by omega) (fun z hz => hl z (List.mem_cons_of_mem _ hz)) hF2
    refine ⟨?_, ?_, ?_⟩
    · show (if manE L (setX L y) ≠ 0 then manE L (setX L y) else manF (manD L (setX L y)) (manS (manD L y) r)) = 0
      rw [s1, s2, i1, if_neg (by simp)]
    · show manW (manD L (setX L y)) (manS (manD L y) r) = manW (manD L y) r
      rw [s2, i2]
    · show (setX L y :: manS (manD L y) r).any refP = false
      rw [List.any_cons, s3, i3]; rfl
theorem manT_zero {L : List GM} {ps : List PL} (h : manT L ps = 0) : (1 ≤ ps.length ∧ ps.length ≤ 4) ∧ ps.any refP = false ∧ manF L ps = 0 := by
  unfold manT at h
  split at h
  · cases h
  · rename_i hn
    exact ⟨⟨by omega, by omega⟩, by simpa using fun e => hn (.inr (.inr e)), h⟩
/-- A list that can be done, settled: it can be done, and makes the same. -/
theorem settled_same {N : Nat} {ps S : List PL} {L : List GM} (h : manOK N L) (hN : N + 6 * ps.length ≤ 100000) (hl : ∀ x ∈ ps, x.2.length = x.1.len) (hS : S.map core = (manS L ps).map core) (hSl : ∀ x ∈ S, x.2.length = x.1.len) (h0 : manT L ps = 0) :
    manT L S = 0 ∧ manDo L S = manW L ps := by
  obtain ⟨h1, h2, h3⟩ := manT_zero h0
  obtain ⟨s1, s2, s3⟩ := manS_same h hN hl h3
  have hC : CoreL S (manS L ps) := ⟨hS, hSl, manS_lens h hN hl⟩
  obtain ⟨c1, c2⟩ := hC.man L
  have ht : manT L (manS L ps) = 0 := by
    unfold manT
    rw [manS_len, s3, s1, if_neg (by rintro (h | h | h); (omega); (omega); (cases h))]
  exact ⟨c1.trans ht, c2.trans (by unfold manDo; rw [ht, if_pos rfl, s2])⟩
/-- One part of a list that can be done, by itself. -/
theorem single_do {L : List GM} {x : PL} (h : manE L x = 0) : manT L [x] = 0 ∧ manDo L [x] = manD L x := by
  obtain ⟨hb, hk⟩ := manE_ok h
  have ht : manT L [x] = 0 := by
    unfold manT
    rw [if_neg]
    · show (if manE L x ≠ 0 then manE L x else 0) = 0
      rw [if_neg (by rw [h]; simp)]
    · rintro (e | e | e)
      · simp at e
      · simp at e
      · rw [List.any_cons, refP_iff.2 ⟨hb, hk⟩] at e; cases e
  exact ⟨ht, by unfold manDo; rw [ht, if_pos rfl]; rfl⟩
theorem manF_at : ∀ {ps : List PL} {L : List GM} (j : Nat) (hj : j < ps.length), manF L ps = 0 → manE (manW L (ps.take j)) ps[j] = 0
  | x :: r, L, j, hj, h => by
    have h' : (if manE L x ≠ 0 then manE L x else manF (manD L x) r) = 0 := h
    split at h'
    · rename_i h1; exact absurd h' h1
    cases j with
    | zero => rename_i h1; exact Decidable.not_not.1 h1
    | succ j => exact manF_at (L := manD L x) j (by simpa using hj) h'

/-! ### Lists of unlike groups. -/
theorem manE_get {L M : List GM} {x : PL} (h : getZ GM.id L x.1.g = getZ GM.id M x.1.g) : manE L x = manE M x := by unfold manE; rw [h]
theorem getZ_manW : ∀ {N : Nat} {ps : List PL} {L : List GM}, manOK N L → N + 6 * ps.length ≤ 100000 → (∀ x ∈ ps, x.2.length = x.1.len) → ∀ i, (∀ x ∈ ps, x.1.g ≠ i) → getZ GM.id (manW L ps) i = getZ GM.id L i := by
  intro N ps
  induction ps generalizing N with
  | nil => intro L _ _ _ i _; rfl
  | cons y r ih =>
    intro L h hN hl i hi
    rw [List.length_cons] at hN
    have := ih (N := N + 6) (L := manD L y) (manD_ok h (by omega) (hl y List.mem_cons_self)) (by omega) (fun z hz => hl z (List.mem_cons_of_mem _ hz)) i (fun z hz => hi z (List.mem_cons_of_mem _ hz))
    show getZ GM.id (manW (manD L y) r) i = _
    rw [this, getZ_manD h (by omega) (hl y List.mem_cons_self), if_neg (Ne.symm (hi y List.mem_cons_self))]
/-- Two lists of groups that agree on what a list of parts speaks of. -/
theorem manW_agree : ∀ {N : Nat} {ps : List PL} {L M : List GM}, manOK N L → manOK N M → N + 6 * ps.length ≤ 100000 → (∀ x ∈ ps, x.2.length = x.1.len) → (∀ x ∈ ps, getZ GM.id L x.1.g = getZ GM.id M x.1.g) →
    manF L ps = manF M ps ∧ ∀ i, (∃ x ∈ ps, x.1.g = i) → getZ GM.id (manW L ps) i = getZ GM.id (manW M ps) i := by
  intro N ps
  induction ps generalizing N with
  | nil => intro L M _ _ _ _ _; exact ⟨rfl, fun i ⟨x, hx, _⟩ => by cases hx⟩
  | cons y r ih =>
    intro L M h k hN hl ha
    rw [List.length_cons] at hN
    have hy := hl y List.mem_cons_self
    have hE := manE_get (ha y List.mem_cons_self)
    have hL := fun i => getZ_manD h (by omega) hy i
    have hM := fun i => getZ_manD k (by omega) hy i
    have hag : ∀ i, (i = y.1.g ∨ getZ GM.id L i = getZ GM.id M i) → getZ GM.id (manD L y) i = getZ GM.id (manD M y) i := fun i hi => by
      rw [hL, hM]
      by_cases e : i = y.1.g
      · rw [if_pos e, if_pos e, ha y List.mem_cons_self]
      · rw [if_neg e, if_neg e]; exact hi.resolve_left e
    obtain ⟨i1, i2⟩ := ih (N := N + 6) (L := manD L y) (M := manD M y) (manD_ok h (by omega) hy) (manD_ok k (by omega) hy) (by omega) (fun z hz => hl z (List.mem_cons_of_mem _ hz)) (fun z hz => hag _ (.inr (ha z (List.mem_cons_of_mem _ hz))))
    refine ⟨?_, fun i ⟨x, hx, hxi⟩ => ?_⟩
    · show (if manE L y ≠ 0 then manE L y else manF (manD L y) r) = if manE M y ≠ 0 then manE M y else manF (manD M y) r
      rw [hE, i1]
    · show getZ GM.id (manW (manD L y) r) i = getZ GM.id (manW (manD M y) r) i
      by_cases hr : ∃ x ∈ r, x.1.g = i
      · exact i2 i hr
      · have hn : ∀ x ∈ r, x.1.g ≠ i := fun x hx e => hr ⟨x, hx, e⟩
        have hi : i = y.1.g := by
          rcases List.mem_cons.1 hx with rfl | hx
          · exact hxi.symm
          · exact absurd hxi (hn x hx)
        rw [getZ_manW (manD_ok h (by omega) hy) (by omega) (fun z hz => hl z (List.mem_cons_of_mem _ hz)) i hn, getZ_manW (manD_ok k (by omega) hy) (by omega) (fun z hz => hl z (List.mem_cons_of_mem _ hz)) i hn]
        exact hag i (.inl hi)
theorem manDo_ok {N : Nat} {ps : List PL} {L : List GM} (h : manOK N L) (hN : N + 6 * ps.length ≤ 100000) (hl : ∀ x ∈ ps, x.2.length = x.1.len) : manOK (N + 6 * ps.length) (manDo L ps) := by
  unfold manDo
  split
  · exact manW_ok h hN hl
  · exact manOK_mono h (by omega)
/-- What a list that speaks of none of these groups' numbers leaves of them. -/
theorem getZ_manDo {N : Nat} {ps : List PL} {L : List GM} (h : manOK N L) (hN : N + 6 * ps.length ≤ 100000) (hl : ∀ x ∈ ps, x.2.length = x.1.len) (i : Int) (hi : ∀ x ∈ ps, x.1.g ≠ i) : getZ GM.id (manDo L ps) i = getZ GM.id L i := by
  unfold manDo
  split
  · exact getZ_manW h hN hl i hi
  · rfl
theorem manT_agree {N : Nat} {ps : List PL} {L M : List GM} (h : manOK N L) (k : manOK N M) (hN : N + 6 * ps.length ≤ 100000) (hl : ∀ x ∈ ps, x.2.length = x.1.len) (ha : ∀ x ∈ ps, getZ GM.id L x.1.g = getZ GM.id M x.1.g) :
    manT L ps = manT M ps ∧ ∀ i, (∃ x ∈ ps, x.1.g = i) → getZ GM.id (manDo L ps) i = getZ GM.id (manDo M ps) i := by
  obtain ⟨h1, h2⟩ := manW_agree h k hN hl ha
  have e : manT L ps = manT M ps := by unfold manT; rw [h1]
  refine ⟨e, fun i hi => ?_⟩
  unfold manDo
  rw [e]
  split
  · exact h2 i hi
  · obtain ⟨x, hx, rfl⟩ := hi
    exact ha x hx
theorem apart_same {N : Nat} {a b : List PL} {L : List GM} (h : manOK N L) (hN : N + 6 * a.length + 6 * b.length ≤ 100000) (ha : ∀ x ∈ a, x.2.length = x.1.len) (hb : ∀ x ∈ b, x.2.length = x.1.len) (hd : ∀ x ∈ a, ∀ y ∈ b, x.1.g ≠ y.1.g) :
    manT (manDo L b) a = manT L a ∧ manT (manDo L a) b = manT L b ∧ manDo (manDo L a) b = manDo (manDo L b) a := by
  have hLa := manDo_ok h (by omega) ha
  have hLb := manDo_ok h (by omega) hb
  have hA := manT_agree (N := N + 6 * b.length) (ps := a) hLb (manOK_mono h (by omega)) (by omega) ha (fun x hx => getZ_manDo h (by omega) hb _ (fun y hy => Ne.symm (hd x hx y hy)))
  have hB := manT_agree (N := N + 6 * a.length) (ps := b) hLa (manOK_mono h (by omega)) (by omega) hb (fun x hx => getZ_manDo h (by omega) ha _ (fun y hy => hd y hy x hx))
  refine ⟨hA.1, hB.1, ?_⟩
  refine risZ_ext (manDo_ok hLa (by omega) hb).1 (manDo_ok hLb (by omega) ha).1 fun i => ?_
  by_cases h1 : ∃ x ∈ a, x.1.g = i
  · rw [hA.2 i h1]
    obtain ⟨x, hx, rfl⟩ := h1
    exact getZ_manDo hLa (by omega) hb _ (fun y hy => Ne.symm (hd x hx y hy))
  · have hn : ∀ x ∈ a, x.1.g ≠ i := fun x hx e => h1 ⟨x, hx, e⟩
    rw [getZ_manDo hLb (by omega) ha i hn]
    by_cases h2 : ∃ x ∈ b, x.1.g = i
    · exact hB.2 i h2
    · have hm : ∀ x ∈ b, x.1.g ≠ i := fun x hx e => h2 ⟨x, hx, e⟩
      rw [getZ_manDo hLa (by omega) hb i hm, getZ_manDo h (by omega) ha i hn, getZ_manDo h (by omega) hb i hm]

end Go.Proofs.YtmmhghoapejaeaaGreat

/- What a group grows to by parts that append one entry, as plain data: for the seventh layer's laws by hand. -/
namespace Go.Proofs.YtmmhghoapejaeaaGreat
open Go.RowKit Go.Shelf
set_option linter.unusedVariables false

theorem areB_one {i : Int} {s : ByteArray} (hi : 1 ≤ i ∧ i ≤ 1099511627776) (hs : s.size ≤ 40) : areB 1 (appE i s) = true := by
  have e : entryB ⟨i, 3, s⟩ = true := by
    simp only [entryB, Bool.and_eq_true, wB_iff, decide_eq_true_eq]
    exact ⟨hi, by omega, hs⟩
  simp [areB, appE, stepsOf, stepB, e, wB]
theorem appP_is {g i : Int} {s : ByteArray} (a : Option Addr) (c : Nat) (hg : 0 ≤ g ∧ g ≤ 999) (hi : 1 ≤ i ∧ i ≤ 1099511627776) (hs : s.size ≤ 40) : isB (appP g a c) (appE i s) = true := by
  rw [isB_iff]
  exact ⟨hg, .inl ⟨rfl, by show (1 : Nat) ≠ 0; decide, areB_one hi hs, rfl, rfl, rfl, rfl, rfl, rfl, rfl⟩⟩
theorem app7_do {g : GM} {i : Int} {s : ByteArray} (a : Option Addr) (c : Nat) (hG : isG g = true) (hi : i = lastG g + 1) (h : i ≤ 1099511627776) (hs : s.size ≤ 40) :
    chkG g (appP g.id a c) (appE i s) = 0 ∧ doG g (appP g.id a c) (appE i s) = { g with l := g.l ++ appE i s } := by
  obtain ⟨⟨hid, hfi, hte⟩, -, hD⟩ := isG_iff.1 hG
  unfold lastG at hi
  have hb := appP_is (g := g.id) a c hid (i := i) ⟨by omega, h⟩ hs
  have hc : chkG g (appP g.id a c) (appE i s) = 0 := by
    unfold chkG
    rw [if_neg (by rw [hb]; simp [appP]), if_pos (show (appP g.id a c).k = 1 from rfl)]
    show chkA g i = 0
    unfold chkA lastG
    rw [if_neg (by omega), if_neg (by omega)]
  refine ⟨hc, ?_⟩
  unfold doG
  rw [hc, if_neg (by simp), if_pos (show (appP g.id a c).k = 1 from rfl)]
  show { g with l := btw g.l minI (i - 1) ++ appE i s } = _
  rw [btw_below hD hfi i, List.take_of_length_le (by omega)]
theorem getZ_one (g : GM) : getZ GM.id [g] g.id = some g := by simp [getZ]
theorem putZ_one {g h : GM} (e : h.id = g.id) : putZ GM.id h [g] = [h] := by simp [putZ, delZ, insZ, e]
theorem delZ_one (g : GM) : delZ GM.id [g] g.id = [] := by simp [delZ]
theorem man_single {L : List GM} {x : PL} {M : List GM} (h : manE L x = 0) (hD : manD L x = M) : manT L [x] = 0 ∧ manDo L [x] = M := by
  obtain ⟨h1, h2⟩ := single_do h
  exact ⟨h1, h2.trans hD⟩
theorem manE_chk {L : List GM} {x : PL} (hr : refP x = false) (h3 : x.1.k ≠ 3) (h5 : x.1.k ≠ 5) : manE L x = chkG (manG L x.1.g) x.1 x.2 := by
  unfold manE manE1 manG
  rw [hr, if_neg (by simp), if_neg (fun h => h.2.elim h3 h5), if_neg h5]
theorem manE_chk3 {L : List GM} {x : PL} (hr : refP x = false) (hs : (getZ GM.id L x.1.g).isNone = false) (h5 : x.1.k ≠ 5) : manE L x = chkG (manG L x.1.g) x.1 x.2 := by
  unfold manE manE1 manG
  rw [hr, if_neg (by simp), if_neg (fun h => by rw [hs] at h; exact absurd h.1 (by simp)), if_neg h5]
theorem manE_dst {L : List GM} {x : PL} (hr : refP x = false) (hs : (getZ GM.id L x.1.g).isNone = false) (h5 : x.1.k = 5) : manE L x = 0 := by
  unfold manE manE1
  rw [hr, if_neg (by simp), if_neg (fun h => by rw [hs] at h; exact absurd h.1 (by simp)), if_pos h5]
theorem manE_gone {L : List GM} {x : PL} (hr : refP x = false) (hs : (getZ GM.id L x.1.g).isNone = true) (h5 : x.1.k = 3 ∨ x.1.k = 5) : manE L x = 13 := by
  unfold manE manE1
  rw [hr, if_neg (by simp), if_pos ⟨hs, h5⟩]
theorem manD_do {L : List GM} {x : PL} (he : manE L x = 0) (h5 : x.1.k ≠ 5) : manD L x = putZ GM.id (doG (manG L x.1.g) x.1 x.2) L := by
  have h00 : ¬ (0 : Int) ≠ 0 := by simp
  unfold manD
  rw [he, if_neg h00, if_neg h5]
theorem manD_dst {L : List GM} {x : PL} (he : manE L x = 0) (h5 : x.1.k = 5) : manD L x = delZ GM.id L x.1.g := by
  have h00 : ¬ (0 : Int) ≠ 0 := by simp
  unfold manD
  rw [he, if_neg h00, if_pos h5]
theorem manG_one (g : GM) : manG [g] g.id = g := by unfold manG; rw [getZ_one]; rfl
theorem manG_none {L : List GM} {j : Int} (h : getZ GM.id L j = none) : manG L j = newG j := by unfold manG; rw [h]; rfl
/-- One entry more for the last index of the only group there is. -/
theorem man_app_one {g : GM} {i : Int} {s : ByteArray} (a : Option Addr) (c : Nat) (hG : isG g = true) (hi : i = lastG g + 1) (h : i ≤ 1099511627776) (hs : s.size ≤ 40) :
    manE [g] (appP g.id a c, appE i s) = 0 ∧ manD [g] (appP g.id a c, appE i s) = [{ g with l := g.l ++ appE i s }] := by
  obtain ⟨hc, hd⟩ := app7_do a c hG hi h hs
  obtain ⟨⟨hid, hfi, hte⟩, -, hD⟩ := isG_iff.1 hG
  have hb := appP_is (g := g.id) a c hid (i := i) (s := s) ⟨by unfold lastG at hi; omega, h⟩ hs
  have hr : refP (appP g.id a c, appE i s) = false := refP_iff.2 ⟨hb, by show (1 : Int) ≠ 6; decide⟩
  have hE : manE [g] (appP g.id a c, appE i s) = 0 := by
    rw [manE_chk hr (by show (1 : Int) ≠ 3; decide) (by show (1 : Int) ≠ 5; decide)]
    rw [show manG [g] (appP g.id a c, appE i s).1.g = g from manG_one g]
    exact hc
  refine ⟨hE, ?_⟩
  rw [manD_do hE (by show (1 : Int) ≠ 5; decide), show manG [g] (appP g.id a c, appE i s).1.g = g from manG_one g]
  show putZ GM.id (doG g (appP g.id a c) (appE i s)) [g] = _
  rw [hd]
  exact putZ_one rfl
/-- The first entry of a group that isn't there, laid behind all others. -/
theorem man_app_new {L : List GM} {j : Int} {s : ByteArray} (a : Option Addr) (c : Nat) (hj : 0 ≤ j ∧ j ≤ 999) (hs : s.size ≤ 40) (hL : getZ GM.id L j = none) :
    manE L (appP j a c, appE 1 s) = 0 ∧ manD L (appP j a c, appE 1 s) = putZ GM.id ⟨j, 1, 0, 0, 0, 0, appE 1 s⟩ L := by
  have hG := newG_is hj
  obtain ⟨hc, hd⟩ := app7_do (g := newG j) (i := 1) a c hG rfl (by decide) hs
  have hb := appP_is (g := j) a c hj (i := 1) (s := s) ⟨by decide, by decide⟩ hs
  have hr : refP (appP j a c, appE 1 s) = false := refP_iff.2 ⟨hb, by show (1 : Int) ≠ 6; decide⟩
  have hE : manE L (appP j a c, appE 1 s) = 0 := by
    rw [manE_chk hr (by show (1 : Int) ≠ 3; decide) (by show (1 : Int) ≠ 5; decide)]
    rw [show manG L (appP j a c, appE 1 s).1.g = newG j from manG_none hL]
    exact hc
  refine ⟨hE, ?_⟩
  rw [manD_do hE (by show (1 : Int) ≠ 5; decide), show manG L (appP j a c, appE 1 s).1.g = newG j from manG_none hL]
  show putZ GM.id (doG (newG j) (appP j a c) (appE 1 s)) L = _
  rw [show doG (newG j) (appP j a c) (appE 1 s) = _ from hd]
  rfl

/-! ### ManyAnew -/
def oldB : ByteArray := ⟨#[111, 108, 100]⟩
def newB : ByteArray := ⟨#[110, 101, 119]⟩
def oldL (j : Nat) : List EntryC := (List.range j).map fun (q : Nat) => ⟨(q : Int) + 1, 3, oldB⟩
def anG (id : Int) (j : Nat) : GM := ⟨id, 1, 0, 0, 0, 0, oldL j⟩
def anL (id : Int) (j : Nat) : List GM := if j = 0 then [] else [anG id j]
theorem oldL_len (j : Nat) : (oldL j).length = j := by simp [oldL]
theorem oldL_succ (j : Nat) : oldL (j + 1) = oldL j ++ appE ((j : Int) + 1) oldB := by simp [oldL, List.range_succ, appE]
theorem oldL_dense (j : Nat) (hj : j ≤ 1000) : denseB (oldL j) 1 = true := denseB_mk fun k hk => by
  rw [oldL_len] at hk
  simp only [oldL, List.getElem_map, List.getElem_range]
  refine ⟨by omega, ?_⟩
  simp only [entryB, Bool.and_eq_true, wB_iff, decide_eq_true_eq]
  exact ⟨by omega, by omega, by decide⟩
theorem anG_is {id : Int} (hid : 0 ≤ id ∧ id ≤ 999) {j : Nat} (hj : j ≤ 1000) : isG (anG id j) = true := isG_iff.2 ⟨⟨hid, ⟨by show (1 : Int) ≤ 1; decide, by show (1 : Int) ≤ _; decide⟩, ⟨by show (0 : Int) ≤ 0; decide, by show (0 : Int) ≤ _; decide⟩⟩, by show hardB 0 0 0 = true; decide, oldL_dense j hj⟩
theorem anL_ok {id : Int} (hid : 0 ≤ id ∧ id ≤ 999) {j : Nat} (hj : j ≤ 1000) : manOK 1000 (anL id j) := by
  unfold anL
  split
  · exact manOK_nil _
  · refine ⟨List.pairwise_singleton _ _, fun g hg => ?_⟩
    rw [List.mem_singleton.1 hg]
    exact ⟨anG_is hid hj, by show (oldL j).length ≤ _; rw [oldL_len]; omega⟩
theorem an_step {id : Int} (hid : 0 ≤ id ∧ id ≤ 999) {j : Nat} (hj : j < 1000) (a : Option Addr) (c : Nat) : manT (anL id j) [(appP id a c, appE ((j : Int) + 1) oldB)] = 0 ∧ manDo (anL id j) [(appP id a c, appE ((j : Int) + 1) oldB)] = anL id (j + 1) := by
  by_cases h0 : j = 0
  · subst h0
    obtain ⟨h1, h2⟩ := man_app_new (L := []) (j := id) (s := oldB) a c hid (by decide) rfl
    exact man_single h1 h2
  · have e : anL id j = [anG id j] := by unfold anL; rw [if_neg h0]
    rw [e]
    obtain ⟨h1, h2⟩ := man_app_one (g := anG id j) (i := (j : Int) + 1) (s := oldB) a c (anG_is hid (by omega)) (by show _ = 1 - 1 + ((oldL j).length : Int) + 1; rw [oldL_len]; omega) (by omega) (by decide)
    refine man_single h1 (h2.trans ?_)
    unfold anL
    rw [if_neg (by omega)]
    unfold anG
    rw [oldL_succ]
def anN (id : Int) : GM := ⟨id, 1, 0, 0, 0, 0, appE 1 newB⟩
def hardP (id : Int) : PartC := ⟨id, 2, none, 0, 0, 5, 0, 0, 0, 0, false, false⟩
def dstP (id : Int) : PartC := ⟨id, 5, none, 0, 0, 0, 0, 0, 0, 0, false, false⟩
theorem dstP_is {id : Int} (hid : 0 ≤ id ∧ id ≤ 999) : isB (dstP id) [] = true := (isB_iff _ _).2 ⟨hid, .inr (.inr (.inr (.inr (.inl ⟨rfl, rfl, rfl, rfl, rfl, rfl, rfl, rfl, rfl⟩))))⟩
theorem dst_one {g : GM} (hid : 0 ≤ g.id ∧ g.id ≤ 999) : manE [g] (dstP g.id, []) = 0 ∧ manD [g] (dstP g.id, []) = [] := by
  have hr : refP (dstP g.id, []) = false := refP_iff.2 ⟨dstP_is hid, by show (5 : Int) ≠ 6; decide⟩
  have hE : manE [g] (dstP g.id, []) = 0 := manE_dst hr (by show (getZ GM.id [g] g.id).isNone = false; rw [getZ_one]; rfl) rfl
  exact ⟨hE, (manD_dst hE rfl).trans (delZ_one g)⟩
theorem dst_none {id : Int} (hid : 0 ≤ id ∧ id ≤ 999) : manE [] (dstP id, []) = 13 := manE_gone (refP_iff.2 ⟨dstP_is hid, by show (5 : Int) ≠ 6; decide⟩) rfl (.inr rfl)
theorem hard_one {g : GM} (hG : isG g = true) (hl : g.l.length ≤ 100000) : manE [g] (hardP g.id, []) = 0 ∧ manD [g] (hardP g.id, []) = [{ g with ht := 5, hv := 0, hc := 0 }] := by
  obtain ⟨⟨hid, hfi, hte⟩, -, hD⟩ := isG_iff.1 hG
  have hb : isB (hardP g.id) [] = true := (isB_iff _ _).2 ⟨hid, .inr (.inl ⟨rfl, by show hardB 5 0 0 = true; decide, rfl, rfl, rfl, rfl, rfl⟩)⟩
  have hc : chkG g (hardP g.id) [] = 0 := by
    unfold chkG
    rw [if_neg (by rw [hb]; simp [hardP]), if_neg (by simp [hardP]), if_neg (by simp [hardP]), if_neg (by simp [hardP])]
  have hd : doG g (hardP g.id) [] = { g with ht := 5, hv := 0, hc := 0 } := by
    unfold doG
    rw [hc, if_neg (by simp), if_neg (by simp [hardP]), if_pos (show (hardP g.id).k = 2 from rfl), btw_all hD hfi hl, List.append_nil]
    rfl
  have hr : refP (hardP g.id, []) = false := refP_iff.2 ⟨hb, by show (2 : Int) ≠ 6; decide⟩
  have hE : manE [g] (hardP g.id, []) = 0 := by
    rw [manE_chk hr (by show (2 : Int) ≠ 3; decide) (by show (2 : Int) ≠ 5; decide)]
    rw [show manG [g] (hardP g.id, ([] : List EntryC)).1.g = g from manG_one g]
    exact hc
  refine ⟨hE, ?_⟩
  rw [manD_do hE (by show (2 : Int) ≠ 5; decide), show manG [g] (hardP g.id, ([] : List EntryC)).1.g = g from manG_one g]
  show putZ GM.id (doG g (hardP g.id) []) [g] = _
  rw [hd]
  exact putZ_one rfl
theorem manF_three {L A B C : List GM} {x y z : PL} (hx : manE L x = 0 ∧ manD L x = A) (hy : manE A y = 0 ∧ manD A y = B) (hz : manE B z = 0 ∧ manD B z = C) : manT L [x, y, z] = 0 ∧ manDo L [x, y, z] = C := by
  have hF : manF L [x, y, z] = 0 := by
    show (if manE L x ≠ 0 then manE L x else if manE (manD L x) y ≠ 0 then manE (manD L x) y else if manE (manD (manD L x) y) z ≠ 0 then manE (manD (manD L x) y) z else 0) = 0
    rw [hx.2, hy.2, hx.1, hy.1, hz.1]
    simp
  have hr : ∀ {M : List GM} {q : PL}, manE M q = 0 → refP q = false := fun h => refP_iff.2 (manE_ok h)
  have ht : manT L [x, y, z] = 0 := by
    unfold manT
    rw [if_neg, hF]
    rintro (h | h | h)
    · simp at h
    · simp at h
    · simp [hr hx.1, hr hy.1, hr hz.1] at h
  refine ⟨ht, ?_⟩
  unfold manDo
  rw [ht, if_pos rfl]
  show manD (manD (manD L x) y) z = C
  rw [hx.2, hy.2, hz.2]
theorem an_anew {id : Int} (hid : 0 ≤ id ∧ id ≤ 999) {j : Nat} (h0 : 0 < j) (hj : j ≤ 1000) (a : Option Addr) (c : Nat) :
    manT (anL id j) [(hardP id, []), (dstP id, []), (appP id a c, appE 1 newB)] = 0 ∧ manDo (anL id j) [(hardP id, []), (dstP id, []), (appP id a c, appE 1 newB)] = [anN id] := by
  have e : anL id j = [anG id j] := by unfold anL; rw [if_neg (by omega)]
  rw [e]
  have h1 := hard_one (g := anG id j) (anG_is hid hj) (by show (oldL j).length ≤ _; rw [oldL_len]; omega)
  have h2 := dst_one (g := { anG id j with ht := 5, hv := 0, hc := 0 }) hid
  have h3 := man_app_new (L := []) (j := id) (s := newB) a c hid (by decide) rfl
  exact manF_three h1 h2 h3
theorem an_two {id : Int} (hid : 0 ≤ id ∧ id ≤ 999) : manT [anN id] [(dstP id, []), (dstP id, [])] = 13 ∧ manDo [anN id] [(dstP id, []), (dstP id, [])] = [anN id] := by
  have h2 := dst_one (g := anN id) hid
  have hF : manF [anN id] [(dstP id, []), (dstP id, [])] = 13 := by
    show (if manE [anN id] (dstP id, []) ≠ 0 then manE [anN id] (dstP id, []) else if manE (manD [anN id] (dstP id, [])) (dstP id, []) ≠ 0 then manE (manD [anN id] (dstP id, [])) (dstP id, []) else 0) = 13
    rw [show manE [anN id] (dstP id, []) = 0 from h2.1, show manD [anN id] (dstP id, []) = [] from h2.2, dst_none hid]
    simp
  have hr : refP (dstP id, []) = false := refP_iff.2 ⟨dstP_is hid, by show (5 : Int) ≠ 6; decide⟩
  have ht : manT [anN id] [(dstP id, []), (dstP id, [])] = 13 := by
    unfold manT
    rw [if_neg, hF]
    rintro (h | h | h)
    · simp at h
    · simp at h
    · simp [hr] at h
  exact ⟨ht, by unfold manDo; rw [ht, if_neg (by decide)]⟩
theorem anN_ok {id : Int} (hid : 0 ≤ id ∧ id ≤ 999) : manOK 1000 [anN id] := by
  refine ⟨List.pairwise_singleton _ _, fun g hg => ?_⟩
  rw [List.mem_singleton.1 hg]
  exact ⟨isG_iff.2 ⟨⟨hid, ⟨by show (1 : Int) ≤ 1; decide, by show (1 : Int) ≤ _; decide⟩, ⟨by show (0 : Int) ≤ 0; decide, by show (0 : Int) ≤ _; decide⟩⟩, by show hardB 0 0 0 = true; decide, by show denseB (appE 1 newB) 1 = true; decide⟩, by show 1 ≤ 1000; decide⟩
theorem anN_get (id : Int) : getM [anN id] id = anN id ∧ (getZ GM.id [anN id] id).isSome = true := by
  have := getZ_one (anN id)
  have e : getZ GM.id [anN id] id = some (anN id) := this
  exact ⟨by unfold getM; rw [e]; rfl, by rw [e]; rfl⟩

end Go.Proofs.YtmmhghoapejaeaaGreat

/- A row of parts that grows, each of which appends one entry to a group of its own: plain data and memory, for ManyLimits. -/
namespace Go.Proofs.YtmmhghoapejaeaaGreat
open Go.RowKit Go.Shelf
set_option linter.unusedVariables false

def limB : ByteArray := ⟨#[120]⟩
def limG (j : Nat) : GM := ⟨(j : Int), 1, 0, 0, 0, 0, appE 1 limB⟩
def limL (k : Nat) : List GM := (List.range k).map limG
def LimP (pre : List PL) : Prop := ∀ (i : Nat) (h : i < pre.length), ∃ a c, pre[i] = (appP (i : Int) a c, appE 1 limB)
theorem limP_nil : LimP [] := fun i h => by cases h
theorem LimP.snoc {pre : List PL} (h : LimP pre) (a : Option Addr) (c : Nat) : LimP (pre ++ [(appP (pre.length : Int) a c, appE 1 limB)]) := fun i hi => by
  rw [List.length_append, List.length_singleton] at hi
  by_cases e : i < pre.length
  · obtain ⟨a', c', h'⟩ := h i e
    exact ⟨a', c', by rw [List.getElem_append_left e]; exact h'⟩
  · obtain rfl : i = pre.length := by omega
    exact ⟨a, c, by simp⟩
theorem limL_none (k : Nat) : getZ GM.id (limL k) (k : Int) = none := by
  unfold getZ limL
  rw [List.find?_eq_none]
  intro x hx
  obtain ⟨j, hj, rfl⟩ := List.mem_map.1 hx
  rw [List.mem_range] at hj
  intro e
  have e2 : (j : Int) = (k : Int) := by exact of_decide_eq_true e
  omega
theorem insZ_last (x : GM) : ∀ F : List GM, (∀ y ∈ F, y.id < x.id) → insZ GM.id x F = F ++ [x]
  | [], _ => rfl
  | y :: r, h => by
    have hy := h y List.mem_cons_self
    unfold insZ
    rw [if_neg (by omega), insZ_last x r (fun z hz => h z (List.mem_cons_of_mem _ hz))]
    rfl
theorem limL_put (k : Nat) : putZ GM.id (limG k) (limL k) = limL (k + 1) := by
  have hlt : ∀ y ∈ limL k, y.id < (limG k).id := fun y hy => by
    obtain ⟨j, hj, rfl⟩ := List.mem_map.1 hy
    rw [List.mem_range] at hj
    show (j : Int) < (k : Int)
    omega
  have hd : delZ GM.id (limL k) (limG k).id = limL k := by
    unfold delZ
    rw [List.filter_eq_self]
    intro y hy
    have := hlt y hy
    simp; omega
  unfold putZ
  rw [hd, insZ_last _ _ hlt]
  unfold limL
  rw [List.range_succ, List.map_append]
  rfl
theorem lim_all : ∀ (n : Nat) (pre : List PL), pre.length = n → LimP pre → n ≤ 999 → manF [] pre = 0 ∧ manW [] pre = limL n ∧ pre.any refP = false := by
  intro n
  induction n with
  | zero =>
    intro pre h _ _
    rw [List.length_eq_zero_iff] at h
    subst h
    exact ⟨rfl, rfl, rfl⟩
  | succ n ih =>
    intro pre h hp hn
    have hd : pre = pre.take n ++ [pre[n]] := by
      rw [← List.take_succ_eq_append_getElem (by omega), List.take_of_length_le (by omega)]
    obtain ⟨a, c, e⟩ := hp n (by omega)
    obtain ⟨i1, i2, i3⟩ := ih (pre.take n) (by rw [List.length_take]; omega) (fun i hi => by
      rw [List.length_take] at hi
      obtain ⟨a', c', h'⟩ := hp i (by omega)
      exact ⟨a', c', by rw [List.getElem_take]; exact h'⟩) (by omega)
    rw [e] at hd
    obtain ⟨m1, m2⟩ := man_app_new (L := limL n) (j := (n : Int)) (s := limB) a c ⟨by omega, by omega⟩ (by decide) (limL_none n)
    rw [hd]
    refine ⟨?_, ?_, ?_⟩
    · rw [manF_snoc, i1, if_neg (by simp), i2, m1]
    · rw [manW_snoc, i2, m2]; exact limL_put n
    · rw [List.any_append, i3]
      have := refP_iff.2 (manE_ok m1)
      simp [this]
theorem lim_man {k : Nat} {pre : List PL} (hk : pre.length = k) (h : LimP pre) (h9 : k ≤ 999) : (1 ≤ k ∧ k ≤ 4 → manT [] pre = 0 ∧ manDo [] pre = limL k) ∧ (k = 0 ∨ 4 < k → manT [] pre = 11 ∧ manDo [] pre = []) := by
  obtain ⟨h1, h2, h3⟩ := lim_all k pre hk h h9
  constructor
  · intro hb
    have ht : manT [] pre = 0 := by
      unfold manT
      rw [if_neg, h1]
      rintro (e | e | e)
      · omega
      · omega
      · rw [h3] at e; cases e
    exact ⟨ht, by unfold manDo; rw [ht, if_pos rfl, h2]⟩
  · intro hb
    have ht : manT [] pre = 11 := by
      unfold manT
      rw [if_pos]
      rcases hb with e | e
      · exact .inl (by omega)
      · exact .inr (.inl (by omega))
    exact ⟨ht, by unfold manDo; rw [ht, if_neg (by decide)]⟩
theorem limL_ok {k : Nat} (hk : k ≤ 999) : manOK 1 (limL k) := by
  refine ⟨?_, fun g hg => ?_⟩
  · unfold RisZ limL
    refine (List.pairwise_map).2 (List.pairwise_lt_range.imp fun {a b} hab => ?_)
    show (a : Int) < (b : Int)
    omega
  · obtain ⟨j, hj, rfl⟩ := List.mem_map.1 hg
    rw [List.mem_range] at hj
    exact ⟨isG_iff.2 ⟨⟨⟨by show (0 : Int) ≤ (j : Int); omega, by show (j : Int) ≤ 999; omega⟩, ⟨by show (1 : Int) ≤ 1; decide, by show (1 : Int) ≤ _; decide⟩, ⟨by show (0 : Int) ≤ 0; decide, by show (0 : Int) ≤ _; decide⟩⟩, by show hardB 0 0 0 = true; decide, by show denseB (appE 1 limB) 1 = true; decide⟩, by show 1 ≤ 1; decide⟩
theorem limL_len (k : Nat) : (limL k).length = k := by simp [limL]

/-- A row of parts that grows from C on; what its parts hold lies elsewhere. -/
def limI (C : Nat) (v : Value) (pre : List PL) (W : World) : Prop :=
  W.ownsRow C 44 10 v pre.length (partCells pre) ∧ ∀ x, x ∈ pre → HasE W x.1 x.2 ∧ ∀ k, inBlkE x.1.a x.1.len k → C ≤ k ∧ some k ≠ v.ownBlock
theorem limI.below {C : Nat} {v : Value} {pre : List PL} {W W' : World} (h : limI C v pre W) (hB : Below W.heap.size W W') : limI C v pre W' :=
  ⟨own_frameM h.1 (FrameT.below hB) (fun _ _ => id), fun x hx => ⟨(h.2 x hx).1.below hB, (h.2 x hx).2⟩⟩
theorem limI_append {C : Nat} {v v' : Value} {pre : List PL} {x : PL} {W W1 w2 : World} (h : limI C v pre W)
    (hx : HasE W x.1 x.2 ∧ ∀ k, inBlkE x.1.a x.1.len k → C ≤ k ∧ some k ≠ v.ownBlock) (h1 : Below W.heap.size W W1) (hown : w2.ownsRow C 44 10 v' (pre.length + 1) (partCells pre ++ x.1.arr.toList)) (hg : W1.grownBy w2 v.ownBlock) (hn : v'.ownBlock = v.ownBlock ∨ v'.ownBlock = some W1.heap.size) :
    limI C v' (pre ++ [x]) w2 ∧ FrameT (fun k => some k = v.ownBlock) W w2 := by
  obtain ⟨hrow, hall⟩ := h
  have hF : FrameT (fun k => some k = v.ownBlock) W w2 := (FrameT.below h1).trans ⟨hg.os, hg.tape, hg.output, hg.size, fun k hk hT => hg.block k hk hT⟩
  refine ⟨⟨?_, fun y hy => ?_⟩, hF⟩
  · rw [List.length_append, partCells_snoc]; exact hown
  · have hE : ∀ y : PL, HasE W y.1 y.2 ∧ (∀ k, inBlkE y.1.a y.1.len k → C ≤ k ∧ some k ≠ v.ownBlock) → HasE w2 y.1 y.2 ∧ ∀ k, inBlkE y.1.a y.1.len k → C ≤ k ∧ some k ≠ v'.ownBlock := fun y hy =>
      ⟨hasE_frame hy.1 hF (fun k hk hT => (hy.2 k hk).2 hT), fun k hk => ⟨(hy.2 k hk).1, fun e => by
          have h3 := inBlkM_lt hy.1.2.2 hk
          have h4 := h1.size
          rcases hn with hn | hn
          · exact (hy.2 k hk).2 (e.trans hn)
          · rw [hn] at e; cases e; omega⟩⟩
    rcases List.mem_append.1 hy with hy | hy
    · exact hE y (hall y hy)
    · rw [List.mem_singleton] at hy; subst hy; exact hE _ hx
theorem limI.has {C : Nat} {a : Option Addr} {n c : Nat} {pre : List PL} {W : World} (h : limI C (.slice a n c) pre W) (hn : n < 1000000) : HasP W a pre.length pre := by
  obtain ⟨a', cap, e, _, hr⟩ := rowV_own h.1
  cases e
  exact ⟨rfl, hn, hr, fun x hx => (h.2 x hx).1⟩
/-- No groups behind a pointer: another row grows. -/
theorem MS.grown {w W W' : World} {d C : Nat} {v : Value} {n : Nat} {xs : List Value} (h : MS w d [] W) (hdC : d < C) (hv : W.ownsRow C 44 10 v n xs) (hF : FrameT (fun k => some k = v.ownBlock) W W') : MS w d [] W' := by
  obtain ⟨m, F, h, e, hd, h0⟩ := h
  obtain ⟨es, clock, hb⟩ := h.2.block
  rw [List.map_eq_nil_iff] at e
  subst e
  have hlt : ∀ j, some j = v.ownBlock → C ≤ j ∧ ∃ o : Obj, W.heap[j]? = some o ∧ o.isCells = true := fun j hj => by
    rcases hv.2 with ⟨rfl, _⟩ | ⟨g, cap, cur, rfl, hb, hg, _⟩
    · simp [Value.ownBlock] at hj
    · obtain rfl : j = g := by simpa [Value.ownBlock] using hj
      exact ⟨hb, _, hg, rfl⟩
  refine ⟨m, [], h.frame hF (fun k => ?_) (fun k => ?_) (fun y hy => by cases hy), rfl, hd, h0.trans (hF.toBelow h0.size fun k hk => ?_)⟩
  · have := (hlt _ k).1; omega
  · obtain ⟨_, o, ho, hc⟩ := hlt _ k
    rw [hb] at ho; cases ho; cases hc
  · have := (hlt _ hk).1; omega

end Go.Proofs.YtmmhghoapejaeaaGreat
