/- What is written anew lies there then: a log of up to six entries, as plain data (law PlaceMoves). -/
import Derived.Test.YtloojgbkohpcfaaPlcL
namespace Go.Proofs.Ytloojgbkohpcfaa
open Go.RowKit Go.Shelf
set_option linter.unusedVariables false

abbrev mvEnt (j : Nat) : EntryC := ⟨4 + (j : Int), 2, ⟨#[]⟩⟩
def mvE (k : Nat) : List EntryC := (List.range k).map mvEnt
/-- The first i of them that are wanted. -/
def mvM (b : Nat → Bool) (i : Nat) : List EntryC := ((List.range i).filter b).map mvEnt
theorem mvE_len (k : Nat) : (mvE k).length = k := by simp [mvE]
theorem mvE_at {k j : Nat} (h : j < (mvE k).length) : (mvE k)[j] = mvEnt j := by simp [mvE]
theorem mvE_succ (k : Nat) : mvE (k + 1) = mvE k ++ [mvEnt k] := by simp [mvE, List.range_succ]
theorem mvM_succ (b : Nat → Bool) (i : Nat) : mvM b (i + 1) = if b i = true then mvM b i ++ [mvEnt i] else mvM b i := by
  unfold mvM
  rw [List.range_succ, List.filter_append, List.map_append]
  cases h : b i <;> simp [h]
theorem mvM_mem {b : Nat → Bool} {k : Nat} {e : EntryC} : e ∈ mvM b k ↔ ∃ j, j < k ∧ b j = true ∧ e = mvEnt j := by
  unfold mvM
  simp only [List.mem_map, List.mem_filter, List.mem_range]
  constructor
  · rintro ⟨j, ⟨h1, h2⟩, rfl⟩; exact ⟨j, h1, h2, rfl⟩
  · rintro ⟨j, h1, h2, rfl⟩; exact ⟨j, ⟨h1, h2⟩, rfl⟩
theorem mvM_len (b : Nat → Bool) (k : Nat) : (mvM b k).length ≤ k := by
  unfold mvM
  rw [List.length_map]
  have := List.length_filter_le b (List.range k)
  rwa [List.length_range] at this
theorem mvM_cut (b : Nat → Bool) {k : Nat} (hk : k ≤ 6) : mvM b k = mvM (fun j => decide (j < k) && b j) 6 := by
  unfold mvM
  congr 1
  have h6 : ∀ n, k ≤ n → (List.range k).filter b = (List.range n).filter (fun j => decide (j < k) && b j) := by
    intro n
    induction n with
    | zero => intro h; obtain rfl : k = 0 := (by omega); rfl
    | succ n ih =>
      intro h
      by_cases he : k = n + 1
      · subst he
        apply List.filter_congr
        intro x hx
        rw [List.mem_range] at hx
        simp [hx]
      · rw [ih (by omega), List.range_succ, List.filter_append]
        simp [show ¬ n < k by omega]
  exact h6 6 hk
theorem mv_six : ∀ b0 b1 b2 b3 b4 b5 : Bool, areB 1099511627776 (((if b0 = true then [mvEnt 0] else []) ++ ((if b1 = true then [mvEnt 1] else []) ++ ((if b2 = true then [mvEnt 2] else []) ++ ((if b3 = true then [mvEnt 3] else []) ++ ((if b4 = true then [mvEnt 4] else []) ++ (if b5 = true then [mvEnt 5] else [])))))) : List EntryC) = true := by
  intro b0 b1 b2 b3 b4 b5
  cases b0 <;> cases b1 <;> cases b2 <;> cases b3 <;> cases b4 <;> cases b5 <;> kernel_rfl
theorem mvM_are (b : Nat → Bool) {k : Nat} (hk : k ≤ 6) : areB 1099511627776 (mvM b k) = true := by
  rw [mvM_cut b hk]
  generalize (fun j => decide (j < k) && b j) = c
  have := mv_six (c 0) (c 1) (c 2) (c 3) (c 4) (c 5)
  rw [show mvM c 6 = (if c 0 = true then [mvEnt 0] else []) ++ ((if c 1 = true then [mvEnt 1] else []) ++ ((if c 2 = true then [mvEnt 2] else []) ++ ((if c 3 = true then [mvEnt 3] else []) ++ ((if c 4 = true then [mvEnt 4] else []) ++ (if c 5 = true then [mvEnt 5] else []))))) from by
    rw [mvM_succ, mvM_succ, mvM_succ, mvM_succ, mvM_succ, mvM_succ]
    rw [show mvM c 0 = [] from rfl]
    cases c 0 <;> cases c 1 <;> cases c 2 <;> cases c 3 <;> cases c 4 <;> cases c 5 <;> rfl]
  exact this
theorem mvE_are {k : Nat} (hk : k ≤ 6) : areB 1 (mvE k) = true := by
  obtain rfl | rfl | rfl | rfl | rfl | rfl | rfl : k = 0 ∨ k = 1 ∨ k = 2 ∨ k = 3 ∨ k = 4 ∨ k = 5 ∨ k = 6 := by omega
  all_goals kernel_rfl
theorem mvE_pw (k : Nat) : Pw (mvE k) := by
  refine ris_pw.1 (fun i j hi hj => ?_)
  rw [mvE_at, mvE_at]
  show 4 + (i : Int) < 4 + (j : Int)
  omega
theorem mvM_pw (b : Nat → Bool) (k : Nat) : Pw (mvM b k) := by
  have h : mvM b k = (mvE k).filter (fun e => b (e.i - 4).toNat) := by
    unfold mvM mvE
    rw [List.filter_map]
    congr 1
    apply List.filter_congr
    intro x _
    show b x = b (4 + (x : Int) - 4).toNat
    rw [show (4 + (x : Int) - 4).toNat = x by omega]
  rw [h]
  exact (mvE_pw k).sublist List.filter_sublist
abbrev mvG (id : Int) (k : Nat) : GM := ⟨id, 4, 1, 5, 0, 0, mvE k⟩
theorem mvG_isSp {id : Int} (h : 0 ≤ id ∧ id ≤ 999) {k : Nat} (hk : k ≤ 6) : isSp (mvG id k) = true := by
  refine isSp_iff.2 ⟨⟨h, ⟨by show (1 : Int) ≤ 4; omega, by show (4 : Int) ≤ _; omega⟩, ⟨by show (0 : Int) ≤ 1; omega, by show (1 : Int) ≤ _; omega⟩⟩, by kernel_rfl, sprB_iff.2 ⟨fun e he => ?_, fun e he => ?_, mvE_pw k⟩⟩
  · obtain ⟨j, hj, rfl⟩ := List.getElem_of_mem he
    rw [mvE_at]
    rw [mvE_len] at hj
    obtain rfl | rfl | rfl | rfl | rfl | rfl : j = 0 ∨ j = 1 ∨ j = 2 ∨ j = 3 ∨ j = 4 ∨ j = 5 := by omega
    all_goals kernel_rfl
  · obtain ⟨j, hj, rfl⟩ := List.getElem_of_mem he
    rw [mvE_at]
    show (4 : Int) ≤ 4 + (j : Int)
    omega
/-- The three steps that lay it. -/
def mvF (k : Nat) : List LV := putAll 1 60 [⟨-1, 1, 40⟩, ⟨0, 1, 16⟩] ((mvE k).map EntryC.i)
theorem mv1 {id : Int} (h : 0 ≤ id ∧ id ≤ 999) : doLG ⟨newP id, []⟩ ⟨id, 4, none, 0, 0, 0, 0, 0, 3, 1, false, false⟩ [] 1 16 = ⟨⟨id, 4, 1, 0, 0, 0, []⟩, [⟨0, 1, 16⟩]⟩ := by
  have hB := snp_isB (k := id) (i := 3) (t := 1) h ⟨by decide, by decide⟩ ⟨by decide, by decide⟩
  have hI : isSp (newP id) = true := spr_new h ⟨by decide, by decide⟩ ⟨by decide, by decide⟩
  unfold doLG
  rw [if_pos ⟨hB, rfl, (by decide : (4 : Int) ≠ 5)⟩]
  rw [doSp_4 hI hB rfl rfl]
  rfl
theorem mv2 {id : Int} (h : 0 ≤ id ∧ id ≤ 999) : doLG ⟨⟨id, 4, 1, 0, 0, 0, []⟩, [⟨0, 1, 16⟩]⟩ ⟨id, 2, none, 0, 0, 5, 0, 0, 0, 0, false, false⟩ [] 1 40 = ⟨⟨id, 4, 1, 5, 0, 0, []⟩, [⟨-1, 1, 40⟩, ⟨0, 1, 16⟩]⟩ := by
  have hB : isB ⟨id, 2, none, 0, 0, 5, 0, 0, 0, 0, false, false⟩ [] = true := (isB_iff _ _).2 ⟨h, .inr (.inl ⟨rfl, by kernel_rfl, rfl, rfl, rfl, rfl, rfl⟩)⟩
  have hI : isSp ⟨id, 4, 1, 0, 0, 0, []⟩ = true := spr_new h ⟨by decide, by decide⟩ ⟨by decide, by decide⟩
  unfold doLG
  rw [if_pos ⟨hB, rfl, (by decide : (2 : Int) ≠ 5)⟩]
  rw [doSp_2 hI hB rfl rfl]
  rfl
theorem mv3 {id : Int} (h : 0 ≤ id ∧ id ≤ 999) {k : Nat} (h1 : 1 ≤ k) (hk : k ≤ 6) (a : Option Addr) (c : Nat) : doLG ⟨⟨id, 4, 1, 5, 0, 0, []⟩, [⟨-1, 1, 40⟩, ⟨0, 1, 16⟩]⟩ ⟨id, 1, a, k, c, 0, 0, 0, 0, 0, false, false⟩ (mvE k) 1 60 = ⟨mvG id k, mvF k⟩ := by
  have hB : isB ⟨id, 1, a, k, c, 0, 0, 0, 0, 0, false, false⟩ (mvE k) = true := (isB_iff _ _).2 ⟨h, .inl ⟨rfl, by show k ≠ 0; omega, mvE_are hk, rfl, rfl, rfl, rfl, rfl, rfl, rfl⟩⟩
  have hI : isSp ⟨id, 4, 1, 5, 0, 0, []⟩ = true := isSp_iff.2 ⟨⟨h, ⟨by show (1 : Int) ≤ 4; omega, by show (4 : Int) ≤ _; omega⟩, ⟨by show (0 : Int) ≤ 1; omega, by show (1 : Int) ≤ _; omega⟩⟩, by kernel_rfl, rfl⟩
  unfold doLG
  rw [if_pos ⟨hB, rfl, (by decide : (1 : Int) ≠ 5)⟩]
  rw [doSp_1 hI hB rfl rfl]
  have hG : addG { (⟨id, 4, 1, 5, 0, 0, []⟩ : GM) with l := ([] : List EntryC).take (fnd [] (headI (mvE k))) } (mvE k) = mvG id k := by
    unfold addG
    show (⟨id, 4, 1, 5, 0, 0, mrg ([].take (fnd [] (headI (mvE k)))) ((mvE k).drop (fnd (mvE k) 4))⟩ : GM) = _
    rw [List.take_nil, show fnd (mvE k) 4 = 0 from fnd_eq (by omega) (fun j hj => by omega) (fun j hj _ => by rw [mvE_at]; show (4 : Int) ≤ 4 + (j : Int); omega)]
    rw [List.drop_zero, mrg_above (fun x hx => by cases hx)]
    rfl
  rw [hG]
  congr 1
  show putAll 1 60 (delAll [⟨-1, 1, 40⟩, ⟨0, 1, 16⟩] (gonL [] (mvE k))) (brgL (mvG id k) _ (mvE k) 4) = _
  rw [show gonL [] (mvE k) = [] from rfl]
  have hb : brgL (mvG id k) ⟨id, 1, a, k, c, 0, 0, 0, 0, 0, false, false⟩ (mvE k) 4 = (mvE k).map EntryC.i := by
    unfold brgL
    rw [if_neg (by simp), if_neg (by simp [markB]), List.filter_eq_self.2 (fun e he => by simpa using he)]
    rfl
  rw [hb]
  rfl
/-- Whether any of it is told anew. -/
def mvNo (b : Nat → Bool) (k : Nat) (mark head : Bool) : Bool := (!mark && !head) && decide ((mvM b k).length = 0)
theorem mv4 {id : Int} (h : 0 ≤ id ∧ id ≤ 999) {k : Nat} (hk : k ≤ 6) (b : Nat → Bool) (mark head : Bool) (a : Option Addr) (c : Nat) : doLG ⟨mvG id k, mvF k⟩ ⟨id, 6, a, (mvM b k).length, c, if head = true then 5 else 0, 0, 0, if mark = true then 3 else 0, if mark = true then 1 else 0, mark, head⟩ (mvM b k) 9 99 = ⟨mvG id k, if mvNo b k mark head = true then mvF k else putAll 9 99 (mvF k) ((if head = true then [-1] else []) ++ (if mark = true then [0] else []) ++ (mvM b k).map EntryC.i)⟩ := by
  have hI := mvG_isSp h hk
  unfold doLG
  by_cases hno : mvNo b k mark head = true
  · rw [if_pos hno, if_neg]
    rintro ⟨hB, -⟩
    unfold mvNo at hno
    simp only [Bool.and_eq_true, Bool.not_eq_true', decide_eq_true_eq] at hno
    obtain ⟨⟨rfl, rfl⟩, h0⟩ := hno
    obtain ⟨-, h9⟩ := (isB_iff _ _).1 hB
    rcases h9 with h9 | h9 | h9 | h9 | h9 | h9
    · exact absurd (show (6 : Int) = 1 from h9.1) (by decide)
    · exact absurd (show (6 : Int) = 2 from h9.1) (by decide)
    · exact absurd (show (6 : Int) = 3 from h9.1) (by decide)
    · exact absurd (show (6 : Int) = 4 from h9.1) (by decide)
    · exact absurd (show (6 : Int) = 5 from h9.1) (by decide)
    · have := h9.2.1
      unfold isFwdB at this
      simp [h0] at this
  · have hB : isB ⟨id, 6, a, (mvM b k).length, c, if head = true then 5 else 0, 0, 0, if mark = true then 3 else 0, if mark = true then 1 else 0, mark, head⟩ (mvM b k) = true := by
      refine (isB_iff _ _).2 ⟨h, .inr (.inr (.inr (.inr (.inr ⟨rfl, ?_, ?_, ?_⟩))))⟩
      · unfold isFwdB
        rw [mvM_are b hk]
        unfold mvNo at hno
        cases mark <;> cases head <;> simp at hno ⊢ <;> first | exact hno | decide
      · intro hm
        have hm : mark = false := hm
        subst hm; exact ⟨rfl, rfl⟩
      · intro hm
        have hm : head = false := hm
        subst hm; exact ⟨rfl, rfl, rfl⟩
    rw [if_neg hno, if_pos ⟨hB, rfl, (by decide : (6 : Int) ≠ 5)⟩]
    rw [doSp_6 hI hB rfl rfl]
    have hsub : ∀ e ∈ mvM b k, e ∈ mvE k := fun e he => by
      obtain ⟨j, hj, -, rfl⟩ := mvM_mem.1 he
      exact List.mem_map.2 ⟨j, List.mem_range.2 hj, rfl⟩
    have hc : cmpG (mvG id k) ⟨id, 6, a, (mvM b k).length, c, if head = true then 5 else 0, 0, 0, if mark = true then 3 else 0, if mark = true then 1 else 0, mark, head⟩ = mvG id k := by
      unfold cmpG
      rw [if_pos]
      show (if mark = true then (3 : Int) else 0) < 4
      cases mark <;> simp
    have hgg : (if head = true then hrdG (if mark = true then cmpG (mvG id k) ⟨id, 6, a, (mvM b k).length, c, if head = true then 5 else 0, 0, 0, if mark = true then 3 else 0, if mark = true then 1 else 0, mark, head⟩ else mvG id k) ⟨id, 6, a, (mvM b k).length, c, if head = true then 5 else 0, 0, 0, if mark = true then 3 else 0, if mark = true then 1 else 0, mark, head⟩ else if mark = true then cmpG (mvG id k) ⟨id, 6, a, (mvM b k).length, c, if head = true then 5 else 0, 0, 0, if mark = true then 3 else 0, if mark = true then 1 else 0, mark, head⟩ else mvG id k) = mvG id k := by
      rw [hc]
      cases head <;> cases mark <;> rfl
    have hG : addG (mvG id k) (mvM b k) = mvG id k := by
      unfold addG
      show (⟨id, 4, 1, 5, 0, 0, mrg (mvE k) ((mvM b k).drop (fnd (mvM b k) 4))⟩ : GM) = _
      have hp : Pw ((mvM b k).drop (fnd (mvM b k) 4)) := (mvM_pw b k).sublist (List.drop_sublist _ _)
      rw [pw_ext (mrg_pw (mvE_pw k) hp) (mvE_pw k) (fun e => ⟨fun he => by
        rcases mrg_mem he with h | h
        · exact h
        · exact hsub e (List.mem_of_mem_drop h), fun he => mrg_left he⟩)]
    show (⟨addG (if head = true then hrdG (if mark = true then cmpG (mvG id k) _ else mvG id k) _ else if mark = true then cmpG (mvG id k) _ else mvG id k) (mvM b k), _⟩ : LG) = _
    rw [hgg, hG]
    congr 1
    have hgo : gonL (mvE k) (mvE k) = [] := by
      unfold gonL
      rw [List.filter_eq_nil_iff.2, List.map_nil]
      intro e he
      simp only [Bool.not_eq_true', List.any_eq_true, decide_eq_true_eq, Bool.not_eq_false]
      exact ⟨e, he, rfl⟩
    show putAll 9 99 (delAll (mvF k) (gonL (mvE k) (mvE k))) _ = _
    rw [hgo]
    have hb : brgL (mvG id k) ⟨id, 6, a, (mvM b k).length, c, if head = true then 5 else 0, 0, 0, if mark = true then 3 else 0, if mark = true then 1 else 0, mark, head⟩ (mvM b k) 4 = (if head = true then [-1] else []) ++ (if mark = true then [0] else []) ++ (mvM b k).map EntryC.i := by
      unfold brgL
      rw [List.filter_eq_self.2 (fun e he => by simpa using hsub e he)]
      congr 2
      · cases head <;> rfl
      · cases mark <;> rfl
    show putAll 9 99 (mvF k) (brgL (mvG id k) _ (mvM b k) 4) = _
    rw [hb]
/-- Whether the n-th spot is told anew. -/
def mvW (b : Nat → Bool) (mark head : Bool) : Nat → Bool
  | 0 => head
  | 1 => mark
  | n + 2 => b n
/-- The spots behind it all. -/
structure MvS (X : List SpotC) (id : Int) (b : Nat → Bool) (mark head : Bool) (k : Nat) : Prop where
  len : X.length = k + 2
  ix : ∀ n (h : n < X.length), X[n].i = if n = 0 then -1 else if n = 1 then 0 else (n : Int) + 2
  pl : ∀ n (h : n < X.length), if mvW b mark head n = true then X[n].s = 9 ∧ X[n].p = 99 else X[n].s = 1
theorem mvF_get (k : Nat) (i : Int) : getZ LV.k (mvF k) i = if i ∈ (mvE k).map EntryC.i then some ⟨i, 1, 60⟩ else if i = -1 then some ⟨-1, 1, 40⟩ else if i = 0 then some ⟨0, 1, 16⟩ else none := by
  unfold mvF
  rw [getZ_putAll]
  split
  · rfl
  · unfold getZ
    by_cases h1 : i = -1
    · subst h1; rfl
    · by_cases h2 : i = 0
      · subst h2; rfl
      · rw [if_neg h1, if_neg h2]
        simp [show ¬ (-1 : Int) = i by omega, show ¬ (0 : Int) = i by omega]
theorem mvX_of {id : Int} {k : Nat} {b : Nat → Bool} {mark head : Bool} : MvS (spotsL (mvG id k) (if mvNo b k mark head = true then mvF k else putAll 9 99 (mvF k) ((if head = true then [-1] else []) ++ (if mark = true then [0] else []) ++ (mvM b k).map EntryC.i))) id b mark head k := by
  have key : ∀ F : List LV, (∃ x, getZ LV.k F (-1) = some x ∧ if head = true then x.s = 9 ∧ x.t = 99 else x.s = 1) → (∃ x, getZ LV.k F 0 = some x ∧ if mark = true then x.s = 9 ∧ x.t = 99 else x.s = 1) → (∀ j, j < k → ∃ x, getZ LV.k F (4 + (j : Int)) = some x ∧ if b j = true then x.s = 9 ∧ x.t = 99 else x.s = 1) → MvS (spotsL (mvG id k) F) id b mark head k := by
    rintro F ⟨x0, h0, w0⟩ ⟨x1, h1, w1⟩ hj
    have hX : spotsL (mvG id k) F = spotOf (mvG id k) F (-1) :: spotOf (mvG id k) F 0 :: (mvE k).map (fun e => spotOf (mvG id k) F e.i) := by
      show (if hasK F (-1) = true then _ else _) ++ ((if hasK F 0 = true then _ else _) ++ _) = _
      rw [if_pos (by unfold hasK; rw [h0]; rfl), if_pos (by unfold hasK; rw [h1]; rfl)]
      rfl
    rw [hX]
    refine ⟨by simp [mvE_len], fun n h => ?_, fun n h => ?_⟩
    · match n with
      | 0 => rfl
      | 1 => rfl
      | n + 2 =>
        rw [if_neg (by omega), if_neg (by omega)]
        simp only [List.getElem_cons_succ, List.getElem_map, mvE_at]
        show 4 + (n : Int) = _
        omega
    · match n with
      | 0 =>
        show if head = true then plcS F (-1) = 9 ∧ plcT F (-1) = 99 else plcS F (-1) = 1
        unfold plcS plcT; rw [h0]; exact w0
      | 1 =>
        show if mark = true then plcS F 0 = 9 ∧ plcT F 0 = 99 else plcS F 0 = 1
        unfold plcS plcT; rw [h1]; exact w1
      | n + 2 =>
        have hn : n < k := by simp [mvE_len] at h; exact h
        obtain ⟨x, hx, hw⟩ := hj n hn
        simp only [List.getElem_cons_succ, List.getElem_map, mvE_at]
        show if b n = true then plcS F (4 + (n : Int)) = 9 ∧ plcT F (4 + (n : Int)) = 99 else plcS F (4 + (n : Int)) = 1
        unfold plcS plcT; rw [hx]; exact hw
  have hm : ∀ j : Nat, (4 + (j : Int)) ∈ (mvE k).map EntryC.i ↔ j < k := fun j => by
    simp only [mvE, List.map_map, List.mem_map, List.mem_range, Function.comp]
    constructor
    · rintro ⟨x, hx, h⟩
      have h : 4 + (x : Int) = 4 + (j : Int) := h
      omega
    · intro h; exact ⟨j, h, rfl⟩
  have hmM : ∀ j : Nat, (4 + (j : Int)) ∈ (mvM b k).map EntryC.i ↔ j < k ∧ b j = true := fun j => by
    rw [List.mem_map]
    constructor
    · rintro ⟨e, he, h⟩
      obtain ⟨x, hx, hb, rfl⟩ := mvM_mem.1 he
      have h : 4 + (x : Int) = 4 + (j : Int) := h
      obtain rfl : x = j := by omega
      exact ⟨hx, hb⟩
    · rintro ⟨h1, h2⟩; exact ⟨mvEnt j, mvM_mem.2 ⟨j, h1, h2, rfl⟩, rfl⟩
  have hlow : ∀ (L : List EntryC) (i : Int), (∀ e ∈ L, 4 ≤ e.i) → i < 4 → i ∉ L.map EntryC.i := fun L i h hi hc => by
    obtain ⟨e, he, rfl⟩ := List.mem_map.1 hc
    have := h e he; omega
  have hE4 : ∀ e ∈ mvE k, 4 ≤ e.i := fun e he => by
    obtain ⟨j, hj, rfl⟩ := List.getElem_of_mem he
    rw [mvE_at]; show (4 : Int) ≤ 4 + (j : Int); omega
  have hM4 : ∀ e ∈ mvM b k, 4 ≤ e.i := fun e he => by
    obtain ⟨j, -, -, rfl⟩ := mvM_mem.1 he
    show (4 : Int) ≤ 4 + (j : Int); omega
  have f1 : getZ LV.k (mvF k) (-1) = some ⟨-1, 1, 40⟩ := by rw [mvF_get, if_neg (hlow _ _ hE4 (by omega)), if_pos rfl]
  have f0 : getZ LV.k (mvF k) 0 = some ⟨0, 1, 16⟩ := by rw [mvF_get, if_neg (hlow _ _ hE4 (by omega)), if_neg (by omega), if_pos rfl]
  have fj : ∀ j, j < k → getZ LV.k (mvF k) (4 + (j : Int)) = some ⟨4 + (j : Int), 1, 60⟩ := fun j hj => by rw [mvF_get, if_pos ((hm j).2 hj)]
  by_cases hno : mvNo b k mark head = true
  · rw [if_pos hno]
    unfold mvNo at hno
    simp only [Bool.and_eq_true, Bool.not_eq_true', decide_eq_true_eq] at hno
    obtain ⟨⟨rfl, rfl⟩, h0⟩ := hno
    refine key _ ⟨_, f1, by simp⟩ ⟨_, f0, by simp⟩ (fun j hj => ⟨_, fj j hj, ?_⟩)
    have hb : b j = false := by
      cases h : b j
      · rfl
      · have : mvEnt j ∈ mvM b k := mvM_mem.2 ⟨j, hj, h, rfl⟩
        rw [List.length_eq_zero_iff.1 h0] at this
        cases this
    rw [hb]; simp
  · rw [if_neg hno]
    refine key _ ?_ ?_ (fun j hj => ?_)
    · rw [getZ_putAll]
      cases head
      · rw [if_neg, f1]
        · exact ⟨_, rfl, by simp⟩
        · have := hlow _ (-1) hM4 (by omega)
          cases mark <;> simp at this ⊢ <;> exact this
      · rw [if_pos (by simp)]; exact ⟨_, rfl, by simp⟩
    · rw [getZ_putAll]
      cases mark
      · rw [if_neg, f0]
        · exact ⟨_, rfl, by simp⟩
        · have := hlow _ 0 hM4 (by omega)
          cases head <;> simp at this ⊢ <;> exact this
      · rw [if_pos (by cases head <;> simp)]; exact ⟨_, rfl, by simp⟩
    · rw [getZ_putAll]
      have h3 : (4 + (j : Int)) ∈ (if head = true then [-1] else []) ++ (if mark = true then [0] else []) ++ (mvM b k).map EntryC.i ↔ b j = true := by
        rw [List.mem_append, List.mem_append, hmM]
        constructor
        · rintro ((h | h) | h)
          · cases head <;> simp at h; omega
          · cases mark <;> simp at h; omega
          · exact h.2
        · intro h; exact .inr ⟨hj, h⟩
      cases hbj : b j
      · rw [if_neg (by rw [h3, hbj]; simp), fj j hj]; exact ⟨_, rfl, by simp⟩
      · rw [if_pos (h3.2 hbj)]; exact ⟨_, rfl, by simp⟩

end Go.Proofs.Ytloojgbkohpcfaa
