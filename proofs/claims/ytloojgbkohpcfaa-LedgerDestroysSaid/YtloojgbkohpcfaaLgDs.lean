/- A group that grows by single entries, is destroyed, made anew: plain data of law LedgerDestroys. -/
import Derived.Test.YtloojgbkohpcfaaKnown14
namespace Go.Proofs.Ytloojgbkohpcfaa
open Go.RowKit Go.Shelf
set_option linter.unusedVariables false

def dgE (t : Int) (n : Nat) : List EntryC := (List.range n).map fun (j : Nat) => ⟨(j : Int) + 1, t, ⟨#[]⟩⟩
def dgF (s : Int) (n : Nat) : List LV := (List.range n).map fun (j : Nat) => ⟨(j : Int) + 1, s, (j : Int) + 1⟩
def dgL (k t s : Int) (n : Nat) : LG := ⟨⟨k, 1, 0, 0, 0, 0, dgE t n⟩, dgF s n⟩
abbrev dgP (k : Int) (a : Option Addr) (c : Nat) : PartC := ⟨k, 1, a, 1, c, 0, 0, 0, 0, 0, false, false⟩
theorem dgE_succ (t : Int) (n : Nat) : dgE t (n + 1) = dgE t n ++ [⟨(n : Int) + 1, t, ⟨#[]⟩⟩] := by simp [dgE, List.range_succ]
theorem dgF_succ (s : Int) (n : Nat) : dgF s (n + 1) = dgF s n ++ [⟨(n : Int) + 1, s, (n : Int) + 1⟩] := by simp [dgF, List.range_succ]
theorem dgE_mem {t : Int} {n : Nat} {e : EntryC} (h : e ∈ dgE t n) : ∃ j : Nat, j < n ∧ e = ⟨(j : Int) + 1, t, ⟨#[]⟩⟩ := by
  obtain ⟨j, hj, rfl⟩ := List.mem_map.1 h
  exact ⟨j, List.mem_range.1 hj, rfl⟩
theorem dgE_len (t : Int) (n : Nat) : (dgE t n).length = n := by simp [dgE]
theorem dgF_len (s : Int) (n : Nat) : (dgF s n).length = n := by simp [dgF]
theorem dgE_at {t : Int} {n j : Nat} (h : j < (dgE t n).length) : (dgE t n)[j] = ⟨(j : Int) + 1, t, ⟨#[]⟩⟩ := by simp [dgE]
theorem dgE_pw (t : Int) (n : Nat) : Pw (dgE t n) := by
  refine ris_pw.1 (fun i j hi hj => ?_)
  rw [dgE_at, dgE_at]
  show (i : Int) + 1 < (j : Int) + 1
  omega
theorem dg_entry {t : Int} (ht : 1 ≤ t ∧ t ≤ 9) {j : Nat} (hj : j < 1000) : entryB ⟨(j : Int) + 1, t, ⟨#[]⟩⟩ = true := by
  unfold entryB
  rw [Bool.and_eq_true, Bool.and_eq_true, wB_iff, wB_iff]
  exact ⟨⟨by show (1 : Int) ≤ (j : Int) + 1; omega, by show (j : Int) + 1 ≤ _; omega⟩, ⟨by show 1 ≤ t; omega, by show t ≤ _; omega⟩, rfl⟩
theorem dg_isB {k t : Int} (hk : 0 ≤ k ∧ k ≤ 999) (ht : 1 ≤ t ∧ t ≤ 9) {j : Nat} (hj : j < 1000) (a : Option Addr) (c : Nat) : isB (dgP k a c) [⟨(j : Int) + 1, t, ⟨#[]⟩⟩] = true := by
  refine (isB_iff _ _).2 ⟨hk, .inl ⟨rfl, (by decide : (1 : Nat) ≠ 0), ?_, rfl, rfl, rfl, rfl, rfl, rfl, rfl⟩⟩
  unfold areB
  rw [Bool.and_eq_true]
  refine ⟨by simp, ?_⟩
  show ([((⟨(j : Int) + 1, t, ⟨#[]⟩⟩ : EntryC), (1 : Int))].all (stepB 1)) = true
  rw [List.all_cons, List.all_nil, Bool.and_true]
  unfold stepB
  rw [Bool.and_eq_true]
  exact ⟨dg_entry ht hj, (by decide : wB 1 1 1 = true)⟩
theorem dg_isSp {k t : Int} (hk : 0 ≤ k ∧ k ≤ 999) (ht : 1 ≤ t ∧ t ≤ 9) (s : Int) {n : Nat} (hn : n ≤ 1000) : isSp (dgL k t s n).g = true := by
  refine isSp_iff.2 ⟨⟨hk, ⟨by show (1 : Int) ≤ 1; omega, by show (1 : Int) ≤ _; omega⟩, ⟨by show (0 : Int) ≤ 0; omega, by show (0 : Int) ≤ _; omega⟩⟩, by kernel_rfl, sprB_iff.2 ⟨fun e he => ?_, fun e he => ?_, dgE_pw t n⟩⟩
  · obtain ⟨j, hj, rfl⟩ := dgE_mem he
    exact dg_entry ht (by omega)
  · obtain ⟨j, hj, rfl⟩ := dgE_mem he
    show (1 : Int) ≤ (j : Int) + 1; omega
theorem dg_okLG {k t : Int} (hk : 0 ≤ k ∧ k ≤ 999) (ht : 1 ≤ t ∧ t ≤ 9) (s : Int) {n : Nat} (hn : n ≤ 10) : okLG 10 (dgL k t s n) := ⟨dg_isSp hk ht s (by omega), by show (dgE t n).length ≤ 10; rw [dgE_len]; exact hn, by show (dgF s n).length ≤ 10; rw [dgF_len]; exact hn⟩
theorem insZ_end {x : LV} : ∀ {F : List LV}, (∀ y ∈ F, y.k < x.k) → insZ LV.k x F = F ++ [x]
  | [], _ => rfl
  | y :: r, h => by
    have h1 := h y (by simp)
    show (if x.k < y.k then x :: y :: r else y :: insZ LV.k x r) = _
    rw [if_neg (by omega), insZ_end (fun z hz => h z (List.mem_cons_of_mem _ hz))]; rfl
theorem dgF_put (s : Int) (n : Nat) : putZ LV.k ⟨(n : Int) + 1, s, (n : Int) + 1⟩ (dgF s n) = dgF s (n + 1) := by
  have hlt : ∀ y ∈ dgF s n, y.k < (n : Int) + 1 := fun y hy => by
    obtain ⟨j, hj, rfl⟩ := List.mem_map.1 hy
    rw [List.mem_range] at hj
    show (j : Int) + 1 < (n : Int) + 1; omega
  unfold putZ
  rw [show delZ LV.k (dgF s n) ((n : Int) + 1) = dgF s n from List.filter_eq_self.2 (fun y hy => by have := hlt y hy; simp; omega)]
  rw [insZ_end hlt, dgF_succ]
theorem dg_step {k t s : Int} (hk : 0 ≤ k ∧ k ≤ 999) (ht : 1 ≤ t ∧ t ≤ 9) {n : Nat} (hn : n < 1000) (a : Option Addr) (c : Nat) : doLG (dgL k t s n) (dgP k a c) [⟨(n : Int) + 1, t, ⟨#[]⟩⟩] s ((n : Int) + 1) = dgL k t s (n + 1) := by
  have hB := dg_isB hk ht hn a c
  have hI := dg_isSp hk ht s (show n ≤ 1000 by omega)
  unfold doLG
  rw [if_pos ⟨hB, rfl, (by decide : (1 : Int) ≠ 5)⟩, doSp_1 hI hB rfl rfl]
  have hf : fnd (dgE t n) ((n : Int) + 1) = n := fnd_eq (by rw [dgE_len]; exact Nat.le_refl _) (fun j hj => by rw [dgE_at]; show (j : Int) + 1 < (n : Int) + 1; omega) (fun j hj h => by rw [dgE_len] at hj; omega)
  have hG : addG { (dgL k t s n).g with l := (dgL k t s n).g.l.take (fnd (dgL k t s n).g.l (headI [⟨(n : Int) + 1, t, ⟨#[]⟩⟩])) } [⟨(n : Int) + 1, t, ⟨#[]⟩⟩] = (dgL k t s (n + 1)).g := by
    unfold addG
    show (⟨k, 1, 0, 0, 0, 0, mrg ((dgE t n).take (fnd (dgE t n) ((n : Int) + 1))) (([⟨(n : Int) + 1, t, ⟨#[]⟩⟩] : List EntryC).drop (fnd [⟨(n : Int) + 1, t, ⟨#[]⟩⟩] 1))⟩ : GM) = _
    rw [hf, List.take_of_length_le (by rw [dgE_len]; exact Nat.le_refl _), show fnd ([⟨(n : Int) + 1, t, ⟨#[]⟩⟩] : List EntryC) 1 = 0 from fnd_eq (by simp) (fun j hj => by omega) (fun j hj _ => by
      obtain rfl : j = 0 := (by simp at hj; omega)
      show (1 : Int) ≤ (n : Int) + 1; omega), List.drop_zero, mrg_above (fun x hx y hy => by
      obtain ⟨j, hj, rfl⟩ := dgE_mem hx
      rw [List.mem_singleton.1 hy]
      show (j : Int) + 1 < (n : Int) + 1; omega), ← dgE_succ]
    rfl
  rw [hG]
  have hgo : gonL (dgE t n) (dgE t (n + 1)) = [] := by
    unfold gonL
    rw [List.filter_eq_nil_iff.2, List.map_nil]
    intro e he
    simp only [Bool.not_eq_true', List.any_eq_true, decide_eq_true_eq, Bool.not_eq_false]
    exact ⟨e, by rw [dgE_succ]; exact List.mem_append_left _ he, rfl⟩
  have hb : brgL (dgL k t s (n + 1)).g (dgP k a c) [⟨(n : Int) + 1, t, ⟨#[]⟩⟩] 1 = [(n : Int) + 1] := by
    unfold brgL
    rw [if_neg (by simp), if_neg (by simp [markB]), List.filter_eq_self.2 (fun e he => by
      rw [List.mem_singleton.1 he]
      show decide (_ ∈ dgE t (n + 1)) = true
      rw [dgE_succ]; simp)]
    rfl
  show (⟨(dgL k t s (n + 1)).g, putAll s ((n : Int) + 1) (delAll (dgF s n) (gonL (dgE t n) (dgE t (n + 1)))) (brgL (dgL k t s (n + 1)).g (dgP k a c) [⟨(n : Int) + 1, t, ⟨#[]⟩⟩] 1)⟩ : LG) = _
  rw [hgo, hb]
  show (⟨_, putZ LV.k ⟨(n : Int) + 1, s, (n : Int) + 1⟩ (dgF s n)⟩ : LG) = _
  rw [dgF_put]; rfl
abbrev dgH (k : Int) : PartC := ⟨k, 2, none, 0, 0, 0, 0, 0, 0, 0, false, false⟩
abbrev dgX (k : Int) : PartC := ⟨k, 5, none, 0, 0, 0, 0, 0, 0, 0, false, false⟩
abbrev dg3 : LG := ⟨⟨300, 1, 0, 0, 0, 0, []⟩, [⟨-1, 2, 0⟩]⟩
/-- Ahead of the destruction, behind it. -/
def dgA (k : Int) (n : Nat) : List LG := if n = 0 then [] else [dgL k 1 1 n]
def dgC (k : Int) (n : Nat) : List LG := if n = 0 then [dg3] else [dgL k 2 4 n, dg3]
theorem dgL_n (k t s : Int) (n : Nat) : (dgL k t s n).n = k := rfl
theorem dgA_step {k : Int} (hk : 0 ≤ k ∧ k ≤ 255) {n : Nat} (hn : n < 100) (a : Option Addr) (c : Nat) : ldo (dgA k n) [(dgP k a c, [⟨(n : Int) + 1, 1, ⟨#[]⟩⟩])] 1 ((n : Int) + 1) = dgA k (n + 1) := by
  have hB := dg_isB (k := k) (t := 1) (j := n) ⟨hk.1, by omega⟩ ⟨by decide, by decide⟩ (by omega) a c
  have hS := dg_step (k := k) (t := 1) (s := 1) (n := n) ⟨hk.1, by omega⟩ ⟨by decide, by decide⟩ (by omega) a c
  show ldo1 (dgA k n) (dgP k a c, [⟨(n : Int) + 1, 1, ⟨#[]⟩⟩]) 1 ((n : Int) + 1) = _
  unfold ldo1
  rw [if_pos hB, if_neg (show ¬ (1 : Int) = 5 by decide)]
  have hget : (getZ LG.n (dgA k n) k).getD ⟨newP k, []⟩ = dgL k 1 1 n := by
    unfold dgA
    by_cases h0 : n = 0
    · subst h0; rfl
    · rw [if_neg h0]
      unfold getZ
      rw [List.find?_cons, show decide ((dgL k 1 1 n).n = k) = true from decide_eq_true rfl]; rfl
  show putZ LG.n (doLG ((getZ LG.n (dgA k n) k).getD ⟨newP k, []⟩) _ _ 1 _) (dgA k n) = _
  rw [hget, hS]
  unfold dgA putZ delZ
  rw [if_neg (show ¬ n + 1 = 0 by omega)]
  by_cases h0 : n = 0
  · rw [if_pos h0]; rfl
  · rw [if_neg h0, List.filter_cons, show (!decide ((dgL k 1 1 n).n = (dgL k 1 1 (n + 1)).n)) = false by rw [dgL_n, dgL_n]; simp]; rfl
theorem dgH_isB {k : Int} (hk : 0 ≤ k ∧ k ≤ 999) : isB (dgH k) [] = true := (isB_iff _ _).2 ⟨hk, .inr (.inl ⟨rfl, by kernel_rfl, rfl, rfl, rfl, rfl, rfl⟩)⟩
theorem dgX_isB {k : Int} (hk : 0 ≤ k ∧ k ≤ 999) : isB (dgX k) [] = true := (isB_iff _ _).2 ⟨hk, .inr (.inr (.inr (.inr (.inl ⟨rfl, rfl, rfl, rfl, rfl, rfl, rfl, rfl, rfl⟩))))⟩
/-- Hard states of the group and of 300: whatever the group has, 300 is behind it. -/
theorem dgB_step {k : Int} (hk : 0 ≤ k ∧ k ≤ 255) (n : Nat) : ∃ X : LG, X.n = k ∧ ldo (dgA k n) [(dgH k, []), (dgH 300, [])] 2 0 = [X, dg3] := by
  have hB := dgH_isB (k := k) ⟨hk.1, by omega⟩
  have hB3 : isB (dgH 300) [] = true := dgH_isB ⟨by decide, by decide⟩
  refine ⟨doLG ((getZ LG.n (dgA k n) k).getD ⟨newP k, []⟩) (dgH k) [] 2 0, ?_, ?_⟩
  · show (doLG _ (dgH k) [] 2 0).g.id = k
    rw [doLG_id]
    unfold dgA
    by_cases h0 : n = 0
    · rw [if_pos h0]; rfl
    · rw [if_neg h0]
      unfold getZ
      rw [List.find?_cons, show decide ((dgL k 1 1 n).n = k) = true from decide_eq_true rfl]; rfl
  · show ldo1 (ldo1 (dgA k n) (dgH k, []) 2 0) (dgH 300, []) 2 0 = _
    have hX : (doLG ((getZ LG.n (dgA k n) k).getD ⟨newP k, []⟩) (dgH k) [] 2 0).n = k := by
      show (doLG _ (dgH k) [] 2 0).g.id = k
      rw [doLG_id]
      unfold dgA
      by_cases h0 : n = 0
      · rw [if_pos h0]; rfl
      · rw [if_neg h0]
        unfold getZ
        rw [List.find?_cons, show decide ((dgL k 1 1 n).n = k) = true from decide_eq_true rfl]; rfl
    have h1 : ldo1 (dgA k n) (dgH k, []) 2 0 = [doLG ((getZ LG.n (dgA k n) k).getD ⟨newP k, []⟩) (dgH k) [] 2 0] := by
      unfold ldo1
      rw [if_pos hB, if_neg (show ¬ (2 : Int) = 5 by decide)]
      show putZ LG.n (doLG ((getZ LG.n (dgA k n) k).getD ⟨newP k, []⟩) (dgH k) [] 2 0) (dgA k n) = _
      generalize doLG ((getZ LG.n (dgA k n) k).getD ⟨newP k, []⟩) (dgH k) [] 2 0 = Y at *
      unfold putZ delZ dgA
      by_cases h0 : n = 0
      · rw [if_pos h0]; rfl
      · rw [if_neg h0, List.filter_cons, show (!decide ((dgL k 1 1 n).n = Y.n)) = false by rw [dgL_n, hX]; simp]; rfl
    rw [h1]
    generalize doLG ((getZ LG.n (dgA k n) k).getD ⟨newP k, []⟩) (dgH k) [] 2 0 = Y at *
    have h3 : getZ LG.n [Y] 300 = none := by
      unfold getZ
      rw [List.find?_cons, show decide (Y.n = 300) = false by rw [hX]; simp; omega]; rfl
    unfold ldo1
    rw [if_pos hB3, if_neg (show ¬ (2 : Int) = 5 by decide)]
    show putZ LG.n (doLG ((getZ LG.n [Y] 300).getD ⟨newP 300, []⟩) (dgH 300) [] 2 0) [Y] = _
    rw [h3]
    show putZ LG.n (doLG ⟨newP 300, []⟩ (dgH 300) [] 2 0) [Y] = _
    rw [show doLG ⟨newP 300, []⟩ (dgH 300) [] 2 0 = dg3 by kernel_rfl]
    unfold putZ delZ
    rw [List.filter_cons, show (!decide (Y.n = dg3.n)) = true by rw [hX]; simp; show ¬ k = 300; omega]
    show (if (300 : Int) < Y.n then dg3 :: Y :: [] else Y :: [dg3]) = _
    rw [if_neg (by rw [hX]; omega)]
theorem dgX_step {k : Int} (hk : 0 ≤ k ∧ k ≤ 255) {X : LG} (hX : X.n = k) : ldo [X, dg3] [(dgX k, [])] 3 0 = dgC k 0 := by
  have hB := dgX_isB (k := k) ⟨hk.1, by omega⟩
  show ldo1 [X, dg3] (dgX k, []) 3 0 = [dg3]
  unfold ldo1
  rw [if_pos hB, if_pos rfl]
  unfold delZ
  rw [List.filter_cons, show (!decide (X.n = (dgX k, ([] : List EntryC)).1.g)) = false by rw [hX]; simp]
  rw [if_neg (by simp), List.filter_cons, show (!decide (dg3.n = (dgX k, ([] : List EntryC)).1.g)) = true by simp; show ¬ (300 : Int) = k; omega]
  rfl
theorem dgC_get {k : Int} (hk : 0 ≤ k ∧ k ≤ 255) (n : Nat) : getZ LG.n (dgC k n) k = if n = 0 then none else some (dgL k 2 4 n) := by
  unfold dgC getZ
  by_cases h0 : n = 0
  · rw [if_pos h0, if_pos h0, List.find?_cons, show decide (dg3.n = k) = false by simp; show ¬ (300 : Int) = k; omega]; rfl
  · rw [if_neg h0, if_neg h0, List.find?_cons, show decide ((dgL k 2 4 n).n = k) = true from decide_eq_true rfl]
theorem dgC_step {k : Int} (hk : 0 ≤ k ∧ k ≤ 255) {n : Nat} (hn : n < 100) (a : Option Addr) (c : Nat) : ldo (dgC k n) [(dgP k a c, [⟨(n : Int) + 1, 2, ⟨#[]⟩⟩])] 4 ((n : Int) + 1) = dgC k (n + 1) := by
  have hB := dg_isB (k := k) (t := 2) (j := n) ⟨hk.1, by omega⟩ ⟨by decide, by decide⟩ (by omega) a c
  have hS := dg_step (k := k) (t := 2) (s := 4) (n := n) ⟨hk.1, by omega⟩ ⟨by decide, by decide⟩ (by omega) a c
  show ldo1 (dgC k n) (dgP k a c, [⟨(n : Int) + 1, 2, ⟨#[]⟩⟩]) 4 ((n : Int) + 1) = _
  unfold ldo1
  rw [if_pos hB, if_neg (show ¬ (1 : Int) = 5 by decide)]
  have hget : (getZ LG.n (dgC k n) k).getD ⟨newP k, []⟩ = dgL k 2 4 n := by
    rw [dgC_get hk]
    by_cases h0 : n = 0
    · rw [if_pos h0, h0]; rfl
    · rw [if_neg h0]; rfl
  show putZ LG.n (doLG ((getZ LG.n (dgC k n) k).getD ⟨newP k, []⟩) _ _ 4 _) (dgC k n) = _
  rw [hget, hS]
  have hd3 : (!decide (dg3.n = (dgL k 2 4 (n + 1)).n)) = true := by rw [dgL_n]; simp; show ¬ (300 : Int) = k; omega
  have hlt : (dgL k 2 4 (n + 1)).n < dg3.n := by rw [dgL_n]; show k < 300; omega
  unfold dgC putZ delZ
  rw [if_neg (show ¬ n + 1 = 0 by omega)]
  by_cases h0 : n = 0
  · rw [if_pos h0, List.filter_cons, hd3]
    show (if (dgL k 2 4 (n + 1)).n < dg3.n then _ else _) = _
    rw [if_pos hlt]; rfl
  · rw [if_neg h0, List.filter_cons, show (!decide ((dgL k 2 4 n).n = (dgL k 2 4 (n + 1)).n)) = false by rw [dgL_n, dgL_n]; simp]
    rw [if_neg (by simp), List.filter_cons, hd3]
    show (if (dgL k 2 4 (n + 1)).n < dg3.n then _ else _) = _
    rw [if_pos hlt]; rfl
theorem dg_ok {k : Int} (hk : 0 ≤ k ∧ k ≤ 255) {n : Nat} (hn : n ≤ 10) : okA 10 (dgA k n) ∧ okA 10 (dgC k n) := by
  have h3 : okLG 10 dg3 := ⟨by kernel_rfl, by decide, by decide⟩
  refine ⟨fun L hL => ?_, fun L hL => ?_⟩
  · unfold dgA at hL
    split at hL
    · cases hL
    · rw [List.mem_singleton.1 hL]; exact dg_okLG ⟨hk.1, by omega⟩ ⟨by decide, by decide⟩ _ hn
  · unfold dgC at hL
    split at hL
    · rw [List.mem_singleton.1 hL]; exact h3
    · rcases List.mem_cons.1 hL with rfl | hL
      · exact dg_okLG ⟨hk.1, by omega⟩ ⟨by decide, by decide⟩ _ hn
      · rw [List.mem_singleton.1 hL]; exact h3
def dgS (k : Int) (n : Nat) : List SpotC := (List.range n).map (fun (j : Nat) => (⟨k, (j : Int) + 1, 4, (j : Int) + 1⟩ : SpotC)) ++ [⟨300, -1, 2, 0⟩]
theorem dgS_len (k : Int) (n : Nat) : (dgS k n).length = n + 1 := by simp [dgS]
theorem dgF_get {s : Int} {n j : Nat} (hj : j < n) : getZ LV.k (dgF s n) ((j : Int) + 1) = some ⟨(j : Int) + 1, s, (j : Int) + 1⟩ := by
  have hr : RisZ LV.k (dgF s n) := by
    unfold RisZ dgF
    rw [List.pairwise_map]
    exact List.pairwise_lt_range.imp (fun {a b} h => by show (a : Int) + 1 < (b : Int) + 1; omega)
  exact risZ_get hr (x := ⟨(j : Int) + 1, s, (j : Int) + 1⟩) (List.mem_map.2 ⟨j, List.mem_range.2 hj, rfl⟩)
theorem dgF_no {s i : Int} (n : Nat) (hi : i ≤ 0) : getZ LV.k (dgF s n) i = none := by
  unfold getZ
  rw [List.find?_eq_none]
  intro x hx
  obtain ⟨j, hj, rfl⟩ := List.mem_map.1 hx
  simp
  omega
theorem dgL_spots (k t : Int) (n : Nat) : spotsL (dgL k t 4 n).g (dgL k t 4 n).F = (List.range n).map (fun (j : Nat) => (⟨k, (j : Int) + 1, 4, (j : Int) + 1⟩ : SpotC)) := by
  show (if hasK (dgF 4 n) (-1) = true then _ else _) ++ ((if hasK (dgF 4 n) 0 = true then _ else _) ++ (dgE t n).map (fun e => spotOf _ (dgF 4 n) e.i)) = _
  rw [if_neg (by unfold hasK; rw [dgF_no n (by decide)]; simp), if_neg (by unfold hasK; rw [dgF_no n (by decide)]; simp), List.nil_append, List.nil_append]
  unfold dgE
  rw [List.map_map]
  apply List.map_congr_left
  intro j hj
  rw [List.mem_range] at hj
  show (⟨k, (j : Int) + 1, plcS (dgF 4 n) ((j : Int) + 1), plcT (dgF 4 n) ((j : Int) + 1)⟩ : SpotC) = _
  unfold plcS plcT
  rw [dgF_get hj]
theorem dgC_spots (k : Int) (n : Nat) : flA (dgC k n) = dgS k n := by
  have h3 : spotsL dg3.g dg3.F = [⟨300, -1, 2, 0⟩] := by kernel_rfl
  unfold dgC flA dgS
  by_cases h0 : n = 0
  · rw [if_pos h0, h0]; simp [h3]
  · rw [if_neg h0, List.flatMap_cons, List.flatMap_cons, List.flatMap_nil, List.append_nil, dgL_spots, h3]
theorem dgL_dense {k : Int} (hk : 0 ≤ k ∧ k ≤ 255) {n : Nat} (hn : n ≤ 1000) : isG (dgL k 2 4 n).g = true := by
  refine isG_iff.2 ⟨⟨⟨hk.1, by show k ≤ 999; omega⟩, ⟨by show (1 : Int) ≤ 1; omega, by show (1 : Int) ≤ _; omega⟩, ⟨by show (0 : Int) ≤ 0; omega, by show (0 : Int) ≤ _; omega⟩⟩, by kernel_rfl, ?_⟩
  show denseB (dgE 2 n) 1 = true
  have key : ∀ m, m ≤ 1000 → denseB (dgE 2 m) 1 = true := by
    intro m
    induction m with
    | zero => intro _; rfl
    | succ m ih =>
      intro hm
      rw [dgE_succ]
      refine dense_app (ih (by omega)) ?_
      rw [dgE_len]
      have h1 := dg_entry (t := 2) ⟨by decide, by decide⟩ (show m < 1000 by omega)
      simp only [denseB, Bool.and_eq_true, decide_eq_true_eq]
      exact ⟨⟨h1, by omega⟩, trivial⟩
  exact key n hn
theorem dgC_dense {k : Int} (hk : 0 ≤ k ∧ k ≤ 255) {n : Nat} (hn : n ≤ 1000) : denA (dgC k n) = true := by
  have h3 : isG dg3.g = true := by kernel_rfl
  unfold dgC denA
  by_cases h0 : n = 0
  · rw [if_pos h0]; simp [h3]
  · rw [if_neg h0]; simp [h3, dgL_dense hk hn]

end Go.Proofs.Ytloojgbkohpcfaa
