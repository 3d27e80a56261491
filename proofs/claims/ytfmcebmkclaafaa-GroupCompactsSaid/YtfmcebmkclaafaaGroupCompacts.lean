/- Law GroupCompacts: for every input the call answers true; its arguments read as they did. No condition. -/
import Derived.Test.YtfmcebmkclaafaaLaw
import Derived.Test.YtfmcebmkclaafaaKnown6
import Derived.Test.YtfmcebmkclaafaaGrown6
import Derived.Test.YtfmcebmkclaafaaRef6a
namespace Go.Proofs.Ytfmcebmkclaafaa.groupCompacts
open Go.ChangeShapes Go.WideShapes Go.ChangeAt Go.RowKit Go.Shelf
open Go.ChangeMaps (open_string shut_string)
set_option linter.unusedVariables false
attribute [local go_sem] Oper.semAt_some wide_fn wide_round_fn

attribute [local irreducible] wpQuiet
theorem grL_get (k q : Nat) (h : q < (grL k).length) : (grL k)[q] = ⟨(q : Int) + 1, (q : Int) + 1, ⟨#[]⟩⟩ := by simp [grL]
theorem entT_gr (k : Nat) (hk : k ≤ 100000) (i : Int) (hi : 1 ≤ i) : entT (grL k) i = if i ≤ k then i else 0 := by
  rw [entT_dense (grL_dense k hk)]
  by_cases h : i ≤ k
  · rw [dif_pos ⟨hi, by rw [grL_len]; omega⟩, if_pos h, grL_get]; show ((i - 1).toNat : Int) + 1 = i; omega
  · rw [dif_neg (fun x => h (by have := x.2; rw [grL_len] at this; omega)), if_neg h]
theorem cmp_is {I : Int} (hI : 1 ≤ I ∧ I ≤ 1000) : isB ⟨5, 3, none, 0, 0, 0, 0, 0, I, 0, false, false⟩ [] = true :=
  (isB_iff _ _).2 ⟨by simp, .inr (.inr (.inl ⟨rfl, wB_iff.2 ⟨hI.1, by show I ≤ _; omega⟩, .inr rfl, rfl, rfl, rfl, rfl, rfl, rfl⟩))⟩
theorem cmp_fact (k : Nat) (hk : k ≤ 12) (I : Int) (hI : 1 ≤ I ∧ I ≤ k) :
    ∃ L : List EntryC, chkG ⟨5, 1, 0, 0, 0, 0, grL k⟩ ⟨5, 3, none, 0, 0, 0, 0, 0, I, 0, false, false⟩ [] = 0 ∧ doG ⟨5, 1, 0, 0, 0, 0, grL k⟩ ⟨5, 3, none, 0, 0, 0, 0, 0, I, 0, false, false⟩ [] = ⟨5, I + 1, I, 0, 0, 0, L⟩ ∧
      isG ⟨5, I + 1, I, 0, 0, 0, L⟩ = true ∧ denseB L (I + 1) = true ∧ I + (L.length : Int) = k ∧ L.length ≤ 12 := by
  have hd := grL_dense k (by omega)
  have hB := cmp_is (I := I) (by omega)
  have hc : chkG ⟨5, 1, 0, 0, 0, 0, grL k⟩ ⟨5, 3, none, 0, 0, 0, 0, 0, I, 0, false, false⟩ [] = 0 := by
    unfold chkG
    rw [if_neg (by rw [hB]; simp), if_neg (by simp), if_pos rfl]
    unfold chkC lastG
    dsimp only
    rw [if_neg (by omega), if_neg (by rw [grL_len]; omega), if_neg (by simp)]
  have hdo : doG ⟨5, 1, 0, 0, 0, 0, grL k⟩ ⟨5, 3, none, 0, 0, 0, 0, 0, I, 0, false, false⟩ [] = ⟨5, I + 1, I, 0, 0, 0, (grL k).drop I.toNat⟩ := by
    unfold doG
    rw [hc, if_neg (by simp), if_neg (by simp), if_neg (by simp), if_pos rfl]
    dsimp only
    rw [entT_gr k (by omega) I hI.1, if_pos hI.2, List.append_nil, btw_above hd ⟨by decide, by decide⟩ (by rw [grL_len]; omega), show (I + 1 - 1).toNat = I.toNat by omega]
  have hIs := (doG_isG (g := ⟨5, 1, 0, 0, 0, 0, grL k⟩) (p := ⟨5, 3, none, 0, 0, 0, 0, 0, I, 0, false, false⟩) (pl := []) (gr_isG ⟨by omega, by omega⟩ (by omega)) (by rw [grL_len]; omega) rfl).1
  rw [hdo] at hIs
  exact ⟨_, hc, hdo, hIs, (isG_iff.1 hIs).2.2, by rw [List.length_drop, grL_len]; omega, by rw [List.length_drop, grL_len]; omega⟩
theorem do_no {g : GM} {p : PartC} {pl : List EntryC} (h : chkG g p pl ≠ 0) : doG g p pl = g := if_pos h
theorem cmp_gone {g : GM} {I : Int} (hI : 1 ≤ I ∧ I ≤ 1000) (hg : g.id = 5) (h : I < g.fi) : chkG g ⟨5, 3, none, 0, 0, 0, 0, 0, I, 0, false, false⟩ [] = 15 := by
  unfold chkG
  rw [if_neg (by rw [cmp_is hI, hg]; simp), if_neg (by simp), if_pos rfl]
  unfold chkC
  exact if_pos h
theorem cmp_far {g : GM} {I : Int} (hI : 1 ≤ I ∧ I ≤ 1000) (hg : g.id = 5) (h : g.fi ≤ I) (h2 : lastG g < I) : chkG g ⟨5, 3, none, 0, 0, 0, 0, 0, I, 0, false, false⟩ [] = 16 := by
  unfold chkG
  rw [if_neg (by rw [cmp_is hI, hg]; simp), if_neg (by simp), if_pos rfl]
  unfold chkC
  rw [if_neg (by show ¬ I < g.fi; omega)]
  exact if_pos h2

set_option maxRecDepth 100000 in
set_option maxHeartbeats 4000000 in
theorem compacts (n m q : Nat) (hn : n < 256) (hm : m < 256) (hq : q < 256) (w : World) : Calls Try.prog 8 #[.int .u8 n, .int .u8 m, .int .u8 q] w fun e w' => e = .returned (.bool true) ∧ Below w.heap.size w w' := by
  have GK := Lib.hid group_known
  have GG := Lib.hid (fun W => grown_any 5 ⟨by omega, by omega⟩ (n % 12 + 1) (by omega) W)
  rw [show ((n % 12 + 1 : Nat) : Int) = ((n : Int) % 12 + 1) by omega] at GG
  have hm1 : 0 ≤ (m : Int) % ((n : Int) % 12 + 1) := Int.emod_nonneg _ (by omega)
  have hm2 : (m : Int) % ((n : Int) % 12 + 1) < ((n : Int) % 12 + 1) := Int.emod_lt_of_pos _ (by omega)
  have hq1 : 0 ≤ (q : Int) % ((m : Int) % ((n : Int) % 12 + 1) + 1) := Int.emod_nonneg _ (by omega)
  have hq2 : (q : Int) % ((m : Int) % ((n : Int) % 12 + 1) + 1) < ((m : Int) % ((n : Int) % 12 + 1) + 1) := Int.emod_lt_of_pos _ (by omega)
  obtain ⟨k, hk⟩ : ∃ k, k = n % 12 + 1 := ⟨_, rfl⟩
  rw [← hk] at GG
  have hkI : ((n : Int) % 12 + 1) = (k : Int) := by omega
  have hk12 : k ≤ 12 := by omega
  obtain ⟨L, hcz, hdo, hIH, hdL, hLl, hL12⟩ := cmp_fact k hk12 ((m : Int) % ((n : Int) % 12 + 1) + 1) ⟨by omega, by omega⟩
  have hIG := gr_isG (id := 5) ⟨by omega, by omega⟩ (k := k) (by omega)
  have hll := grL_len k
  unfold GrownPost at GG
  have GD := Lib.hid (fun a cap W (hg : HasG W a ⟨5, 1, 0, 0, 0, 0, grL k⟩) => (show Calls Try.prog 22 #[.agg #[.int .i64 5, .int .i64 1, .int .i64 0, .int .i64 0, .int .i64 0, .int .i64 0, .slice a (grL k).length cap], .agg #[.int .i64 5, .int .i64 3, .slice none 0 0, .int .i64 0, .int .i64 0, .int .i64 0, .int .i64 ((m : Int) % ((n : Int) % 12 + 1) + 1), .int .i64 0, .bool false, .bool false]] W (fun e w' => ∃ ha hcp, e = .returned (.tuple #[.agg #[.int .i64 5, .int .i64 (((m : Int) % ((n : Int) % 12 + 1) + 1) + 1), .int .i64 ((m : Int) % ((n : Int) % 12 + 1) + 1), .int .i64 0, .int .i64 0, .int .i64 0, .slice ha L.length hcp], .int .i64 0]) ∧ HasG w' ha ⟨5, ((m : Int) % ((n : Int) % 12 + 1) + 1) + 1, ((m : Int) % ((n : Int) % 12 + 1) + 1), 0, 0, 0, L⟩ ∧ Below W.heap.size W w' ∧ ∀ b, inBlkE ha L.length b → W.heap.size ≤ b) from by
    have := do_any 5 1 0 0 0 0 (grL k) a cap 5 3 none 0 0 0 0 0 ((m : Int) % ((n : Int) % 12 + 1) + 1) 0 false false [] W hg hIG (hasE_nil rfl rfl) (by omega)
    rw [hcz, hdo] at this
    exact this))
  generalize grL k = l at *
  have GT1 := Lib.hid (fun a cap W (hg : HasG W a ⟨5, ((m : Int) % ((n : Int) % 12 + 1) + 1) + 1, ((m : Int) % ((n : Int) % 12 + 1) + 1), 0, 0, 0, L⟩) => (show Gives Try.prog 27 #[.agg #[.int .i64 5, .int .i64 (((m : Int) % ((n : Int) % 12 + 1) + 1) + 1), .int .i64 ((m : Int) % ((n : Int) % 12 + 1) + 1), .int .i64 0, .int .i64 0, .int .i64 0, .slice a L.length cap], .int .i64 ((m : Int) % ((n : Int) % 12 + 1) + 1)] W (.tuple #[.int .i64 ((m : Int) % ((n : Int) % 12 + 1) + 1), .int .i64 0]) from by
    have := term_any 5 (((m : Int) % ((n : Int) % 12 + 1) + 1) + 1) ((m : Int) % ((n : Int) % 12 + 1) + 1) 0 0 0 L a cap ((m : Int) % ((n : Int) % 12 + 1) + 1) W hg hIH
    rwa [show termG ⟨5, ((m : Int) % ((n : Int) % 12 + 1) + 1) + 1, ((m : Int) % ((n : Int) % 12 + 1) + 1), 0, 0, 0, L⟩ ((m : Int) % ((n : Int) % 12 + 1) + 1) = (((m : Int) % ((n : Int) % 12 + 1) + 1), 0) by unfold termG; dsimp only; rw [if_neg (by omega), if_neg (by omega), if_pos (by omega)]] at this))
  have GT2 := Lib.hid (fun a cap W (hg : HasG W a ⟨5, ((m : Int) % ((n : Int) % 12 + 1) + 1) + 1, ((m : Int) % ((n : Int) % 12 + 1) + 1), 0, 0, 0, L⟩) => (show Gives Try.prog 27 #[.agg #[.int .i64 5, .int .i64 (((m : Int) % ((n : Int) % 12 + 1) + 1) + 1), .int .i64 ((m : Int) % ((n : Int) % 12 + 1) + 1), .int .i64 0, .int .i64 0, .int .i64 0, .slice a L.length cap], .int .i64 ((m : Int) % ((n : Int) % 12 + 1))] W (.tuple #[.int .i64 0, .int .i64 15]) from by
    have := term_any 5 (((m : Int) % ((n : Int) % 12 + 1) + 1) + 1) ((m : Int) % ((n : Int) % 12 + 1) + 1) 0 0 0 L a cap ((m : Int) % ((n : Int) % 12 + 1)) W hg hIH
    rwa [show termG ⟨5, ((m : Int) % ((n : Int) % 12 + 1) + 1) + 1, ((m : Int) % ((n : Int) % 12 + 1) + 1), 0, 0, 0, L⟩ ((m : Int) % ((n : Int) % 12 + 1)) = (0, 15) by unfold termG; dsimp only; rw [if_pos (by omega)]] at this))
  obtain ⟨X, hX, hXl⟩ : ∃ X, entsG ⟨5, ((m : Int) % ((n : Int) % 12 + 1) + 1) + 1, ((m : Int) % ((n : Int) % 12 + 1) + 1), 0, 0, 0, L⟩ (((m : Int) % ((n : Int) % 12 + 1) + 1) + 1) (((n : Int) % 12 + 1) + 1) = (X, 0) ∧ (X.length : Int) = ((n : Int) % 12 + 1) - ((m : Int) % ((n : Int) % 12 + 1) + 1) := by
    unfold entsG lastG
    dsimp only
    rw [if_neg (by omega), if_neg (by omega), if_neg (by omega)]
    by_cases h9 : ((m : Int) % ((n : Int) % 12 + 1) + 1) + 1 = ((n : Int) % 12 + 1) + 1
    · rw [if_pos h9]; exact ⟨_, rfl, by simp; omega⟩
    · rw [if_neg h9]; exact ⟨_, rfl, by rw [btw_dense hdL, List.length_drop, List.length_take]; omega⟩
  have GE1 := Lib.hid (fun a cap W (hg : HasG W a ⟨5, ((m : Int) % ((n : Int) % 12 + 1) + 1) + 1, ((m : Int) % ((n : Int) % 12 + 1) + 1), 0, 0, 0, L⟩) => (show Calls Try.prog 29 #[.agg #[.int .i64 5, .int .i64 (((m : Int) % ((n : Int) % 12 + 1) + 1) + 1), .int .i64 ((m : Int) % ((n : Int) % 12 + 1) + 1), .int .i64 0, .int .i64 0, .int .i64 0, .slice a L.length cap], .int .i64 (((m : Int) % ((n : Int) % 12 + 1) + 1) + 1), .int .i64 (((n : Int) % 12 + 1) + 1)] W (fun e w' => ∃ xa xc, e = .returned (.tuple #[.slice xa X.length xc, .int .i64 0]) ∧ Below W.heap.size W w') from by
    have := ents_any 5 (((m : Int) % ((n : Int) % 12 + 1) + 1) + 1) ((m : Int) % ((n : Int) % 12 + 1) + 1) 0 0 0 L a cap (((m : Int) % ((n : Int) % 12 + 1) + 1) + 1) (((n : Int) % 12 + 1) + 1) W hg hIH (by omega)
    rw [hX] at this
    exact this.mono fun _ _ ⟨xa, xc, h1, _, h2⟩ => ⟨xa, xc, h1, h2⟩))
  have GE2 := Lib.hid (fun a cap W (hg : HasG W a ⟨5, ((m : Int) % ((n : Int) % 12 + 1) + 1) + 1, ((m : Int) % ((n : Int) % 12 + 1) + 1), 0, 0, 0, L⟩) => (show Calls Try.prog 29 #[.agg #[.int .i64 5, .int .i64 (((m : Int) % ((n : Int) % 12 + 1) + 1) + 1), .int .i64 ((m : Int) % ((n : Int) % 12 + 1) + 1), .int .i64 0, .int .i64 0, .int .i64 0, .slice a L.length cap], .int .i64 ((m : Int) % ((n : Int) % 12 + 1) + 1), .int .i64 (((n : Int) % 12 + 1) + 1)] W (fun e w' => ∃ xa xc, e = .returned (.tuple #[.slice xa 0 xc, .int .i64 15]) ∧ Below W.heap.size W w') from by
    have := ents_any 5 (((m : Int) % ((n : Int) % 12 + 1) + 1) + 1) ((m : Int) % ((n : Int) % 12 + 1) + 1) 0 0 0 L a cap ((m : Int) % ((n : Int) % 12 + 1) + 1) (((n : Int) % 12 + 1) + 1) W hg hIH (by omega)
    rw [show entsG ⟨5, ((m : Int) % ((n : Int) % 12 + 1) + 1) + 1, ((m : Int) % ((n : Int) % 12 + 1) + 1), 0, 0, 0, L⟩ ((m : Int) % ((n : Int) % 12 + 1) + 1) (((n : Int) % 12 + 1) + 1) = ([], 15) by unfold entsG; dsimp only; rw [if_neg (by omega), if_pos (by omega)]] at this
    exact this.mono fun _ _ ⟨xa, xc, h1, _, h2⟩ => ⟨xa, xc, h1, h2⟩))
  have hj1 := cmp_gone (g := ⟨5, ((m : Int) % ((n : Int) % 12 + 1) + 1) + 1, ((m : Int) % ((n : Int) % 12 + 1) + 1), 0, 0, 0, L⟩) (I := ((q : Int) % ((m : Int) % ((n : Int) % 12 + 1) + 1) + 1)) ⟨by omega, by omega⟩ rfl (by show ((q : Int) % ((m : Int) % ((n : Int) % 12 + 1) + 1) + 1) < ((m : Int) % ((n : Int) % 12 + 1) + 1) + 1; omega)
  have GD2 := Lib.hid (fun a cap W (hg : HasG W a ⟨5, ((m : Int) % ((n : Int) % 12 + 1) + 1) + 1, ((m : Int) % ((n : Int) % 12 + 1) + 1), 0, 0, 0, L⟩) => (show Calls Try.prog 22 #[.agg #[.int .i64 5, .int .i64 (((m : Int) % ((n : Int) % 12 + 1) + 1) + 1), .int .i64 ((m : Int) % ((n : Int) % 12 + 1) + 1), .int .i64 0, .int .i64 0, .int .i64 0, .slice a L.length cap], .agg #[.int .i64 5, .int .i64 3, .slice none 0 0, .int .i64 0, .int .i64 0, .int .i64 0, .int .i64 ((q : Int) % ((m : Int) % ((n : Int) % 12 + 1) + 1) + 1), .int .i64 0, .bool false, .bool false]] W (fun e w' => ∃ ha hcp, e = .returned (.tuple #[.agg #[.int .i64 5, .int .i64 (((m : Int) % ((n : Int) % 12 + 1) + 1) + 1), .int .i64 ((m : Int) % ((n : Int) % 12 + 1) + 1), .int .i64 0, .int .i64 0, .int .i64 0, .slice ha L.length hcp], .int .i64 15]) ∧ HasG w' ha ⟨5, ((m : Int) % ((n : Int) % 12 + 1) + 1) + 1, ((m : Int) % ((n : Int) % 12 + 1) + 1), 0, 0, 0, L⟩ ∧ Below W.heap.size W w' ∧ ∀ b, inBlkE ha L.length b → W.heap.size ≤ b) from by
    have := do_any 5 (((m : Int) % ((n : Int) % 12 + 1) + 1) + 1) ((m : Int) % ((n : Int) % 12 + 1) + 1) 0 0 0 L a cap 5 3 none 0 0 0 0 0 ((q : Int) % ((m : Int) % ((n : Int) % 12 + 1) + 1) + 1) 0 false false [] W hg hIH (hasE_nil rfl rfl) (by omega)
    rw [hj1, do_no (by rw [hj1]; decide)] at this
    exact this))
  have hj2 := cmp_far (g := ⟨5, ((m : Int) % ((n : Int) % 12 + 1) + 1) + 1, ((m : Int) % ((n : Int) % 12 + 1) + 1), 0, 0, 0, L⟩) (I := ((n : Int) % 12 + 1) + 1) ⟨by omega, by omega⟩ rfl (by show ((m : Int) % ((n : Int) % 12 + 1) + 1) + 1 ≤ ((n : Int) % 12 + 1) + 1; omega) (by unfold lastG; dsimp only; omega)
  have GD3 := Lib.hid (fun a cap W (hg : HasG W a ⟨5, ((m : Int) % ((n : Int) % 12 + 1) + 1) + 1, ((m : Int) % ((n : Int) % 12 + 1) + 1), 0, 0, 0, L⟩) => (show Calls Try.prog 22 #[.agg #[.int .i64 5, .int .i64 (((m : Int) % ((n : Int) % 12 + 1) + 1) + 1), .int .i64 ((m : Int) % ((n : Int) % 12 + 1) + 1), .int .i64 0, .int .i64 0, .int .i64 0, .slice a L.length cap], .agg #[.int .i64 5, .int .i64 3, .slice none 0 0, .int .i64 0, .int .i64 0, .int .i64 0, .int .i64 (((n : Int) % 12 + 1) + 1), .int .i64 0, .bool false, .bool false]] W (fun e w' => ∃ ha hcp, e = .returned (.tuple #[.agg #[.int .i64 5, .int .i64 (((m : Int) % ((n : Int) % 12 + 1) + 1) + 1), .int .i64 ((m : Int) % ((n : Int) % 12 + 1) + 1), .int .i64 0, .int .i64 0, .int .i64 0, .slice ha L.length hcp], .int .i64 16]) ∧ HasG w' ha ⟨5, ((m : Int) % ((n : Int) % 12 + 1) + 1) + 1, ((m : Int) % ((n : Int) % 12 + 1) + 1), 0, 0, 0, L⟩ ∧ Below W.heap.size W w' ∧ ∀ b, inBlkE ha L.length b → W.heap.size ≤ b) from by
    have := do_any 5 (((m : Int) % ((n : Int) % 12 + 1) + 1) + 1) ((m : Int) % ((n : Int) % 12 + 1) + 1) 0 0 0 L a cap 5 3 none 0 0 0 0 0 (((n : Int) % 12 + 1) + 1) 0 false false [] W hg hIH (hasE_nil rfl rfl) (by omega)
    rw [hj2, do_no (by rw [hj2]; decide)] at this
    exact this))
  have GL := Lib.hid (fun a cap W (hg : HasG W a ⟨5, ((m : Int) % ((n : Int) % 12 + 1) + 1) + 1, ((m : Int) % ((n : Int) % 12 + 1) + 1), 0, 0, 0, L⟩) => (show Gives Try.prog 25 #[.agg #[.int .i64 5, .int .i64 (((m : Int) % ((n : Int) % 12 + 1) + 1) + 1), .int .i64 ((m : Int) % ((n : Int) % 12 + 1) + 1), .int .i64 0, .int .i64 0, .int .i64 0, .slice a L.length cap]] W (.int .i64 ((n : Int) % 12 + 1)) from by
    have := last_any 5 (((m : Int) % ((n : Int) % 12 + 1) + 1) + 1) ((m : Int) % ((n : Int) % 12 + 1) + 1) 0 0 0 L a cap W hg hIH
    rwa [show ((m : Int) % ((n : Int) % 12 + 1) + 1) + 1 - 1 + (L.length : Int) = ((n : Int) % 12 + 1) by omega] at this))
  have GA1 := Lib.hid (fun W => (show Calls Try.prog 34 #[.int .i64 5, .int .i64 ((q : Int) % ((m : Int) % ((n : Int) % 12 + 1) + 1) + 1), .int .i64 1, .int .i64 1] W (AppPost W 5 ((q : Int) % ((m : Int) % ((n : Int) % 12 + 1) + 1) + 1) 1 1) from app_any 5 ((q : Int) % ((m : Int) % ((n : Int) % 12 + 1) + 1) + 1) 1 1 (by omega) (by omega) (by omega) W))
  have hgone : ∀ pa pcap, chkG ⟨5, ((m : Int) % ((n : Int) % 12 + 1) + 1) + 1, ((m : Int) % ((n : Int) % 12 + 1) + 1), 0, 0, 0, L⟩ (⟨5, 1, pa, 1, pcap, 0, 0, 0, 0, 0, false, false⟩ : PartC) (appL ((q : Int) % ((m : Int) % ((n : Int) % 12 + 1) + 1) + 1) 1 1) = 15 := fun pa pcap => by
    have hI := app_is (id := 5) (i := ((q : Int) % ((m : Int) % ((n : Int) % 12 + 1) + 1) + 1)) (t := 1) (n := 1) pa pcap (by omega) (by omega) (by omega) (by omega) (by omega) (by omega)
    unfold chkG
    rw [if_neg (by rw [hI]; simp), if_pos rfl, app_head (by omega)]
    unfold chkA
    dsimp only
    rw [if_pos (by omega)]
  have GD4 := Lib.hid (fun a cap W pa pcap (hg : HasG W a ⟨5, ((m : Int) % ((n : Int) % 12 + 1) + 1) + 1, ((m : Int) % ((n : Int) % 12 + 1) + 1), 0, 0, 0, L⟩) (hp : HasE W (⟨5, 1, pa, 1, pcap, 0, 0, 0, 0, 0, false, false⟩ : PartC) (appL ((q : Int) % ((m : Int) % ((n : Int) % 12 + 1) + 1) + 1) 1 1)) => (show Calls Try.prog 22 #[.agg #[.int .i64 5, .int .i64 (((m : Int) % ((n : Int) % 12 + 1) + 1) + 1), .int .i64 ((m : Int) % ((n : Int) % 12 + 1) + 1), .int .i64 0, .int .i64 0, .int .i64 0, .slice a L.length cap], .agg #[.int .i64 5, .int .i64 1, .slice pa 1 pcap, .int .i64 0, .int .i64 0, .int .i64 0, .int .i64 0, .int .i64 0, .bool false, .bool false]] W (fun e w' => ∃ ha hcp, e = .returned (.tuple #[.agg #[.int .i64 5, .int .i64 (((m : Int) % ((n : Int) % 12 + 1) + 1) + 1), .int .i64 ((m : Int) % ((n : Int) % 12 + 1) + 1), .int .i64 0, .int .i64 0, .int .i64 0, .slice ha L.length hcp], .int .i64 15]) ∧ HasG w' ha ⟨5, ((m : Int) % ((n : Int) % 12 + 1) + 1) + 1, ((m : Int) % ((n : Int) % 12 + 1) + 1), 0, 0, 0, L⟩ ∧ Below W.heap.size W w' ∧ ∀ b, inBlkE ha L.length b → W.heap.size ≤ b) from by
    have := do_any 5 (((m : Int) % ((n : Int) % 12 + 1) + 1) + 1) ((m : Int) % ((n : Int) % 12 + 1) + 1) 0 0 0 L a cap 5 1 pa 1 pcap 0 0 0 0 0 false false (appL ((q : Int) % ((m : Int) % ((n : Int) % 12 + 1) + 1) + 1) 1 1) W hg hIH hp (by omega)
    rw [hgone, do_no (by rw [hgone]; decide)] at this
    exact this))
  have HX := Lib.hid hXl
  clear hIH hIG hkI hll hk hdL hLl hL12 hcz hdo hX hXl hj1 hj2 hgone hk12
  go_enter Try.func8, Try.ntmps8
  go_wp2_with (first
    | (go_at_call 12; ((with_reducible refine (GK.out _).mono ?_); rintro e w1 ⟨rfl, hB1⟩))
    | (go_at_call 33; ((with_reducible refine (GG.out _).mono ?_); rintro e w2 ⟨a, cap, rfl, hHG, hB2, -⟩))
    | (go_at_call 22; ((with_reducible refine (GD.out _ _ _ (hHG.below (bel_alloc (Below.refl w2.heap.size w2) _))).mono ?_); rintro e w3 ⟨ha, hcp, rfl, hHH, hB3, -⟩; have hB := bel_alloc (Below.refl w3.heap.size w3) (.cells #[.int .i64 5, .int .i64 (((m : Int) % ((n : Int) % 12 + 1) + 1) + 1), .int .i64 ((m : Int) % ((n : Int) % 12 + 1) + 1), .int .i64 0, .int .i64 0, .int .i64 0, .slice ha L.length hcp] 26); have hH := World.alloc_heap_new w3 (.cells #[.int .i64 5, .int .i64 (((m : Int) % ((n : Int) % 12 + 1) + 1) + 1), .int .i64 ((m : Int) % ((n : Int) % 12 + 1) + 1), .int .i64 0, .int .i64 0, .int .i64 0, .slice ha L.length hcp] 26); replace hHH := hHH.below hB; have hA : Below w.heap.size w (w3.alloc (.cells #[.int .i64 5, .int .i64 (((m : Int) % ((n : Int) % 12 + 1) + 1) + 1), .int .i64 ((m : Int) % ((n : Int) % 12 + 1) + 1), .int .i64 0, .int .i64 0, .int .i64 0, .slice ha L.length hcp] 26)) := bel2 (bel2 (bel2 (bel2 hB1 hB2) (bel_alloc (Below.refl _ _) _)) hB3) hB; obtain ⟨x0, x1, x2, x3, x4, x5, x6, -⟩ := cells7 hH; clear hB hB1 hB2 hB3 hHG GD GG GK))
    | (go_at_call 27; ((with_reducible refine (GT1.out _ _ _ hHH).mono ?_); rintro e w4 ⟨rfl, hB⟩; clear x0 x1 x2 x3 x4 x5 x6; replace hA := bel2 hA hB; replace hHH := hHH.below hB; replace hH := (hB.block _ (heap_lt hH)).trans hH; obtain ⟨x0, x1, x2, x3, x4, x5, x6, -⟩ := cells7 hH; clear hB; clear GT1))
    | (go_at_call 27; ((with_reducible refine (GT2.out _ _ _ hHH).mono ?_); rintro e w5 ⟨rfl, hB⟩; clear x0 x1 x2 x3 x4 x5 x6; replace hA := bel2 hA hB; replace hHH := hHH.below hB; replace hH := (hB.block _ (heap_lt hH)).trans hH; obtain ⟨x0, x1, x2, x3, x4, x5, x6, -⟩ := cells7 hH; clear hB; clear GT2))
    | (go_at_call 29; ((with_reducible refine (GE1.out _ _ _ hHH).mono ?_); rintro e w6 ⟨xa, xc, rfl, hB⟩; clear x0 x1 x2 x3 x4 x5 x6; replace hA := bel2 hA hB; replace hHH := hHH.below hB; replace hH := (hB.block _ (heap_lt hH)).trans hH; obtain ⟨x0, x1, x2, x3, x4, x5, x6, -⟩ := cells7 hH; clear hB; clear GE1))
    | (go_at_call 29; ((with_reducible refine (GE2.out _ _ _ hHH).mono ?_); rintro e w7 ⟨ya, yc, rfl, hB⟩; clear x0 x1 x2 x3 x4 x5 x6; replace hA := bel2 hA hB; replace hHH := hHH.below hB; replace hH := (hB.block _ (heap_lt hH)).trans hH; obtain ⟨x0, x1, x2, x3, x4, x5, x6, -⟩ := cells7 hH; clear hB; clear GE2))
    | (go_at_call 22; ((with_reducible refine (GD2.out _ _ _ hHH).mono ?_); rintro e w8 ⟨ja, jc, rfl, -, hB, -⟩; replace hB := bel2 hB (bel_alloc (Below.refl w8.heap.size w8) (.cells #[.int .i64 5, .int .i64 (((m : Int) % ((n : Int) % 12 + 1) + 1) + 1), .int .i64 ((m : Int) % ((n : Int) % 12 + 1) + 1), .int .i64 0, .int .i64 0, .int .i64 0, .slice ja L.length jc] 26)); clear x0 x1 x2 x3 x4 x5 x6; replace hA := bel2 hA hB; replace hHH := hHH.below hB; replace hH := (hB.block _ (heap_lt hH)).trans hH; obtain ⟨x0, x1, x2, x3, x4, x5, x6, -⟩ := cells7 hH; clear hB; clear GD2))
    | (go_at_call 22; ((with_reducible refine (GD3.out _ _ _ hHH).mono ?_); rintro e w9 ⟨ka, kc, rfl, -, hB, -⟩; replace hB := bel2 hB (bel_alloc (Below.refl w9.heap.size w9) (.cells #[.int .i64 5, .int .i64 (((m : Int) % ((n : Int) % 12 + 1) + 1) + 1), .int .i64 ((m : Int) % ((n : Int) % 12 + 1) + 1), .int .i64 0, .int .i64 0, .int .i64 0, .slice ka L.length kc] 26)); clear x0 x1 x2 x3 x4 x5 x6; replace hA := bel2 hA hB; replace hHH := hHH.below hB; replace hH := (hB.block _ (heap_lt hH)).trans hH; obtain ⟨x0, x1, x2, x3, x4, x5, x6, -⟩ := cells7 hH; clear hB; clear GD3)))
  clear x0 x1 x2 x3 x4 x5 x6
  generalize (w9.alloc (.cells #[.int .i64 5, .int .i64 (((m : Int) % ((n : Int) % 12 + 1) + 1) + 1), .int .i64 ((m : Int) % ((n : Int) % 12 + 1) + 1), .int .i64 0, .int .i64 0, .int .i64 0, .slice ka L.length kc] 26)) = wr at *
  have hHlt := heap_lt hH
  obtain ⟨H, hHe⟩ : ∃ H, H = w3.heap.size := ⟨_, rfl⟩
  rw [← hHe] at hH hHlt
  rw [← hHe]
  clear hHe
  have KHa := Lib.hid (fun W' (hW : Below wr.heap.size wr W') => cells7 ((hW.block _ hHlt).trans hH))
  have n1 : H ≠ wr.heap.size := by omega
  have n2 : wr.heap.size ≠ H := by omega
  obtain ⟨x0, x1, x2, x3, x4, x5, x6, -⟩ := cells7 hH
  go_region_held3 (fun W' => W'.cell? ⟨H, 0, none⟩ = some (.int .i64 5) ∧ W'.cell? ⟨H, 1, none⟩ = some (.int .i64 (((m : Int) % ((n : Int) % 12 + 1) + 1) + 1)) ∧ W'.cell? ⟨H, 2, none⟩ = some (.int .i64 ((m : Int) % ((n : Int) % 12 + 1) + 1)) ∧ W'.cell? ⟨H, 3, none⟩ = some (.int .i64 0) ∧ W'.cell? ⟨H, 4, none⟩ = some (.int .i64 0) ∧ W'.cell? ⟨H, 5, none⟩ = some (.int .i64 0) ∧ W'.cell? ⟨H, 6, none⟩ = some (.slice ha L.length hcp)) (go_keep) (first
    | (go_at_call 34; ((with_reducible refine (GA1.out _).mono ?_); rintro e w7a ⟨pa, pcap, rfl, hPE, hB7, -⟩; have hX7 : Below wr.heap.size wr w7a := (by first | exact hB7 | exact bel2 (Below.refl _ _).drew hB7 | exact bel2 (bel_alloc (Below.refl _ _) _) hB7 | exact bel2 (bel_alloc (Below.refl _ _).drew _) hB7); have n3 : H ≠ w7a.heap.size := (by have := hX7.size; omega); have n4 : w7a.heap.size ≠ H := (by have := hX7.size; omega); obtain ⟨z0, z1, z2, z3, z4, z5, z6, -⟩ := KHa.out w7a hX7; try (have hz7 : w7a.heap[wr.heap.size]? = some (.cells #[.int .i64 0, .int .i64 0, .int .i64 0, .int .i64 0, .int .i64 0, .int .i64 0, .slice none 0 0] 26 (0, 0)) := (by first | exact (hB7.block _ (by simp)).trans (World.alloc_heap_new wr _) | exact (hB7.block _ (by simp)).trans (World.alloc_heap_new wr.drew _)))))
    | (go_at_call 22; ((with_reducible refine (GD4.out _ _ _ _ _ ?hg ?hp).mono ?_); (case hg => first | exact hHH.below hX7 | exact (hHH.below hX7.drew) | exact hHH.below (hX7.trans (bel_alloc (Below.refl w7a.heap.size w7a) _ |>.mono hX7.size))); (case hp => first | exact hPE | exact hPE.below (Below.refl _ _).drew | exact hPE.below (bel_alloc (Below.refl _ _) _)); rintro e w9a ⟨iaa, icpa, rfl, hHIa, hB9, hHN⟩; have hX9 : Below wr.heap.size wr w9a := (by first | exact bel2 hX7 hB9 | exact bel2 hX7.drew hB9 | exact bel2 (hX7.trans (bel_alloc (Below.refl w7a.heap.size w7a) _ |>.mono hX7.size)) hB9); obtain ⟨y0, y1, y2, y3, y4, y5, y6, -⟩ := KHa.out w9a hX9; (first | (have hz9 : w9a.heap[wr.heap.size]? = some (.cells #[.int .i64 0, .int .i64 0, .int .i64 0, .int .i64 0, .int .i64 0, .int .i64 0, .slice none 0 0] 26 (0, 0)) := (hB9.block _ (by have := heap_lt hz7; simp; omega)).trans hz7; have hN9 : (∀ k, inBlkE iaa L.length k → ¬ k = wr.heap.size) := (fun k hk e => by have h1 := hHN k hk; have h2 := heap_lt hz7; (try simp at h1); omega); obtain ⟨q0, q1, q2, q3, q4, q5, q6, -⟩ := cells7 hz9; have fq : (∀ i, w9a.frozen? ⟨wr.heap.size, i, none⟩ = false) := (fun i => frozen_of_row _ _ i _ _ hz9)) | (have hz9 : w9a.heap[w7a.heap.size]? = some (.cells #[.int .i64 0, .int .i64 0, .int .i64 0, .int .i64 0, .int .i64 0, .int .i64 0, .slice none 0 0] 26 (0, 0)) := (by first | exact (hB9.block _ (by simp)).trans (World.alloc_heap_new w7a _)); have hN9 : (∀ k, inBlkE iaa L.length k → ¬ k = w7a.heap.size) := (fun k hk e => by have h1 := hHN k hk; simp at h1; omega); obtain ⟨q0, q1, q2, q3, q4, q5, q6, -⟩ := cells7 hz9; have fq : (∀ i, w9a.frozen? ⟨w7a.heap.size, i, none⟩ = false) := (fun i => frozen_of_row _ _ i _ _ hz9)) | skip))))
  all_goals first
    | (have hBz := bel_alloc (Below.refl w9a.heap.size w9a) (.cells #[.int .i64 5, .int .i64 (((m : Int) % ((n : Int) % 12 + 1) + 1) + 1), .int .i64 ((m : Int) % ((n : Int) % 12 + 1) + 1), .int .i64 0, .int .i64 0, .int .i64 0, .slice iaa L.length icpa] 26)
       have hi8a := World.alloc_heap_new w9a (.cells #[.int .i64 5, .int .i64 (((m : Int) % ((n : Int) % 12 + 1) + 1) + 1), .int .i64 ((m : Int) % ((n : Int) % 12 + 1) + 1), .int .i64 0, .int .i64 0, .int .i64 0, .slice iaa L.length icpa] 26)
       replace hHIa := hHIa.below hBz
       have hFz : FrameT (fun k => k = w9a.heap.size) w9a (w9a.alloc (.cells #[.int .i64 5, .int .i64 (((m : Int) % ((n : Int) % 12 + 1) + 1) + 1), .int .i64 ((m : Int) % ((n : Int) % 12 + 1) + 1), .int .i64 0, .int .i64 0, .int .i64 0, .slice iaa L.length icpa] 26)) := FrameT.below hBz
       have hHz : wr.heap.size ≤ w9a.heap.size := hX9.size
       generalize (w9a.alloc (.cells #[.int .i64 5, .int .i64 (((m : Int) % ((n : Int) % 12 + 1) + 1) + 1), .int .i64 ((m : Int) % ((n : Int) % 12 + 1) + 1), .int .i64 0, .int .i64 0, .int .i64 0, .slice iaa L.length icpa] 26)) = w8a at *
       obtain ⟨Ia, hIe⟩ : ∃ Ia, Ia = w9a.heap.size := ⟨_, rfl⟩
       have hIba : wr.heap.size ≤ Ia := by omega
       rw [← hIe] at hi8a hFz ⊢
       clear hBz hIe)
    | (have hi8a := st7_block (b := w7a.heap.size) hz9 (.int .i64 5) (.int .i64 (((m : Int) % ((n : Int) % 12 + 1) + 1) + 1)) (.int .i64 ((m : Int) % ((n : Int) % 12 + 1) + 1)) (.int .i64 0) (.int .i64 0) (.int .i64 0) (.slice iaa L.length icpa)
       have hFz := st7_frame w9a w7a.heap.size (.int .i64 5) (.int .i64 (((m : Int) % ((n : Int) % 12 + 1) + 1) + 1)) (.int .i64 ((m : Int) % ((n : Int) % 12 + 1) + 1)) (.int .i64 0) (.int .i64 0) (.int .i64 0) (.slice iaa L.length icpa)
       replace hHIa : HasG (st7 w9a w7a.heap.size (.int .i64 5) (.int .i64 (((m : Int) % ((n : Int) % 12 + 1) + 1) + 1)) (.int .i64 ((m : Int) % ((n : Int) % 12 + 1) + 1)) (.int .i64 0) (.int .i64 0) (.int .i64 0) (.slice iaa L.length icpa)) iaa _ := ⟨hHIa.1, rowV_frame hHIa.2 hFz (fun k hk h => hN9 k hk h)⟩
       simp only [st7] at hi8a hFz hHIa
       have hHz : wr.heap.size ≤ w7a.heap.size := hX7.size
       generalize (((((((w9a.setCell ⟨w7a.heap.size, 0, none⟩ (.int .i64 5)).setCell ⟨w7a.heap.size, 1, none⟩ (.int .i64 (((m : Int) % ((n : Int) % 12 + 1) + 1) + 1))).setCell ⟨w7a.heap.size, 2, none⟩ (.int .i64 ((m : Int) % ((n : Int) % 12 + 1) + 1))).setCell ⟨w7a.heap.size, 3, none⟩ (.int .i64 0)).setCell ⟨w7a.heap.size, 4, none⟩ (.int .i64 0)).setCell ⟨w7a.heap.size, 5, none⟩ (.int .i64 0)).setCell ⟨w7a.heap.size, 6, none⟩ (.slice iaa L.length icpa)) = w8a at *
       obtain ⟨Ia, hIe⟩ : ∃ Ia, Ia = w7a.heap.size := ⟨_, rfl⟩
       have hIba : wr.heap.size ≤ Ia := by omega
       rw [← hIe] at hi8a hFz ⊢
       clear hIe)
    | (have hi8a := st7_block (b := wr.heap.size) hz9 (.int .i64 5) (.int .i64 (((m : Int) % ((n : Int) % 12 + 1) + 1) + 1)) (.int .i64 ((m : Int) % ((n : Int) % 12 + 1) + 1)) (.int .i64 0) (.int .i64 0) (.int .i64 0) (.slice iaa L.length icpa)
       have hFz := st7_frame w9a wr.heap.size (.int .i64 5) (.int .i64 (((m : Int) % ((n : Int) % 12 + 1) + 1) + 1)) (.int .i64 ((m : Int) % ((n : Int) % 12 + 1) + 1)) (.int .i64 0) (.int .i64 0) (.int .i64 0) (.slice iaa L.length icpa)
       replace hHIa : HasG (st7 w9a wr.heap.size (.int .i64 5) (.int .i64 (((m : Int) % ((n : Int) % 12 + 1) + 1) + 1)) (.int .i64 ((m : Int) % ((n : Int) % 12 + 1) + 1)) (.int .i64 0) (.int .i64 0) (.int .i64 0) (.slice iaa L.length icpa)) iaa _ := ⟨hHIa.1, rowV_frame hHIa.2 hFz (fun k hk h => hN9 k hk h)⟩
       simp only [st7] at hi8a hFz hHIa
       have hHz : wr.heap.size ≤ wr.heap.size := Nat.le_refl _
       generalize (((((((w9a.setCell ⟨wr.heap.size, 0, none⟩ (.int .i64 5)).setCell ⟨wr.heap.size, 1, none⟩ (.int .i64 (((m : Int) % ((n : Int) % 12 + 1) + 1) + 1))).setCell ⟨wr.heap.size, 2, none⟩ (.int .i64 ((m : Int) % ((n : Int) % 12 + 1) + 1))).setCell ⟨wr.heap.size, 3, none⟩ (.int .i64 0)).setCell ⟨wr.heap.size, 4, none⟩ (.int .i64 0)).setCell ⟨wr.heap.size, 5, none⟩ (.int .i64 0)).setCell ⟨wr.heap.size, 6, none⟩ (.slice iaa L.length icpa)) = w8a at *
       obtain ⟨Ia, hIe⟩ : ∃ Ia, Ia = wr.heap.size := ⟨_, rfl⟩
       have hIba : wr.heap.size ≤ Ia := by omega
       rw [← hIe] at hi8a hFz ⊢
       clear hIe)
  all_goals
    have hX8a : Below wr.heap.size wr w8a := hX9.trans (hFz.toBelow hX9.size (fun k h => by omega))
    clear x0 x1 x2 x3 x4 x5 x6 y0 y1 y2 y3 y4 y5 y6 z0 z1 z2 z3 z4 z5 z6 KHa hFz hX9 hX7 hB9 hB7 hPE hHN n1 n2 n3 n4 GA1 GD4 hHz
    try clear hz9 hN9 q0 q1 q2 q3 q4 q5 q6 fq
    try clear hz7
    have hH7 := (hX8a.block _ hHlt).trans hH
    have hHH7 := hHH.below hX8a
    have hA7 := bel2 hA hX8a
    clear hX8a hHH hA hH hHIa hi8a
    have hX9 := HX.out
    obtain ⟨x0, x1, x2, x3, x4, x5, x6, -⟩ := cells7 hH7
    go_wp2_with (go_at_call 25; ((with_reducible refine (GL.out _ _ _ hHH7).mono ?_); rintro e w10 ⟨rfl, hB10⟩; have hA10 := bel2 hA7 hB10))
    go_ret
    exact ⟨by simp, hA10⟩

theorem walk (n : Nat) (hn : n < 256) (m : Nat) (hm : m < 256) (q : Nat) (hq : q < 256) (w : World) : Calls Try.prog 8 #[.int .u8 n, .int .u8 m, .int .u8 q] w fun e w' => e = .returned (.bool true) ∧ Below w.heap.size w w' := compacts n m q hn hm hq w

set_option maxRecDepth 100000 in
theorem lifted (os : Os) (started : os.Started) (H : Type) (enc : TypeId × Value → H) :
    ReturnsInHanded {} Try.checked os 8 .any (Rows.groupCompactsSpec.pre6 enc Try.prog Try.f8 Rows.groupCompactsRow.domain false) (Rows.groupCompactsSpec.post enc Try.prog Try.f8 false true false false) := by
  refine returnsInHanded_of_change (C := Try.checked) Try.own started (by kernel_rfl) Try.func8
    (ChangeSpec.witness6 (enc := enc) (C := Try.checked) false ⟨#[], #[.int .u8 0, .int .u8 0, .int .u8 0], []⟩ 8 (by kernel_rfl) (by kernel_rfl) (by kernel_rfl) (by kernel_rfl)) ?_
  intro W base args ds gs before hval hW _ _
  refine law_contract (T := 4) (n := 3) Try.laid Try.underlying4 rfl rfl ⟨rfl, fun H ds h => by match ds, h with | [_, _, _], _ => rfl⟩ (of_all (by kernel_rfl)) hW ?_
  intro ps hA
  rw [Try.params8] at hA hval
  obtain ⟨v0, vs0, d0, ds0, p0, q0, hargs, rfl, rfl, h0, r0⟩ := trodAll_cons hA
  obtain ⟨v1, vs1, d1, ds1, p1, q1, rfl, rfl, rfl, h1, r1⟩ := trodAll_cons r0
  obtain ⟨v2, vs2, d2, ds2, p2, q2, rfl, rfl, rfl, h2, r2⟩ := trodAll_cons r1
  obtain ⟨rfl, rfl, rfl⟩ := trodAll_nil r2
  obtain rfl : args = #[v0, v1, v2] := by cases args; simp_all
  obtain ⟨a0, rfl, rfl, rfl, w0⟩ := open_int Try.underlying5 (hval 0 5 v0 rfl rfl) h0
  obtain ⟨a1, rfl, rfl, rfl, w1⟩ := open_int Try.underlying5 (hval 1 5 v1 rfl rfl) h1
  obtain ⟨a2, rfl, rfl, rfl, w2⟩ := open_int Try.underlying5 (hval 2 5 v2 rfl rfl) h2
  obtain ⟨n0, rfl, b0⟩ := nat_of_u8 w0
  obtain ⟨n1, rfl, b1⟩ := nat_of_u8 w1
  obtain ⟨n2, rfl, b2⟩ := nat_of_u8 w2
  exact walk n0 b0 n1 b1 n2 b2 W

theorem holds : Rows.GroupCompactsSaid :=
  OpenClaim.holds_of_wide 8 Try.f8 rfl rfl rfl rfl rfl rfl rfl ⟨rfl, rfl, rfl, rfl, rfl⟩ rfl rfl rfl rfl rfl (by kernel_rfl) Try.func8 (by kernel_rfl)
    (of_decide_eq_true (by kernel_rfl)) (by unfold Func.isWrapper; first | (rw [if_pos (by decide +kernel)]; kernel_rfl) | (rw [if_neg (by decide +kernel)]; exact ⟨rfl, rfl⟩))
    (fun os started H enc _ => lifted os started H enc)

end Go.Proofs.Ytfmcebmkclaafaa.groupCompacts
