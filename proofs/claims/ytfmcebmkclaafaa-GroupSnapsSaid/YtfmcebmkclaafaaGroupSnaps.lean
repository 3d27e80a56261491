/- Law GroupSnaps: for every input the call answers true; its arguments read as they did. No condition. -/
import Derived.Test.YtfmcebmkclaafaaLaw
import Derived.Test.YtfmcebmkclaafaaKnown6
import Derived.Test.YtfmcebmkclaafaaGrown6
import Derived.Test.YtfmcebmkclaafaaRef6a
namespace Go.Proofs.Ytfmcebmkclaafaa.groupSnaps
open Go.ChangeShapes Go.WideShapes Go.ChangeAt Go.RowKit Go.Shelf
open Go.ChangeMaps (open_string shut_string)
set_option linter.unusedVariables false
attribute [local go_sem] Oper.semAt_some wide_fn wide_round_fn

attribute [local irreducible] wpQuiet
theorem grL_get (k q : Nat) (h : q < (grL k).length) : (grL k)[q] = ⟨(q : Int) + 1, (q : Int) + 1, ⟨#[]⟩⟩ := by simp [grL]
theorem entT_gr (k : Nat) (hk : k ≤ 100000) (i : Int) (hi : 1 ≤ i) : entT (grL k) i = if i ≤ k then i else 0 := by
  rw [entT_dense (grL_dense k hk)]
  by_cases h : i ≤ k
  · rw [dif_pos ⟨hi, by rw [grL_len]; omega⟩, if_pos h, grL_get]; show ((i - 1).toNat : Int) + 1 = i; omega
  · rw [dif_neg (fun x => h (by have := x.2; rw [grL_len] at this; omega)), if_neg h]
theorem snap_fact (k : Nat) (hk : k ≤ 12) (I T WT : Int) (hI : 1 ≤ I ∧ I ≤ 20) (hT : 1 ≤ T ∧ T ≤ 50) (h : (T = I ∧ I < k ∧ WT = k) ∨ (T = I ∧ k ≤ I ∧ WT = I) ∨ (T = I + 30 ∧ WT = I)) :
    ∃ L : List EntryC, chkG ⟨5, 1, 0, 0, 0, 0, grL k⟩ ⟨5, 4, none, 0, 0, 0, 0, 0, I, T, false, false⟩ [] = 0 ∧ doG ⟨5, 1, 0, 0, 0, 0, grL k⟩ ⟨5, 4, none, 0, 0, 0, 0, 0, I, T, false, false⟩ [] = ⟨5, I + 1, T, 0, 0, 0, L⟩ ∧
      isG ⟨5, I + 1, T, 0, 0, 0, L⟩ = true ∧ denseB L (I + 1) = true ∧ I + (L.length : Int) = WT ∧ L.length ≤ 12 := by
  have hd := grL_dense k (by omega)
  have hB : isB ⟨5, 4, none, 0, 0, 0, 0, 0, I, T, false, false⟩ [] = true := (isB_iff _ _).2 ⟨by simp, .inr (.inr (.inr (.inl ⟨rfl, wB_iff.2 ⟨hI.1, by show I ≤ _; omega⟩, wB_iff.2 ⟨hT.1, by show T ≤ _; omega⟩, rfl, rfl, rfl, rfl, rfl, rfl⟩)))⟩
  have hc : chkG ⟨5, 1, 0, 0, 0, 0, grL k⟩ ⟨5, 4, none, 0, 0, 0, 0, 0, I, T, false, false⟩ [] = 0 := by
    unfold chkG
    rw [if_neg (by rw [hB]; simp), if_neg (by simp), if_neg (by simp), if_pos rfl, if_neg (by show ¬ I < 1; omega)]
  have hdo : doG ⟨5, 1, 0, 0, 0, 0, grL k⟩ ⟨5, 4, none, 0, 0, 0, 0, 0, I, T, false, false⟩ [] = ⟨5, I + 1, T, 0, 0, 0, if T = I then (grL k).drop I.toNat else []⟩ := by
    unfold doG
    rw [hc, if_neg (by simp), if_neg (by simp), if_neg (by simp), if_neg (by simp)]
    dsimp only
    rw [entT_gr k (by omega) I hI.1, List.append_nil]
    congr 1
    by_cases h1 : T = I
    · rw [if_pos h1]
      by_cases h2 : I ≤ k
      · rw [if_pos h2, if_neg (by omega), btw_above hd ⟨by decide, by decide⟩ (by rw [grL_len]; omega), show (I + 1 - 1).toNat = I.toNat by omega]
      · rw [if_neg h2, if_pos (by omega), btw_none hd ⟨by decide, by decide⟩, List.drop_of_length_le (by rw [grL_len]; omega)]
    · rw [if_neg h1, if_pos (by split <;> omega), btw_none hd ⟨by decide, by decide⟩]
  have hIs := (doG_isG (g := ⟨5, 1, 0, 0, 0, 0, grL k⟩) (p := ⟨5, 4, none, 0, 0, 0, 0, 0, I, T, false, false⟩) (pl := []) (gr_isG ⟨by omega, by omega⟩ (by omega)) (by rw [grL_len]; omega) rfl).1
  rw [hdo] at hIs
  refine ⟨_, hc, hdo, hIs, (isG_iff.1 hIs).2.2, ?_⟩
  rcases h with ⟨h1, h2, h3⟩ | ⟨h1, h2, h3⟩ | ⟨h1, h3⟩
  · rw [if_pos h1, List.length_drop, grL_len]; omega
  · rw [if_pos h1, List.length_drop, grL_len]; omega
  · rw [if_neg (by omega)]; simp; omega

set_option maxRecDepth 100000 in
set_option maxHeartbeats 4000000 in
theorem snap_a (n m : Nat) (hn : n < 256) (hm : m < 256) (hlt : ((m : Int) % 20 + 1) < ((n : Int) % 12 + 1)) (w : World) : Calls Try.prog 9 #[.int .u8 n, .int .u8 m, .bool true] w fun e w' => e = .returned (.bool true) ∧ Below w.heap.size w w' := by
  have GK := Lib.hid group_known
  have GG := Lib.hid (fun W => grown_any 5 ⟨by omega, by omega⟩ (n % 12 + 1) (by omega) W)
  rw [show ((n % 12 + 1 : Nat) : Int) = ((n : Int) % 12 + 1) by omega] at GG
  obtain ⟨k, hk⟩ : ∃ k, k = n % 12 + 1 := ⟨_, rfl⟩
  rw [← hk] at GG
  have hkI : ((n : Int) % 12 + 1) = (k : Int) := by omega
  have hk12 : k ≤ 12 := by omega
  obtain ⟨L, hcz, hdo, hIH, hdL, hLl, hL12⟩ := snap_fact k hk12 ((m : Int) % 20 + 1) ((m : Int) % 20 + 1) ((n : Int) % 12 + 1) ⟨by omega, by omega⟩ ⟨by omega, by omega⟩ (.inl ⟨rfl, by omega, by omega⟩)
  have hIG := gr_isG (id := 5) ⟨by omega, by omega⟩ (k := k) (by omega)
  have hll := grL_len k
  unfold GrownPost at GG
  have GD := Lib.hid (fun a cap W (hg : HasG W a ⟨5, 1, 0, 0, 0, 0, grL k⟩) => (show Calls Try.prog 22 #[.agg #[.int .i64 5, .int .i64 1, .int .i64 0, .int .i64 0, .int .i64 0, .int .i64 0, .slice a (grL k).length cap], .agg #[.int .i64 5, .int .i64 4, .slice none 0 0, .int .i64 0, .int .i64 0, .int .i64 0, .int .i64 ((m : Int) % 20 + 1), .int .i64 ((m : Int) % 20 + 1), .bool false, .bool false]] W (fun e w' => ∃ ha hcp, e = .returned (.tuple #[.agg #[.int .i64 5, .int .i64 (((m : Int) % 20 + 1) + 1), .int .i64 ((m : Int) % 20 + 1), .int .i64 0, .int .i64 0, .int .i64 0, .slice ha L.length hcp], .int .i64 0]) ∧ HasG w' ha ⟨5, ((m : Int) % 20 + 1) + 1, ((m : Int) % 20 + 1), 0, 0, 0, L⟩ ∧ Below W.heap.size W w' ∧ ∀ b, inBlkE ha L.length b → W.heap.size ≤ b) from by
    have := do_any 5 1 0 0 0 0 (grL k) a cap 5 4 none 0 0 0 0 0 ((m : Int) % 20 + 1) ((m : Int) % 20 + 1) false false [] W hg hIG (hasE_nil rfl rfl) (by omega)
    rw [hcz, hdo] at this
    exact this))
  generalize grL k = l at *
  have GT := Lib.hid (fun a cap W (hg : HasG W a ⟨5, ((m : Int) % 20 + 1) + 1, ((m : Int) % 20 + 1), 0, 0, 0, L⟩) => (show Gives Try.prog 27 #[.agg #[.int .i64 5, .int .i64 (((m : Int) % 20 + 1) + 1), .int .i64 ((m : Int) % 20 + 1), .int .i64 0, .int .i64 0, .int .i64 0, .slice a L.length cap], .int .i64 ((m : Int) % 20 + 1)] W (.tuple #[.int .i64 ((m : Int) % 20 + 1), .int .i64 0]) from by
    have := term_any 5 (((m : Int) % 20 + 1) + 1) ((m : Int) % 20 + 1) 0 0 0 L a cap ((m : Int) % 20 + 1) W hg hIH
    rwa [show termG ⟨5, ((m : Int) % 20 + 1) + 1, ((m : Int) % 20 + 1), 0, 0, 0, L⟩ ((m : Int) % 20 + 1) = (((m : Int) % 20 + 1), 0) by unfold termG; dsimp only; rw [if_neg (by omega), if_neg (by omega), if_pos (by omega)]] at this))
  have GL := Lib.hid (fun a cap W (hg : HasG W a ⟨5, ((m : Int) % 20 + 1) + 1, ((m : Int) % 20 + 1), 0, 0, 0, L⟩) => (show Gives Try.prog 25 #[.agg #[.int .i64 5, .int .i64 (((m : Int) % 20 + 1) + 1), .int .i64 ((m : Int) % 20 + 1), .int .i64 0, .int .i64 0, .int .i64 0, .slice a L.length cap]] W (.int .i64 ((n : Int) % 12 + 1)) from by
    have := last_any 5 (((m : Int) % 20 + 1) + 1) ((m : Int) % 20 + 1) 0 0 0 L a cap W hg hIH
    rwa [show ((m : Int) % 20 + 1) + 1 - 1 + (L.length : Int) = ((n : Int) % 12 + 1) by omega] at this))
  have hwb : 1 ≤ ((n : Int) % 12 + 1) ∧ ((n : Int) % 12 + 1) ≤ 32 := by omega
  have hz1 : (IntKind.i64.wrap (((n : Int) % 12 + 1) + 2)) = ((n : Int) % 12 + 1) + 2 := IntWalk.i64_in _ (by omega)
  have hz2 : (IntKind.i64.wrap (((n : Int) % 12 + 1) + 1)) = ((n : Int) % 12 + 1) + 1 := IntWalk.i64_in _ (by omega)
  have GA1 := Lib.hid (fun W => (show Calls Try.prog 34 #[.int .i64 5, .int .i64 (IntKind.i64.wrap (((n : Int) % 12 + 1) + 2)), .int .i64 90, .int .i64 1] W (AppPost W 5 (((n : Int) % 12 + 1) + 2) 90 1) from by rw [hz1]; exact app_any 5 (((n : Int) % 12 + 1) + 2) 90 1 (by omega) (by omega) (by omega) W))
  have GA2 := Lib.hid (fun W => (show Calls Try.prog 34 #[.int .i64 5, .int .i64 (IntKind.i64.wrap (((n : Int) % 12 + 1) + 1)), .int .i64 90, .int .i64 1] W (AppPost W 5 (((n : Int) % 12 + 1) + 1) 90 1) from by rw [hz2]; exact app_any 5 (((n : Int) % 12 + 1) + 1) 90 1 (by omega) (by omega) (by omega) W))
  have hT1 : 1 ≤ ((m : Int) % 20 + 1) ∧ ((m : Int) % 20 + 1) ≤ 50 := by omega
  have hgap : ∀ pa pcap, chkG ⟨5, ((m : Int) % 20 + 1) + 1, ((m : Int) % 20 + 1), 0, 0, 0, L⟩ (⟨5, 1, pa, 1, pcap, 0, 0, 0, 0, 0, false, false⟩ : PartC) (appL (((n : Int) % 12 + 1) + 2) 90 1) = 14 := fun pa pcap => by
    have hI := app_is (id := 5) (i := ((n : Int) % 12 + 1) + 2) (t := 90) (n := 1) pa pcap (by omega) (by omega) (by omega) (by omega) (by omega) (by omega)
    unfold chkG
    rw [if_neg (by rw [hI]; simp), if_pos rfl, app_head (by omega)]
    unfold chkA lastG
    dsimp only
    rw [if_neg (by omega), if_pos (by omega)]
  have GD1 := Lib.hid (fun a cap W pa pcap (hg : HasG W a ⟨5, ((m : Int) % 20 + 1) + 1, ((m : Int) % 20 + 1), 0, 0, 0, L⟩) (hp : HasE W (⟨5, 1, pa, 1, pcap, 0, 0, 0, 0, 0, false, false⟩ : PartC) (appL (((n : Int) % 12 + 1) + 2) 90 1)) => (show Calls Try.prog 22 #[.agg #[.int .i64 5, .int .i64 (((m : Int) % 20 + 1) + 1), .int .i64 ((m : Int) % 20 + 1), .int .i64 0, .int .i64 0, .int .i64 0, .slice a L.length cap], .agg #[.int .i64 5, .int .i64 1, .slice pa 1 pcap, .int .i64 0, .int .i64 0, .int .i64 0, .int .i64 0, .int .i64 0, .bool false, .bool false]] W (fun e w' => ∃ ha hcp, e = .returned (.tuple #[.agg #[.int .i64 5, .int .i64 (((m : Int) % 20 + 1) + 1), .int .i64 ((m : Int) % 20 + 1), .int .i64 0, .int .i64 0, .int .i64 0, .slice ha L.length hcp], .int .i64 14]) ∧ HasG w' ha ⟨5, ((m : Int) % 20 + 1) + 1, ((m : Int) % 20 + 1), 0, 0, 0, L⟩ ∧ Below W.heap.size W w' ∧ ∀ b, inBlkE ha L.length b → W.heap.size ≤ b) from by
    have := do_any 5 (((m : Int) % 20 + 1) + 1) ((m : Int) % 20 + 1) 0 0 0 L a cap 5 1 pa 1 pcap 0 0 0 0 0 false false (appL (((n : Int) % 12 + 1) + 2) 90 1) W hg hIH hp (by omega)
    rw [hgap, show doG ⟨5, ((m : Int) % 20 + 1) + 1, ((m : Int) % 20 + 1), 0, 0, 0, L⟩ (⟨5, 1, pa, 1, pcap, 0, 0, 0, 0, 0, false, false⟩ : PartC) (appL (((n : Int) % 12 + 1) + 2) 90 1) = ⟨5, ((m : Int) % 20 + 1) + 1, ((m : Int) % 20 + 1), 0, 0, 0, L⟩ from if_pos (by rw [hgap]; decide)] at this
    exact this))
  obtain ⟨l2, hl2⟩ : ∃ l2, l2 = L ++ appL (((n : Int) % 12 + 1) + 1) 90 1 := ⟨_, rfl⟩
  have hdo2 : ∀ pa pcap, chkG ⟨5, ((m : Int) % 20 + 1) + 1, ((m : Int) % 20 + 1), 0, 0, 0, L⟩ (⟨5, 1, pa, 1, pcap, 0, 0, 0, 0, 0, false, false⟩ : PartC) (appL (((n : Int) % 12 + 1) + 1) 90 1) = 0 ∧ doG ⟨5, ((m : Int) % 20 + 1) + 1, ((m : Int) % 20 + 1), 0, 0, 0, L⟩ (⟨5, 1, pa, 1, pcap, 0, 0, 0, 0, 0, false, false⟩ : PartC) (appL (((n : Int) % 12 + 1) + 1) 90 1) = ⟨5, ((m : Int) % 20 + 1) + 1, ((m : Int) % 20 + 1), 0, 0, 0, l2⟩ := fun pa pcap => by
    have hz := app_do (te := ((m : Int) % 20 + 1)) (ht := 0) (hv := 0) (hc := 0) (i := ((n : Int) % 12 + 1) + 1) (t := 90) (n := 1) (l := L) pa pcap (id := 5) ⟨by omega, by omega⟩ (fi := ((m : Int) % 20 + 1) + 1) ⟨by omega, by omega⟩ hdL ⟨by omega, by omega⟩ (by omega) (by omega) (by omega) (by omega) (by omega)
    refine ⟨hz.1, hz.2.trans ?_⟩
    rw [List.take_of_length_le (by omega), ← hl2]
  have hI2 : isG ⟨5, ((m : Int) % 20 + 1) + 1, ((m : Int) % 20 + 1), 0, 0, 0, l2⟩ = true := by
    have := (doG_isG (g := ⟨5, ((m : Int) % 20 + 1) + 1, ((m : Int) % 20 + 1), 0, 0, 0, L⟩) (p := ⟨5, 1, none, 1, 0, 0, 0, 0, 0, 0, false, false⟩) (pl := appL (((n : Int) % 12 + 1) + 1) 90 1) hIH (by show L.length ≤ _; omega) (appL_len _ _ _)).1
    rwa [(hdo2 none 0).2] at this
  have hl2l : (l2.length : Int) = (L.length : Int) + 1 := by rw [hl2, List.length_append, appL_len]; push_cast; omega
  have GD2 := Lib.hid (fun a cap W pa pcap (hg : HasG W a ⟨5, ((m : Int) % 20 + 1) + 1, ((m : Int) % 20 + 1), 0, 0, 0, L⟩) (hp : HasE W (⟨5, 1, pa, 1, pcap, 0, 0, 0, 0, 0, false, false⟩ : PartC) (appL (((n : Int) % 12 + 1) + 1) 90 1)) => (show Calls Try.prog 22 #[.agg #[.int .i64 5, .int .i64 (((m : Int) % 20 + 1) + 1), .int .i64 ((m : Int) % 20 + 1), .int .i64 0, .int .i64 0, .int .i64 0, .slice a L.length cap], .agg #[.int .i64 5, .int .i64 1, .slice pa 1 pcap, .int .i64 0, .int .i64 0, .int .i64 0, .int .i64 0, .int .i64 0, .bool false, .bool false]] W (fun e w' => ∃ ha hcp, e = .returned (.tuple #[.agg #[.int .i64 5, .int .i64 (((m : Int) % 20 + 1) + 1), .int .i64 ((m : Int) % 20 + 1), .int .i64 0, .int .i64 0, .int .i64 0, .slice ha l2.length hcp], .int .i64 0]) ∧ HasG w' ha ⟨5, ((m : Int) % 20 + 1) + 1, ((m : Int) % 20 + 1), 0, 0, 0, l2⟩ ∧ Below W.heap.size W w' ∧ ∀ b, inBlkE ha l2.length b → W.heap.size ≤ b) from by
    have := do_any 5 (((m : Int) % 20 + 1) + 1) ((m : Int) % 20 + 1) 0 0 0 L a cap 5 1 pa 1 pcap 0 0 0 0 0 false false (appL (((n : Int) % 12 + 1) + 1) 90 1) W hg hIH hp (by omega)
    rw [(hdo2 pa pcap).1, (hdo2 pa pcap).2] at this
    exact this))
  have GL2 := Lib.hid (fun a cap W (hg : HasG W a ⟨5, ((m : Int) % 20 + 1) + 1, ((m : Int) % 20 + 1), 0, 0, 0, l2⟩) => (show Gives Try.prog 25 #[.agg #[.int .i64 5, .int .i64 (((m : Int) % 20 + 1) + 1), .int .i64 ((m : Int) % 20 + 1), .int .i64 0, .int .i64 0, .int .i64 0, .slice a l2.length cap]] W (.int .i64 (((n : Int) % 12 + 1) + 1)) from by
    have := last_any 5 (((m : Int) % 20 + 1) + 1) ((m : Int) % 20 + 1) 0 0 0 l2 a cap W hg hI2
    rwa [show ((m : Int) % 20 + 1) + 1 - 1 + (l2.length : Int) = ((n : Int) % 12 + 1) + 1 by omega] at this))
  have GI2 := Lib.hid (fun a cap W (hg : HasG W a ⟨5, ((m : Int) % 20 + 1) + 1, ((m : Int) % 20 + 1), 0, 0, 0, l2⟩) => (show Gives Try.prog 16 #[.agg #[.int .i64 5, .int .i64 (((m : Int) % 20 + 1) + 1), .int .i64 ((m : Int) % 20 + 1), .int .i64 0, .int .i64 0, .int .i64 0, .slice a l2.length cap]] W (.bool true) from by
    have := refIsG_any 5 (((m : Int) % 20 + 1) + 1) ((m : Int) % 20 + 1) 0 0 0 l2 a cap W hg
    rwa [hI2] at this))
  clear hl2 hIH hIG hI2 hkI hll hk hz1 hz2 hdL hLl hL12 hcz hdo hl2l hgap hdo2 hk12 hT1 hwb
  go_enter Try.func9, Try.ntmps9
  go_wp2_with (first
    | (go_at_call 12; ((with_reducible refine (GK.out _).mono ?_); rintro e w1 ⟨rfl, hB1⟩))
    | (go_at_call 33; ((with_reducible refine (GG.out _).mono ?_); rintro e w2 ⟨a, cap, rfl, hHG, hB2, -⟩))
    | (go_at_call 22; ((with_reducible refine (GD.out _ _ _ (hHG.below (bel_alloc (Below.refl w2.heap.size w2) _))).mono ?_); rintro e w3 ⟨ha, hcp, rfl, hHH, hB3, -⟩; have hB4 := bel_alloc (Below.refl w3.heap.size w3) (.cells #[.int .i64 5, .int .i64 (((m : Int) % 20 + 1) + 1), .int .i64 ((m : Int) % 20 + 1), .int .i64 0, .int .i64 0, .int .i64 0, .slice ha L.length hcp] 26); have hHb := World.alloc_heap_new w3 (.cells #[.int .i64 5, .int .i64 (((m : Int) % 20 + 1) + 1), .int .i64 ((m : Int) % 20 + 1), .int .i64 0, .int .i64 0, .int .i64 0, .slice ha L.length hcp] 26); replace hHH := hHH.below hB4))
    | (go_at_call 27; ((with_reducible refine (GT.out _ _ _ hHH).mono ?_); rintro e w5 ⟨rfl, hB5⟩; have hA5 : Below w.heap.size w w5 := bel2 (bel2 (bel2 (bel2 (bel2 hB1 hB2) (bel_alloc (Below.refl _ _) _)) hB3) hB4) hB5; have hHlt := heap_lt hHb; have hH5 := (hB5.block _ hHlt).trans hHb; replace hHH := hHH.below hB5)))
  clear GK GG GD GT hB1 hB2 hB3 hB4 hB5 hHb hHG
  obtain ⟨H, hHe⟩ : ∃ H, H = w3.heap.size := ⟨_, rfl⟩
  rw [← hHe] at hH5 hHlt
  rw [← hHe]
  clear hHe
  have hHl5 := heap_lt hH5
  have KHa := Lib.hid (fun W' (hW : Below w5.heap.size w5 W') => cells7 ((hW.block _ hHl5).trans hH5))
  have n1 : H ≠ w5.heap.size := by omega
  have n2 : w5.heap.size ≠ H := by omega
  obtain ⟨x0, x1, x2, x3, x4, x5, x6, -⟩ := cells7 hH5
  go_region_held3 (fun W' => W'.cell? ⟨H, 0, none⟩ = some (.int .i64 5) ∧ W'.cell? ⟨H, 1, none⟩ = some (.int .i64 (((m : Int) % 20 + 1) + 1)) ∧ W'.cell? ⟨H, 2, none⟩ = some (.int .i64 ((m : Int) % 20 + 1)) ∧ W'.cell? ⟨H, 3, none⟩ = some (.int .i64 0) ∧ W'.cell? ⟨H, 4, none⟩ = some (.int .i64 0) ∧ W'.cell? ⟨H, 5, none⟩ = some (.int .i64 0) ∧ W'.cell? ⟨H, 6, none⟩ = some (.slice ha L.length hcp)) (go_keep) (first
    | (go_at_call 34; ((with_reducible refine (GA1.out _).mono ?_); rintro e w7a ⟨pa, pcap, rfl, hPE, hB7, -⟩; have hX7 : Below w5.heap.size w5 w7a := (by first | exact hB7 | exact bel2 (Below.refl _ _).drew hB7 | exact bel2 (bel_alloc (Below.refl _ _) _) hB7 | exact bel2 (bel_alloc (Below.refl _ _).drew _) hB7); have n3 : H ≠ w7a.heap.size := (by have := hX7.size; omega); have n4 : w7a.heap.size ≠ H := (by have := hX7.size; omega); obtain ⟨z0, z1, z2, z3, z4, z5, z6, -⟩ := KHa.out w7a hX7; try (have hz7 : w7a.heap[w5.heap.size]? = some (.cells #[.int .i64 0, .int .i64 0, .int .i64 0, .int .i64 0, .int .i64 0, .int .i64 0, .slice none 0 0] 26 (0, 0)) := (by first | exact (hB7.block _ (by simp)).trans (World.alloc_heap_new w5 _) | exact (hB7.block _ (by simp)).trans (World.alloc_heap_new w5.drew _)))))
    | (go_at_call 22; ((with_reducible refine (GD1.out _ _ _ _ _ ?hg ?hp).mono ?_); (case hg => first | exact hHH.below hX7 | exact (hHH.below hX7.drew) | exact hHH.below (hX7.trans (bel_alloc (Below.refl w7a.heap.size w7a) _ |>.mono hX7.size))); (case hp => first | exact hPE | exact hPE.below (Below.refl _ _).drew | exact hPE.below (bel_alloc (Below.refl _ _) _)); rintro e w9a ⟨iaa, icpa, rfl, hHIa, hB9, hHN⟩; have hX9 : Below w5.heap.size w5 w9a := (by first | exact bel2 hX7 hB9 | exact bel2 hX7.drew hB9 | exact bel2 (hX7.trans (bel_alloc (Below.refl w7a.heap.size w7a) _ |>.mono hX7.size)) hB9); obtain ⟨y0, y1, y2, y3, y4, y5, y6, -⟩ := KHa.out w9a hX9; (first | (have hz9 : w9a.heap[w5.heap.size]? = some (.cells #[.int .i64 0, .int .i64 0, .int .i64 0, .int .i64 0, .int .i64 0, .int .i64 0, .slice none 0 0] 26 (0, 0)) := (hB9.block _ (by have := heap_lt hz7; simp; omega)).trans hz7; have hN9 : (∀ k, inBlkE iaa L.length k → ¬ k = w5.heap.size) := (fun k hk e => by have h1 := hHN k hk; have h2 := heap_lt hz7; (try simp at h1); omega); obtain ⟨q0, q1, q2, q3, q4, q5, q6, -⟩ := cells7 hz9; have fq : (∀ i, w9a.frozen? ⟨w5.heap.size, i, none⟩ = false) := (fun i => frozen_of_row _ _ i _ _ hz9)) | (have hz9 : w9a.heap[w7a.heap.size]? = some (.cells #[.int .i64 0, .int .i64 0, .int .i64 0, .int .i64 0, .int .i64 0, .int .i64 0, .slice none 0 0] 26 (0, 0)) := (by first | exact (hB9.block _ (by simp)).trans (World.alloc_heap_new w7a _)); have hN9 : (∀ k, inBlkE iaa L.length k → ¬ k = w7a.heap.size) := (fun k hk e => by have h1 := hHN k hk; simp at h1; omega); obtain ⟨q0, q1, q2, q3, q4, q5, q6, -⟩ := cells7 hz9; have fq : (∀ i, w9a.frozen? ⟨w7a.heap.size, i, none⟩ = false) := (fun i => frozen_of_row _ _ i _ _ hz9)) | skip))))
  all_goals first
    | (have hBz := bel_alloc (Below.refl w9a.heap.size w9a) (.cells #[.int .i64 5, .int .i64 (((m : Int) % 20 + 1) + 1), .int .i64 ((m : Int) % 20 + 1), .int .i64 0, .int .i64 0, .int .i64 0, .slice iaa L.length icpa] 26)
       have hi8a := World.alloc_heap_new w9a (.cells #[.int .i64 5, .int .i64 (((m : Int) % 20 + 1) + 1), .int .i64 ((m : Int) % 20 + 1), .int .i64 0, .int .i64 0, .int .i64 0, .slice iaa L.length icpa] 26)
       replace hHIa := hHIa.below hBz
       have hFz : FrameT (fun k => k = w9a.heap.size) w9a (w9a.alloc (.cells #[.int .i64 5, .int .i64 (((m : Int) % 20 + 1) + 1), .int .i64 ((m : Int) % 20 + 1), .int .i64 0, .int .i64 0, .int .i64 0, .slice iaa L.length icpa] 26)) := FrameT.below hBz
       have hHz : w5.heap.size ≤ w9a.heap.size := hX9.size
       generalize (w9a.alloc (.cells #[.int .i64 5, .int .i64 (((m : Int) % 20 + 1) + 1), .int .i64 ((m : Int) % 20 + 1), .int .i64 0, .int .i64 0, .int .i64 0, .slice iaa L.length icpa] 26)) = w8a at *
       obtain ⟨Ia, hIe⟩ : ∃ Ia, Ia = w9a.heap.size := ⟨_, rfl⟩
       have hIba : w5.heap.size ≤ Ia := by omega
       rw [← hIe] at hi8a hFz ⊢
       clear hBz hIe)
    | (have hi8a := st7_block (b := w7a.heap.size) hz9 (.int .i64 5) (.int .i64 (((m : Int) % 20 + 1) + 1)) (.int .i64 ((m : Int) % 20 + 1)) (.int .i64 0) (.int .i64 0) (.int .i64 0) (.slice iaa L.length icpa)
       have hFz := st7_frame w9a w7a.heap.size (.int .i64 5) (.int .i64 (((m : Int) % 20 + 1) + 1)) (.int .i64 ((m : Int) % 20 + 1)) (.int .i64 0) (.int .i64 0) (.int .i64 0) (.slice iaa L.length icpa)
       replace hHIa : HasG (st7 w9a w7a.heap.size (.int .i64 5) (.int .i64 (((m : Int) % 20 + 1) + 1)) (.int .i64 ((m : Int) % 20 + 1)) (.int .i64 0) (.int .i64 0) (.int .i64 0) (.slice iaa L.length icpa)) iaa _ := ⟨hHIa.1, rowV_frame hHIa.2 hFz (fun k hk h => hN9 k hk h)⟩
       simp only [st7] at hi8a hFz hHIa
       have hHz : w5.heap.size ≤ w7a.heap.size := hX7.size
       generalize (((((((w9a.setCell ⟨w7a.heap.size, 0, none⟩ (.int .i64 5)).setCell ⟨w7a.heap.size, 1, none⟩ (.int .i64 (((m : Int) % 20 + 1) + 1))).setCell ⟨w7a.heap.size, 2, none⟩ (.int .i64 ((m : Int) % 20 + 1))).setCell ⟨w7a.heap.size, 3, none⟩ (.int .i64 0)).setCell ⟨w7a.heap.size, 4, none⟩ (.int .i64 0)).setCell ⟨w7a.heap.size, 5, none⟩ (.int .i64 0)).setCell ⟨w7a.heap.size, 6, none⟩ (.slice iaa L.length icpa)) = w8a at *
       obtain ⟨Ia, hIe⟩ : ∃ Ia, Ia = w7a.heap.size := ⟨_, rfl⟩
       have hIba : w5.heap.size ≤ Ia := by omega
       rw [← hIe] at hi8a hFz ⊢
       clear hIe)
    | (have hi8a := st7_block (b := w5.heap.size) hz9 (.int .i64 5) (.int .i64 (((m : Int) % 20 + 1) + 1)) (.int .i64 ((m : Int) % 20 + 1)) (.int .i64 0) (.int .i64 0) (.int .i64 0) (.slice iaa L.length icpa)
       have hFz := st7_frame w9a w5.heap.size (.int .i64 5) (.int .i64 (((m : Int) % 20 + 1) + 1)) (.int .i64 ((m : Int) % 20 + 1)) (.int .i64 0) (.int .i64 0) (.int .i64 0) (.slice iaa L.length icpa)
       replace hHIa : HasG (st7 w9a w5.heap.size (.int .i64 5) (.int .i64 (((m : Int) % 20 + 1) + 1)) (.int .i64 ((m : Int) % 20 + 1)) (.int .i64 0) (.int .i64 0) (.int .i64 0) (.slice iaa L.length icpa)) iaa _ := ⟨hHIa.1, rowV_frame hHIa.2 hFz (fun k hk h => hN9 k hk h)⟩
       simp only [st7] at hi8a hFz hHIa
       have hHz : w5.heap.size ≤ w5.heap.size := Nat.le_refl _
       generalize (((((((w9a.setCell ⟨w5.heap.size, 0, none⟩ (.int .i64 5)).setCell ⟨w5.heap.size, 1, none⟩ (.int .i64 (((m : Int) % 20 + 1) + 1))).setCell ⟨w5.heap.size, 2, none⟩ (.int .i64 ((m : Int) % 20 + 1))).setCell ⟨w5.heap.size, 3, none⟩ (.int .i64 0)).setCell ⟨w5.heap.size, 4, none⟩ (.int .i64 0)).setCell ⟨w5.heap.size, 5, none⟩ (.int .i64 0)).setCell ⟨w5.heap.size, 6, none⟩ (.slice iaa L.length icpa)) = w8a at *
       obtain ⟨Ia, hIe⟩ : ∃ Ia, Ia = w5.heap.size := ⟨_, rfl⟩
       have hIba : w5.heap.size ≤ Ia := by omega
       rw [← hIe] at hi8a hFz ⊢
       clear hIe)
  all_goals
    have hX8a : Below w5.heap.size w5 w8a := hX9.trans (hFz.toBelow hX9.size (fun k h => by omega))
    clear x0 x1 x2 x3 x4 x5 x6 y0 y1 y2 y3 y4 y5 y6 z0 z1 z2 z3 z4 z5 z6 KHa hFz hX9 hX7 hB9 hB7 hPE hHN n1 n2 n3 n4 GA1 GD1 hHz
    try clear hz9 hN9 q0 q1 q2 q3 q4 q5 q6 fq
    try clear hz7
    have hH6 := (hX8a.block _ hHl5).trans hH5
    have hHH6 := hHH.below hX8a
    have hA6 := bel2 hA5 hX8a
    clear hX8a hHIa hi8a hH5 hHH hA5 hIba
    have hHl6 := heap_lt hH6
    go_wp2
    have KHb := Lib.hid (fun W' (hW : Below w8a.heap.size w8a W') => cells7 ((hW.block _ hHl6).trans hH6))
    have n1 : H ≠ w8a.heap.size := by omega
    have n2 : w8a.heap.size ≠ H := by omega
    obtain ⟨x0, x1, x2, x3, x4, x5, x6, -⟩ := cells7 hH6
    go_region_held3 (fun W' => W'.cell? ⟨H, 0, none⟩ = some (.int .i64 5) ∧ W'.cell? ⟨H, 1, none⟩ = some (.int .i64 (((m : Int) % 20 + 1) + 1)) ∧ W'.cell? ⟨H, 2, none⟩ = some (.int .i64 ((m : Int) % 20 + 1)) ∧ W'.cell? ⟨H, 3, none⟩ = some (.int .i64 0) ∧ W'.cell? ⟨H, 4, none⟩ = some (.int .i64 0) ∧ W'.cell? ⟨H, 5, none⟩ = some (.int .i64 0) ∧ W'.cell? ⟨H, 6, none⟩ = some (.slice ha L.length hcp)) (go_keep) (first
      | (go_at_call 34; ((with_reducible refine (GA2.out _).mono ?_); rintro e w7b ⟨pa, pcap, rfl, hPE, hB7, -⟩; have hX7 : Below w8a.heap.size w8a w7b := (by first | exact hB7 | exact bel2 (Below.refl _ _).drew hB7 | exact bel2 (bel_alloc (Below.refl _ _) _) hB7 | exact bel2 (bel_alloc (Below.refl _ _).drew _) hB7); have n3 : H ≠ w7b.heap.size := (by have := hX7.size; omega); have n4 : w7b.heap.size ≠ H := (by have := hX7.size; omega); obtain ⟨z0, z1, z2, z3, z4, z5, z6, -⟩ := KHb.out w7b hX7; try (have hz7 : w7b.heap[w8a.heap.size]? = some (.cells #[.int .i64 0, .int .i64 0, .int .i64 0, .int .i64 0, .int .i64 0, .int .i64 0, .slice none 0 0] 26 (0, 0)) := (by first | exact (hB7.block _ (by simp)).trans (World.alloc_heap_new w8a _) | exact (hB7.block _ (by simp)).trans (World.alloc_heap_new w8a.drew _)))))
      | (go_at_call 22; ((with_reducible refine (GD2.out _ _ _ _ _ ?hg ?hp).mono ?_); (case hg => first | exact hHH6.below hX7 | exact (hHH6.below hX7.drew) | exact hHH6.below (hX7.trans (bel_alloc (Below.refl w7b.heap.size w7b) _ |>.mono hX7.size))); (case hp => first | exact hPE | exact hPE.below (Below.refl _ _).drew | exact hPE.below (bel_alloc (Below.refl _ _) _)); rintro e w9b ⟨iab, icpb, rfl, hHIb, hB9, hHN⟩; have hX9 : Below w8a.heap.size w8a w9b := (by first | exact bel2 hX7 hB9 | exact bel2 hX7.drew hB9 | exact bel2 (hX7.trans (bel_alloc (Below.refl w7b.heap.size w7b) _ |>.mono hX7.size)) hB9); obtain ⟨y0, y1, y2, y3, y4, y5, y6, -⟩ := KHb.out w9b hX9; (first | (have hz9 : w9b.heap[w8a.heap.size]? = some (.cells #[.int .i64 0, .int .i64 0, .int .i64 0, .int .i64 0, .int .i64 0, .int .i64 0, .slice none 0 0] 26 (0, 0)) := (hB9.block _ (by have := heap_lt hz7; simp; omega)).trans hz7; have hN9 : (∀ k, inBlkE iab l2.length k → ¬ k = w8a.heap.size) := (fun k hk e => by have h1 := hHN k hk; have h2 := heap_lt hz7; (try simp at h1); omega); obtain ⟨q0, q1, q2, q3, q4, q5, q6, -⟩ := cells7 hz9; have fq : (∀ i, w9b.frozen? ⟨w8a.heap.size, i, none⟩ = false) := (fun i => frozen_of_row _ _ i _ _ hz9)) | (have hz9 : w9b.heap[w7b.heap.size]? = some (.cells #[.int .i64 0, .int .i64 0, .int .i64 0, .int .i64 0, .int .i64 0, .int .i64 0, .slice none 0 0] 26 (0, 0)) := (by first | exact (hB9.block _ (by simp)).trans (World.alloc_heap_new w7b _)); have hN9 : (∀ k, inBlkE iab l2.length k → ¬ k = w7b.heap.size) := (fun k hk e => by have h1 := hHN k hk; simp at h1; omega); obtain ⟨q0, q1, q2, q3, q4, q5, q6, -⟩ := cells7 hz9; have fq : (∀ i, w9b.frozen? ⟨w7b.heap.size, i, none⟩ = false) := (fun i => frozen_of_row _ _ i _ _ hz9)) | skip))))
    all_goals first
      | (have hBz := bel_alloc (Below.refl w9b.heap.size w9b) (.cells #[.int .i64 5, .int .i64 (((m : Int) % 20 + 1) + 1), .int .i64 ((m : Int) % 20 + 1), .int .i64 0, .int .i64 0, .int .i64 0, .slice iab l2.length icpb] 26)
         have hi8b := World.alloc_heap_new w9b (.cells #[.int .i64 5, .int .i64 (((m : Int) % 20 + 1) + 1), .int .i64 ((m : Int) % 20 + 1), .int .i64 0, .int .i64 0, .int .i64 0, .slice iab l2.length icpb] 26)
         replace hHIb := hHIb.below hBz
         have hFz : FrameT (fun k => k = w9b.heap.size) w9b (w9b.alloc (.cells #[.int .i64 5, .int .i64 (((m : Int) % 20 + 1) + 1), .int .i64 ((m : Int) % 20 + 1), .int .i64 0, .int .i64 0, .int .i64 0, .slice iab l2.length icpb] 26)) := FrameT.below hBz
         have hHz : w8a.heap.size ≤ w9b.heap.size := hX9.size
         generalize (w9b.alloc (.cells #[.int .i64 5, .int .i64 (((m : Int) % 20 + 1) + 1), .int .i64 ((m : Int) % 20 + 1), .int .i64 0, .int .i64 0, .int .i64 0, .slice iab l2.length icpb] 26)) = w8b at *
         obtain ⟨Ib, hIe⟩ : ∃ Ib, Ib = w9b.heap.size := ⟨_, rfl⟩
         have hIbb : w8a.heap.size ≤ Ib := by omega
         rw [← hIe] at hi8b hFz ⊢
         clear hBz hIe)
      | (have hi8b := st7_block (b := w7b.heap.size) hz9 (.int .i64 5) (.int .i64 (((m : Int) % 20 + 1) + 1)) (.int .i64 ((m : Int) % 20 + 1)) (.int .i64 0) (.int .i64 0) (.int .i64 0) (.slice iab l2.length icpb)
         have hFz := st7_frame w9b w7b.heap.size (.int .i64 5) (.int .i64 (((m : Int) % 20 + 1) + 1)) (.int .i64 ((m : Int) % 20 + 1)) (.int .i64 0) (.int .i64 0) (.int .i64 0) (.slice iab l2.length icpb)
         replace hHIb : HasG (st7 w9b w7b.heap.size (.int .i64 5) (.int .i64 (((m : Int) % 20 + 1) + 1)) (.int .i64 ((m : Int) % 20 + 1)) (.int .i64 0) (.int .i64 0) (.int .i64 0) (.slice iab l2.length icpb)) iab _ := ⟨hHIb.1, rowV_frame hHIb.2 hFz (fun k hk h => hN9 k hk h)⟩
         simp only [st7] at hi8b hFz hHIb
         have hHz : w8a.heap.size ≤ w7b.heap.size := hX7.size
         generalize (((((((w9b.setCell ⟨w7b.heap.size, 0, none⟩ (.int .i64 5)).setCell ⟨w7b.heap.size, 1, none⟩ (.int .i64 (((m : Int) % 20 + 1) + 1))).setCell ⟨w7b.heap.size, 2, none⟩ (.int .i64 ((m : Int) % 20 + 1))).setCell ⟨w7b.heap.size, 3, none⟩ (.int .i64 0)).setCell ⟨w7b.heap.size, 4, none⟩ (.int .i64 0)).setCell ⟨w7b.heap.size, 5, none⟩ (.int .i64 0)).setCell ⟨w7b.heap.size, 6, none⟩ (.slice iab l2.length icpb)) = w8b at *
         obtain ⟨Ib, hIe⟩ : ∃ Ib, Ib = w7b.heap.size := ⟨_, rfl⟩
         have hIbb : w8a.heap.size ≤ Ib := by omega
         rw [← hIe] at hi8b hFz ⊢
         clear hIe)
      | (have hi8b := st7_block (b := w8a.heap.size) hz9 (.int .i64 5) (.int .i64 (((m : Int) % 20 + 1) + 1)) (.int .i64 ((m : Int) % 20 + 1)) (.int .i64 0) (.int .i64 0) (.int .i64 0) (.slice iab l2.length icpb)
         have hFz := st7_frame w9b w8a.heap.size (.int .i64 5) (.int .i64 (((m : Int) % 20 + 1) + 1)) (.int .i64 ((m : Int) % 20 + 1)) (.int .i64 0) (.int .i64 0) (.int .i64 0) (.slice iab l2.length icpb)
         replace hHIb : HasG (st7 w9b w8a.heap.size (.int .i64 5) (.int .i64 (((m : Int) % 20 + 1) + 1)) (.int .i64 ((m : Int) % 20 + 1)) (.int .i64 0) (.int .i64 0) (.int .i64 0) (.slice iab l2.length icpb)) iab _ := ⟨hHIb.1, rowV_frame hHIb.2 hFz (fun k hk h => hN9 k hk h)⟩
         simp only [st7] at hi8b hFz hHIb
         have hHz : w8a.heap.size ≤ w8a.heap.size := Nat.le_refl _
         generalize (((((((w9b.setCell ⟨w8a.heap.size, 0, none⟩ (.int .i64 5)).setCell ⟨w8a.heap.size, 1, none⟩ (.int .i64 (((m : Int) % 20 + 1) + 1))).setCell ⟨w8a.heap.size, 2, none⟩ (.int .i64 ((m : Int) % 20 + 1))).setCell ⟨w8a.heap.size, 3, none⟩ (.int .i64 0)).setCell ⟨w8a.heap.size, 4, none⟩ (.int .i64 0)).setCell ⟨w8a.heap.size, 5, none⟩ (.int .i64 0)).setCell ⟨w8a.heap.size, 6, none⟩ (.slice iab l2.length icpb)) = w8b at *
         obtain ⟨Ib, hIe⟩ : ∃ Ib, Ib = w8a.heap.size := ⟨_, rfl⟩
         have hIbb : w8a.heap.size ≤ Ib := by omega
         rw [← hIe] at hi8b hFz ⊢
         clear hIe)
    all_goals
      have hX8b : Below w8a.heap.size w8a w8b := hX9.trans (hFz.toBelow hX9.size (fun k h => by omega))
      clear x0 x1 x2 x3 x4 x5 x6 y0 y1 y2 y3 y4 y5 y6 z0 z1 z2 z3 z4 z5 z6 KHb hFz hX9 hX7 hB9 hB7 hPE hHN n1 n2 n3 n4 GA2 GD2 hHz
      try clear hz9 hN9 q0 q1 q2 q3 q4 q5 q6 fq
      try clear hz7
      have hH7 := (hX8b.block _ hHl6).trans hH6
      have hHH7 := hHH6.below hX8b
      have hA7 := bel2 hA6 hX8b
      clear hX8b hHH6 hA6 hH6
      have KA := Lib.hid (fun W' (hW : Below w8b.heap.size w8b W') => And.intro (cells7 ((hW.block _ (heap_lt hH7)).trans hH7)) (cells7 ((hW.block _ (heap_lt hi8b)).trans hi8b)))
      obtain ⟨⟨x0, x1, x2, x3, x4, x5, x6, -⟩, ⟨y0, y1, y2, y3, y4, y5, y6, -⟩⟩ := KA.out _ (Below.refl _ _)
      go_wp2_with (first
        | (go_at_call 25; ((with_reducible refine (GL.out _ _ _ hHH7).mono ?_); rintro e w10 ⟨rfl, hB10⟩; clear x0 x1 x2 x3 x4 x5 x6 y0 y1 y2 y3 y4 y5 y6; obtain ⟨⟨x0, x1, x2, x3, x4, x5, x6, -⟩, ⟨y0, y1, y2, y3, y4, y5, y6, -⟩⟩ := KA.out _ hB10; have hHI10 := hHIb.below hB10))
        | (go_at_call 25; ((with_reducible refine (GL2.out _ _ _ hHI10).mono ?_); rintro e w11 ⟨rfl, hB11⟩; have hB12 := bel2 hB10 hB11; clear x0 x1 x2 x3 x4 x5 x6 y0 y1 y2 y3 y4 y5 y6; obtain ⟨⟨x0, x1, x2, x3, x4, x5, x6, -⟩, ⟨y0, y1, y2, y3, y4, y5, y6, -⟩⟩ := KA.out _ hB12; have hHI11 := hHI10.below hB11))
        | (go_at_call 16; ((with_reducible refine (GI2.out _ _ _ hHI11).mono ?_); rintro e w13 ⟨rfl, hB13⟩; have hA13 := bel2 hA7 (bel2 hB12 hB13))))
      go_ret
      exact ⟨by simp, hA13⟩

set_option maxRecDepth 100000 in
set_option maxHeartbeats 4000000 in
theorem snap_b (n m : Nat) (hn : n < 256) (hm : m < 256) (hge : ((n : Int) % 12 + 1) ≤ ((m : Int) % 20 + 1)) (w : World) : Calls Try.prog 9 #[.int .u8 n, .int .u8 m, .bool true] w fun e w' => e = .returned (.bool true) ∧ Below w.heap.size w w' := by
  have GK := Lib.hid group_known
  have GG := Lib.hid (fun W => grown_any 5 ⟨by omega, by omega⟩ (n % 12 + 1) (by omega) W)
  rw [show ((n % 12 + 1 : Nat) : Int) = ((n : Int) % 12 + 1) by omega] at GG
  obtain ⟨k, hk⟩ : ∃ k, k = n % 12 + 1 := ⟨_, rfl⟩
  rw [← hk] at GG
  have hkI : ((n : Int) % 12 + 1) = (k : Int) := by omega
  have hk12 : k ≤ 12 := by omega
  obtain ⟨L, hcz, hdo, hIH, hdL, hLl, hL12⟩ := snap_fact k hk12 ((m : Int) % 20 + 1) ((m : Int) % 20 + 1) ((m : Int) % 20 + 1) ⟨by omega, by omega⟩ ⟨by omega, by omega⟩ (.inr (.inl ⟨rfl, by omega, rfl⟩))
  have hIG := gr_isG (id := 5) ⟨by omega, by omega⟩ (k := k) (by omega)
  have hll := grL_len k
  unfold GrownPost at GG
  have GD := Lib.hid (fun a cap W (hg : HasG W a ⟨5, 1, 0, 0, 0, 0, grL k⟩) => (show Calls Try.prog 22 #[.agg #[.int .i64 5, .int .i64 1, .int .i64 0, .int .i64 0, .int .i64 0, .int .i64 0, .slice a (grL k).length cap], .agg #[.int .i64 5, .int .i64 4, .slice none 0 0, .int .i64 0, .int .i64 0, .int .i64 0, .int .i64 ((m : Int) % 20 + 1), .int .i64 ((m : Int) % 20 + 1), .bool false, .bool false]] W (fun e w' => ∃ ha hcp, e = .returned (.tuple #[.agg #[.int .i64 5, .int .i64 (((m : Int) % 20 + 1) + 1), .int .i64 ((m : Int) % 20 + 1), .int .i64 0, .int .i64 0, .int .i64 0, .slice ha L.length hcp], .int .i64 0]) ∧ HasG w' ha ⟨5, ((m : Int) % 20 + 1) + 1, ((m : Int) % 20 + 1), 0, 0, 0, L⟩ ∧ Below W.heap.size W w' ∧ ∀ b, inBlkE ha L.length b → W.heap.size ≤ b) from by
    have := do_any 5 1 0 0 0 0 (grL k) a cap 5 4 none 0 0 0 0 0 ((m : Int) % 20 + 1) ((m : Int) % 20 + 1) false false [] W hg hIG (hasE_nil rfl rfl) (by omega)
    rw [hcz, hdo] at this
    exact this))
  generalize grL k = l at *
  have GT := Lib.hid (fun a cap W (hg : HasG W a ⟨5, ((m : Int) % 20 + 1) + 1, ((m : Int) % 20 + 1), 0, 0, 0, L⟩) => (show Gives Try.prog 27 #[.agg #[.int .i64 5, .int .i64 (((m : Int) % 20 + 1) + 1), .int .i64 ((m : Int) % 20 + 1), .int .i64 0, .int .i64 0, .int .i64 0, .slice a L.length cap], .int .i64 ((m : Int) % 20 + 1)] W (.tuple #[.int .i64 ((m : Int) % 20 + 1), .int .i64 0]) from by
    have := term_any 5 (((m : Int) % 20 + 1) + 1) ((m : Int) % 20 + 1) 0 0 0 L a cap ((m : Int) % 20 + 1) W hg hIH
    rwa [show termG ⟨5, ((m : Int) % 20 + 1) + 1, ((m : Int) % 20 + 1), 0, 0, 0, L⟩ ((m : Int) % 20 + 1) = (((m : Int) % 20 + 1), 0) by unfold termG; dsimp only; rw [if_neg (by omega), if_neg (by omega), if_pos (by omega)]] at this))
  have GL := Lib.hid (fun a cap W (hg : HasG W a ⟨5, ((m : Int) % 20 + 1) + 1, ((m : Int) % 20 + 1), 0, 0, 0, L⟩) => (show Gives Try.prog 25 #[.agg #[.int .i64 5, .int .i64 (((m : Int) % 20 + 1) + 1), .int .i64 ((m : Int) % 20 + 1), .int .i64 0, .int .i64 0, .int .i64 0, .slice a L.length cap]] W (.int .i64 ((m : Int) % 20 + 1)) from by
    have := last_any 5 (((m : Int) % 20 + 1) + 1) ((m : Int) % 20 + 1) 0 0 0 L a cap W hg hIH
    rwa [show ((m : Int) % 20 + 1) + 1 - 1 + (L.length : Int) = ((m : Int) % 20 + 1) by omega] at this))
  have hwb : 1 ≤ ((m : Int) % 20 + 1) ∧ ((m : Int) % 20 + 1) ≤ 32 := by omega
  have hz1 : (IntKind.i64.wrap (((m : Int) % 20 + 1) + 2)) = ((m : Int) % 20 + 1) + 2 := IntWalk.i64_in _ (by omega)
  have hz2 : (IntKind.i64.wrap (((m : Int) % 20 + 1) + 1)) = ((m : Int) % 20 + 1) + 1 := IntWalk.i64_in _ (by omega)
  have GA1 := Lib.hid (fun W => (show Calls Try.prog 34 #[.int .i64 5, .int .i64 (IntKind.i64.wrap (((m : Int) % 20 + 1) + 2)), .int .i64 90, .int .i64 1] W (AppPost W 5 (((m : Int) % 20 + 1) + 2) 90 1) from by rw [hz1]; exact app_any 5 (((m : Int) % 20 + 1) + 2) 90 1 (by omega) (by omega) (by omega) W))
  have GA2 := Lib.hid (fun W => (show Calls Try.prog 34 #[.int .i64 5, .int .i64 (IntKind.i64.wrap (((m : Int) % 20 + 1) + 1)), .int .i64 90, .int .i64 1] W (AppPost W 5 (((m : Int) % 20 + 1) + 1) 90 1) from by rw [hz2]; exact app_any 5 (((m : Int) % 20 + 1) + 1) 90 1 (by omega) (by omega) (by omega) W))
  have hT1 : 1 ≤ ((m : Int) % 20 + 1) ∧ ((m : Int) % 20 + 1) ≤ 50 := by omega
  have hgap : ∀ pa pcap, chkG ⟨5, ((m : Int) % 20 + 1) + 1, ((m : Int) % 20 + 1), 0, 0, 0, L⟩ (⟨5, 1, pa, 1, pcap, 0, 0, 0, 0, 0, false, false⟩ : PartC) (appL (((m : Int) % 20 + 1) + 2) 90 1) = 14 := fun pa pcap => by
    have hI := app_is (id := 5) (i := ((m : Int) % 20 + 1) + 2) (t := 90) (n := 1) pa pcap (by omega) (by omega) (by omega) (by omega) (by omega) (by omega)
    unfold chkG
    rw [if_neg (by rw [hI]; simp), if_pos rfl, app_head (by omega)]
    unfold chkA lastG
    dsimp only
    rw [if_neg (by omega), if_pos (by omega)]
  have GD1 := Lib.hid (fun a cap W pa pcap (hg : HasG W a ⟨5, ((m : Int) % 20 + 1) + 1, ((m : Int) % 20 + 1), 0, 0, 0, L⟩) (hp : HasE W (⟨5, 1, pa, 1, pcap, 0, 0, 0, 0, 0, false, false⟩ : PartC) (appL (((m : Int) % 20 + 1) + 2) 90 1)) => (show Calls Try.prog 22 #[.agg #[.int .i64 5, .int .i64 (((m : Int) % 20 + 1) + 1), .int .i64 ((m : Int) % 20 + 1), .int .i64 0, .int .i64 0, .int .i64 0, .slice a L.length cap], .agg #[.int .i64 5, .int .i64 1, .slice pa 1 pcap, .int .i64 0, .int .i64 0, .int .i64 0, .int .i64 0, .int .i64 0, .bool false, .bool false]] W (fun e w' => ∃ ha hcp, e = .returned (.tuple #[.agg #[.int .i64 5, .int .i64 (((m : Int) % 20 + 1) + 1), .int .i64 ((m : Int) % 20 + 1), .int .i64 0, .int .i64 0, .int .i64 0, .slice ha L.length hcp], .int .i64 14]) ∧ HasG w' ha ⟨5, ((m : Int) % 20 + 1) + 1, ((m : Int) % 20 + 1), 0, 0, 0, L⟩ ∧ Below W.heap.size W w' ∧ ∀ b, inBlkE ha L.length b → W.heap.size ≤ b) from by
    have := do_any 5 (((m : Int) % 20 + 1) + 1) ((m : Int) % 20 + 1) 0 0 0 L a cap 5 1 pa 1 pcap 0 0 0 0 0 false false (appL (((m : Int) % 20 + 1) + 2) 90 1) W hg hIH hp (by omega)
    rw [hgap, show doG ⟨5, ((m : Int) % 20 + 1) + 1, ((m : Int) % 20 + 1), 0, 0, 0, L⟩ (⟨5, 1, pa, 1, pcap, 0, 0, 0, 0, 0, false, false⟩ : PartC) (appL (((m : Int) % 20 + 1) + 2) 90 1) = ⟨5, ((m : Int) % 20 + 1) + 1, ((m : Int) % 20 + 1), 0, 0, 0, L⟩ from if_pos (by rw [hgap]; decide)] at this
    exact this))
  obtain ⟨l2, hl2⟩ : ∃ l2, l2 = L ++ appL (((m : Int) % 20 + 1) + 1) 90 1 := ⟨_, rfl⟩
  have hdo2 : ∀ pa pcap, chkG ⟨5, ((m : Int) % 20 + 1) + 1, ((m : Int) % 20 + 1), 0, 0, 0, L⟩ (⟨5, 1, pa, 1, pcap, 0, 0, 0, 0, 0, false, false⟩ : PartC) (appL (((m : Int) % 20 + 1) + 1) 90 1) = 0 ∧ doG ⟨5, ((m : Int) % 20 + 1) + 1, ((m : Int) % 20 + 1), 0, 0, 0, L⟩ (⟨5, 1, pa, 1, pcap, 0, 0, 0, 0, 0, false, false⟩ : PartC) (appL (((m : Int) % 20 + 1) + 1) 90 1) = ⟨5, ((m : Int) % 20 + 1) + 1, ((m : Int) % 20 + 1), 0, 0, 0, l2⟩ := fun pa pcap => by
    have hz := app_do (te := ((m : Int) % 20 + 1)) (ht := 0) (hv := 0) (hc := 0) (i := ((m : Int) % 20 + 1) + 1) (t := 90) (n := 1) (l := L) pa pcap (id := 5) ⟨by omega, by omega⟩ (fi := ((m : Int) % 20 + 1) + 1) ⟨by omega, by omega⟩ hdL ⟨by omega, by omega⟩ (by omega) (by omega) (by omega) (by omega) (by omega)
    refine ⟨hz.1, hz.2.trans ?_⟩
    rw [List.take_of_length_le (by omega), ← hl2]
  have hI2 : isG ⟨5, ((m : Int) % 20 + 1) + 1, ((m : Int) % 20 + 1), 0, 0, 0, l2⟩ = true := by
    have := (doG_isG (g := ⟨5, ((m : Int) % 20 + 1) + 1, ((m : Int) % 20 + 1), 0, 0, 0, L⟩) (p := ⟨5, 1, none, 1, 0, 0, 0, 0, 0, 0, false, false⟩) (pl := appL (((m : Int) % 20 + 1) + 1) 90 1) hIH (by show L.length ≤ _; omega) (appL_len _ _ _)).1
    rwa [(hdo2 none 0).2] at this
  have hl2l : (l2.length : Int) = (L.length : Int) + 1 := by rw [hl2, List.length_append, appL_len]; push_cast; omega
  have GD2 := Lib.hid (fun a cap W pa pcap (hg : HasG W a ⟨5, ((m : Int) % 20 + 1) + 1, ((m : Int) % 20 + 1), 0, 0, 0, L⟩) (hp : HasE W (⟨5, 1, pa, 1, pcap, 0, 0, 0, 0, 0, false, false⟩ : PartC) (appL (((m : Int) % 20 + 1) + 1) 90 1)) => (show Calls Try.prog 22 #[.agg #[.int .i64 5, .int .i64 (((m : Int) % 20 + 1) + 1), .int .i64 ((m : Int) % 20 + 1), .int .i64 0, .int .i64 0, .int .i64 0, .slice a L.length cap], .agg #[.int .i64 5, .int .i64 1, .slice pa 1 pcap, .int .i64 0, .int .i64 0, .int .i64 0, .int .i64 0, .int .i64 0, .bool false, .bool false]] W (fun e w' => ∃ ha hcp, e = .returned (.tuple #[.agg #[.int .i64 5, .int .i64 (((m : Int) % 20 + 1) + 1), .int .i64 ((m : Int) % 20 + 1), .int .i64 0, .int .i64 0, .int .i64 0, .slice ha l2.length hcp], .int .i64 0]) ∧ HasG w' ha ⟨5, ((m : Int) % 20 + 1) + 1, ((m : Int) % 20 + 1), 0, 0, 0, l2⟩ ∧ Below W.heap.size W w' ∧ ∀ b, inBlkE ha l2.length b → W.heap.size ≤ b) from by
    have := do_any 5 (((m : Int) % 20 + 1) + 1) ((m : Int) % 20 + 1) 0 0 0 L a cap 5 1 pa 1 pcap 0 0 0 0 0 false false (appL (((m : Int) % 20 + 1) + 1) 90 1) W hg hIH hp (by omega)
    rw [(hdo2 pa pcap).1, (hdo2 pa pcap).2] at this
    exact this))
  have GL2 := Lib.hid (fun a cap W (hg : HasG W a ⟨5, ((m : Int) % 20 + 1) + 1, ((m : Int) % 20 + 1), 0, 0, 0, l2⟩) => (show Gives Try.prog 25 #[.agg #[.int .i64 5, .int .i64 (((m : Int) % 20 + 1) + 1), .int .i64 ((m : Int) % 20 + 1), .int .i64 0, .int .i64 0, .int .i64 0, .slice a l2.length cap]] W (.int .i64 (((m : Int) % 20 + 1) + 1)) from by
    have := last_any 5 (((m : Int) % 20 + 1) + 1) ((m : Int) % 20 + 1) 0 0 0 l2 a cap W hg hI2
    rwa [show ((m : Int) % 20 + 1) + 1 - 1 + (l2.length : Int) = ((m : Int) % 20 + 1) + 1 by omega] at this))
  have GI2 := Lib.hid (fun a cap W (hg : HasG W a ⟨5, ((m : Int) % 20 + 1) + 1, ((m : Int) % 20 + 1), 0, 0, 0, l2⟩) => (show Gives Try.prog 16 #[.agg #[.int .i64 5, .int .i64 (((m : Int) % 20 + 1) + 1), .int .i64 ((m : Int) % 20 + 1), .int .i64 0, .int .i64 0, .int .i64 0, .slice a l2.length cap]] W (.bool true) from by
    have := refIsG_any 5 (((m : Int) % 20 + 1) + 1) ((m : Int) % 20 + 1) 0 0 0 l2 a cap W hg
    rwa [hI2] at this))
  clear hl2 hIH hIG hI2 hkI hll hk hz1 hz2 hdL hLl hL12 hcz hdo hl2l hgap hdo2 hk12 hT1 hwb
  go_enter Try.func9, Try.ntmps9
  go_wp2_with (first
    | (go_at_call 12; ((with_reducible refine (GK.out _).mono ?_); rintro e w1 ⟨rfl, hB1⟩))
    | (go_at_call 33; ((with_reducible refine (GG.out _).mono ?_); rintro e w2 ⟨a, cap, rfl, hHG, hB2, -⟩))
    | (go_at_call 22; ((with_reducible refine (GD.out _ _ _ (hHG.below (bel_alloc (Below.refl w2.heap.size w2) _))).mono ?_); rintro e w3 ⟨ha, hcp, rfl, hHH, hB3, -⟩; have hB4 := bel_alloc (Below.refl w3.heap.size w3) (.cells #[.int .i64 5, .int .i64 (((m : Int) % 20 + 1) + 1), .int .i64 ((m : Int) % 20 + 1), .int .i64 0, .int .i64 0, .int .i64 0, .slice ha L.length hcp] 26); have hHb := World.alloc_heap_new w3 (.cells #[.int .i64 5, .int .i64 (((m : Int) % 20 + 1) + 1), .int .i64 ((m : Int) % 20 + 1), .int .i64 0, .int .i64 0, .int .i64 0, .slice ha L.length hcp] 26); replace hHH := hHH.below hB4))
    | (go_at_call 27; ((with_reducible refine (GT.out _ _ _ hHH).mono ?_); rintro e w5 ⟨rfl, hB5⟩; have hA5 : Below w.heap.size w w5 := bel2 (bel2 (bel2 (bel2 (bel2 hB1 hB2) (bel_alloc (Below.refl _ _) _)) hB3) hB4) hB5; have hHlt := heap_lt hHb; have hH5 := (hB5.block _ hHlt).trans hHb; replace hHH := hHH.below hB5)))
  clear GK GG GD GT hB1 hB2 hB3 hB4 hB5 hHb hHG
  obtain ⟨H, hHe⟩ : ∃ H, H = w3.heap.size := ⟨_, rfl⟩
  rw [← hHe] at hH5 hHlt
  rw [← hHe]
  clear hHe
  have hHl5 := heap_lt hH5
  have KHa := Lib.hid (fun W' (hW : Below w5.heap.size w5 W') => cells7 ((hW.block _ hHl5).trans hH5))
  have n1 : H ≠ w5.heap.size := by omega
  have n2 : w5.heap.size ≠ H := by omega
  obtain ⟨x0, x1, x2, x3, x4, x5, x6, -⟩ := cells7 hH5
  go_region_held3 (fun W' => W'.cell? ⟨H, 0, none⟩ = some (.int .i64 5) ∧ W'.cell? ⟨H, 1, none⟩ = some (.int .i64 (((m : Int) % 20 + 1) + 1)) ∧ W'.cell? ⟨H, 2, none⟩ = some (.int .i64 ((m : Int) % 20 + 1)) ∧ W'.cell? ⟨H, 3, none⟩ = some (.int .i64 0) ∧ W'.cell? ⟨H, 4, none⟩ = some (.int .i64 0) ∧ W'.cell? ⟨H, 5, none⟩ = some (.int .i64 0) ∧ W'.cell? ⟨H, 6, none⟩ = some (.slice ha L.length hcp)) (go_keep) (first
    | (go_at_call 34; ((with_reducible refine (GA1.out _).mono ?_); rintro e w7a ⟨pa, pcap, rfl, hPE, hB7, -⟩; have hX7 : Below w5.heap.size w5 w7a := (by first | exact hB7 | exact bel2 (Below.refl _ _).drew hB7 | exact bel2 (bel_alloc (Below.refl _ _) _) hB7 | exact bel2 (bel_alloc (Below.refl _ _).drew _) hB7); have n3 : H ≠ w7a.heap.size := (by have := hX7.size; omega); have n4 : w7a.heap.size ≠ H := (by have := hX7.size; omega); obtain ⟨z0, z1, z2, z3, z4, z5, z6, -⟩ := KHa.out w7a hX7; try (have hz7 : w7a.heap[w5.heap.size]? = some (.cells #[.int .i64 0, .int .i64 0, .int .i64 0, .int .i64 0, .int .i64 0, .int .i64 0, .slice none 0 0] 26 (0, 0)) := (by first | exact (hB7.block _ (by simp)).trans (World.alloc_heap_new w5 _) | exact (hB7.block _ (by simp)).trans (World.alloc_heap_new w5.drew _)))))
    | (go_at_call 22; ((with_reducible refine (GD1.out _ _ _ _ _ ?hg ?hp).mono ?_); (case hg => first | exact hHH.below hX7 | exact (hHH.below hX7.drew) | exact hHH.below (hX7.trans (bel_alloc (Below.refl w7a.heap.size w7a) _ |>.mono hX7.size))); (case hp => first | exact hPE | exact hPE.below (Below.refl _ _).drew | exact hPE.below (bel_alloc (Below.refl _ _) _)); rintro e w9a ⟨iaa, icpa, rfl, hHIa, hB9, hHN⟩; have hX9 : Below w5.heap.size w5 w9a := (by first | exact bel2 hX7 hB9 | exact bel2 hX7.drew hB9 | exact bel2 (hX7.trans (bel_alloc (Below.refl w7a.heap.size w7a) _ |>.mono hX7.size)) hB9); obtain ⟨y0, y1, y2, y3, y4, y5, y6, -⟩ := KHa.out w9a hX9; (first | (have hz9 : w9a.heap[w5.heap.size]? = some (.cells #[.int .i64 0, .int .i64 0, .int .i64 0, .int .i64 0, .int .i64 0, .int .i64 0, .slice none 0 0] 26 (0, 0)) := (hB9.block _ (by have := heap_lt hz7; simp; omega)).trans hz7; have hN9 : (∀ k, inBlkE iaa L.length k → ¬ k = w5.heap.size) := (fun k hk e => by have h1 := hHN k hk; have h2 := heap_lt hz7; (try simp at h1); omega); obtain ⟨q0, q1, q2, q3, q4, q5, q6, -⟩ := cells7 hz9; have fq : (∀ i, w9a.frozen? ⟨w5.heap.size, i, none⟩ = false) := (fun i => frozen_of_row _ _ i _ _ hz9)) | (have hz9 : w9a.heap[w7a.heap.size]? = some (.cells #[.int .i64 0, .int .i64 0, .int .i64 0, .int .i64 0, .int .i64 0, .int .i64 0, .slice none 0 0] 26 (0, 0)) := (by first | exact (hB9.block _ (by simp)).trans (World.alloc_heap_new w7a _)); have hN9 : (∀ k, inBlkE iaa L.length k → ¬ k = w7a.heap.size) := (fun k hk e => by have h1 := hHN k hk; simp at h1; omega); obtain ⟨q0, q1, q2, q3, q4, q5, q6, -⟩ := cells7 hz9; have fq : (∀ i, w9a.frozen? ⟨w7a.heap.size, i, none⟩ = false) := (fun i => frozen_of_row _ _ i _ _ hz9)) | skip))))
  all_goals first
    | (have hBz := bel_alloc (Below.refl w9a.heap.size w9a) (.cells #[.int .i64 5, .int .i64 (((m : Int) % 20 + 1) + 1), .int .i64 ((m : Int) % 20 + 1), .int .i64 0, .int .i64 0, .int .i64 0, .slice iaa L.length icpa] 26)
       have hi8a := World.alloc_heap_new w9a (.cells #[.int .i64 5, .int .i64 (((m : Int) % 20 + 1) + 1), .int .i64 ((m : Int) % 20 + 1), .int .i64 0, .int .i64 0, .int .i64 0, .slice iaa L.length icpa] 26)
       replace hHIa := hHIa.below hBz
       have hFz : FrameT (fun k => k = w9a.heap.size) w9a (w9a.alloc (.cells #[.int .i64 5, .int .i64 (((m : Int) % 20 + 1) + 1), .int .i64 ((m : Int) % 20 + 1), .int .i64 0, .int .i64 0, .int .i64 0, .slice iaa L.length icpa] 26)) := FrameT.below hBz
       have hHz : w5.heap.size ≤ w9a.heap.size := hX9.size
       generalize (w9a.alloc (.cells #[.int .i64 5, .int .i64 (((m : Int) % 20 + 1) + 1), .int .i64 ((m : Int) % 20 + 1), .int .i64 0, .int .i64 0, .int .i64 0, .slice iaa L.length icpa] 26)) = w8a at *
       obtain ⟨Ia, hIe⟩ : ∃ Ia, Ia = w9a.heap.size := ⟨_, rfl⟩
       have hIba : w5.heap.size ≤ Ia := by omega
       rw [← hIe] at hi8a hFz ⊢
       clear hBz hIe)
    | (have hi8a := st7_block (b := w7a.heap.size) hz9 (.int .i64 5) (.int .i64 (((m : Int) % 20 + 1) + 1)) (.int .i64 ((m : Int) % 20 + 1)) (.int .i64 0) (.int .i64 0) (.int .i64 0) (.slice iaa L.length icpa)
       have hFz := st7_frame w9a w7a.heap.size (.int .i64 5) (.int .i64 (((m : Int) % 20 + 1) + 1)) (.int .i64 ((m : Int) % 20 + 1)) (.int .i64 0) (.int .i64 0) (.int .i64 0) (.slice iaa L.length icpa)
       replace hHIa : HasG (st7 w9a w7a.heap.size (.int .i64 5) (.int .i64 (((m : Int) % 20 + 1) + 1)) (.int .i64 ((m : Int) % 20 + 1)) (.int .i64 0) (.int .i64 0) (.int .i64 0) (.slice iaa L.length icpa)) iaa _ := ⟨hHIa.1, rowV_frame hHIa.2 hFz (fun k hk h => hN9 k hk h)⟩
       simp only [st7] at hi8a hFz hHIa
       have hHz : w5.heap.size ≤ w7a.heap.size := hX7.size
       generalize (((((((w9a.setCell ⟨w7a.heap.size, 0, none⟩ (.int .i64 5)).setCell ⟨w7a.heap.size, 1, none⟩ (.int .i64 (((m : Int) % 20 + 1) + 1))).setCell ⟨w7a.heap.size, 2, none⟩ (.int .i64 ((m : Int) % 20 + 1))).setCell ⟨w7a.heap.size, 3, none⟩ (.int .i64 0)).setCell ⟨w7a.heap.size, 4, none⟩ (.int .i64 0)).setCell ⟨w7a.heap.size, 5, none⟩ (.int .i64 0)).setCell ⟨w7a.heap.size, 6, none⟩ (.slice iaa L.length icpa)) = w8a at *
       obtain ⟨Ia, hIe⟩ : ∃ Ia, Ia = w7a.heap.size := ⟨_, rfl⟩
       have hIba : w5.heap.size ≤ Ia := by omega
       rw [← hIe] at hi8a hFz ⊢
       clear hIe)
    | (have hi8a := st7_block (b := w5.heap.size) hz9 (.int .i64 5) (.int .i64 (((m : Int) % 20 + 1) + 1)) (.int .i64 ((m : Int) % 20 + 1)) (.int .i64 0) (.int .i64 0) (.int .i64 0) (.slice iaa L.length icpa)
       have hFz := st7_frame w9a w5.heap.size (.int .i64 5) (.int .i64 (((m : Int) % 20 + 1) + 1)) (.int .i64 ((m : Int) % 20 + 1)) (.int .i64 0) (.int .i64 0) (.int .i64 0) (.slice iaa L.length icpa)
       replace hHIa : HasG (st7 w9a w5.heap.size (.int .i64 5) (.int .i64 (((m : Int) % 20 + 1) + 1)) (.int .i64 ((m : Int) % 20 + 1)) (.int .i64 0) (.int .i64 0) (.int .i64 0) (.slice iaa L.length icpa)) iaa _ := ⟨hHIa.1, rowV_frame hHIa.2 hFz (fun k hk h => hN9 k hk h)⟩
       simp only [st7] at hi8a hFz hHIa
       have hHz : w5.heap.size ≤ w5.heap.size := Nat.le_refl _
       generalize (((((((w9a.setCell ⟨w5.heap.size, 0, none⟩ (.int .i64 5)).setCell ⟨w5.heap.size, 1, none⟩ (.int .i64 (((m : Int) % 20 + 1) + 1))).setCell ⟨w5.heap.size, 2, none⟩ (.int .i64 ((m : Int) % 20 + 1))).setCell ⟨w5.heap.size, 3, none⟩ (.int .i64 0)).setCell ⟨w5.heap.size, 4, none⟩ (.int .i64 0)).setCell ⟨w5.heap.size, 5, none⟩ (.int .i64 0)).setCell ⟨w5.heap.size, 6, none⟩ (.slice iaa L.length icpa)) = w8a at *
       obtain ⟨Ia, hIe⟩ : ∃ Ia, Ia = w5.heap.size := ⟨_, rfl⟩
       have hIba : w5.heap.size ≤ Ia := by omega
       rw [← hIe] at hi8a hFz ⊢
       clear hIe)
  all_goals
    have hX8a : Below w5.heap.size w5 w8a := hX9.trans (hFz.toBelow hX9.size (fun k h => by omega))
    clear x0 x1 x2 x3 x4 x5 x6 y0 y1 y2 y3 y4 y5 y6 z0 z1 z2 z3 z4 z5 z6 KHa hFz hX9 hX7 hB9 hB7 hPE hHN n1 n2 n3 n4 GA1 GD1 hHz
    try clear hz9 hN9 q0 q1 q2 q3 q4 q5 q6 fq
    try clear hz7
    have hH6 := (hX8a.block _ hHl5).trans hH5
    have hHH6 := hHH.below hX8a
    have hA6 := bel2 hA5 hX8a
    clear hX8a hHIa hi8a hH5 hHH hA5 hIba
    have hHl6 := heap_lt hH6
    go_wp2
    have KHb := Lib.hid (fun W' (hW : Below w8a.heap.size w8a W') => cells7 ((hW.block _ hHl6).trans hH6))
    have n1 : H ≠ w8a.heap.size := by omega
    have n2 : w8a.heap.size ≠ H := by omega
    obtain ⟨x0, x1, x2, x3, x4, x5, x6, -⟩ := cells7 hH6
    go_region_held3 (fun W' => W'.cell? ⟨H, 0, none⟩ = some (.int .i64 5) ∧ W'.cell? ⟨H, 1, none⟩ = some (.int .i64 (((m : Int) % 20 + 1) + 1)) ∧ W'.cell? ⟨H, 2, none⟩ = some (.int .i64 ((m : Int) % 20 + 1)) ∧ W'.cell? ⟨H, 3, none⟩ = some (.int .i64 0) ∧ W'.cell? ⟨H, 4, none⟩ = some (.int .i64 0) ∧ W'.cell? ⟨H, 5, none⟩ = some (.int .i64 0) ∧ W'.cell? ⟨H, 6, none⟩ = some (.slice ha L.length hcp)) (go_keep) (first
      | (go_at_call 34; ((with_reducible refine (GA2.out _).mono ?_); rintro e w7b ⟨pa, pcap, rfl, hPE, hB7, -⟩; have hX7 : Below w8a.heap.size w8a w7b := (by first | exact hB7 | exact bel2 (Below.refl _ _).drew hB7 | exact bel2 (bel_alloc (Below.refl _ _) _) hB7 | exact bel2 (bel_alloc (Below.refl _ _).drew _) hB7); have n3 : H ≠ w7b.heap.size := (by have := hX7.size; omega); have n4 : w7b.heap.size ≠ H := (by have := hX7.size; omega); obtain ⟨z0, z1, z2, z3, z4, z5, z6, -⟩ := KHb.out w7b hX7; try (have hz7 : w7b.heap[w8a.heap.size]? = some (.cells #[.int .i64 0, .int .i64 0, .int .i64 0, .int .i64 0, .int .i64 0, .int .i64 0, .slice none 0 0] 26 (0, 0)) := (by first | exact (hB7.block _ (by simp)).trans (World.alloc_heap_new w8a _) | exact (hB7.block _ (by simp)).trans (World.alloc_heap_new w8a.drew _)))))
      | (go_at_call 22; ((with_reducible refine (GD2.out _ _ _ _ _ ?hg ?hp).mono ?_); (case hg => first | exact hHH6.below hX7 | exact (hHH6.below hX7.drew) | exact hHH6.below (hX7.trans (bel_alloc (Below.refl w7b.heap.size w7b) _ |>.mono hX7.size))); (case hp => first | exact hPE | exact hPE.below (Below.refl _ _).drew | exact hPE.below (bel_alloc (Below.refl _ _) _)); rintro e w9b ⟨iab, icpb, rfl, hHIb, hB9, hHN⟩; have hX9 : Below w8a.heap.size w8a w9b := (by first | exact bel2 hX7 hB9 | exact bel2 hX7.drew hB9 | exact bel2 (hX7.trans (bel_alloc (Below.refl w7b.heap.size w7b) _ |>.mono hX7.size)) hB9); obtain ⟨y0, y1, y2, y3, y4, y5, y6, -⟩ := KHb.out w9b hX9; (first | (have hz9 : w9b.heap[w8a.heap.size]? = some (.cells #[.int .i64 0, .int .i64 0, .int .i64 0, .int .i64 0, .int .i64 0, .int .i64 0, .slice none 0 0] 26 (0, 0)) := (hB9.block _ (by have := heap_lt hz7; simp; omega)).trans hz7; have hN9 : (∀ k, inBlkE iab l2.length k → ¬ k = w8a.heap.size) := (fun k hk e => by have h1 := hHN k hk; have h2 := heap_lt hz7; (try simp at h1); omega); obtain ⟨q0, q1, q2, q3, q4, q5, q6, -⟩ := cells7 hz9; have fq : (∀ i, w9b.frozen? ⟨w8a.heap.size, i, none⟩ = false) := (fun i => frozen_of_row _ _ i _ _ hz9)) | (have hz9 : w9b.heap[w7b.heap.size]? = some (.cells #[.int .i64 0, .int .i64 0, .int .i64 0, .int .i64 0, .int .i64 0, .int .i64 0, .slice none 0 0] 26 (0, 0)) := (by first | exact (hB9.block _ (by simp)).trans (World.alloc_heap_new w7b _)); have hN9 : (∀ k, inBlkE iab l2.length k → ¬ k = w7b.heap.size) := (fun k hk e => by have h1 := hHN k hk; simp at h1; omega); obtain ⟨q0, q1, q2, q3, q4, q5, q6, -⟩ := cells7 hz9; have fq : (∀ i, w9b.frozen? ⟨w7b.heap.size, i, none⟩ = false) := (fun i => frozen_of_row _ _ i _ _ hz9)) | skip))))
    all_goals first
      | (have hBz := bel_alloc (Below.refl w9b.heap.size w9b) (.cells #[.int .i64 5, .int .i64 (((m : Int) % 20 + 1) + 1), .int .i64 ((m : Int) % 20 + 1), .int .i64 0, .int .i64 0, .int .i64 0, .slice iab l2.length icpb] 26)
         have hi8b := World.alloc_heap_new w9b (.cells #[.int .i64 5, .int .i64 (((m : Int) % 20 + 1) + 1), .int .i64 ((m : Int) % 20 + 1), .int .i64 0, .int .i64 0, .int .i64 0, .slice iab l2.length icpb] 26)
         replace hHIb := hHIb.below hBz
         have hFz : FrameT (fun k => k = w9b.heap.size) w9b (w9b.alloc (.cells #[.int .i64 5, .int .i64 (((m : Int) % 20 + 1) + 1), .int .i64 ((m : Int) % 20 + 1), .int .i64 0, .int .i64 0, .int .i64 0, .slice iab l2.length icpb] 26)) := FrameT.below hBz
         have hHz : w8a.heap.size ≤ w9b.heap.size := hX9.size
         generalize (w9b.alloc (.cells #[.int .i64 5, .int .i64 (((m : Int) % 20 + 1) + 1), .int .i64 ((m : Int) % 20 + 1), .int .i64 0, .int .i64 0, .int .i64 0, .slice iab l2.length icpb] 26)) = w8b at *
         obtain ⟨Ib, hIe⟩ : ∃ Ib, Ib = w9b.heap.size := ⟨_, rfl⟩
         have hIbb : w8a.heap.size ≤ Ib := by omega
         rw [← hIe] at hi8b hFz ⊢
         clear hBz hIe)
      | (have hi8b := st7_block (b := w7b.heap.size) hz9 (.int .i64 5) (.int .i64 (((m : Int) % 20 + 1) + 1)) (.int .i64 ((m : Int) % 20 + 1)) (.int .i64 0) (.int .i64 0) (.int .i64 0) (.slice iab l2.length icpb)
         have hFz := st7_frame w9b w7b.heap.size (.int .i64 5) (.int .i64 (((m : Int) % 20 + 1) + 1)) (.int .i64 ((m : Int) % 20 + 1)) (.int .i64 0) (.int .i64 0) (.int .i64 0) (.slice iab l2.length icpb)
         replace hHIb : HasG (st7 w9b w7b.heap.size (.int .i64 5) (.int .i64 (((m : Int) % 20 + 1) + 1)) (.int .i64 ((m : Int) % 20 + 1)) (.int .i64 0) (.int .i64 0) (.int .i64 0) (.slice iab l2.length icpb)) iab _ := ⟨hHIb.1, rowV_frame hHIb.2 hFz (fun k hk h => hN9 k hk h)⟩
         simp only [st7] at hi8b hFz hHIb
         have hHz : w8a.heap.size ≤ w7b.heap.size := hX7.size
         generalize (((((((w9b.setCell ⟨w7b.heap.size, 0, none⟩ (.int .i64 5)).setCell ⟨w7b.heap.size, 1, none⟩ (.int .i64 (((m : Int) % 20 + 1) + 1))).setCell ⟨w7b.heap.size, 2, none⟩ (.int .i64 ((m : Int) % 20 + 1))).setCell ⟨w7b.heap.size, 3, none⟩ (.int .i64 0)).setCell ⟨w7b.heap.size, 4, none⟩ (.int .i64 0)).setCell ⟨w7b.heap.size, 5, none⟩ (.int .i64 0)).setCell ⟨w7b.heap.size, 6, none⟩ (.slice iab l2.length icpb)) = w8b at *
         obtain ⟨Ib, hIe⟩ : ∃ Ib, Ib = w7b.heap.size := ⟨_, rfl⟩
         have hIbb : w8a.heap.size ≤ Ib := by omega
         rw [← hIe] at hi8b hFz ⊢
         clear hIe)
      | (have hi8b := st7_block (b := w8a.heap.size) hz9 (.int .i64 5) (.int .i64 (((m : Int) % 20 + 1) + 1)) (.int .i64 ((m : Int) % 20 + 1)) (.int .i64 0) (.int .i64 0) (.int .i64 0) (.slice iab l2.length icpb)
         have hFz := st7_frame w9b w8a.heap.size (.int .i64 5) (.int .i64 (((m : Int) % 20 + 1) + 1)) (.int .i64 ((m : Int) % 20 + 1)) (.int .i64 0) (.int .i64 0) (.int .i64 0) (.slice iab l2.length icpb)
         replace hHIb : HasG (st7 w9b w8a.heap.size (.int .i64 5) (.int .i64 (((m : Int) % 20 + 1) + 1)) (.int .i64 ((m : Int) % 20 + 1)) (.int .i64 0) (.int .i64 0) (.int .i64 0) (.slice iab l2.length icpb)) iab _ := ⟨hHIb.1, rowV_frame hHIb.2 hFz (fun k hk h => hN9 k hk h)⟩
         simp only [st7] at hi8b hFz hHIb
         have hHz : w8a.heap.size ≤ w8a.heap.size := Nat.le_refl _
         generalize (((((((w9b.setCell ⟨w8a.heap.size, 0, none⟩ (.int .i64 5)).setCell ⟨w8a.heap.size, 1, none⟩ (.int .i64 (((m : Int) % 20 + 1) + 1))).setCell ⟨w8a.heap.size, 2, none⟩ (.int .i64 ((m : Int) % 20 + 1))).setCell ⟨w8a.heap.size, 3, none⟩ (.int .i64 0)).setCell ⟨w8a.heap.size, 4, none⟩ (.int .i64 0)).setCell ⟨w8a.heap.size, 5, none⟩ (.int .i64 0)).setCell ⟨w8a.heap.size, 6, none⟩ (.slice iab l2.length icpb)) = w8b at *
         obtain ⟨Ib, hIe⟩ : ∃ Ib, Ib = w8a.heap.size := ⟨_, rfl⟩
         have hIbb : w8a.heap.size ≤ Ib := by omega
         rw [← hIe] at hi8b hFz ⊢
         clear hIe)
    all_goals
      have hX8b : Below w8a.heap.size w8a w8b := hX9.trans (hFz.toBelow hX9.size (fun k h => by omega))
      clear x0 x1 x2 x3 x4 x5 x6 y0 y1 y2 y3 y4 y5 y6 z0 z1 z2 z3 z4 z5 z6 KHb hFz hX9 hX7 hB9 hB7 hPE hHN n1 n2 n3 n4 GA2 GD2 hHz
      try clear hz9 hN9 q0 q1 q2 q3 q4 q5 q6 fq
      try clear hz7
      have hH7 := (hX8b.block _ hHl6).trans hH6
      have hHH7 := hHH6.below hX8b
      have hA7 := bel2 hA6 hX8b
      clear hX8b hHH6 hA6 hH6
      have KA := Lib.hid (fun W' (hW : Below w8b.heap.size w8b W') => And.intro (cells7 ((hW.block _ (heap_lt hH7)).trans hH7)) (cells7 ((hW.block _ (heap_lt hi8b)).trans hi8b)))
      obtain ⟨⟨x0, x1, x2, x3, x4, x5, x6, -⟩, ⟨y0, y1, y2, y3, y4, y5, y6, -⟩⟩ := KA.out _ (Below.refl _ _)
      go_wp2_with (first
        | (go_at_call 25; ((with_reducible refine (GL.out _ _ _ hHH7).mono ?_); rintro e w10 ⟨rfl, hB10⟩; clear x0 x1 x2 x3 x4 x5 x6 y0 y1 y2 y3 y4 y5 y6; obtain ⟨⟨x0, x1, x2, x3, x4, x5, x6, -⟩, ⟨y0, y1, y2, y3, y4, y5, y6, -⟩⟩ := KA.out _ hB10; have hHI10 := hHIb.below hB10))
        | (go_at_call 25; ((with_reducible refine (GL2.out _ _ _ hHI10).mono ?_); rintro e w11 ⟨rfl, hB11⟩; have hB12 := bel2 hB10 hB11; clear x0 x1 x2 x3 x4 x5 x6 y0 y1 y2 y3 y4 y5 y6; obtain ⟨⟨x0, x1, x2, x3, x4, x5, x6, -⟩, ⟨y0, y1, y2, y3, y4, y5, y6, -⟩⟩ := KA.out _ hB12; have hHI11 := hHI10.below hB11))
        | (go_at_call 16; ((with_reducible refine (GI2.out _ _ _ hHI11).mono ?_); rintro e w13 ⟨rfl, hB13⟩; have hA13 := bel2 hA7 (bel2 hB12 hB13))))
      go_ret
      exact ⟨by simp, hA13⟩

set_option maxRecDepth 100000 in
set_option maxHeartbeats 4000000 in
theorem snap_c (n m : Nat) (hn : n < 256) (hm : m < 256)  (w : World) : Calls Try.prog 9 #[.int .u8 n, .int .u8 m, .bool false] w fun e w' => e = .returned (.bool true) ∧ Below w.heap.size w w' := by
  have GK := Lib.hid group_known
  have GG := Lib.hid (fun W => grown_any 5 ⟨by omega, by omega⟩ (n % 12 + 1) (by omega) W)
  rw [show ((n % 12 + 1 : Nat) : Int) = ((n : Int) % 12 + 1) by omega] at GG
  obtain ⟨k, hk⟩ : ∃ k, k = n % 12 + 1 := ⟨_, rfl⟩
  rw [← hk] at GG
  have hkI : ((n : Int) % 12 + 1) = (k : Int) := by omega
  have hk12 : k ≤ 12 := by omega
  obtain ⟨L, hcz, hdo, hIH, hdL, hLl, hL12⟩ := snap_fact k hk12 ((m : Int) % 20 + 1) (((m : Int) % 20 + 1) + 30) ((m : Int) % 20 + 1) ⟨by omega, by omega⟩ ⟨by omega, by omega⟩ (.inr (.inr ⟨rfl, rfl⟩))
  have hIG := gr_isG (id := 5) ⟨by omega, by omega⟩ (k := k) (by omega)
  have hll := grL_len k
  unfold GrownPost at GG
  have GD := Lib.hid (fun a cap W (hg : HasG W a ⟨5, 1, 0, 0, 0, 0, grL k⟩) => (show Calls Try.prog 22 #[.agg #[.int .i64 5, .int .i64 1, .int .i64 0, .int .i64 0, .int .i64 0, .int .i64 0, .slice a (grL k).length cap], .agg #[.int .i64 5, .int .i64 4, .slice none 0 0, .int .i64 0, .int .i64 0, .int .i64 0, .int .i64 ((m : Int) % 20 + 1), .int .i64 (((m : Int) % 20 + 1) + 30), .bool false, .bool false]] W (fun e w' => ∃ ha hcp, e = .returned (.tuple #[.agg #[.int .i64 5, .int .i64 (((m : Int) % 20 + 1) + 1), .int .i64 (((m : Int) % 20 + 1) + 30), .int .i64 0, .int .i64 0, .int .i64 0, .slice ha L.length hcp], .int .i64 0]) ∧ HasG w' ha ⟨5, ((m : Int) % 20 + 1) + 1, (((m : Int) % 20 + 1) + 30), 0, 0, 0, L⟩ ∧ Below W.heap.size W w' ∧ ∀ b, inBlkE ha L.length b → W.heap.size ≤ b) from by
    have := do_any 5 1 0 0 0 0 (grL k) a cap 5 4 none 0 0 0 0 0 ((m : Int) % 20 + 1) (((m : Int) % 20 + 1) + 30) false false [] W hg hIG (hasE_nil rfl rfl) (by omega)
    rw [hcz, hdo] at this
    exact this))
  generalize grL k = l at *
  have GT := Lib.hid (fun a cap W (hg : HasG W a ⟨5, ((m : Int) % 20 + 1) + 1, (((m : Int) % 20 + 1) + 30), 0, 0, 0, L⟩) => (show Gives Try.prog 27 #[.agg #[.int .i64 5, .int .i64 (((m : Int) % 20 + 1) + 1), .int .i64 (((m : Int) % 20 + 1) + 30), .int .i64 0, .int .i64 0, .int .i64 0, .slice a L.length cap], .int .i64 ((m : Int) % 20 + 1)] W (.tuple #[.int .i64 (((m : Int) % 20 + 1) + 30), .int .i64 0]) from by
    have := term_any 5 (((m : Int) % 20 + 1) + 1) (((m : Int) % 20 + 1) + 30) 0 0 0 L a cap ((m : Int) % 20 + 1) W hg hIH
    rwa [show termG ⟨5, ((m : Int) % 20 + 1) + 1, (((m : Int) % 20 + 1) + 30), 0, 0, 0, L⟩ ((m : Int) % 20 + 1) = ((((m : Int) % 20 + 1) + 30), 0) by unfold termG; dsimp only; rw [if_neg (by omega), if_neg (by omega), if_pos (by omega)]] at this))
  have GL := Lib.hid (fun a cap W (hg : HasG W a ⟨5, ((m : Int) % 20 + 1) + 1, (((m : Int) % 20 + 1) + 30), 0, 0, 0, L⟩) => (show Gives Try.prog 25 #[.agg #[.int .i64 5, .int .i64 (((m : Int) % 20 + 1) + 1), .int .i64 (((m : Int) % 20 + 1) + 30), .int .i64 0, .int .i64 0, .int .i64 0, .slice a L.length cap]] W (.int .i64 ((m : Int) % 20 + 1)) from by
    have := last_any 5 (((m : Int) % 20 + 1) + 1) (((m : Int) % 20 + 1) + 30) 0 0 0 L a cap W hg hIH
    rwa [show ((m : Int) % 20 + 1) + 1 - 1 + (L.length : Int) = ((m : Int) % 20 + 1) by omega] at this))
  have hwb : 1 ≤ ((m : Int) % 20 + 1) ∧ ((m : Int) % 20 + 1) ≤ 32 := by omega
  have hz1 : (IntKind.i64.wrap (((m : Int) % 20 + 1) + 2)) = ((m : Int) % 20 + 1) + 2 := IntWalk.i64_in _ (by omega)
  have hz2 : (IntKind.i64.wrap (((m : Int) % 20 + 1) + 1)) = ((m : Int) % 20 + 1) + 1 := IntWalk.i64_in _ (by omega)
  have GA1 := Lib.hid (fun W => (show Calls Try.prog 34 #[.int .i64 5, .int .i64 (IntKind.i64.wrap (((m : Int) % 20 + 1) + 2)), .int .i64 90, .int .i64 1] W (AppPost W 5 (((m : Int) % 20 + 1) + 2) 90 1) from by rw [hz1]; exact app_any 5 (((m : Int) % 20 + 1) + 2) 90 1 (by omega) (by omega) (by omega) W))
  have GA2 := Lib.hid (fun W => (show Calls Try.prog 34 #[.int .i64 5, .int .i64 (IntKind.i64.wrap (((m : Int) % 20 + 1) + 1)), .int .i64 90, .int .i64 1] W (AppPost W 5 (((m : Int) % 20 + 1) + 1) 90 1) from by rw [hz2]; exact app_any 5 (((m : Int) % 20 + 1) + 1) 90 1 (by omega) (by omega) (by omega) W))
  have hT1 : 1 ≤ (((m : Int) % 20 + 1) + 30) ∧ (((m : Int) % 20 + 1) + 30) ≤ 50 := by omega
  have hgap : ∀ pa pcap, chkG ⟨5, ((m : Int) % 20 + 1) + 1, (((m : Int) % 20 + 1) + 30), 0, 0, 0, L⟩ (⟨5, 1, pa, 1, pcap, 0, 0, 0, 0, 0, false, false⟩ : PartC) (appL (((m : Int) % 20 + 1) + 2) 90 1) = 14 := fun pa pcap => by
    have hI := app_is (id := 5) (i := ((m : Int) % 20 + 1) + 2) (t := 90) (n := 1) pa pcap (by omega) (by omega) (by omega) (by omega) (by omega) (by omega)
    unfold chkG
    rw [if_neg (by rw [hI]; simp), if_pos rfl, app_head (by omega)]
    unfold chkA lastG
    dsimp only
    rw [if_neg (by omega), if_pos (by omega)]
  have GD1 := Lib.hid (fun a cap W pa pcap (hg : HasG W a ⟨5, ((m : Int) % 20 + 1) + 1, (((m : Int) % 20 + 1) + 30), 0, 0, 0, L⟩) (hp : HasE W (⟨5, 1, pa, 1, pcap, 0, 0, 0, 0, 0, false, false⟩ : PartC) (appL (((m : Int) % 20 + 1) + 2) 90 1)) => (show Calls Try.prog 22 #[.agg #[.int .i64 5, .int .i64 (((m : Int) % 20 + 1) + 1), .int .i64 (((m : Int) % 20 + 1) + 30), .int .i64 0, .int .i64 0, .int .i64 0, .slice a L.length cap], .agg #[.int .i64 5, .int .i64 1, .slice pa 1 pcap, .int .i64 0, .int .i64 0, .int .i64 0, .int .i64 0, .int .i64 0, .bool false, .bool false]] W (fun e w' => ∃ ha hcp, e = .returned (.tuple #[.agg #[.int .i64 5, .int .i64 (((m : Int) % 20 + 1) + 1), .int .i64 (((m : Int) % 20 + 1) + 30), .int .i64 0, .int .i64 0, .int .i64 0, .slice ha L.length hcp], .int .i64 14]) ∧ HasG w' ha ⟨5, ((m : Int) % 20 + 1) + 1, (((m : Int) % 20 + 1) + 30), 0, 0, 0, L⟩ ∧ Below W.heap.size W w' ∧ ∀ b, inBlkE ha L.length b → W.heap.size ≤ b) from by
    have := do_any 5 (((m : Int) % 20 + 1) + 1) (((m : Int) % 20 + 1) + 30) 0 0 0 L a cap 5 1 pa 1 pcap 0 0 0 0 0 false false (appL (((m : Int) % 20 + 1) + 2) 90 1) W hg hIH hp (by omega)
    rw [hgap, show doG ⟨5, ((m : Int) % 20 + 1) + 1, (((m : Int) % 20 + 1) + 30), 0, 0, 0, L⟩ (⟨5, 1, pa, 1, pcap, 0, 0, 0, 0, 0, false, false⟩ : PartC) (appL (((m : Int) % 20 + 1) + 2) 90 1) = ⟨5, ((m : Int) % 20 + 1) + 1, (((m : Int) % 20 + 1) + 30), 0, 0, 0, L⟩ from if_pos (by rw [hgap]; decide)] at this
    exact this))
  obtain ⟨l2, hl2⟩ : ∃ l2, l2 = L ++ appL (((m : Int) % 20 + 1) + 1) 90 1 := ⟨_, rfl⟩
  have hdo2 : ∀ pa pcap, chkG ⟨5, ((m : Int) % 20 + 1) + 1, (((m : Int) % 20 + 1) + 30), 0, 0, 0, L⟩ (⟨5, 1, pa, 1, pcap, 0, 0, 0, 0, 0, false, false⟩ : PartC) (appL (((m : Int) % 20 + 1) + 1) 90 1) = 0 ∧ doG ⟨5, ((m : Int) % 20 + 1) + 1, (((m : Int) % 20 + 1) + 30), 0, 0, 0, L⟩ (⟨5, 1, pa, 1, pcap, 0, 0, 0, 0, 0, false, false⟩ : PartC) (appL (((m : Int) % 20 + 1) + 1) 90 1) = ⟨5, ((m : Int) % 20 + 1) + 1, (((m : Int) % 20 + 1) + 30), 0, 0, 0, l2⟩ := fun pa pcap => by
    have hz := app_do (te := (((m : Int) % 20 + 1) + 30)) (ht := 0) (hv := 0) (hc := 0) (i := ((m : Int) % 20 + 1) + 1) (t := 90) (n := 1) (l := L) pa pcap (id := 5) ⟨by omega, by omega⟩ (fi := ((m : Int) % 20 + 1) + 1) ⟨by omega, by omega⟩ hdL ⟨by omega, by omega⟩ (by omega) (by omega) (by omega) (by omega) (by omega)
    refine ⟨hz.1, hz.2.trans ?_⟩
    rw [List.take_of_length_le (by omega), ← hl2]
  have hI2 : isG ⟨5, ((m : Int) % 20 + 1) + 1, (((m : Int) % 20 + 1) + 30), 0, 0, 0, l2⟩ = true := by
    have := (doG_isG (g := ⟨5, ((m : Int) % 20 + 1) + 1, (((m : Int) % 20 + 1) + 30), 0, 0, 0, L⟩) (p := ⟨5, 1, none, 1, 0, 0, 0, 0, 0, 0, false, false⟩) (pl := appL (((m : Int) % 20 + 1) + 1) 90 1) hIH (by show L.length ≤ _; omega) (appL_len _ _ _)).1
    rwa [(hdo2 none 0).2] at this
  have hl2l : (l2.length : Int) = (L.length : Int) + 1 := by rw [hl2, List.length_append, appL_len]; push_cast; omega
  have GD2 := Lib.hid (fun a cap W pa pcap (hg : HasG W a ⟨5, ((m : Int) % 20 + 1) + 1, (((m : Int) % 20 + 1) + 30), 0, 0, 0, L⟩) (hp : HasE W (⟨5, 1, pa, 1, pcap, 0, 0, 0, 0, 0, false, false⟩ : PartC) (appL (((m : Int) % 20 + 1) + 1) 90 1)) => (show Calls Try.prog 22 #[.agg #[.int .i64 5, .int .i64 (((m : Int) % 20 + 1) + 1), .int .i64 (((m : Int) % 20 + 1) + 30), .int .i64 0, .int .i64 0, .int .i64 0, .slice a L.length cap], .agg #[.int .i64 5, .int .i64 1, .slice pa 1 pcap, .int .i64 0, .int .i64 0, .int .i64 0, .int .i64 0, .int .i64 0, .bool false, .bool false]] W (fun e w' => ∃ ha hcp, e = .returned (.tuple #[.agg #[.int .i64 5, .int .i64 (((m : Int) % 20 + 1) + 1), .int .i64 (((m : Int) % 20 + 1) + 30), .int .i64 0, .int .i64 0, .int .i64 0, .slice ha l2.length hcp], .int .i64 0]) ∧ HasG w' ha ⟨5, ((m : Int) % 20 + 1) + 1, (((m : Int) % 20 + 1) + 30), 0, 0, 0, l2⟩ ∧ Below W.heap.size W w' ∧ ∀ b, inBlkE ha l2.length b → W.heap.size ≤ b) from by
    have := do_any 5 (((m : Int) % 20 + 1) + 1) (((m : Int) % 20 + 1) + 30) 0 0 0 L a cap 5 1 pa 1 pcap 0 0 0 0 0 false false (appL (((m : Int) % 20 + 1) + 1) 90 1) W hg hIH hp (by omega)
    rw [(hdo2 pa pcap).1, (hdo2 pa pcap).2] at this
    exact this))
  have GL2 := Lib.hid (fun a cap W (hg : HasG W a ⟨5, ((m : Int) % 20 + 1) + 1, (((m : Int) % 20 + 1) + 30), 0, 0, 0, l2⟩) => (show Gives Try.prog 25 #[.agg #[.int .i64 5, .int .i64 (((m : Int) % 20 + 1) + 1), .int .i64 (((m : Int) % 20 + 1) + 30), .int .i64 0, .int .i64 0, .int .i64 0, .slice a l2.length cap]] W (.int .i64 (((m : Int) % 20 + 1) + 1)) from by
    have := last_any 5 (((m : Int) % 20 + 1) + 1) (((m : Int) % 20 + 1) + 30) 0 0 0 l2 a cap W hg hI2
    rwa [show ((m : Int) % 20 + 1) + 1 - 1 + (l2.length : Int) = ((m : Int) % 20 + 1) + 1 by omega] at this))
  have GI2 := Lib.hid (fun a cap W (hg : HasG W a ⟨5, ((m : Int) % 20 + 1) + 1, (((m : Int) % 20 + 1) + 30), 0, 0, 0, l2⟩) => (show Gives Try.prog 16 #[.agg #[.int .i64 5, .int .i64 (((m : Int) % 20 + 1) + 1), .int .i64 (((m : Int) % 20 + 1) + 30), .int .i64 0, .int .i64 0, .int .i64 0, .slice a l2.length cap]] W (.bool true) from by
    have := refIsG_any 5 (((m : Int) % 20 + 1) + 1) (((m : Int) % 20 + 1) + 30) 0 0 0 l2 a cap W hg
    rwa [hI2] at this))
  clear hl2 hIH hIG hI2 hkI hll hk hz1 hz2 hdL hLl hL12 hcz hdo hl2l hgap hdo2 hk12 hT1 hwb
  go_enter Try.func9, Try.ntmps9
  go_wp2_with (first
    | (go_at_call 12; ((with_reducible refine (GK.out _).mono ?_); rintro e w1 ⟨rfl, hB1⟩))
    | (go_at_call 33; ((with_reducible refine (GG.out _).mono ?_); rintro e w2 ⟨a, cap, rfl, hHG, hB2, -⟩))
    | (go_at_call 22; ((with_reducible refine (GD.out _ _ _ (hHG.below (bel_alloc (Below.refl w2.heap.size w2) _))).mono ?_); rintro e w3 ⟨ha, hcp, rfl, hHH, hB3, -⟩; have hB4 := bel_alloc (Below.refl w3.heap.size w3) (.cells #[.int .i64 5, .int .i64 (((m : Int) % 20 + 1) + 1), .int .i64 (((m : Int) % 20 + 1) + 30), .int .i64 0, .int .i64 0, .int .i64 0, .slice ha L.length hcp] 26); have hHb := World.alloc_heap_new w3 (.cells #[.int .i64 5, .int .i64 (((m : Int) % 20 + 1) + 1), .int .i64 (((m : Int) % 20 + 1) + 30), .int .i64 0, .int .i64 0, .int .i64 0, .slice ha L.length hcp] 26); replace hHH := hHH.below hB4))
    | (go_at_call 27; ((with_reducible refine (GT.out _ _ _ hHH).mono ?_); rintro e w5 ⟨rfl, hB5⟩; have hA5 : Below w.heap.size w w5 := bel2 (bel2 (bel2 (bel2 (bel2 hB1 hB2) (bel_alloc (Below.refl _ _) _)) hB3) hB4) hB5; have hHlt := heap_lt hHb; have hH5 := (hB5.block _ hHlt).trans hHb; replace hHH := hHH.below hB5)))
  clear GK GG GD GT hB1 hB2 hB3 hB4 hB5 hHb hHG
  obtain ⟨H, hHe⟩ : ∃ H, H = w3.heap.size := ⟨_, rfl⟩
  rw [← hHe] at hH5 hHlt
  rw [← hHe]
  clear hHe
  have hHl5 := heap_lt hH5
  have KHa := Lib.hid (fun W' (hW : Below w5.heap.size w5 W') => cells7 ((hW.block _ hHl5).trans hH5))
  have n1 : H ≠ w5.heap.size := by omega
  have n2 : w5.heap.size ≠ H := by omega
  obtain ⟨x0, x1, x2, x3, x4, x5, x6, -⟩ := cells7 hH5
  go_region_held3 (fun W' => W'.cell? ⟨H, 0, none⟩ = some (.int .i64 5) ∧ W'.cell? ⟨H, 1, none⟩ = some (.int .i64 (((m : Int) % 20 + 1) + 1)) ∧ W'.cell? ⟨H, 2, none⟩ = some (.int .i64 (((m : Int) % 20 + 1) + 30)) ∧ W'.cell? ⟨H, 3, none⟩ = some (.int .i64 0) ∧ W'.cell? ⟨H, 4, none⟩ = some (.int .i64 0) ∧ W'.cell? ⟨H, 5, none⟩ = some (.int .i64 0) ∧ W'.cell? ⟨H, 6, none⟩ = some (.slice ha L.length hcp)) (go_keep) (first
    | (go_at_call 34; ((with_reducible refine (GA1.out _).mono ?_); rintro e w7a ⟨pa, pcap, rfl, hPE, hB7, -⟩; have hX7 : Below w5.heap.size w5 w7a := (by first | exact hB7 | exact bel2 (Below.refl _ _).drew hB7 | exact bel2 (bel_alloc (Below.refl _ _) _) hB7 | exact bel2 (bel_alloc (Below.refl _ _).drew _) hB7); have n3 : H ≠ w7a.heap.size := (by have := hX7.size; omega); have n4 : w7a.heap.size ≠ H := (by have := hX7.size; omega); obtain ⟨z0, z1, z2, z3, z4, z5, z6, -⟩ := KHa.out w7a hX7; try (have hz7 : w7a.heap[w5.heap.size]? = some (.cells #[.int .i64 0, .int .i64 0, .int .i64 0, .int .i64 0, .int .i64 0, .int .i64 0, .slice none 0 0] 26 (0, 0)) := (by first | exact (hB7.block _ (by simp)).trans (World.alloc_heap_new w5 _) | exact (hB7.block _ (by simp)).trans (World.alloc_heap_new w5.drew _)))))
    | (go_at_call 22; ((with_reducible refine (GD1.out _ _ _ _ _ ?hg ?hp).mono ?_); (case hg => first | exact hHH.below hX7 | exact (hHH.below hX7.drew) | exact hHH.below (hX7.trans (bel_alloc (Below.refl w7a.heap.size w7a) _ |>.mono hX7.size))); (case hp => first | exact hPE | exact hPE.below (Below.refl _ _).drew | exact hPE.below (bel_alloc (Below.refl _ _) _)); rintro e w9a ⟨iaa, icpa, rfl, hHIa, hB9, hHN⟩; have hX9 : Below w5.heap.size w5 w9a := (by first | exact bel2 hX7 hB9 | exact bel2 hX7.drew hB9 | exact bel2 (hX7.trans (bel_alloc (Below.refl w7a.heap.size w7a) _ |>.mono hX7.size)) hB9); obtain ⟨y0, y1, y2, y3, y4, y5, y6, -⟩ := KHa.out w9a hX9; (first | (have hz9 : w9a.heap[w5.heap.size]? = some (.cells #[.int .i64 0, .int .i64 0, .int .i64 0, .int .i64 0, .int .i64 0, .int .i64 0, .slice none 0 0] 26 (0, 0)) := (hB9.block _ (by have := heap_lt hz7; simp; omega)).trans hz7; have hN9 : (∀ k, inBlkE iaa L.length k → ¬ k = w5.heap.size) := (fun k hk e => by have h1 := hHN k hk; have h2 := heap_lt hz7; (try simp at h1); omega); obtain ⟨q0, q1, q2, q3, q4, q5, q6, -⟩ := cells7 hz9; have fq : (∀ i, w9a.frozen? ⟨w5.heap.size, i, none⟩ = false) := (fun i => frozen_of_row _ _ i _ _ hz9)) | (have hz9 : w9a.heap[w7a.heap.size]? = some (.cells #[.int .i64 0, .int .i64 0, .int .i64 0, .int .i64 0, .int .i64 0, .int .i64 0, .slice none 0 0] 26 (0, 0)) := (by first | exact (hB9.block _ (by simp)).trans (World.alloc_heap_new w7a _)); have hN9 : (∀ k, inBlkE iaa L.length k → ¬ k = w7a.heap.size) := (fun k hk e => by have h1 := hHN k hk; simp at h1; omega); obtain ⟨q0, q1, q2, q3, q4, q5, q6, -⟩ := cells7 hz9; have fq : (∀ i, w9a.frozen? ⟨w7a.heap.size, i, none⟩ = false) := (fun i => frozen_of_row _ _ i _ _ hz9)) | skip))))
  all_goals first
    | (have hBz := bel_alloc (Below.refl w9a.heap.size w9a) (.cells #[.int .i64 5, .int .i64 (((m : Int) % 20 + 1) + 1), .int .i64 (((m : Int) % 20 + 1) + 30), .int .i64 0, .int .i64 0, .int .i64 0, .slice iaa L.length icpa] 26)
       have hi8a := World.alloc_heap_new w9a (.cells #[.int .i64 5, .int .i64 (((m : Int) % 20 + 1) + 1), .int .i64 (((m : Int) % 20 + 1) + 30), .int .i64 0, .int .i64 0, .int .i64 0, .slice iaa L.length icpa] 26)
       replace hHIa := hHIa.below hBz
       have hFz : FrameT (fun k => k = w9a.heap.size) w9a (w9a.alloc (.cells #[.int .i64 5, .int .i64 (((m : Int) % 20 + 1) + 1), .int .i64 (((m : Int) % 20 + 1) + 30), .int .i64 0, .int .i64 0, .int .i64 0, .slice iaa L.length icpa] 26)) := FrameT.below hBz
       have hHz : w5.heap.size ≤ w9a.heap.size := hX9.size
       generalize (w9a.alloc (.cells #[.int .i64 5, .int .i64 (((m : Int) % 20 + 1) + 1), .int .i64 (((m : Int) % 20 + 1) + 30), .int .i64 0, .int .i64 0, .int .i64 0, .slice iaa L.length icpa] 26)) = w8a at *
       obtain ⟨Ia, hIe⟩ : ∃ Ia, Ia = w9a.heap.size := ⟨_, rfl⟩
       have hIba : w5.heap.size ≤ Ia := by omega
       rw [← hIe] at hi8a hFz ⊢
       clear hBz hIe)
    | (have hi8a := st7_block (b := w7a.heap.size) hz9 (.int .i64 5) (.int .i64 (((m : Int) % 20 + 1) + 1)) (.int .i64 (((m : Int) % 20 + 1) + 30)) (.int .i64 0) (.int .i64 0) (.int .i64 0) (.slice iaa L.length icpa)
       have hFz := st7_frame w9a w7a.heap.size (.int .i64 5) (.int .i64 (((m : Int) % 20 + 1) + 1)) (.int .i64 (((m : Int) % 20 + 1) + 30)) (.int .i64 0) (.int .i64 0) (.int .i64 0) (.slice iaa L.length icpa)
       replace hHIa : HasG (st7 w9a w7a.heap.size (.int .i64 5) (.int .i64 (((m : Int) % 20 + 1) + 1)) (.int .i64 (((m : Int) % 20 + 1) + 30)) (.int .i64 0) (.int .i64 0) (.int .i64 0) (.slice iaa L.length icpa)) iaa _ := ⟨hHIa.1, rowV_frame hHIa.2 hFz (fun k hk h => hN9 k hk h)⟩
       simp only [st7] at hi8a hFz hHIa
       have hHz : w5.heap.size ≤ w7a.heap.size := hX7.size
       generalize (((((((w9a.setCell ⟨w7a.heap.size, 0, none⟩ (.int .i64 5)).setCell ⟨w7a.heap.size, 1, none⟩ (.int .i64 (((m : Int) % 20 + 1) + 1))).setCell ⟨w7a.heap.size, 2, none⟩ (.int .i64 (((m : Int) % 20 + 1) + 30))).setCell ⟨w7a.heap.size, 3, none⟩ (.int .i64 0)).setCell ⟨w7a.heap.size, 4, none⟩ (.int .i64 0)).setCell ⟨w7a.heap.size, 5, none⟩ (.int .i64 0)).setCell ⟨w7a.heap.size, 6, none⟩ (.slice iaa L.length icpa)) = w8a at *
       obtain ⟨Ia, hIe⟩ : ∃ Ia, Ia = w7a.heap.size := ⟨_, rfl⟩
       have hIba : w5.heap.size ≤ Ia := by omega
       rw [← hIe] at hi8a hFz ⊢
       clear hIe)
    | (have hi8a := st7_block (b := w5.heap.size) hz9 (.int .i64 5) (.int .i64 (((m : Int) % 20 + 1) + 1)) (.int .i64 (((m : Int) % 20 + 1) + 30)) (.int .i64 0) (.int .i64 0) (.int .i64 0) (.slice iaa L.length icpa)
       have hFz := st7_frame w9a w5.heap.size (.int .i64 5) (.int .i64 (((m : Int) % 20 + 1) + 1)) (.int .i64 (((m : Int) % 20 + 1) + 30)) (.int .i64 0) (.int .i64 0) (.int .i64 0) (.slice iaa L.length icpa)
       replace hHIa : HasG (st7 w9a w5.heap.size (.int .i64 5) (.int .i64 (((m : Int) % 20 + 1) + 1)) (.int .i64 (((m : Int) % 20 + 1) + 30)) (.int .i64 0) (.int .i64 0) (.int .i64 0) (.slice iaa L.length icpa)) iaa _ := ⟨hHIa.1, rowV_frame hHIa.2 hFz (fun k hk h => hN9 k hk h)⟩
       simp only [st7] at hi8a hFz hHIa
       have hHz : w5.heap.size ≤ w5.heap.size := Nat.le_refl _
       generalize (((((((w9a.setCell ⟨w5.heap.size, 0, none⟩ (.int .i64 5)).setCell ⟨w5.heap.size, 1, none⟩ (.int .i64 (((m : Int) % 20 + 1) + 1))).setCell ⟨w5.heap.size, 2, none⟩ (.int .i64 (((m : Int) % 20 + 1) + 30))).setCell ⟨w5.heap.size, 3, none⟩ (.int .i64 0)).setCell ⟨w5.heap.size, 4, none⟩ (.int .i64 0)).setCell ⟨w5.heap.size, 5, none⟩ (.int .i64 0)).setCell ⟨w5.heap.size, 6, none⟩ (.slice iaa L.length icpa)) = w8a at *
       obtain ⟨Ia, hIe⟩ : ∃ Ia, Ia = w5.heap.size := ⟨_, rfl⟩
       have hIba : w5.heap.size ≤ Ia := by omega
       rw [← hIe] at hi8a hFz ⊢
       clear hIe)
  all_goals
    have hX8a : Below w5.heap.size w5 w8a := hX9.trans (hFz.toBelow hX9.size (fun k h => by omega))
    clear x0 x1 x2 x3 x4 x5 x6 y0 y1 y2 y3 y4 y5 y6 z0 z1 z2 z3 z4 z5 z6 KHa hFz hX9 hX7 hB9 hB7 hPE hHN n1 n2 n3 n4 GA1 GD1 hHz
    try clear hz9 hN9 q0 q1 q2 q3 q4 q5 q6 fq
    try clear hz7
    have hH6 := (hX8a.block _ hHl5).trans hH5
    have hHH6 := hHH.below hX8a
    have hA6 := bel2 hA5 hX8a
    clear hX8a hHIa hi8a hH5 hHH hA5 hIba
    have hHl6 := heap_lt hH6
    go_wp2
    have KHb := Lib.hid (fun W' (hW : Below w8a.heap.size w8a W') => cells7 ((hW.block _ hHl6).trans hH6))
    have n1 : H ≠ w8a.heap.size := by omega
    have n2 : w8a.heap.size ≠ H := by omega
    obtain ⟨x0, x1, x2, x3, x4, x5, x6, -⟩ := cells7 hH6
    go_region_held3 (fun W' => W'.cell? ⟨H, 0, none⟩ = some (.int .i64 5) ∧ W'.cell? ⟨H, 1, none⟩ = some (.int .i64 (((m : Int) % 20 + 1) + 1)) ∧ W'.cell? ⟨H, 2, none⟩ = some (.int .i64 (((m : Int) % 20 + 1) + 30)) ∧ W'.cell? ⟨H, 3, none⟩ = some (.int .i64 0) ∧ W'.cell? ⟨H, 4, none⟩ = some (.int .i64 0) ∧ W'.cell? ⟨H, 5, none⟩ = some (.int .i64 0) ∧ W'.cell? ⟨H, 6, none⟩ = some (.slice ha L.length hcp)) (go_keep) (first
      | (go_at_call 34; ((with_reducible refine (GA2.out _).mono ?_); rintro e w7b ⟨pa, pcap, rfl, hPE, hB7, -⟩; have hX7 : Below w8a.heap.size w8a w7b := (by first | exact hB7 | exact bel2 (Below.refl _ _).drew hB7 | exact bel2 (bel_alloc (Below.refl _ _) _) hB7 | exact bel2 (bel_alloc (Below.refl _ _).drew _) hB7); have n3 : H ≠ w7b.heap.size := (by have := hX7.size; omega); have n4 : w7b.heap.size ≠ H := (by have := hX7.size; omega); obtain ⟨z0, z1, z2, z3, z4, z5, z6, -⟩ := KHb.out w7b hX7; try (have hz7 : w7b.heap[w8a.heap.size]? = some (.cells #[.int .i64 0, .int .i64 0, .int .i64 0, .int .i64 0, .int .i64 0, .int .i64 0, .slice none 0 0] 26 (0, 0)) := (by first | exact (hB7.block _ (by simp)).trans (World.alloc_heap_new w8a _) | exact (hB7.block _ (by simp)).trans (World.alloc_heap_new w8a.drew _)))))
      | (go_at_call 22; ((with_reducible refine (GD2.out _ _ _ _ _ ?hg ?hp).mono ?_); (case hg => first | exact hHH6.below hX7 | exact (hHH6.below hX7.drew) | exact hHH6.below (hX7.trans (bel_alloc (Below.refl w7b.heap.size w7b) _ |>.mono hX7.size))); (case hp => first | exact hPE | exact hPE.below (Below.refl _ _).drew | exact hPE.below (bel_alloc (Below.refl _ _) _)); rintro e w9b ⟨iab, icpb, rfl, hHIb, hB9, hHN⟩; have hX9 : Below w8a.heap.size w8a w9b := (by first | exact bel2 hX7 hB9 | exact bel2 hX7.drew hB9 | exact bel2 (hX7.trans (bel_alloc (Below.refl w7b.heap.size w7b) _ |>.mono hX7.size)) hB9); obtain ⟨y0, y1, y2, y3, y4, y5, y6, -⟩ := KHb.out w9b hX9; (first | (have hz9 : w9b.heap[w8a.heap.size]? = some (.cells #[.int .i64 0, .int .i64 0, .int .i64 0, .int .i64 0, .int .i64 0, .int .i64 0, .slice none 0 0] 26 (0, 0)) := (hB9.block _ (by have := heap_lt hz7; simp; omega)).trans hz7; have hN9 : (∀ k, inBlkE iab l2.length k → ¬ k = w8a.heap.size) := (fun k hk e => by have h1 := hHN k hk; have h2 := heap_lt hz7; (try simp at h1); omega); obtain ⟨q0, q1, q2, q3, q4, q5, q6, -⟩ := cells7 hz9; have fq : (∀ i, w9b.frozen? ⟨w8a.heap.size, i, none⟩ = false) := (fun i => frozen_of_row _ _ i _ _ hz9)) | (have hz9 : w9b.heap[w7b.heap.size]? = some (.cells #[.int .i64 0, .int .i64 0, .int .i64 0, .int .i64 0, .int .i64 0, .int .i64 0, .slice none 0 0] 26 (0, 0)) := (by first | exact (hB9.block _ (by simp)).trans (World.alloc_heap_new w7b _)); have hN9 : (∀ k, inBlkE iab l2.length k → ¬ k = w7b.heap.size) := (fun k hk e => by have h1 := hHN k hk; simp at h1; omega); obtain ⟨q0, q1, q2, q3, q4, q5, q6, -⟩ := cells7 hz9; have fq : (∀ i, w9b.frozen? ⟨w7b.heap.size, i, none⟩ = false) := (fun i => frozen_of_row _ _ i _ _ hz9)) | skip))))
    all_goals first
      | (have hBz := bel_alloc (Below.refl w9b.heap.size w9b) (.cells #[.int .i64 5, .int .i64 (((m : Int) % 20 + 1) + 1), .int .i64 (((m : Int) % 20 + 1) + 30), .int .i64 0, .int .i64 0, .int .i64 0, .slice iab l2.length icpb] 26)
         have hi8b := World.alloc_heap_new w9b (.cells #[.int .i64 5, .int .i64 (((m : Int) % 20 + 1) + 1), .int .i64 (((m : Int) % 20 + 1) + 30), .int .i64 0, .int .i64 0, .int .i64 0, .slice iab l2.length icpb] 26)
         replace hHIb := hHIb.below hBz
         have hFz : FrameT (fun k => k = w9b.heap.size) w9b (w9b.alloc (.cells #[.int .i64 5, .int .i64 (((m : Int) % 20 + 1) + 1), .int .i64 (((m : Int) % 20 + 1) + 30), .int .i64 0, .int .i64 0, .int .i64 0, .slice iab l2.length icpb] 26)) := FrameT.below hBz
         have hHz : w8a.heap.size ≤ w9b.heap.size := hX9.size
         generalize (w9b.alloc (.cells #[.int .i64 5, .int .i64 (((m : Int) % 20 + 1) + 1), .int .i64 (((m : Int) % 20 + 1) + 30), .int .i64 0, .int .i64 0, .int .i64 0, .slice iab l2.length icpb] 26)) = w8b at *
         obtain ⟨Ib, hIe⟩ : ∃ Ib, Ib = w9b.heap.size := ⟨_, rfl⟩
         have hIbb : w8a.heap.size ≤ Ib := by omega
         rw [← hIe] at hi8b hFz ⊢
         clear hBz hIe)
      | (have hi8b := st7_block (b := w7b.heap.size) hz9 (.int .i64 5) (.int .i64 (((m : Int) % 20 + 1) + 1)) (.int .i64 (((m : Int) % 20 + 1) + 30)) (.int .i64 0) (.int .i64 0) (.int .i64 0) (.slice iab l2.length icpb)
         have hFz := st7_frame w9b w7b.heap.size (.int .i64 5) (.int .i64 (((m : Int) % 20 + 1) + 1)) (.int .i64 (((m : Int) % 20 + 1) + 30)) (.int .i64 0) (.int .i64 0) (.int .i64 0) (.slice iab l2.length icpb)
         replace hHIb : HasG (st7 w9b w7b.heap.size (.int .i64 5) (.int .i64 (((m : Int) % 20 + 1) + 1)) (.int .i64 (((m : Int) % 20 + 1) + 30)) (.int .i64 0) (.int .i64 0) (.int .i64 0) (.slice iab l2.length icpb)) iab _ := ⟨hHIb.1, rowV_frame hHIb.2 hFz (fun k hk h => hN9 k hk h)⟩
         simp only [st7] at hi8b hFz hHIb
         have hHz : w8a.heap.size ≤ w7b.heap.size := hX7.size
         generalize (((((((w9b.setCell ⟨w7b.heap.size, 0, none⟩ (.int .i64 5)).setCell ⟨w7b.heap.size, 1, none⟩ (.int .i64 (((m : Int) % 20 + 1) + 1))).setCell ⟨w7b.heap.size, 2, none⟩ (.int .i64 (((m : Int) % 20 + 1) + 30))).setCell ⟨w7b.heap.size, 3, none⟩ (.int .i64 0)).setCell ⟨w7b.heap.size, 4, none⟩ (.int .i64 0)).setCell ⟨w7b.heap.size, 5, none⟩ (.int .i64 0)).setCell ⟨w7b.heap.size, 6, none⟩ (.slice iab l2.length icpb)) = w8b at *
         obtain ⟨Ib, hIe⟩ : ∃ Ib, Ib = w7b.heap.size := ⟨_, rfl⟩
         have hIbb : w8a.heap.size ≤ Ib := by omega
         rw [← hIe] at hi8b hFz ⊢
         clear hIe)
      | (have hi8b := st7_block (b := w8a.heap.size) hz9 (.int .i64 5) (.int .i64 (((m : Int) % 20 + 1) + 1)) (.int .i64 (((m : Int) % 20 + 1) + 30)) (.int .i64 0) (.int .i64 0) (.int .i64 0) (.slice iab l2.length icpb)
         have hFz := st7_frame w9b w8a.heap.size (.int .i64 5) (.int .i64 (((m : Int) % 20 + 1) + 1)) (.int .i64 (((m : Int) % 20 + 1) + 30)) (.int .i64 0) (.int .i64 0) (.int .i64 0) (.slice iab l2.length icpb)
         replace hHIb : HasG (st7 w9b w8a.heap.size (.int .i64 5) (.int .i64 (((m : Int) % 20 + 1) + 1)) (.int .i64 (((m : Int) % 20 + 1) + 30)) (.int .i64 0) (.int .i64 0) (.int .i64 0) (.slice iab l2.length icpb)) iab _ := ⟨hHIb.1, rowV_frame hHIb.2 hFz (fun k hk h => hN9 k hk h)⟩
         simp only [st7] at hi8b hFz hHIb
         have hHz : w8a.heap.size ≤ w8a.heap.size := Nat.le_refl _
         generalize (((((((w9b.setCell ⟨w8a.heap.size, 0, none⟩ (.int .i64 5)).setCell ⟨w8a.heap.size, 1, none⟩ (.int .i64 (((m : Int) % 20 + 1) + 1))).setCell ⟨w8a.heap.size, 2, none⟩ (.int .i64 (((m : Int) % 20 + 1) + 30))).setCell ⟨w8a.heap.size, 3, none⟩ (.int .i64 0)).setCell ⟨w8a.heap.size, 4, none⟩ (.int .i64 0)).setCell ⟨w8a.heap.size, 5, none⟩ (.int .i64 0)).setCell ⟨w8a.heap.size, 6, none⟩ (.slice iab l2.length icpb)) = w8b at *
         obtain ⟨Ib, hIe⟩ : ∃ Ib, Ib = w8a.heap.size := ⟨_, rfl⟩
         have hIbb : w8a.heap.size ≤ Ib := by omega
         rw [← hIe] at hi8b hFz ⊢
         clear hIe)
    all_goals
      have hX8b : Below w8a.heap.size w8a w8b := hX9.trans (hFz.toBelow hX9.size (fun k h => by omega))
      clear x0 x1 x2 x3 x4 x5 x6 y0 y1 y2 y3 y4 y5 y6 z0 z1 z2 z3 z4 z5 z6 KHb hFz hX9 hX7 hB9 hB7 hPE hHN n1 n2 n3 n4 GA2 GD2 hHz
      try clear hz9 hN9 q0 q1 q2 q3 q4 q5 q6 fq
      try clear hz7
      have hH7 := (hX8b.block _ hHl6).trans hH6
      have hHH7 := hHH6.below hX8b
      have hA7 := bel2 hA6 hX8b
      clear hX8b hHH6 hA6 hH6
      have KA := Lib.hid (fun W' (hW : Below w8b.heap.size w8b W') => And.intro (cells7 ((hW.block _ (heap_lt hH7)).trans hH7)) (cells7 ((hW.block _ (heap_lt hi8b)).trans hi8b)))
      obtain ⟨⟨x0, x1, x2, x3, x4, x5, x6, -⟩, ⟨y0, y1, y2, y3, y4, y5, y6, -⟩⟩ := KA.out _ (Below.refl _ _)
      go_wp2_with (first
        | (go_at_call 25; ((with_reducible refine (GL.out _ _ _ hHH7).mono ?_); rintro e w10 ⟨rfl, hB10⟩; clear x0 x1 x2 x3 x4 x5 x6 y0 y1 y2 y3 y4 y5 y6; obtain ⟨⟨x0, x1, x2, x3, x4, x5, x6, -⟩, ⟨y0, y1, y2, y3, y4, y5, y6, -⟩⟩ := KA.out _ hB10; have hHI10 := hHIb.below hB10))
        | (go_at_call 25; ((with_reducible refine (GL2.out _ _ _ hHI10).mono ?_); rintro e w11 ⟨rfl, hB11⟩; have hB12 := bel2 hB10 hB11; clear x0 x1 x2 x3 x4 x5 x6 y0 y1 y2 y3 y4 y5 y6; obtain ⟨⟨x0, x1, x2, x3, x4, x5, x6, -⟩, ⟨y0, y1, y2, y3, y4, y5, y6, -⟩⟩ := KA.out _ hB12; have hHI11 := hHI10.below hB11))
        | (go_at_call 16; ((with_reducible refine (GI2.out _ _ _ hHI11).mono ?_); rintro e w13 ⟨rfl, hB13⟩; have hA13 := bel2 hA7 (bel2 hB12 hB13))))
      go_ret
      exact ⟨by simp, hA13⟩

theorem walk (n : Nat) (hn : n < 256) (m : Nat) (hm : m < 256) (s : Bool) (w : World) : Calls Try.prog 9 #[.int .u8 n, .int .u8 m, .bool s] w fun e w' => e = .returned (.bool true) ∧ Below w.heap.size w w' := by
  cases s
  · exact snap_c n m hn hm w
  · by_cases h : ((m : Int) % 20 + 1) < ((n : Int) % 12 + 1)
    · exact snap_a n m hn hm h w
    · exact snap_b n m hn hm (by omega) w

set_option maxRecDepth 100000 in
theorem lifted (os : Os) (started : os.Started) (H : Type) (enc : TypeId × Value → H) :
    ReturnsInHanded {} Try.checked os 9 .any (Rows.groupSnapsSpec.pre6 enc Try.prog Try.f9 Rows.groupSnapsRow.domain false) (Rows.groupSnapsSpec.post enc Try.prog Try.f9 false true false false) := by
  refine returnsInHanded_of_change (C := Try.checked) Try.own started (by kernel_rfl) Try.func9
    (ChangeSpec.witness6 (enc := enc) (C := Try.checked) false ⟨#[], #[.int .u8 0, .int .u8 0, .bool false], []⟩ 8 (by kernel_rfl) (by kernel_rfl) (by kernel_rfl) (by kernel_rfl)) ?_
  intro W base args ds gs before hval hW _ _
  refine law_contract (T := 4) (n := 3) Try.laid Try.underlying4 rfl rfl ⟨rfl, fun H ds h => by match ds, h with | [_, _, _], _ => rfl⟩ (of_all (by kernel_rfl)) hW ?_
  intro ps hA
  rw [Try.params9] at hA hval
  obtain ⟨v0, vs0, d0, ds0, p0, q0, hargs, rfl, rfl, h0, r0⟩ := trodAll_cons hA
  obtain ⟨v1, vs1, d1, ds1, p1, q1, rfl, rfl, rfl, h1, r1⟩ := trodAll_cons r0
  obtain ⟨v2, vs2, d2, ds2, p2, q2, rfl, rfl, rfl, h2, r2⟩ := trodAll_cons r1
  obtain ⟨rfl, rfl, rfl⟩ := trodAll_nil r2
  obtain rfl : args = #[v0, v1, v2] := by cases args; simp_all
  obtain ⟨a0, rfl, rfl, rfl, w0⟩ := open_int Try.underlying5 (hval 0 5 v0 rfl rfl) h0
  obtain ⟨a1, rfl, rfl, rfl, w1⟩ := open_int Try.underlying5 (hval 1 5 v1 rfl rfl) h1
  obtain ⟨a2, rfl, rfl, rfl⟩ := open_bool Try.underlying4 (hval 2 4 v2 rfl rfl) h2
  obtain ⟨n0, rfl, b0⟩ := nat_of_u8 w0
  obtain ⟨n1, rfl, b1⟩ := nat_of_u8 w1
  exact walk n0 b0 n1 b1 a2 W

theorem holds : Rows.GroupSnapsSaid :=
  OpenClaim.holds_of_wide 9 Try.f9 rfl rfl rfl rfl rfl rfl rfl ⟨rfl, rfl, rfl, rfl, rfl⟩ rfl rfl rfl rfl rfl (by kernel_rfl) Try.func9 (by kernel_rfl)
    (of_decide_eq_true (by kernel_rfl)) (by unfold Func.isWrapper; first | (rw [if_pos (by decide +kernel)]; kernel_rfl) | (rw [if_neg (by decide +kernel)]; exact ⟨rfl, rfl⟩))
    (fun os started H enc _ => lifted os started H enc)

end Go.Proofs.Ytfmcebmkclaafaa.groupSnaps
