/- App6, GrownM: in one text. -/
import Derived.Test.YtfbibpnkfmgkaaaGrpDo
import Derived.Test.YtfbibpnkfmgkaaaRef6c
import Derived.Test.YtfbibpnkfmgkaaaGrpMath
/- What ladelaw6.app makes. -/
namespace Go.Proofs.Ytfbibpnkfmgkaaa
open Go.RowKit Go.Shelf Go.ChangeShapes Go.WideShapes Go.ChangeAt
set_option linter.unusedVariables false
attribute [local go_sem] Oper.semAt_some wide_fn wide_round_fn

def appL (i t : Int) (n : Nat) : List EntryC := (List.range n).map fun (q : Nat) => (⟨i + (q : Int), t, ⟨#[]⟩⟩ : EntryC)
theorem appL_len (i t : Int) (n : Nat) : (appL i t n).length = n := by simp [appL]
theorem appL_snoc (i t : Int) (n : Nat) : appL i t (n + 1) = appL i t n ++ [⟨i + (n : Int), t, ⟨#[]⟩⟩] := by simp [appL, List.range_succ]
theorem st10_frame (W : World) (b : Nat) (v0 v1 v2 v3 v4 v5 v6 v7 v8 v9 : Value) : FrameT (fun k => k = b) W (st10 W b v0 v1 v2 v3 v4 v5 v6 v7 v8 v9) :=
  (((((((((FrameT.setCell W b 0 v0).trans (FrameT.setCell _ b 1 v1)).trans (FrameT.setCell _ b 2 v2)).trans (FrameT.setCell _ b 3 v3)).trans (FrameT.setCell _ b 4 v4)).trans (FrameT.setCell _ b 5 v5)).trans (FrameT.setCell _ b 6 v6)).trans (FrameT.setCell _ b 7 v7)).trans (FrameT.setCell _ b 8 v8)).trans (FrameT.setCell _ b 9 v9)
def AppPost (w : World) (id i t : Int) (n : Nat) (e : Ending) (w' : World) : Prop := ∃ a cap, e = .returned (.agg #[.int .i64 id, .int .i64 1, .slice a n cap, .int .i64 0, .int .i64 0, .int .i64 0, .int .i64 0, .int .i64 0, .bool false, .bool false]) ∧ HasE w' (⟨id, 1, a, n, cap, 0, 0, 0, 0, 0, false, false⟩ : PartC) (appL i t n) ∧ Below w.heap.size w w' ∧ ∀ k, inBlkE a n k → w.heap.size ≤ k

end Go.Proofs.Ytfbibpnkfmgkaaa

/- The groups that ladelaw6.grown makes, as plain mathematics; the parts of ladelaw6.app. -/
namespace Go.Proofs.Ytfbibpnkfmgkaaa
open Go.RowKit Go.Shelf
set_option linter.unusedVariables false

theorem appL_cons (i t : Int) (n : Nat) : appL i t (n + 1) = ⟨i, t, ⟨#[]⟩⟩ :: appL (i + 1) t n := by
  unfold appL
  rw [List.range_succ_eq_map, List.map_cons, List.map_map]
  congr 1
  · simp
  · refine List.map_congr_left fun q _ => ?_
    simp only [Function.comp, Nat.succ_eq_add_one]
    congr 1
    push_cast; omega
theorem app_entry {i t : Int} (h1 : 1 ≤ i ∧ i ≤ 1099511627776) (h2 : 1 ≤ t ∧ t ≤ 1099511627776) : entryB ⟨i, t, ⟨#[]⟩⟩ = true := by
  simp only [entryB, wB, Bool.and_eq_true, decide_eq_true_eq]
  exact ⟨h1, h2, by show (0 : Nat) ≤ 40; omega⟩
theorem app_steps {t : Int} (h2 : 1 ≤ t ∧ t ≤ 1099511627776) : ∀ (n : Nat) (i : Int), 1 ≤ i → i + n ≤ 1099511627777 → (stepsOf (some (i - 1)) (appL i t n)).all (stepB 1) = true
  | 0, _, _, _ => rfl
  | n + 1, i, h1, h3 => by
    have hr := app_steps h2 n (i + 1) (by omega) (by push_cast at h3; omega)
    rw [show i + 1 - 1 = i by omega] at hr
    rw [appL_cons]
    simp only [stepsOf, List.all_cons, Bool.and_eq_true, stepB, hr, and_true]
    refine ⟨app_entry ⟨h1, by push_cast at h3; omega⟩ h2, ?_⟩
    rw [show wrap64 (i - (i - 1)) = 1 by unfold wrap64; omega]
    rfl
theorem app_are {i t : Int} {n : Nat} (h2 : 1 ≤ t ∧ t ≤ 1099511627776) (h1 : 1 ≤ i) (h3 : i + n ≤ 1099511627777) (h6 : n ≤ 6) : areB 1 (appL i t n) = true := by
  unfold areB
  rw [appL_len, decide_eq_true h6, Bool.true_and]
  cases n with
  | zero => rfl
  | succ n =>
    have hr := app_steps h2 n (i + 1) (by omega) (by push_cast at h3; omega)
    rw [show i + 1 - 1 = i by omega] at hr
    rw [appL_cons]
    simp only [stepsOf, List.all_cons, Bool.and_eq_true, stepB, hr, and_true]
    exact ⟨app_entry ⟨h1, by push_cast at h3; omega⟩ h2, by decide⟩
theorem app_dense {t : Int} (h2 : 1 ≤ t ∧ t ≤ 1099511627776) : ∀ (n : Nat) (i : Int), 1 ≤ i → i + n ≤ 1099511627777 → denseB (appL i t n) i = true
  | 0, _, _, _ => rfl
  | n + 1, i, h1, h3 => by
    rw [appL_cons]
    simp only [denseB, Bool.and_eq_true, decide_eq_true_eq]
    exact ⟨⟨app_entry ⟨h1, by push_cast at h3; omega⟩ h2, trivial⟩, app_dense h2 n (i + 1) (by omega) (by push_cast at h3; omega)⟩
theorem app_is {id i t : Int} {n : Nat} (a : Option Addr) (cap : Nat) (hid : 0 ≤ id ∧ id ≤ 999) (h2 : 1 ≤ t ∧ t ≤ 1099511627776) (h1 : 1 ≤ i) (h3 : i + n ≤ 1099511627777) (h0 : 0 < n) (h6 : n ≤ 6) :
    isB ⟨id, 1, a, n, cap, 0, 0, 0, 0, 0, false, false⟩ (appL i t n) = true :=
  (isB_iff _ _).2 ⟨hid, .inl ⟨rfl, by show n ≠ 0; omega, app_are h2 h1 h3 h6, rfl, rfl, rfl, rfl, rfl, rfl, rfl⟩⟩
theorem app_head {i t : Int} {n : Nat} (h0 : 0 < n) : headI (appL i t n) = i := by
  cases n with
  | zero => omega
  | succ n => rw [appL_cons]; rfl
/-- Appended to a group whose entries lie densely. -/
theorem app_do {id fi te ht hv hc i t : Int} {l : List EntryC} {n : Nat} (a : Option Addr) (cap : Nat) (hid : 0 ≤ id ∧ id ≤ 999) (hf : 1 ≤ fi ∧ fi ≤ 1099511627777) (hd : denseB l fi = true) (h2 : 1 ≤ t ∧ t ≤ 1099511627776) (h1 : fi ≤ i) (h3 : i + n ≤ 1099511627777) (h0 : 0 < n) (h6 : n ≤ 6) (h4 : i ≤ fi + l.length) :
    chkG ⟨id, fi, te, ht, hv, hc, l⟩ ⟨id, 1, a, n, cap, 0, 0, 0, 0, 0, false, false⟩ (appL i t n) = 0 ∧
      doG ⟨id, fi, te, ht, hv, hc, l⟩ ⟨id, 1, a, n, cap, 0, 0, 0, 0, 0, false, false⟩ (appL i t n) = ⟨id, fi, te, ht, hv, hc, l.take (i - fi).toNat ++ appL i t n⟩ := by
  have hI := app_is a cap hid h2 (by omega) h3 h0 h6
  have hc : chkG ⟨id, fi, te, ht, hv, hc, l⟩ ⟨id, 1, a, n, cap, 0, 0, 0, 0, 0, false, false⟩ (appL i t n) = 0 := by
    unfold chkG
    rw [if_neg (by rw [hI]; simp), if_pos rfl, app_head h0]
    unfold chkA lastG
    dsimp only
    rw [if_neg (by omega), if_neg (by omega)]
  refine ⟨hc, ?_⟩
  unfold doG
  rw [hc, if_neg (by simp), if_pos rfl, app_head h0]
  dsimp only
  rw [btw_below hd hf]

def grL (k : Nat) : List EntryC := (List.range k).map fun (q : Nat) => (⟨(q : Int) + 1, (q : Int) + 1, ⟨#[]⟩⟩ : EntryC)
theorem grL_len (k : Nat) : (grL k).length = k := by simp [grL]
theorem grL_snoc (k : Nat) : grL (k + 1) = grL k ++ appL ((k : Int) + 1) ((k : Int) + 1) 1 := by simp [grL, appL, List.range_succ]
theorem grL_dense : ∀ k : Nat, k ≤ 100000 → denseB (grL k) 1 = true
  | 0, _ => rfl
  | k + 1, h => by
    rw [grL_snoc]
    refine dense_app (grL_dense k (by omega)) ?_
    rw [grL_len, show (1 : Int) + (k : Int) = (k : Int) + 1 by omega]
    exact app_dense ⟨by omega, by omega⟩ 1 _ (by omega) (by omega)
theorem gr_isG {id : Int} (hid : 0 ≤ id ∧ id ≤ 999) {k : Nat} (h : k ≤ 100000) : isG ⟨id, 1, 0, 0, 0, 0, grL k⟩ = true :=
  isG_iff.2 ⟨⟨hid, ⟨by simp, by simp⟩, by simp, by simp⟩, rfl, grL_dense k h⟩
theorem gr_do {id : Int} (hid : 0 ≤ id ∧ id ≤ 999) {k : Nat} (h : k ≤ 100000) (a : Option Addr) (cap : Nat) :
    chkG ⟨id, 1, 0, 0, 0, 0, grL k⟩ ⟨id, 1, a, 1, cap, 0, 0, 0, 0, 0, false, false⟩ (appL ((k : Int) + 1) ((k : Int) + 1) 1) = 0 ∧
      doG ⟨id, 1, 0, 0, 0, 0, grL k⟩ ⟨id, 1, a, 1, cap, 0, 0, 0, 0, 0, false, false⟩ (appL ((k : Int) + 1) ((k : Int) + 1) 1) = ⟨id, 1, 0, 0, 0, 0, grL (k + 1)⟩ := by
  have := app_do (te := 0) (ht := 0) (hv := 0) (hc := 0) (i := (k : Int) + 1) (t := (k : Int) + 1) (n := 1) a cap hid (fi := 1) ⟨by decide, by decide⟩ (grL_dense k h) ⟨by omega, by omega⟩ (by omega) (by omega) (by omega) (by omega) (by rw [grL_len]; omega)
  refine ⟨this.1, this.2.trans ?_⟩
  rw [show ((k : Int) + 1 - 1).toNat = k by omega, List.take_of_length_le (by rw [grL_len]; omega), grL_snoc]

end Go.Proofs.Ytfbibpnkfmgkaaa
