/- The contract of a disk's Cut. -/
import Derived.Test.YtieekahlknmkfaaDskB
import Derived.Deep.RegionLaw
namespace Go.Proofs.Ytieekahlknmkfaa
open Go.RowKit Go.Shelf
set_option linter.unusedVariables false
attribute [local go_sem] Oper.semAt_some wide_fn wide_round_fn

theorem ownsG_cut {W : World} {B : Nat} {e : TypeId} {a : Option Addr} {n cap : Nat} {b : List UInt8} (h : ownsG W B e 1 (.slice a n cap) n (b.map vb)) {k : Nat} (hk : k ≤ n) : ownsG W B e 1 (.slice a k cap) k ((b.take k).map vb) := by
  have hl : b.length = n := by have := h.1; simpa using this
  refine ⟨by simp; omega, ?_⟩
  rcases h.2 with ⟨hv, h0⟩ | ⟨g, cap', cur, fz, hv, hb, hg, hle, hcm, hcs, ht, hfz⟩
  · left
    cases hv
    obtain rfl : k = 0 := by omega
    exact ⟨rfl, rfl⟩
  · right
    cases hv
    refine ⟨g, cap, cur, fz, rfl, hb, hg, by omega, hcm, hcs, ?_, hfz⟩
    rw [List.map_take, ← ht, List.take_take]; congr 1; omega
theorem ownBlock_len {a : Option Addr} {n k cap cap' : Nat} : (Value.slice a k cap).ownBlock = (Value.slice a n cap').ownBlock := by cases a <;> rfl
def cutK (n : Int) (l : Nat) : Nat := (min (max n 0) (l : Int)).toNat
def cutP (n : Int) (x : PF) : PF := ⟨x.n, x.b.take (cutK n x.b.length), cutK n x.b.length⟩
def cut1 (n : Int) (x : PF) : PF := ⟨x.n, x.b.take (cutK n x.b.length), min x.k (cutK n x.b.length)⟩
theorem cutK_le (n : Int) (l : Nat) : cutK n l ≤ l := by unfold cutK; omega
def cutD (D : PD) (s : ByteArray) (n : Int) : PD := if askE D s = 0 then doneD { D with L := turnL (cutP n) D.L s } else D
def cutW (W : World) (fb : Nat) (a : Option Addr) (k cap : Nat) : World := (W.setCell ⟨fb, 0, none⟩ (.slice a k cap)).drew.setCell ⟨fb, 1, none⟩ (.int .i64 k)
theorem cutKeep {W : World} {fb : Nat} {a : Option Addr} {len cap q k : Nat} (hc : W.heap[fb]? = some (.cells #[.slice a len cap, .int .i64 q] 85 (0, 0))) : Calls Try.prog 61 #[.pointer (some ⟨fb, 0, none⟩)] (W.setCell ⟨fb, 0, none⟩ (.slice a k cap)).drew fun e w' => (∃ v, e = .returned v) ∧ w' = cutW W fb a k cap :=
  keep_any (k := q) (show (W.setCell ⟨fb, 0, none⟩ (.slice a k cap)).heap[fb]? = _ by rw [heap_setCell_same _ _ _ _ _ _ hc]; rfl)
theorem cutC {W : World} {B d m : Nat} {D : PD} {F : List FileC} (h : HasDisk W B d m D F) {f : FileC} (hf : f ∈ F) {a : Option Addr} {cap : Nat} (hv : f.v = .slice a f.b.length cap) {n : Int} {k : Nat} (hk : k = cutK n f.b.length) :
    HasDisk (cutW W f.fb a k cap) B d m { D with L := turnL (cutP n) D.L f.n } (setK FileC.n ⟨f.n, f.fb, .slice a k cap, f.b.take k, k⟩ F) ∧ FrameT (fun k => k = f.fb ∨ f.v.ownBlock = some k) W (cutW W f.fb a k cap) := by
  obtain ⟨h1, h2, h3⟩ := h.file f hf
  have hne := h.apart.2.2 f hf f hf
  have hkl : k ≤ f.b.length := by rw [hk]; exact cutK_le _ _
  have hF1 : FrameT (fun k => k = f.fb) W (cutW W f.fb a k cap) := (FrameT.setCell W f.fb 0 (.slice a k cap)).drew.trans (FrameT.setCell _ f.fb 1 (.int .i64 k))
  have hF := hF1.mono (U := fun k => k = f.fb ∨ f.v.ownBlock = some k) fun k hk => .inl hk
  have hg : (cutW W f.fb a k cap).heap[f.fb]? = some (.cells #[.slice a k cap, .int .i64 k] 85 (0, 0)) := by
    unfold cutW
    rw [heap_setCell_same (W.setCell ⟨f.fb, 0, none⟩ (.slice a k cap)).drew _ _ _ _ _ (show (W.setCell ⟨f.fb, 0, none⟩ (.slice a k cap)).heap[f.fb]? = _ from heap_setCell_same _ _ _ _ _ _ h1)]
    rfl
  rw [hv] at h2
  have hr := ownsG_frame (ownsG_cut h2 hkl) hF1 (fun j hj e => hne (by rw [hv, ← e]; exact ownBlock_len.trans hj))
  have hl : (f.b.take k).length = k := by rw [List.length_take]; omega
  have := h.set hf ⟨f.n, f.fb, .slice a k cap, f.b.take k, k⟩ rfl rfl ⟨hg, by dsimp only; rw [hl]; exact hr, by dsimp only; rw [hl]; exact Nat.le_refl _⟩ (fun j hj => .inl (by rw [hv]; exact ownBlock_len.trans hj)) hF
  have e := set_turn h hf (cutP n) rfl
  refine ⟨?_, hF⟩
  rw [← e, show cutP n f.core = FileC.core ⟨f.n, f.fb, .slice a k cap, f.b.take k, k⟩ by subst hk; rfl]
  exact this
set_option maxRecDepth 100000 in
set_option maxHeartbeats 1000000 in
theorem cut_any {W : World} {B d m : Nat} {D : PD} {F : List FileC} (h : HasDisk W B d m D F) (s : ByteArray) (n : Int) (hs : s.size ≤ maxLen) (hst : D.steps < 4611686018427387904) (hle : D.left < 9223372036854775808) :
    Calls Try.prog 32 #[.pointer (some ⟨d, 0, none⟩), .string s, .int .i64 n] W fun e w' => e = .returned (.int .i64 (askE D s)) ∧ OpD W B d m F (cutD D s n) w' := by
  have GA := Lib.hid (ask_any h s hs)
  obtain ⟨c0, c1, c2, c3, c4⟩ := cells5 h.cell
  have HD := Lib.hid h
  by_cases ha : askE D s = 0
  · obtain ⟨ho, f, hg, hf, hn, hgd⟩ := ask_ok h ha
    have hrun := look_run h hs hg
    obtain ⟨hc, hrow, -⟩ := h.file f hf
    obtain ⟨a, cap, hv⟩ := own_sliceG hrow
    have HV := Lib.hid hv
    have hcap : f.b.length ≤ cap := by
      rw [hv] at hrow
      rcases hrow.2 with ⟨e, h0⟩ | ⟨g, cap', cur, fz, e, _, _, hle, _⟩
      · injection e with e1 e2 e3; omega
      · injection e with e1 e2 e3; omega
    rw [hv] at hc
    obtain ⟨k0, k1, k2, k3⟩ := cells2 hc
    have k0d : W.drew.cell? ⟨f.fb, 0, none⟩ = _ := k0
    have k2d : W.drew.frozen? ⟨f.fb, 0, none⟩ = _ := k2
    obtain ⟨k, hk⟩ : ∃ k, k = cutK n f.b.length := ⟨_, rfl⟩
    have HK := Lib.hid hk
    have GH := Lib.hid (fun w => show Calls Try.prog 46 #[.int .i64 n, .int .i64 f.b.length] w fun e w' => e = .returned (.int .i64 k) ∧ w' = w from by
      have := dheld_any n f.b.length w
      rwa [show (min (max n 0) (f.b.length : Int)) = (k : Int) by rw [hk]; unfold cutK; omega] at this)
    have hkl : k ≤ f.b.length := by rw [hk]; exact cutK_le _ _
    have hkc : (k : Int) ≤ (cap : Int) := by omega
    have hkc' : k ≤ cap := by omega
    have HA := Lib.hid ha
    have HF := Lib.hid hf
    have HN := Lib.hid hn
    rw [ha] at GA
    have HC := Lib.hid (cutC h hf hv (n := n) hk)
    have GK := Lib.hid (cutKeep hc (k := k))
    have GD := Lib.hid (done_any HC.out.1 (show offB { D with L := turnL (cutP n) D.L f.n } = false from ho) hst hle)
    clear h ha ho hg hf hn hgd hc hrow hv hk
    go_enter Try.func32, Try.ntmps32
    go_wp2_with (go_at_call 62; ((with_reducible refine GA.out.mono ?_); rintro e w1 ⟨rfl, rfl⟩))
    go_region_law (first | (go_simp; go_at_call 46; ((with_reducible refine (GH.out _).mono ?_); rintro e w5 ⟨rfl, rfl⟩)))
    all_goals
      clear c0 c1 c2 c3 c4 k0 k1 k2 k3 k0d k2d hrun
      go_wp2_with (first
        | (go_at_call 61; ((with_reducible refine GK.out.mono ?_); rintro e w6 ⟨⟨v, rfl⟩, rfl⟩))
        | (go_at_call 59; ((with_reducible refine (GD.out).mono ?_); rintro e w7 ⟨rfl, hD7, hF7⟩)))
      go_ret
      have hcd : cutD D s n = doneD { D with L := turnL (cutP n) D.L f.n } := by unfold cutD; rw [HA.out, if_pos rfl, HN.out]
      rw [HA.out, hcd]
      exact ⟨rfl, opD_set (x := ⟨f.n, f.fb, .slice a k cap, f.b.take k, k⟩) HF.out rfl (fun j hj => .inl (by rw [HV.out]; exact ownBlock_len.trans hj)) HC.out.2 hF7 _ hD7⟩
  · have HC := Lib.hid (show cutD D s n = D by unfold cutD; rw [if_neg ha])
    rcases askE_ne ha with h18 | h18
    all_goals
      have H18 := Lib.hid h18
      rw [h18] at GA
      clear h ha h18
      go_enter Try.func32, Try.ntmps32
      go_wp2_with (go_at_call 62; ((with_reducible refine GA.out.mono ?_); rintro e w1 ⟨rfl, rfl⟩))
      go_ret
      rw [H18.out, HC.out]
      exact ⟨rfl, OpD.refl HD.out⟩

end Go.Proofs.Ytieekahlknmkfaa
