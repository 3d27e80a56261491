/- Groups with holes that grow by parts of one entry each. -/
import Derived.Test.YtfbibpnkfmgkaaaSprDo
import Derived.Test.YtfbibpnkfmgkaaaSprM
import Derived.Test.YtfbibpnkfmgkaaaRef6c
namespace Go.Proofs.Ytfbibpnkfmgkaaa
open Go.RowKit Go.Shelf
set_option linter.unusedVariables false
attribute [local go_sem] Oper.semAt_some wide_fn wide_round_fn

/-- Rising, each one's term told by its index. -/
def OI (f : Int → Int) (p : Int) (l : List EntryC) : Prop := Pw l ∧ ∀ e ∈ l, ∃ j, 1 ≤ j ∧ j ≤ p ∧ e = ⟨j, f j, ⟨#[]⟩⟩
theorem OI.nil (f : Int → Int) (p : Int) : OI f p [] := ⟨List.Pairwise.nil, fun _ h => by simp at h⟩
theorem pw_len : ∀ {l : List EntryC} {lo hi : Int}, Pw l → (∀ e ∈ l, lo ≤ e.i ∧ e.i ≤ hi) → l.length ≤ (hi - lo + 1).toNat
  | [], _, _, _, _ => by simp
  | e :: r, lo, hi, h, hb => by
    obtain ⟨h1, h2⟩ := List.pairwise_cons.1 h
    have h3 := hb e (by simp)
    have h4 := pw_len (lo := e.i + 1) (hi := hi) h2 fun x hx => ⟨by have := h1 x hx; omega, (hb x (by simp [hx])).2⟩
    simp only [List.length_cons]
    omega
theorem oi_len {f : Int → Int} {p : Int} {l : List EntryC} (h : OI f p l) : l.length ≤ p.toNat := by
  have := pw_len (lo := 1) (hi := p) h.1 fun e he => by obtain ⟨j, h1, h2, rfl⟩ := h.2 e he; exact ⟨h1, h2⟩
  omega
/-- Terms that may be. -/
def OkT (f : Int → Int) (p : Int) : Prop := p ≤ 100000 ∧ ∀ j, 1 ≤ j → j ≤ p → 1 ≤ f j ∧ f j ≤ 1099511627776
theorem oi_entry {f : Int → Int} {p J : Int} (hf : OkT f p) (hJ : 1 ≤ J ∧ J ≤ p) : entryB ⟨J, f J, ⟨#[]⟩⟩ = true := by
  have h1 := hf.1
  unfold entryB; rw [Bool.and_eq_true, Bool.and_eq_true, wB_iff, wB_iff]
  exact ⟨⟨hJ.1, by show J ≤ _; omega⟩, hf.2 J hJ.1 hJ.2, rfl⟩
theorem oi_isSp {f : Int → Int} {p id : Int} {l : List EntryC} (hf : OkT f p) (h : OI f p l) (hid : 0 ≤ id ∧ id ≤ 999) : isSp ⟨id, 1, 0, 0, 0, 0, l⟩ = true :=
  isSp_iff.2 ⟨⟨hid, ⟨by show (1 : Int) ≤ 1; omega, by show (1 : Int) ≤ _; omega⟩, ⟨by show (0 : Int) ≤ 0; omega, by show (0 : Int) ≤ _; omega⟩⟩, rfl, sprB_iff.2 ⟨fun e he => by obtain ⟨j, h1, h2, rfl⟩ := h.2 e he; exact oi_entry hf ⟨h1, h2⟩, fun e he => by obtain ⟨j, h1, h2, rfl⟩ := h.2 e he; exact h1, h.1⟩⟩
theorem oi_step {f : Int → Int} {p id J : Int} {l : List EntryC} (h : OI f p l) (hJ : 1 ≤ J ∧ J ≤ p) : addG ⟨id, 1, 0, 0, 0, 0, l⟩ [⟨J, f J, ⟨#[]⟩⟩] = ⟨id, 1, 0, 0, 0, 0, (mrg l [⟨J, f J, ⟨#[]⟩⟩])⟩ ∧ OI f p (mrg l [⟨J, f J, ⟨#[]⟩⟩]) ∧ ⟨J, f J, ⟨#[]⟩⟩ ∈ mrg l [⟨J, f J, ⟨#[]⟩⟩] ∧ ∀ x ∈ l, x ∈ mrg l [⟨J, f J, ⟨#[]⟩⟩] := by
  refine ⟨?_, ⟨mrg_pw h.1 (List.pairwise_singleton _ _), fun e he => ?_⟩, ?_, fun x hx => mrg_left hx⟩
  · unfold addG
    rw [show fnd [⟨J, f J, ⟨#[]⟩⟩] (1 : Int) = 0 from fnd_eq (by simp) (fun j hj => by omega) (fun j hj h => by obtain rfl : j = 0 := (by simp at hj; omega); exact hJ.1)]
    rfl
  · rcases mrg_mem he with he | he
    · exact h.2 e he
    · rw [List.mem_singleton.1 he]; exact ⟨J, hJ.1, hJ.2, rfl⟩
  · obtain ⟨x, h1, h2, h3⟩ := mrg_right (a := l) (List.mem_singleton.2 (rfl : ⟨J, f J, ⟨#[]⟩⟩ = ⟨J, f J, ⟨#[]⟩⟩))
    rcases h3 with rfl | h3
    · exact h1
    · obtain ⟨j, -, -, rfl⟩ := h.2 x h3
      obtain rfl : j = J := h2
      exact h1
/-- What a part of one entry written anew makes of it. -/
def ODoP (W : World) (f : Int → Int) (p id J : Int) (l : List EntryC) (e : Ending) (w' : World) : Prop :=
  ∃ l' a' cap', e = .returned (.agg #[.int .i64 id, .int .i64 1, .int .i64 0, .int .i64 0, .int .i64 0, .int .i64 0, .slice a' l'.length cap']) ∧ OI f p l' ∧ ⟨J, f J, ⟨#[]⟩⟩ ∈ l' ∧ (∀ x ∈ l, x ∈ l') ∧ HasG w' a' ⟨id, 1, 0, 0, 0, 0, l'⟩ ∧ l'.length ≤ cap' ∧ Below W.heap.size W w' ∧ ∀ b, inBlkE a' l'.length b → W.heap.size ≤ b
theorem odo {f : Int → Int} {p id J : Int} (hf : OkT f p) (hid : 0 ≤ id ∧ id ≤ 999) (l : List EntryC) (a : Option Addr) (cap Y : Nat) (W : World) (ho : OI f p l) (hJ : 1 ≤ J ∧ J ≤ p) (hg : HasG W a ⟨id, 1, 0, 0, 0, 0, l⟩) (hc : l.length ≤ cap) (h : W.heap[Y]? = some (.cells #[.int .i64 J, .int .i64 (f J), .string ⟨#[]⟩] 38 (0, 0))) :
    Calls Try.prog 12 #[.agg #[.int .i64 id, .int .i64 1, .int .i64 0, .int .i64 0, .int .i64 0, .int .i64 0, .slice a l.length cap], .agg #[.int .i64 id, .int .i64 6, .slice (some ⟨Y, 0, none⟩) 1 1, .int .i64 0, .int .i64 0, .int .i64 0, .int .i64 0, .int .i64 0, .bool false, .bool false]] W (ODoP W f p id J l) := by
  have hI := oi_isSp hf ho hid
  have h1 := hf.1
  have hJ2 : 1 ≤ J ∧ J ≤ 1099511627776 := ⟨hJ.1, by omega⟩
  have hl := oi_len ho
  obtain ⟨s1, s2, s3, s4⟩ := oi_step (id := id) ho hJ
  have := sdo_valid id 1 0 0 0 0 l a cap 6 (some ⟨Y, 0, none⟩) 1 1 0 0 0 0 0 false false [⟨J, f J, ⟨#[]⟩⟩] W hg hc ⟨rfl, (by decide : 1 < 1000000), by exact rowV_block (cs := #[.int .i64 J, .int .i64 (f J), .string ⟨#[]⟩]) (n := 1) (sz := 3) h rfl (by decide)⟩ (by simp) (by omega) hI (fwd1_is _ _ hid hJ2 (hf.2 J hJ.1 hJ.2))
  rw [fwd1_do _ _ hI rfl hid hJ2 (hf.2 J hJ.1 hJ.2), s1] at this
  exact this.mono fun _ _ ⟨a', cap', q1, q2, q3, q4, q5⟩ => ⟨_, a', cap', q1, s2, s3, s4, q2, q3, q4, q5⟩
/-- The group's block G, what it holds, all else above its bound kept. -/
def OS (w : World) (G : Nat) (id : Int) (f : Int → Int) (p : Int) (l : List EntryC) (a : Option Addr) (cap : Nat) (W : World) : Prop :=
  W.heap[G]? = some (.cells #[.int .i64 id, .int .i64 1, .int .i64 0, .int .i64 0, .int .i64 0, .int .i64 0, .slice a l.length cap] 26 (0, 0)) ∧ HasG W a ⟨id, 1, 0, 0, 0, 0, l⟩ ∧ l.length ≤ cap ∧ OI f p l ∧ w.heap.size ≤ G ∧ Below w.heap.size w W
theorem OS.below {w W W2 : World} {G : Nat} {id : Int} {f : Int → Int} {p : Int} {l : List EntryC} {a : Option Addr} {cap : Nat} (h : OS w G id f p l a cap W) (hB : Below W.heap.size W W2) : OS w G id f p l a cap W2 :=
  ⟨(hB.block _ (heap_lt h.1)).trans h.1, h.2.1.below hB, h.2.2.1, h.2.2.2.1, h.2.2.2.2.1, bel2 h.2.2.2.2.2 hB⟩
theorem OS.step {w W W9 : World} {G : Nat} {id : Int} {f : Int → Int} {p : Int} {l l' : List EntryC} {a a' : Option Addr} {cap cap' : Nat} (h : OS w G id f p l a cap W) (hB : Below W.heap.size W W9) (hg : HasG W9 a' ⟨id, 1, 0, 0, 0, 0, l'⟩) (hN : ∀ b, inBlkE a' l'.length b → W.heap.size ≤ b) (hc : l'.length ≤ cap') (ho : OI f p l') :
    OS w G id f p l' a' cap' (st7 W9 G (.int .i64 id) (.int .i64 1) (.int .i64 0) (.int .i64 0) (.int .i64 0) (.int .i64 0) (.slice a' l'.length cap')) ∧ FrameT (fun k => k = G) W9 (st7 W9 G (.int .i64 id) (.int .i64 1) (.int .i64 0) (.int .i64 0) (.int .i64 0) (.int .i64 0) (.slice a' l'.length cap')) := by
  have hb := (hB.block _ (heap_lt h.1)).trans h.1
  have hF := st7_frame W9 G (.int .i64 id) (.int .i64 1) (.int .i64 0) (.int .i64 0) (.int .i64 0) (.int .i64 0) (.slice a' l'.length cap')
  have hB2 := bel2 h.2.2.2.2.2 hB
  have hGl := heap_lt h.1
  have hGw := h.2.2.2.2.1
  exact ⟨⟨st7_block hb _ _ _ _ _ _ _, ⟨hg.1, rowV_frame hg.2 hF (fun b hb h => by have := hN b hb; omega)⟩, hc, ho, hGw, hB2.trans (hF.toBelow hB2.size (fun b h => by omega))⟩, hF⟩

end Go.Proofs.Ytfbibpnkfmgkaaa
