/- SprFam, SprFwd: in one text. -/
import Derived.Test.YtfbibpnkfmgkaaaSprDo
import Derived.Test.YtfbibpnkfmgkaaaSprM
import Derived.Test.YtfbibpnkfmgkaaaRef6c
/- Groups with holes that grow by parts of one entry each. -/
namespace Go.Proofs.Ytfbibpnkfmgkaaa
open Go.RowKit Go.Shelf
set_option linter.unusedVariables false
attribute [local go_sem] Oper.semAt_some wide_fn wide_round_fn

/-- Rising, each one's term told by its index. -/
def OI (f : Int → Int) (p : Int) (l : List EntryC) : Prop := Pw l ∧ ∀ e ∈ l, ∃ j, 1 ≤ j ∧ j ≤ p ∧ e = ⟨j, f j, ⟨#[]⟩⟩
theorem OI.nil (f : Int → Int) (p : Int) : OI f p [] := ⟨List.Pairwise.nil, fun _ h => by simp at h⟩
theorem pw_len : ∀ {l : List EntryC} {lo hi : Int}, Pw l → (∀ e ∈ l, lo ≤ e.i ∧ e.i ≤ hi) → l.length ≤ (hi - lo + 1).toNat
  | [], _, _, _, _ => by simp
  | e :: r, lo, hi, h, hb => by
    obtain ⟨h1, h2⟩ := List.pairwise_cons.1 h
    have h3 := hb e (by simp)
    have h4 := pw_len (lo := e.i + 1) (hi := hi) h2 fun x hx => ⟨by have := h1 x hx; omega, (hb x (by simp [hx])).2⟩
    simp only [List.length_cons]
    omega
theorem oi_len {f : Int → Int} {p : Int} {l : List EntryC} (h : OI f p l) : l.length ≤ p.toNat := by
  have := pw_len (lo := 1) (hi := p) h.1 fun e he => by obtain ⟨j, h1, h2, rfl⟩ := h.2 e he; exact ⟨h1, h2⟩
  omega
/-- Terms that may be. -/
def OkT (f : Int → Int) (p : Int) : Prop := p ≤ 100000 ∧ ∀ j, 1 ≤ j → j ≤ p → 1 ≤ f j ∧ f j ≤ 1099511627776
theorem oi_entry {f : Int → Int} {p J : Int} (hf : OkT f p) (hJ : 1 ≤ J ∧ J ≤ p) : entryB ⟨J, f J, ⟨#[]⟩⟩ = true := by
  have h1 := hf.1
  unfold entryB; rw [Bool.and_eq_true, Bool.and_eq_true, wB_iff, wB_iff]
  exact ⟨⟨hJ.1, by show J ≤ _; omega⟩, hf.2 J hJ.1 hJ.2, rfl⟩
theorem oi_isSp {f : Int → Int} {p id : Int} {l : List EntryC} (hf : OkT f p) (h : OI f p l) (hid : 0 ≤ id ∧ id ≤ 999) : isSp ⟨id, 1, 0, 0, 0, 0, l⟩ = true :=
  isSp_iff.2 ⟨⟨hid, ⟨by show (1 : Int) ≤ 1; omega, by show (1 : Int) ≤ _; omega⟩, ⟨by show (0 : Int) ≤ 0; omega, by show (0 : Int) ≤ _; omega⟩⟩, rfl, sprB_iff.2 ⟨fun e he => by obtain ⟨j, h1, h2, rfl⟩ := h.2 e he; exact oi_entry hf ⟨h1, h2⟩, fun e he => by obtain ⟨j, h1, h2, rfl⟩ := h.2 e he; exact h1, h.1⟩⟩
theorem oi_step {f : Int → Int} {p id J : Int} {l : List EntryC} (h : OI f p l) (hJ : 1 ≤ J ∧ J ≤ p) : addG ⟨id, 1, 0, 0, 0, 0, l⟩ [⟨J, f J, ⟨#[]⟩⟩] = ⟨id, 1, 0, 0, 0, 0, (mrg l [⟨J, f J, ⟨#[]⟩⟩])⟩ ∧ OI f p (mrg l [⟨J, f J, ⟨#[]⟩⟩]) ∧ ⟨J, f J, ⟨#[]⟩⟩ ∈ mrg l [⟨J, f J, ⟨#[]⟩⟩] ∧ ∀ x ∈ l, x ∈ mrg l [⟨J, f J, ⟨#[]⟩⟩] := by
  refine ⟨?_, ⟨mrg_pw h.1 (List.pairwise_singleton _ _), fun e he => ?_⟩, ?_, fun x hx => mrg_left hx⟩
  · unfold addG
    rw [show fnd [⟨J, f J, ⟨#[]⟩⟩] (1 : Int) = 0 from fnd_eq (by simp) (fun j hj => by omega) (fun j hj h => by obtain rfl : j = 0 := (by simp at hj; omega); exact hJ.1)]
    rfl
  · rcases mrg_mem he with he | he
    · exact h.2 e he
    · rw [List.mem_singleton.1 he]; exact ⟨J, hJ.1, hJ.2, rfl⟩
  · obtain ⟨x, h1, h2, h3⟩ := mrg_right (a := l) (List.mem_singleton.2 (rfl : ⟨J, f J, ⟨#[]⟩⟩ = ⟨J, f J, ⟨#[]⟩⟩))
    rcases h3 with rfl | h3
    · exact h1
    · obtain ⟨j, -, -, rfl⟩ := h.2 x h3
      obtain rfl : j = J := h2
      exact h1
/-- What a part of one entry written anew makes of it. -/
def ODoP (W : World) (f : Int → Int) (p id J : Int) (l : List EntryC) (e : Ending) (w' : World) : Prop :=
  ∃ l' a' cap', e = .returned (.agg #[.int .i64 id, .int .i64 1, .int .i64 0, .int .i64 0, .int .i64 0, .int .i64 0, .slice a' l'.length cap']) ∧ OI f p l' ∧ ⟨J, f J, ⟨#[]⟩⟩ ∈ l' ∧ (∀ x ∈ l, x ∈ l') ∧ HasG w' a' ⟨id, 1, 0, 0, 0, 0, l'⟩ ∧ l'.length ≤ cap' ∧ Below W.heap.size W w' ∧ ∀ b, inBlkE a' l'.length b → W.heap.size ≤ b
theorem odo {f : Int → Int} {p id J : Int} (hf : OkT f p) (hid : 0 ≤ id ∧ id ≤ 999) (l : List EntryC) (a : Option Addr) (cap Y : Nat) (W : World) (ho : OI f p l) (hJ : 1 ≤ J ∧ J ≤ p) (hg : HasG W a ⟨id, 1, 0, 0, 0, 0, l⟩) (hc : l.length ≤ cap) (h : W.heap[Y]? = some (.cells #[.int .i64 J, .int .i64 (f J), .string ⟨#[]⟩] 38 (0, 0))) :
    Calls Try.prog 12 #[.agg #[.int .i64 id, .int .i64 1, .int .i64 0, .int .i64 0, .int .i64 0, .int .i64 0, .slice a l.length cap], .agg #[.int .i64 id, .int .i64 6, .slice (some ⟨Y, 0, none⟩) 1 1, .int .i64 0, .int .i64 0, .int .i64 0, .int .i64 0, .int .i64 0, .bool false, .bool false]] W (ODoP W f p id J l) := by
  have hI := oi_isSp hf ho hid
  have h1 := hf.1
  have hJ2 : 1 ≤ J ∧ J ≤ 1099511627776 := ⟨hJ.1, by omega⟩
  have hl := oi_len ho
  obtain ⟨s1, s2, s3, s4⟩ := oi_step (id := id) ho hJ
  have := sdo_valid id 1 0 0 0 0 l a cap 6 (some ⟨Y, 0, none⟩) 1 1 0 0 0 0 0 false false [⟨J, f J, ⟨#[]⟩⟩] W hg hc ⟨rfl, (by decide : 1 < 1000000), by exact rowV_block (cs := #[.int .i64 J, .int .i64 (f J), .string ⟨#[]⟩]) (n := 1) (sz := 3) h rfl (by decide)⟩ (by simp) (by omega) hI (fwd1_is _ _ hid hJ2 (hf.2 J hJ.1 hJ.2))
  rw [fwd1_do _ _ hI rfl hid hJ2 (hf.2 J hJ.1 hJ.2), s1] at this
  exact this.mono fun _ _ ⟨a', cap', q1, q2, q3, q4, q5⟩ => ⟨_, a', cap', q1, s2, s3, s4, q2, q3, q4, q5⟩
/-- The group's block G, what it holds, all else above its bound kept. -/
def OS (w : World) (G : Nat) (id : Int) (f : Int → Int) (p : Int) (l : List EntryC) (a : Option Addr) (cap : Nat) (W : World) : Prop :=
  W.heap[G]? = some (.cells #[.int .i64 id, .int .i64 1, .int .i64 0, .int .i64 0, .int .i64 0, .int .i64 0, .slice a l.length cap] 26 (0, 0)) ∧ HasG W a ⟨id, 1, 0, 0, 0, 0, l⟩ ∧ l.length ≤ cap ∧ OI f p l ∧ w.heap.size ≤ G ∧ Below w.heap.size w W
theorem OS.below {w W W2 : World} {G : Nat} {id : Int} {f : Int → Int} {p : Int} {l : List EntryC} {a : Option Addr} {cap : Nat} (h : OS w G id f p l a cap W) (hB : Below W.heap.size W W2) : OS w G id f p l a cap W2 :=
  ⟨(hB.block _ (heap_lt h.1)).trans h.1, h.2.1.below hB, h.2.2.1, h.2.2.2.1, h.2.2.2.2.1, bel2 h.2.2.2.2.2 hB⟩
theorem OS.step {w W W9 : World} {G : Nat} {id : Int} {f : Int → Int} {p : Int} {l l' : List EntryC} {a a' : Option Addr} {cap cap' : Nat} (h : OS w G id f p l a cap W) (hB : Below W.heap.size W W9) (hg : HasG W9 a' ⟨id, 1, 0, 0, 0, 0, l'⟩) (hN : ∀ b, inBlkE a' l'.length b → W.heap.size ≤ b) (hc : l'.length ≤ cap') (ho : OI f p l') :
    OS w G id f p l' a' cap' (st7 W9 G (.int .i64 id) (.int .i64 1) (.int .i64 0) (.int .i64 0) (.int .i64 0) (.int .i64 0) (.slice a' l'.length cap')) ∧ FrameT (fun k => k = G) W9 (st7 W9 G (.int .i64 id) (.int .i64 1) (.int .i64 0) (.int .i64 0) (.int .i64 0) (.int .i64 0) (.slice a' l'.length cap')) := by
  have hb := (hB.block _ (heap_lt h.1)).trans h.1
  have hF := st7_frame W9 G (.int .i64 id) (.int .i64 1) (.int .i64 0) (.int .i64 0) (.int .i64 0) (.int .i64 0) (.slice a' l'.length cap')
  have hB2 := bel2 h.2.2.2.2.2 hB
  have hGl := heap_lt h.1
  have hGw := h.2.2.2.2.1
  exact ⟨⟨st7_block hb _ _ _ _ _ _ _, ⟨hg.1, rowV_frame hg.2 hF (fun b hb h => by have := hN b hb; omega)⟩, hc, ho, hGw, hB2.trans (hF.toBelow hB2.size (fun b h => by omega))⟩, hF⟩

end Go.Proofs.Ytfbibpnkfmgkaaa

/- A group that is made again out of parts that are written anew: on lists alone. -/
namespace Go.Proofs.Ytfbibpnkfmgkaaa
open Go.RowKit Go.Shelf
set_option linter.unusedVariables false

/-- Of l's entries; the first q are there. -/
def FW (l L : List EntryC) (q : Nat) : Prop := Pw L ∧ (∀ e ∈ L, e ∈ l) ∧ ∀ j (h : j < l.length), j < q → l[j] ∈ L
theorem dense_pw {l : List EntryC} {f : Int} (h : denseB l f = true) : Pw l := (sprB_iff.1 (dense_spr h)).2.2
theorem dense_mem {l : List EntryC} {f : Int} (h : denseB l f = true) {e : EntryC} (he : e ∈ l) : f ≤ e.i ∧ e.i ≤ f + l.length - 1 ∧ entryB e = true := by
  obtain ⟨j, hj, rfl⟩ := List.getElem_of_mem he
  have := denseB_at h hj
  exact ⟨by omega, by omega, this.2⟩
theorem dense_uniq {l : List EntryC} {f : Int} (h : denseB l f = true) {x y : EntryC} (hx : x ∈ l) (hy : y ∈ l) (hi : x.i = y.i) : x = y := by
  obtain ⟨j, hj, rfl⟩ := List.getElem_of_mem hx
  obtain ⟨k, hk, rfl⟩ := List.getElem_of_mem hy
  have h1 := (denseB_at h hj).1
  have h2 := (denseB_at h hk).1
  obtain rfl : j = k := by omega
  rfl
theorem fw_len {l L : List EntryC} {f : Int} {q : Nat} (h : denseB l f = true) (hw : FW l L q) : L.length ≤ l.length := by
  have := pw_len (lo := f) (hi := f + l.length - 1) hw.1 fun e he => by have := dense_mem h (hw.2.1 e he); exact ⟨this.1, this.2.1⟩
  omega
theorem fw_end {l L : List EntryC} {f : Int} {q : Nat} (h : denseB l f = true) (hw : FW l L q) (hq : l.length ≤ q) : L = l :=
  pw_ext hw.1 (dense_pw h) fun e => ⟨hw.2.1 e, fun he => by obtain ⟨j, hj, rfl⟩ := List.getElem_of_mem he; exact hw.2.2 j hj (by omega)⟩
theorem fw_snoc {l K : List EntryC} {f : Int} {q : Nat} (h : denseB l f = true) (hq : q < l.length) (hP : Pw K) (hK : ∀ e ∈ K, e ∈ l.take q) : Pw (K ++ [l[q]]) ∧ ∀ e ∈ K ++ [l[q]], e ∈ l.take (q + 1) := by
  refine ⟨List.pairwise_append.2 ⟨hP, List.pairwise_singleton _ _, fun x hx y hy => ?_⟩, fun e he => ?_⟩
  · rw [List.mem_singleton] at hy
    subst hy
    obtain ⟨j, hj, e⟩ := List.getElem_of_mem (hK x hx)
    rw [List.length_take] at hj
    rw [List.getElem_take] at e
    have h1 := (denseB_at h (k := j) (by omega)).1
    have h2 := (denseB_at h hq).1
    rw [e] at h1
    omega
  · rw [List.take_succ_eq_append_getElem hq]
    rcases List.mem_append.1 he with he | he
    · exact List.mem_append_left _ (hK e he)
    · exact List.mem_append_right _ he
theorem fw_isSp {id fi te ht hv hc : Int} {l L : List EntryC} {q : Nat} (hG : isG ⟨id, fi, te, ht, hv, hc, l⟩ = true) (hw : FW l L q) : isSp ⟨id, fi, te, ht, hv, hc, L⟩ = true := by
  obtain ⟨h0, h4, hd⟩ := isG_iff.1 hG
  exact isSp_iff.2 ⟨h0, h4, sprB_iff.2 ⟨fun e he => (dense_mem hd (hw.2.1 e he)).2.2, fun e he => (dense_mem hd (hw.2.1 e he)).1, hw.1⟩⟩
theorem fw_do {id fi te ht hv hc : Int} {l L : List EntryC} {q s n c : Nat} {a : Option Addr} (hG : isG ⟨id, fi, te, ht, hv, hc, l⟩ = true) (hw : FW l L q)
    (hB : isB ⟨id, 6, a, n, c, 0, 0, 0, 0, 0, false, false⟩ ((l.take (min (q + s) l.length)).drop q) = true) :
    doSp ⟨id, fi, te, ht, hv, hc, L⟩ ⟨id, 6, a, n, c, 0, 0, 0, 0, 0, false, false⟩ ((l.take (min (q + s) l.length)).drop q) = ⟨id, fi, te, ht, hv, hc, mrg L ((l.take (min (q + s) l.length)).drop q)⟩ ∧ FW l (mrg L ((l.take (min (q + s) l.length)).drop q)) (q + s) := by
  obtain ⟨h0, h4, hd⟩ := isG_iff.1 hG
  have hI := fw_isSp hG hw
  obtain ⟨S, hS⟩ : ∃ S, S = (l.take (min (q + s) l.length)).drop q := ⟨_, rfl⟩
  rw [← hS] at hB ⊢
  have hSl : ∀ e ∈ S, e ∈ l := fun e he => by rw [hS] at he; exact List.mem_of_mem_take (List.mem_of_mem_drop he)
  have hSp : Pw S := by rw [hS]; exact ((dense_pw hd).sublist (List.take_sublist _ _)).sublist (List.drop_sublist _ _)
  have hf : fnd S fi = 0 := fnd_eq (Nat.zero_le _) (fun j hj => by omega) (fun j hj _ => (dense_mem hd (hSl _ (List.getElem_mem hj))).1)
  refine ⟨?_, mrg_pw hw.1 hSp, fun e he => ?_, fun j hj hjq => ?_⟩
  · rw [doSp_6 hI hB rfl rfl, if_neg (by simp), if_neg (by simp)]
    unfold addG
    dsimp only
    rw [hf, List.drop_zero]
  · rcases mrg_mem he with h | h
    · exact hw.2.1 e h
    · exact hSl e h
  · by_cases hjk : j < q
    · exact mrg_left (hw.2.2 j hj hjk)
    · have hm : l[j] ∈ S := by
        rw [hS]
        have h9 : j - q < ((l.take (min (q + s) l.length)).drop q).length := by rw [List.length_drop, List.length_take]; omega
        have e9 : ((l.take (min (q + s) l.length)).drop q)[j - q] = l[j] := by rw [List.getElem_drop, List.getElem_take]; congr 1; omega
        rw [← e9]
        exact List.getElem_mem h9
      obtain ⟨x, h1, h2, h3⟩ := mrg_right (a := L) hm
      rcases h3 with rfl | h3
      · exact h1
      · rw [← dense_uniq hd (hw.2.1 x h3) (hSl _ hm) h2]; exact h1
/-- The mark, the hard state. -/
theorem mrk_do {id fi te ht hv hc : Int} {l K : List EntryC} (hG : isG ⟨id, fi, te, ht, hv, hc, l⟩ = true) (hK : FW l K 0) (hf : 1 < fi) (ht0 : te ≠ 0) :
    isSp ⟨id, 1, 0, 0, 0, 0, K⟩ = true ∧ isB ⟨id, 6, none, 0, 0, 0, 0, 0, fi - 1, te, true, false⟩ [] = true ∧ doSp ⟨id, 1, 0, 0, 0, 0, K⟩ ⟨id, 6, none, 0, 0, 0, 0, 0, fi - 1, te, true, false⟩ [] = ⟨id, fi, te, 0, 0, 0, K⟩ := by
  obtain ⟨⟨h1, h2, h3⟩, h4, hd⟩ := isG_iff.1 hG
  dsimp only at h1 h2 h3 h4 hd
  have hI : isSp ⟨id, 1, 0, 0, 0, 0, K⟩ = true := isSp_iff.2 ⟨⟨h1, ⟨by show (1 : Int) ≤ 1; omega, by show (1 : Int) ≤ _; omega⟩, ⟨by show (0 : Int) ≤ 0; omega, by show (0 : Int) ≤ _; omega⟩⟩, rfl, sprB_iff.2 ⟨fun e he => (dense_mem hd (hK.2.1 e he)).2.2, fun e he => by have := (dense_mem hd (hK.2.1 e he)).1; show (1 : Int) ≤ e.i; omega, hK.1⟩⟩
  have hB := mrk_isB (k := id) (i := fi - 1) (t := te) h1 ⟨by omega, by omega⟩ ⟨by omega, by omega⟩
  refine ⟨hI, hB, ?_⟩
  rw [doSp_6 hI hB rfl rfl, if_neg (by simp), if_pos rfl, addG_nil]
  unfold cmpG
  dsimp only
  rw [if_neg (by omega), if_neg (by omega), show fi - 1 + 1 = fi by omega, show fnd K fi = 0 from fnd_eq (Nat.zero_le _) (fun j hj => by omega) (fun j hj _ => (dense_mem hd (hK.2.1 _ (List.getElem_mem hj))).1), List.drop_zero]
theorem hrd_do {id fi te ht hv hc : Int} {l K : List EntryC} (hG : isG ⟨id, fi, te, ht, hv, hc, l⟩ = true) (hK : FW l K 0) :
    isSp ⟨id, fi, te, 0, 0, 0, K⟩ = true ∧ isB ⟨id, 6, none, 0, 0, ht, hv, hc, 0, 0, false, true⟩ [] = true ∧ doSp ⟨id, fi, te, 0, 0, 0, K⟩ ⟨id, 6, none, 0, 0, ht, hv, hc, 0, 0, false, true⟩ [] = ⟨id, fi, te, ht, hv, hc, K⟩ := by
  obtain ⟨⟨h1, h2, h3⟩, h4, hd⟩ := isG_iff.1 hG
  dsimp only at h1 h2 h3 h4 hd
  have hI : isSp ⟨id, fi, te, 0, 0, 0, K⟩ = true := isSp_iff.2 ⟨⟨h1, h2, h3⟩, rfl, sprB_iff.2 ⟨fun e he => (dense_mem hd (hK.2.1 e he)).2.2, fun e he => (dense_mem hd (hK.2.1 e he)).1, hK.1⟩⟩
  have hB : isB ⟨id, 6, none, 0, 0, ht, hv, hc, 0, 0, false, true⟩ [] = true := by
    refine (isB_iff _ _).2 ⟨h1, .inr (.inr (.inr (.inr (.inr ⟨rfl, ?_, fun _ => ⟨rfl, rfl⟩, fun h => (by cases h)⟩))))⟩
    unfold isFwdB
    dsimp only
    rw [h4, show areB 1099511627776 [] = true from rfl]
    rfl
  refine ⟨hI, hB, ?_⟩
  rw [doSp_6 hI hB rfl rfl, if_pos rfl, if_neg (by simp), addG_nil]
  rfl

/-- The block of a group that is being made again. -/
abbrev FS (w : World) (G : Nat) (g : GM) (a : Option Addr) (cap : Nat) (W : World) : Prop :=
  W.heap[G]? = some (.cells (g.arr a cap) 26 (0, 0)) ∧ HasG W a g ∧ g.l.length ≤ cap ∧ w.heap.size ≤ G ∧ Below w.heap.size w W
theorem FS.below {w W W2 : World} {G : Nat} {g : GM} {a : Option Addr} {cap : Nat} (h : FS w G g a cap W) (hB : Below W.heap.size W W2) : FS w G g a cap W2 :=
  ⟨(hB.block _ (heap_lt h.1)).trans h.1, h.2.1.below hB, h.2.2.1, h.2.2.2.1, bel2 h.2.2.2.2 hB⟩
theorem FS.step {w W W9 : World} {G : Nat} {g g' : GM} {a a' : Option Addr} {cap cap' : Nat} (h : FS w G g a cap W) (hB : Below W.heap.size W W9) (hg : HasG W9 a' g') (hN : ∀ b, inBlkE a' g'.l.length b → W.heap.size ≤ b) (hc : g'.l.length ≤ cap') :
    FS w G g' a' cap' (st7 W9 G (.int .i64 g'.id) (.int .i64 g'.fi) (.int .i64 g'.te) (.int .i64 g'.ht) (.int .i64 g'.hv) (.int .i64 g'.hc) (.slice a' g'.l.length cap')) := by
  have hb := (hB.block _ (heap_lt h.1)).trans h.1
  have hF := st7_frame W9 G (.int .i64 g'.id) (.int .i64 g'.fi) (.int .i64 g'.te) (.int .i64 g'.ht) (.int .i64 g'.hv) (.int .i64 g'.hc) (.slice a' g'.l.length cap')
  have hB2 := bel2 h.2.2.2.2 hB
  have hGl := heap_lt h.1
  have hGw := h.2.2.2.1
  exact ⟨st7_block hb _ _ _ _ _ _ _, ⟨hg.1, rowV_frame hg.2 hF (fun b hb h => by have := hN b hb; omega)⟩, hc, hGw, hB2.trans (hF.toBelow hB2.size (fun b h => by omega))⟩

end Go.Proofs.Ytfbibpnkfmgkaaa
