/- What becomes of a disk in memory: a file laid in, taken out, turned. -/
import Derived.Test.YtieekahlknmkfaaDsk
namespace Go.Proofs.Ytieekahlknmkfaa
open Go.RowKit Go.Shelf
set_option linter.unusedVariables false

theorem frame_grown {w w' : World} {row : Option Nat} (h : w.grownBy w' row) : FrameT (fun k => some k = row) w w' := ⟨h.os, h.tape, h.output, h.size, fun k hk hT => h.block k hk hT⟩
theorem frame_map {w w' : World} {m : Nat} (h : w.grownBy w' (some m)) : FrameT (fun k => k = m) w w' := (frame_grown h).mono fun k hk => by injection hk
/-- No block of files or rows is the map's, none of rows a file's or the disk's. -/
theorem HasDisk.apart {W : World} {B d m : Nat} {D : PD} {F : List FileC} (h : HasDisk W B d m D F) : m ≠ d ∧ (∀ f ∈ F, f.fb ≠ d ∧ f.fb ≠ m ∧ f.v.ownBlock ≠ some d ∧ f.v.ownBlock ≠ some m) ∧ ∀ f ∈ F, ∀ g ∈ F, f.v.ownBlock ≠ some g.fb := by
  obtain ⟨es, clock, h1, _⟩ := h.map
  have row : ∀ f ∈ F, ∀ j, f.v.ownBlock = some j → ∃ cur fz, W.heap[j]? = some (.cells cur 5 fz) := fun f hf j hj => by
    rcases (h.file f hf).2.1.2 with ⟨hv, _⟩ | ⟨g, cap, cur, fz, hv, _, hg, _⟩
    · rw [hv] at hj; cases hj
    · rw [hv] at hj
      obtain rfl : g = j := by simpa [Value.ownBlock] using hj
      exact ⟨cur, fz, hg⟩
  refine ⟨fun e => (by rw [e, h.cell] at h1; cases h1), fun f hf => ⟨fun e => ?_, fun e => ?_, fun e => ?_, fun e => ?_⟩, fun f hf g hg e => ?_⟩
  · have := (h.file f hf).1
    rw [e, h.cell] at this
    injection this with this; injection this with _ ht; exact absurd ht (by decide)
  · have := (h.file f hf).1
    rw [e, h1] at this; cases this
  · obtain ⟨cur, fz, hc⟩ := row f hf d e
    rw [h.cell] at hc
    injection hc with hc; injection hc with _ ht; exact absurd ht (by decide)
  · obtain ⟨cur, fz, hc⟩ := row f hf m e
    rw [h1] at hc; cases hc
  · obtain ⟨cur, fz, hc⟩ := row f hf _ e
    rw [(h.file g hg).1] at hc
    injection hc with hc; injection hc with _ ht; exact absurd ht (by decide)
/-- What lies in the disk's blocks lies in the heap. -/
theorem HasDisk.lt {W : World} {B d m : Nat} {D : PD} {F : List FileC} (h : HasDisk W B d m D F) {k : Nat} (hk : ownD F d m k) : k < W.heap.size := by
  rcases hk with rfl | rfl | ⟨f, hf, rfl | hj⟩
  · exact (Array.getElem?_eq_some_iff.1 h.cell).1
  · exact h.map.lt
  · exact (Array.getElem?_eq_some_iff.1 (h.file f hf).1).1
  · exact (ownsG_lt (h.file f hf).2.1 k hj).2
theorem HasDisk.ge {W : World} {B d m : Nat} {D : PD} {F : List FileC} (h : HasDisk W B d m D F) {k : Nat} (hk : ownD F d m k) : B ≤ k := by
  rcases hk with rfl | rfl | ⟨f, hf, rfl | hj⟩
  · exact h.low.1
  · exact h.low.2.1
  · exact h.low.2.2 f hf
  · exact (ownsG_lt (h.file f hf).2.1 k hj).1
theorem pairwise_put {α : Type} {R : α → α → Prop} (hs : ∀ {a b}, R a b → R b a) {nm : α → ByteArray} {x : α} {F : List α} (h : F.Pairwise R) (hx : ∀ y ∈ F, nm y ≠ nm x → R x y) : (putK nm x F).Pairwise R := by
  unfold putK
  rw [(insK_perm nm x _).pairwise_iff hs, List.pairwise_cons]
  exact ⟨fun y hy => hx y (mem_delK.1 hy).1 (mem_delK.1 hy).2, h.sublist List.filter_sublist⟩
theorem mem_putK {α : Type} {nm : α → ByteArray} {x y : α} {F : List α} : y ∈ putK nm x F ↔ y = x ∨ (y ∈ F ∧ nm y ≠ nm x) := by unfold putK; rw [mem_insK, mem_delK]
theorem mem_setK {α : Type} {nm : α → ByteArray} {x y : α} {F : List α} (h : y ∈ setK nm x F) : y = x ∨ (y ∈ F ∧ nm y ≠ nm x) := by
  unfold setK at h
  obtain ⟨f, hf, e⟩ := List.mem_map.1 h
  by_cases hn : nm f = nm x
  · rw [if_pos hn] at e; exact .inl e.symm
  · rw [if_neg hn] at e; subst e; exact .inr ⟨hf, hn⟩
theorem HasDisk.put {W w1 : World} {B d m n' : Nat} {D : PD} {F : List FileC} (h : HasDisk W B d m D F) (x : FileC) (hd : ∀ g ∈ F, g.n ≠ x.n → g.fb ≠ x.fb ∧ ∀ j, g.v.ownBlock = some j → x.v.ownBlock ≠ some j)
    (hx : w1.heap[x.fb]? = some (.cells #[x.v, .int .i64 x.k] 85 (0, 0)) ∧ ownsG w1 B 5 1 x.v x.b.length (x.b.map vb) ∧ x.k ≤ x.b.length) (hm : w1.ownsMap Try.prog 9 ptrElem m n' ((dmap F).put (.string x.n.data.toList) (.lit (.int .i64 x.fb)))) (hF : FrameT (fun k => k = m) W w1) (hB : B ≤ x.fb) :
    HasDisk w1 B d m { D with L := putK PF.n x.core D.L } (putK FileC.n x F) := by
  obtain ⟨a1, a2, a3⟩ := h.apart
  rw [dmap_put] at hm
  have hm2 := ownsMap_tight hm
  rw [dmap_size] at hm2
  exact
  { cell := hF.get h.cell (fun e => a1 e.symm)
    map := hm2
    file := fun f hf => by
      rcases mem_putK.1 hf with rfl | ⟨hf, _⟩
      · exact hx
      · exact ⟨hF.get (h.file f hf).1 (a2 f hf).2.1, ownsG_frame (h.file f hf).2.1 hF (fun j hj e => (a2 f hf).2.2.2 (by rw [← e]; exact hj)), (h.file f hf).2.2⟩
    fbs := pairwise_put (fun e => Ne.symm e) h.fbs (fun y hy hn => (hd y hy hn).1.symm)
    rows := pairwise_put (fun {a b} hab j hj e => hab j e hj) h.rows (fun y hy hn j hj e => (hd y hy hn).2 j e hj)
    nms := pairwise_put (fun e => Ne.symm e) h.nms (fun y hy hn => hn.symm)
    core := by rw [putK_map (nm := FileC.n) (nb := PF.n) (g := FileC.core) (fun _ => rfl), h.core]
    low := ⟨h.low.1, h.low.2.1, fun f hf => by
      rcases mem_putK.1 hf with rfl | ⟨hf, _⟩
      · exact hB
      · exact h.low.2.2 f hf⟩ }
theorem HasDisk.del {W w1 : World} {B d m n' : Nat} {D : PD} {F : List FileC} (h : HasDisk W B d m D F) (s : ByteArray) (hm : w1.ownsMap Try.prog 9 ptrElem m n' ((dmap F).del (.string s.data.toList))) (hF : FrameT (fun k => k = m) W w1) :
    HasDisk w1 B d m { D with L := delK PF.n D.L s } (delK FileC.n F s) := by
  obtain ⟨a1, a2, a3⟩ := h.apart
  rw [dmap_del] at hm
  have hm2 := ownsMap_tight hm
  rw [dmap_size] at hm2
  exact
  { cell := hF.get h.cell (fun e => a1 e.symm)
    map := hm2
    file := fun f hf => by
      have hf := (mem_delK.1 hf).1
      exact ⟨hF.get (h.file f hf).1 (a2 f hf).2.1, ownsG_frame (h.file f hf).2.1 hF (fun j hj e => (a2 f hf).2.2.2 (by rw [← e]; exact hj)), (h.file f hf).2.2⟩
    fbs := h.fbs.sublist List.filter_sublist
    rows := h.rows.sublist List.filter_sublist
    nms := h.nms.sublist List.filter_sublist
    core := by rw [delK_map (nm := FileC.n) (nb := PF.n) (g := FileC.core) (fun _ => rfl), h.core]
    low := ⟨h.low.1, h.low.2.1, fun f hf => h.low.2.2 f (mem_delK.1 hf).1⟩ }
theorem pairwise_set {α : Type} {R : α → α → Prop} (hs : ∀ {a b}, R a b → R b a) {nm : α → ByteArray} {x : α} : ∀ {F : List α}, F.Pairwise R → F.Pairwise (fun f g => nm f ≠ nm g) → (∀ y ∈ F, nm y ≠ nm x → R x y) → (setK nm x F).Pairwise R
  | [], _, _, _ => List.Pairwise.nil
  | f :: F, h, hn, hx => by
    obtain ⟨h1, h2⟩ := List.pairwise_cons.1 h
    obtain ⟨n1, n2⟩ := List.pairwise_cons.1 hn
    have ih := pairwise_set hs h2 n2 (fun y hy => hx y (List.mem_cons_of_mem _ hy))
    show (List.Pairwise R ((if nm f = nm x then x else f) :: setK nm x F))
    rw [List.pairwise_cons]
    refine ⟨fun g hg => ?_, ih⟩
    rcases mem_setK hg with rfl | ⟨hg, hgn⟩
    · by_cases e : nm f = nm g
      · rw [if_pos e]
        exfalso
        unfold setK at hg
        obtain ⟨y, hy, ey⟩ := List.mem_map.1 hg
        by_cases hyn : nm y = nm g
        · exact n1 y hy (e.trans hyn.symm)
        · rw [if_neg hyn] at ey; exact hyn (by rw [ey])
      · rw [if_neg e]; exact hs (hx f List.mem_cons_self e)
    · by_cases e : nm f = nm x
      · rw [if_pos e]; exact hx g (List.mem_cons_of_mem _ hg) hgn
      · rw [if_neg e]; exact h1 g hg
theorem pairwise_get {α : Type} {R : α → α → Prop} (hs : ∀ {a b}, R a b → R b a) {F : List α} (h : F.Pairwise R) {f g : α} (hf : f ∈ F) (hg : g ∈ F) : f = g ∨ R f g := by
  induction F with
  | nil => cases hf
  | cons y r ih =>
    obtain ⟨h1, h2⟩ := List.pairwise_cons.1 h
    rcases List.mem_cons.1 hf with e1 | hf' <;> rcases List.mem_cons.1 hg with e2 | hg'
    · exact .inl (e1.trans e2.symm)
    · rw [e1]; exact .inr (h1 g hg')
    · rw [e2]; exact .inr (hs (h1 f hf'))
    · exact ih h2 hf' hg'
/-- A file's struct and row have turned, nothing else. -/
theorem HasDisk.set {W w1 : World} {B d m : Nat} {D : PD} {F : List FileC} (h : HasDisk W B d m D F) {f : FileC} (hf : f ∈ F) (x : FileC) (hn : x.n = f.n) (hfb : x.fb = f.fb)
    (hx : w1.heap[x.fb]? = some (.cells #[x.v, .int .i64 x.k] 85 (0, 0)) ∧ ownsG w1 B 5 1 x.v x.b.length (x.b.map vb) ∧ x.k ≤ x.b.length) (hv : ∀ j, x.v.ownBlock = some j → f.v.ownBlock = some j ∨ W.heap.size ≤ j) (hF : FrameT (fun k => k = f.fb ∨ f.v.ownBlock = some k) W w1) :
    HasDisk w1 B d m { D with L := setK PF.n x.core D.L } (setK FileC.n x F) := by
  obtain ⟨a1, a2, a3⟩ := h.apart
  have only : ∀ g ∈ F, g.n = x.n → g = f := fun g hg e => by
    rcases pairwise_get (fun e => Ne.symm e) h.nms hg hf with e1 | e1
    · exact e1
    · exact absurd (e.trans hn) e1
  have other : ∀ g ∈ F, g.n ≠ x.n → g.fb ≠ f.fb ∧ (∀ j, g.v.ownBlock = some j → f.v.ownBlock ≠ some j) := fun g hg e => by
    constructor
    · rcases pairwise_get (fun e => Ne.symm e) h.fbs hg hf with e1 | e1
      · subst e1; exact absurd hn.symm e
      · exact e1
    · rcases pairwise_get (R := fun f g : FileC => ∀ j, f.v.ownBlock = some j → g.v.ownBlock ≠ some j) (fun {a b} hab j hj e => hab j e hj) h.rows hg hf with e1 | e1
      · subst e1; exact absurd hn.symm e
      · exact e1
  exact
  { cell := hF.get h.cell (by
      rintro (e | e)
      · exact (a2 f hf).1 e.symm
      · exact (a2 f hf).2.2.1 e)
    map := by
      rw [dmap_set (fun g hg e => by rw [only g hg e]; exact hfb.symm), show (setK FileC.n x F).length = F.length by simp [setK]]
      exact ownsMap_frame h.map hF (by
        rintro (e | e)
        · exact (a2 f hf).2.1 e.symm
        · exact (a2 f hf).2.2.2 e)
    file := fun g hg => by
      rcases mem_setK hg with rfl | ⟨hg, hgn⟩
      · exact hx
      · obtain ⟨o1, o2⟩ := other g hg hgn
        refine ⟨hF.get (h.file g hg).1 ?_, ownsG_frame (h.file g hg).2.1 hF ?_, (h.file g hg).2.2⟩
        · rintro (e | e)
          · exact o1 e
          · exact a3 f hf g hg e
        · rintro j hj (e | e)
          · exact a3 g hg f hf (by rw [← e]; exact hj)
          · exact o2 j hj e
    fbs := pairwise_set (fun e => Ne.symm e) h.fbs h.nms (fun y hy hyn => by rw [hfb]; exact (other y hy hyn).1.symm)
    rows := pairwise_set (fun {a b} hab j hj e => hab j e hj) h.rows h.nms (fun y hy hyn j hj e => by
      rcases hv j hj with h1 | h1
      · exact (other y hy hyn).2 j e h1
      · have := h.lt (k := j) (.inr (.inr ⟨y, hy, .inr e⟩)); omega)
    nms := pairwise_set (fun e => Ne.symm e) h.nms h.nms (fun y hy hyn => hyn.symm)
    core := by rw [setK_map (nm := FileC.n) (nb := PF.n) (g := FileC.core) (fun _ => rfl), h.core]
    low := ⟨h.low.1, h.low.2.1, fun g hg => by
      rcases mem_setK hg with rfl | ⟨hg, _⟩
      · rw [hfb]; exact h.low.2.2 f hf
      · exact h.low.2.2 g hg⟩ }
/-- What an operation leaves: a disk; nothing else has turned. -/
def OpD (W : World) (B d m : Nat) (F : List FileC) (D' : PD) (W' : World) : Prop := ∃ F', HasDisk W' B d m D' F' ∧ FrameT (ownD F d m) W W' ∧ ∀ k, ownD F' d m k → ownD F d m k ∨ W.heap.size ≤ k
theorem OpD.refl {W : World} {B d m : Nat} {D : PD} {F : List FileC} (h : HasDisk W B d m D F) : OpD W B d m F D W := ⟨F, h, FrameT.refl _ _, fun _ hk => .inl hk⟩
theorem HasDisk.get {W : World} {B d m : Nat} {D : PD} {F : List FileC} (h : HasDisk W B d m D F) (s : ByteArray) : (getK PF.n D.L s) = (getK FileC.n F s).map FileC.core := by rw [← h.core, getK_map (nm := FileC.n) (nb := PF.n) (g := FileC.core) (fun _ => rfl)]

end Go.Proofs.Ytieekahlknmkfaa
