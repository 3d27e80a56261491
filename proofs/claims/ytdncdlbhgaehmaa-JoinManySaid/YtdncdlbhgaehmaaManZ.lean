/- Lists by numbers: laid in, taken out, asked for; rising. -/
import Derived.Test.YtdncdlbhgaehmaaKit
namespace Go.Proofs.Ytdncdlbhgaehmaa
open Go.RowKit Go.Shelf
set_option linter.unusedVariables false

def insZ {α : Type} (nm : α → Int) (x : α) : List α → List α
  | [] => [x]
  | y :: r => if nm x < nm y then x :: y :: r else y :: insZ nm x r
def delZ {α : Type} (nm : α → Int) (F : List α) (s : Int) : List α := F.filter fun f => !decide (nm f = s)
def getZ {α : Type} (nm : α → Int) (F : List α) (s : Int) : Option α := F.find? fun f => decide (nm f = s)
def putZ {α : Type} (nm : α → Int) (x : α) (F : List α) : List α := insZ nm x (delZ nm F (nm x))
/-- Numbers rise. -/
def RisZ {α : Type} (nm : α → Int) (F : List α) : Prop := F.Pairwise fun a b => nm a < nm b
theorem insZ_perm {α : Type} (nm : α → Int) (x : α) : ∀ F : List α, (insZ nm x F).Perm (x :: F)
  | [] => List.Perm.refl _
  | y :: r => by
    unfold insZ
    split
    · exact List.Perm.refl _
    · exact ((insZ_perm nm x r).cons y).trans (List.Perm.swap x y r)
theorem insZ_len {α : Type} (nm : α → Int) (x : α) (F : List α) : (insZ nm x F).length = F.length + 1 := (insZ_perm nm x F).length_eq
theorem mem_insZ {α : Type} {nm : α → Int} {x y : α} {F : List α} : y ∈ insZ nm x F ↔ y = x ∨ y ∈ F := by rw [(insZ_perm nm x F).mem_iff, List.mem_cons]
theorem insZ_map {α β : Type} {nm : α → Int} {nb : β → Int} {g : α → β} (h : ∀ x, nb (g x) = nm x) (x : α) : ∀ F : List α, (insZ nm x F).map g = insZ nb (g x) (F.map g)
  | [] => rfl
  | y :: r => by
    simp only [insZ, List.map_cons, h]
    split
    · rfl
    · rw [List.map_cons, insZ_map h x r]
theorem delZ_map {α β : Type} {nm : α → Int} {nb : β → Int} {g : α → β} (h : ∀ x, nb (g x) = nm x) (F : List α) (s : Int) : (delZ nm F s).map g = delZ nb (F.map g) s := by
  unfold delZ; rw [List.filter_map]; congr 1; apply List.filter_congr; intro x _; simp [h]
theorem getZ_map {α β : Type} {nm : α → Int} {nb : β → Int} {g : α → β} (h : ∀ x, nb (g x) = nm x) (F : List α) (s : Int) : (getZ nm F s).map g = getZ nb (F.map g) s := by
  unfold getZ; rw [List.find?_map]; congr 2; funext x; simp [h]
theorem putZ_map {α β : Type} {nm : α → Int} {nb : β → Int} {g : α → β} (h : ∀ x, nb (g x) = nm x) (x : α) (F : List α) : (putZ nm x F).map g = putZ nb (g x) (F.map g) := by
  unfold putZ; rw [insZ_map h, delZ_map h, h]
theorem getZ_some {α : Type} {nm : α → Int} {F : List α} {s : Int} {f : α} (h : getZ nm F s = some f) : f ∈ F ∧ nm f = s := by
  unfold getZ at h
  exact ⟨List.mem_of_find?_eq_some h, by simpa using List.find?_some h⟩
theorem getZ_none {α : Type} {nm : α → Int} {F : List α} {s : Int} (h : getZ nm F s = none) : ∀ f ∈ F, nm f ≠ s := by
  unfold getZ at h
  intro f hf e
  have := List.find?_eq_none.1 h f hf
  simp [e] at this
theorem mem_delZ {α : Type} {nm : α → Int} {F : List α} {s : Int} {f : α} : f ∈ delZ nm F s ↔ f ∈ F ∧ nm f ≠ s := by
  unfold delZ; simp [List.mem_filter]
theorem mem_putZ {α : Type} {nm : α → Int} {x y : α} {F : List α} : y ∈ putZ nm x F ↔ y = x ∨ (y ∈ F ∧ nm y ≠ nm x) := by unfold putZ; rw [mem_insZ, mem_delZ]
theorem delZ_len {α : Type} (nm : α → Int) (F : List α) (s : Int) : (delZ nm F s).length ≤ F.length := List.length_filter_le _ _
theorem putZ_len {α : Type} (nm : α → Int) (x : α) (F : List α) : (putZ nm x F).length ≤ F.length + 1 := by
  unfold putZ; rw [insZ_len]; have := delZ_len nm F (nm x); omega
theorem risZ_insZ {α : Type} {nm : α → Int} {x : α} : ∀ {F : List α}, RisZ nm F → (∀ y ∈ F, nm y ≠ nm x) → RisZ nm (insZ nm x F)
  | [], _, _ => by simp [insZ, RisZ]
  | y :: r, h, hx => by
    obtain ⟨h1, h2⟩ := List.pairwise_cons.1 h
    have hy := hx y List.mem_cons_self
    unfold insZ
    split
    · rename_i hlt
      refine List.pairwise_cons.2 ⟨fun z hz => ?_, h⟩
      rcases List.mem_cons.1 hz with rfl | hz
      · exact hlt
      · have := h1 z hz; omega
    · rename_i hlt
      refine List.pairwise_cons.2 ⟨fun z hz => ?_, risZ_insZ h2 (fun z hz => hx z (List.mem_cons_of_mem _ hz))⟩
      rcases mem_insZ.1 hz with rfl | hz
      · omega
      · exact h1 z hz
theorem risZ_del {α : Type} {nm : α → Int} {F : List α} (h : RisZ nm F) (s : Int) : RisZ nm (delZ nm F s) := h.sublist List.filter_sublist
theorem risZ_put {α : Type} {nm : α → Int} {F : List α} (h : RisZ nm F) (x : α) : RisZ nm (putZ nm x F) := risZ_insZ (risZ_del h _) (fun y hy => (mem_delZ.1 hy).2)
theorem getZ_del_same {α : Type} (nm : α → Int) (F : List α) (s : Int) : getZ nm (delZ nm F s) s = none := by
  unfold getZ
  rw [List.find?_eq_none]
  intro f hf
  simp [(mem_delZ.1 hf).2]
theorem getZ_del_other {α : Type} (nm : α → Int) {s t : Int} (h : t ≠ s) : ∀ F : List α, getZ nm (delZ nm F s) t = getZ nm F t
  | [] => rfl
  | y :: r => by
    have ih := getZ_del_other nm h r
    unfold getZ delZ at ih ⊢
    by_cases e : nm y = s
    · rw [List.filter_cons_of_neg (by simp [e]), List.find?_cons_of_neg (by simp [e, Ne.symm h])]; exact ih
    · rw [List.filter_cons_of_pos (by simp [e])]
      by_cases e2 : nm y = t
      · rw [List.find?_cons_of_pos (by simp [e2]), List.find?_cons_of_pos (by simp [e2])]
      · rw [List.find?_cons_of_neg (by simp [e2]), List.find?_cons_of_neg (by simp [e2])]; exact ih
theorem getZ_ins_other {α : Type} (nm : α → Int) {x : α} {t : Int} (h : nm x ≠ t) : ∀ F : List α, getZ nm (insZ nm x F) t = getZ nm F t
  | [] => by unfold insZ getZ; rw [List.find?_cons_of_neg (by simp [h])]
  | y :: r => by
    have ih := getZ_ins_other nm h r
    unfold insZ
    split
    · unfold getZ; rw [List.find?_cons_of_neg (by simp [h])]
    · unfold getZ at ih ⊢
      by_cases e : nm y = t
      · rw [List.find?_cons_of_pos (by simp [e]), List.find?_cons_of_pos (by simp [e])]
      · rw [List.find?_cons_of_neg (by simp [e]), List.find?_cons_of_neg (by simp [e])]; exact ih
theorem getZ_ins_same {α : Type} (nm : α → Int) {x : α} : ∀ {F : List α}, (∀ y ∈ F, nm y ≠ nm x) → getZ nm (insZ nm x F) (nm x) = some x
  | [], _ => by unfold insZ getZ; rw [List.find?_cons_of_pos (by simp)]
  | y :: r, h => by
    have ih := getZ_ins_same nm (x := x) (F := r) (fun z hz => h z (List.mem_cons_of_mem _ hz))
    unfold insZ
    split
    · unfold getZ; rw [List.find?_cons_of_pos (by simp)]
    · unfold getZ at ih ⊢
      rw [List.find?_cons_of_neg (by simpa using h y List.mem_cons_self)]; exact ih
theorem getZ_put_same {α : Type} (nm : α → Int) (x : α) (F : List α) : getZ nm (putZ nm x F) (nm x) = some x := getZ_ins_same nm (fun y hy => (mem_delZ.1 hy).2)
theorem getZ_put_other {α : Type} (nm : α → Int) {x : α} {t : Int} (h : nm x ≠ t) (F : List α) : getZ nm (putZ nm x F) t = getZ nm F t := by
  unfold putZ; rw [getZ_ins_other nm h, getZ_del_other nm (Ne.symm h)]
/-- Rising lists are told by what they hold at each number. -/
theorem risZ_get {α : Type} {nm : α → Int} {F : List α} (h : RisZ nm F) {x : α} (hx : x ∈ F) : getZ nm F (nm x) = some x := by
  induction F with
  | nil => cases hx
  | cons y r ih =>
    obtain ⟨h1, h2⟩ := List.pairwise_cons.1 h
    unfold getZ at ih ⊢
    rcases List.mem_cons.1 hx with rfl | hx
    · rw [List.find?_cons_of_pos (by simp)]
    · have := h1 x hx
      rw [List.find?_cons_of_neg (by simp; omega)]; exact ih h2 hx
theorem risZ_ext {α : Type} {nm : α → Int} {F G : List α} (hF : RisZ nm F) (hG : RisZ nm G) (h : ∀ i, getZ nm F i = getZ nm G i) : F = G := by
  have mem : ∀ x, x ∈ F ↔ x ∈ G := fun x => by
    constructor
    · intro hx
      have := risZ_get hF hx
      rw [h] at this; exact (getZ_some this).1
    · intro hx
      have := risZ_get hG hx
      rw [← h] at this; exact (getZ_some this).1
  have key : ∀ (F G : List α), RisZ nm F → RisZ nm G → (∀ x, x ∈ F ↔ x ∈ G) → F = G := by
    intro F
    induction F with
    | nil =>
      intro G _ _ m
      cases G with
      | nil => rfl
      | cons y r => exact absurd ((m y).2 List.mem_cons_self) (by simp)
    | cons x r ih =>
      intro G hF hG m
      cases G with
      | nil => exact absurd ((m x).1 List.mem_cons_self) (by simp)
      | cons y s =>
        obtain ⟨f1, f2⟩ := List.pairwise_cons.1 hF
        obtain ⟨g1, g2⟩ := List.pairwise_cons.1 hG
        have hxy : x = y := by
          rcases List.mem_cons.1 ((m x).1 List.mem_cons_self) with e | hx
          · exact e
          · rcases List.mem_cons.1 ((m y).2 List.mem_cons_self) with e | hy
            · exact e.symm
            · have a := g1 x hx; have b := f1 y hy; omega
        subst hxy
        congr 1
        refine ih s f2 g2 fun z => ?_
        constructor
        · intro hz
          rcases List.mem_cons.1 ((m z).1 (List.mem_cons_of_mem _ hz)) with e | hz'
          · subst e; have := f1 z hz; omega
          · exact hz'
        · intro hz
          rcases List.mem_cons.1 ((m z).2 (List.mem_cons_of_mem _ hz)) with e | hz'
          · subst e; have := g1 z hz; omega
          · exact hz'
  exact key F G hF hG mem

end Go.Proofs.Ytdncdlbhgaehmaa
