/- ManZ, ManM: in one text. -/
import Derived.Test.YthedmemkckclpaaGreatKit
import Derived.Test.YthedmemkckclpaaGreatGrpTrm
import Derived.Test.YthedmemkckclpaaGreatRec
/- Lists by numbers: laid in, taken out, asked for; rising. -/
namespace Go.Proofs.YthedmemkckclpaaGreat
open Go.RowKit Go.Shelf
set_option linter.unusedVariables false

def insZ {α : Type} (nm : α → Int) (x : α) : List α → List α
  | [] => [x]
  | y :: r => if nm x < nm y then x :: y :: r else y :: insZ nm x r
def delZ {α : Type} (nm : α → Int) (F : List α) (s : Int) : List α := F.filter fun f => !decide (nm f = s)
def getZ {α : Type} (nm : α → Int) (F : List α) (s : Int) : Option α := F.find? fun f => decide (nm f = s)
def putZ {α : Type} (nm : α → Int) (x : α) (F : List α) : List α := insZ nm x (delZ nm F (nm x))
/-- Numbers rise. -/
def RisZ {α : Type} (nm : α → Int) (F : List α) : Prop := F.Pairwise fun a b => nm a < nm b
theorem insZ_perm {α : Type} (nm : α → Int) (x : α) : ∀ F : List α, (insZ nm x F).Perm (x :: F)
  | [] => List.Perm.refl _
  | y :: r => by
    unfold insZ
    split
    · exact List.Perm.refl _
    · exact ((insZ_perm nm x r).cons y).trans (List.Perm.swap x y r)
theorem insZ_len {α : Type} (nm : α → Int) (x : α) (F : List α) : (insZ nm x F).length = F.length + 1 := (insZ_perm nm x F).length_eq
theorem mem_insZ {α : Type} {nm : α → Int} {x y : α} {F : List α} : y ∈ insZ nm x F ↔ y = x ∨ y ∈ F := by rw [(insZ_perm nm x F).mem_iff, List.mem_cons]
theorem insZ_map {α β : Type} {nm : α → Int} {nb : β → Int} {g : α → β} (h : ∀ x, nb (g x) = nm x) (x : α) : ∀ F : List α, (insZ nm x F).map g = insZ nb (g x) (F.map g)
  | [] => rfl
  | y :: r => by
    simp only [insZ, List.map_cons, h]
    split
    · rfl
    · rw [List.map_cons, insZ_map h x r]
theorem delZ_map {α β : Type} {nm : α → Int} {nb : β → Int} {g : α → β} (h : ∀ x, nb (g x) = nm x) (F : List α) (s : Int) : (delZ nm F s).map g = delZ nb (F.map g) s := by
  unfold delZ; rw [List.filter_map]; congr 1; apply List.filter_congr; intro x _; simp [h]
theorem getZ_map {α β : Type} {nm : α → Int} {nb : β → Int} {g : α → β} (h : ∀ x, nb (g x) = nm x) (F : List α) (s : Int) : (getZ nm F s).map g = getZ nb (F.map g) s := by
  unfold getZ; rw [List.find?_map]; congr 2; funext x; simp [h]
theorem putZ_map {α β : Type} {nm : α → Int} {nb : β → Int} {g : α → β} (h : ∀ x, nb (g x) = nm x) (x : α) (F : List α) : (putZ nm x F).map g = putZ nb (g x) (F.map g) := by
  unfold putZ; rw [insZ_map h, delZ_map h, h]
theorem getZ_some {α : Type} {nm : α → Int} {F : List α} {s : Int} {f : α} (h : getZ nm F s = some f) : f ∈ F ∧ nm f = s := by
  unfold getZ at h
  exact ⟨List.mem_of_find?_eq_some h, by simpa using List.find?_some h⟩
theorem getZ_none {α : Type} {nm : α → Int} {F : List α} {s : Int} (h : getZ nm F s = none) : ∀ f ∈ F, nm f ≠ s := by
  unfold getZ at h
  intro f hf e
  have := List.find?_eq_none.1 h f hf
  simp [e] at this
theorem mem_delZ {α : Type} {nm : α → Int} {F : List α} {s : Int} {f : α} : f ∈ delZ nm F s ↔ f ∈ F ∧ nm f ≠ s := by
  unfold delZ; simp [List.mem_filter]
theorem mem_putZ {α : Type} {nm : α → Int} {x y : α} {F : List α} : y ∈ putZ nm x F ↔ y = x ∨ (y ∈ F ∧ nm y ≠ nm x) := by unfold putZ; rw [mem_insZ, mem_delZ]
theorem delZ_len {α : Type} (nm : α → Int) (F : List α) (s : Int) : (delZ nm F s).length ≤ F.length := List.length_filter_le _ _
theorem putZ_len {α : Type} (nm : α → Int) (x : α) (F : List α) : (putZ nm x F).length ≤ F.length + 1 := by
  unfold putZ; rw [insZ_len]; have := delZ_len nm F (nm x); omega
theorem risZ_insZ {α : Type} {nm : α → Int} {x : α} : ∀ {F : List α}, RisZ nm F → (∀ y ∈ F, nm y ≠ nm x) → RisZ nm (insZ nm x F)
  | [], _, _ => by simp [insZ, RisZ]
  | y :: r, h, hx => by
    obtain ⟨h1, h2⟩ := List.pairwise_cons.1 h
    have hy := hx y List.mem_cons_self
    unfold insZ
    split
    · rename_i hlt
      refine List.pairwise_cons.2 ⟨fun z hz => ?_, h⟩
      rcases List.mem_cons.1 hz with rfl | hz
      · exact hlt
      · have := h1 z hz; omega
    · rename_i hlt
      refine List.pairwise_cons.2 ⟨fun z hz => ?_, risZ_insZ h2 (fun z hz => hx z (List.mem_cons_of_mem _ hz))⟩
      rcases mem_insZ.1 hz with rfl | hz
      · omega
      · exact h1 z hz
theorem risZ_del {α : Type} {nm : α → Int} {F : List α} (h : RisZ nm F) (s : Int) : RisZ nm (delZ nm F s) := h.sublist List.filter_sublist
theorem risZ_put {α : Type} {nm : α → Int} {F : List α} (h : RisZ nm F) (x : α) : RisZ nm (putZ nm x F) := risZ_insZ (risZ_del h _) (fun y hy => (mem_delZ.1 hy).2)
theorem getZ_del_same {α : Type} (nm : α → Int) (F : List α) (s : Int) : getZ nm (delZ nm F s) s = none := by
  unfold getZ
  rw [List.find?_eq_none]
  intro f hf
  simp [(mem_delZ.1 hf).2]
theorem getZ_del_other {α : Type} (nm : α → Int) {s t : Int} (h : t ≠ s) : ∀ F : List α, getZ nm (delZ nm F s) t = getZ nm F t
  | [] => rfl
  | y :: r => by
    have ih := getZ_del_other nm h r
    unfold getZ delZ at ih ⊢
    by_cases e : nm y = s
    · rw [List.filter_cons_of_neg (by simp [e]), List.find?_cons_of_neg (by simp [e, Ne.symm h])]; exact ih
    · rw [List.filter_cons_of_pos (by simp [e])]
      by_cases e2 : nm y = t
      · rw [List.find?_cons_of_pos (by simp [e2]), List.find?_cons_of_pos (by simp [e2])]
      · rw [List.find?_cons_of_neg (by simp [e2]), List.find?_cons_of_neg (by simp [e2])]; exact ih
theorem getZ_ins_other {α : Type} (nm : α → Int) {x : α} {t : Int} (h : nm x ≠ t) : ∀ F : List α, getZ nm (insZ nm x F) t = getZ nm F t
  | [] => by unfold insZ getZ; rw [List.find?_cons_of_neg (by simp [h])]
  | y :: r => by
    have ih := getZ_ins_other nm h r
    unfold insZ
    split
    · unfold getZ; rw [List.find?_cons_of_neg (by simp [h])]
    · unfold getZ at ih ⊢
      by_cases e : nm y = t
      · rw [List.find?_cons_of_pos (by simp [e]), List.find?_cons_of_pos (by simp [e])]
      · rw [List.find?_cons_of_neg (by simp [e]), List.find?_cons_of_neg (by simp [e])]; exact ih
theorem getZ_ins_same {α : Type} (nm : α → Int) {x : α} : ∀ {F : List α}, (∀ y ∈ F, nm y ≠ nm x) → getZ nm (insZ nm x F) (nm x) = some x
  | [], _ => by unfold insZ getZ; rw [List.find?_cons_of_pos (by simp)]
  | y :: r, h => by
    have ih := getZ_ins_same nm (x := x) (F := r) (fun z hz => h z (List.mem_cons_of_mem _ hz))
    unfold insZ
    split
    · unfold getZ; rw [List.find?_cons_of_pos (by simp)]
    · unfold getZ at ih ⊢
      rw [List.find?_cons_of_neg (by simpa using h y List.mem_cons_self)]; exact ih
theorem getZ_put_same {α : Type} (nm : α → Int) (x : α) (F : List α) : getZ nm (putZ nm x F) (nm x) = some x := getZ_ins_same nm (fun y hy => (mem_delZ.1 hy).2)
theorem getZ_put_other {α : Type} (nm : α → Int) {x : α} {t : Int} (h : nm x ≠ t) (F : List α) : getZ nm (putZ nm x F) t = getZ nm F t := by
  unfold putZ; rw [getZ_ins_other nm h, getZ_del_other nm (Ne.symm h)]
/-- Rising lists are told by what they hold at each number. -/
theorem risZ_get {α : Type} {nm : α → Int} {F : List α} (h : RisZ nm F) {x : α} (hx : x ∈ F) : getZ nm F (nm x) = some x := by
  induction F with
  | nil => cases hx
  | cons y r ih =>
    obtain ⟨h1, h2⟩ := List.pairwise_cons.1 h
    unfold getZ at ih ⊢
    rcases List.mem_cons.1 hx with rfl | hx
    · rw [List.find?_cons_of_pos (by simp)]
    · have := h1 x hx
      rw [List.find?_cons_of_neg (by simp; omega)]; exact ih h2 hx
theorem risZ_ext {α : Type} {nm : α → Int} {F G : List α} (hF : RisZ nm F) (hG : RisZ nm G) (h : ∀ i, getZ nm F i = getZ nm G i) : F = G := by
  have mem : ∀ x, x ∈ F ↔ x ∈ G := fun x => by
    constructor
    · intro hx
      have := risZ_get hF hx
      rw [h] at this; exact (getZ_some this).1
    · intro hx
      have := risZ_get hG hx
      rw [← h] at this; exact (getZ_some this).1
  have key : ∀ (F G : List α), RisZ nm F → RisZ nm G → (∀ x, x ∈ F ↔ x ∈ G) → F = G := by
    intro F
    induction F with
    | nil =>
      intro G _ _ m
      cases G with
      | nil => rfl
      | cons y r => exact absurd ((m y).2 List.mem_cons_self) (by simp)
    | cons x r ih =>
      intro G hF hG m
      cases G with
      | nil => exact absurd ((m x).1 List.mem_cons_self) (by simp)
      | cons y s =>
        obtain ⟨f1, f2⟩ := List.pairwise_cons.1 hF
        obtain ⟨g1, g2⟩ := List.pairwise_cons.1 hG
        have hxy : x = y := by
          rcases List.mem_cons.1 ((m x).1 List.mem_cons_self) with e | hx
          · exact e
          · rcases List.mem_cons.1 ((m y).2 List.mem_cons_self) with e | hy
            · exact e.symm
            · have a := g1 x hx; have b := f1 y hy; omega
        subst hxy
        congr 1
        refine ih s f2 g2 fun z => ?_
        constructor
        · intro hz
          rcases List.mem_cons.1 ((m z).1 (List.mem_cons_of_mem _ hz)) with e | hz'
          · subst e; have := f1 z hz; omega
          · exact hz'
        · intro hz
          rcases List.mem_cons.1 ((m z).2 (List.mem_cons_of_mem _ hz)) with e | hz'
          · subst e; have := g1 z hz; omega
          · exact hz'
  exact key F G hF hG mem

end Go.Proofs.YthedmemkckclpaaGreat

/- All groups as plain data: what a part, a list of parts makes of them (package many). -/
namespace Go.Proofs.YthedmemkckclpaaGreat
open Go.RowKit Go.Shelf
set_option linter.unusedVariables false

def newG (i : Int) : GM := ⟨i, 1, 0, 0, 0, 0, []⟩
/-- Groups that stand: rising numbers, each a group of at most N entries. -/
def manOK (N : Nat) (L : List GM) : Prop := RisZ GM.id L ∧ ∀ g ∈ L, isG g = true ∧ g.l.length ≤ N
/-- A part that is none, or is written anew. -/
def refP (x : PL) : Bool := !isB x.1 x.2 || decide (x.1.k = 6)
/-- What a part does to its group, where there is one and where there is none. -/
def manE1 (o : Option GM) (x : PL) : Int := if refP x then 11 else if o.isNone ∧ (x.1.k = 3 ∨ x.1.k = 5) then 13 else if x.1.k = 5 then 0 else chkG (o.getD (newG x.1.g)) x.1 x.2
def manD1 (o : Option GM) (x : PL) : Option GM := if manE1 o x ≠ 0 then o else if x.1.k = 5 then none else some (doG (o.getD (newG x.1.g)) x.1 x.2)
/-- A part with what its group knows of it. -/
def setP (g : GM) (p : PartC) : PartC := if (termG g p.i).2 ≠ 0 then p else if p.k = 3 then { p with t := (termG g p.i).1 } else if p.k = 4 ∧ p.t = (termG g p.i).1 then { p with k := 3 } else p
def setX1 (o : Option GM) (x : PL) : PL := if manE1 o x = 0 then (setP (o.getD (newG x.1.g)) x.1, x.2) else x
def manE (L : List GM) (x : PL) : Int := manE1 (getZ GM.id L x.1.g) x
def manG (L : List GM) (i : Int) : GM := (getZ GM.id L i).getD (newG i)
def manD (L : List GM) (x : PL) : List GM := if manE L x ≠ 0 then L else if x.1.k = 5 then delZ GM.id L x.1.g else putZ GM.id (doG (manG L x.1.g) x.1 x.2) L
def setX (L : List GM) (x : PL) : PL := setX1 (getZ GM.id L x.1.g) x
def manW : List GM → List PL → List GM
  | L, [] => L
  | L, x :: r => manW (manD L x) r
def manS : List GM → List PL → List PL
  | _, [] => []
  | L, x :: r => setX L x :: manS (manD L x) r
def manF : List GM → List PL → Int
  | _, [] => 0
  | L, x :: r => if manE L x ≠ 0 then manE L x else manF (manD L x) r
def manT (L : List GM) (ps : List PL) : Int := if ps.length < 1 ∨ 4 < ps.length ∨ ps.any refP = true then 11 else manF L ps
def manDo (L : List GM) (ps : List PL) : List GM := if manT L ps = 0 then manW L ps else L
theorem manOK_nil (N : Nat) : manOK N [] := ⟨List.Pairwise.nil, fun g h => by cases h⟩
theorem manOK_mono {N M : Nat} {L : List GM} (h : manOK N L) (hN : N ≤ M) : manOK M L := ⟨h.1, fun g hg => ⟨(h.2 g hg).1, Nat.le_trans (h.2 g hg).2 hN⟩⟩
theorem newG_is {i : Int} (h : 0 ≤ i ∧ i ≤ 999) : isG (newG i) = true := isG_iff.2 ⟨⟨h, ⟨by show (1 : Int) ≤ 1; omega, by show (1 : Int) ≤ _; decide⟩, ⟨by show (0 : Int) ≤ 0; omega, by show (0 : Int) ≤ _; decide⟩⟩, by show hardB 0 0 0 = true; decide, rfl⟩
theorem refP_no {x : PL} (h : refP x = false) : isB x.1 x.2 = true ∧ x.1.k ≠ 6 := by
  unfold refP at h
  simpa using h
theorem isB_gid {p : PartC} {l : List EntryC} (h : isB p l = true) : 0 ≤ p.g ∧ p.g ≤ 999 := ((isB_iff p l).1 h).1
theorem manG_ok {N : Nat} {L : List GM} (h : manOK N L) {i : Int} (hi : 0 ≤ i ∧ i ≤ 999) : isG (manG L i) = true ∧ (manG L i).id = i ∧ (manG L i).l.length ≤ N := by
  unfold manG
  cases hg : getZ GM.id L i with
  | none => exact ⟨newG_is hi, rfl, Nat.zero_le _⟩
  | some g => obtain ⟨h1, h2⟩ := getZ_some hg; exact ⟨(h.2 g h1).1, h2, (h.2 g h1).2⟩
theorem manE_ok {L : List GM} {x : PL} (h : manE L x = 0) : isB x.1 x.2 = true ∧ x.1.k ≠ 6 := by
  unfold manE manE1 at h
  split at h
  · cases h
  · rename_i hr
    exact refP_no (Bool.eq_false_iff.2 hr)
theorem manD_ok {N : Nat} {L : List GM} {x : PL} (h : manOK N L) (hN : N ≤ 100000) (hx : x.2.length = x.1.len) : manOK (N + 6) (manD L x) := by
  unfold manD
  split
  · exact manOK_mono h (by omega)
  · rename_i he
    obtain ⟨hb, hk6⟩ := manE_ok (L := L) (x := x) (by omega)
    split
    · exact ⟨risZ_del h.1 _, fun g hg => ⟨(h.2 g (mem_delZ.1 hg).1).1, by have := (h.2 g (mem_delZ.1 hg).1).2; omega⟩⟩
    · refine ⟨risZ_put h.1 _, fun g hg => ?_⟩
      obtain ⟨g1, g2, g3⟩ := manG_ok h (isB_gid hb)
      rcases mem_putZ.1 hg with rfl | ⟨hg, _⟩
      · have := doG_isG (p := x.1) (pl := x.2) g1 (by omega) hx
        exact ⟨this.1, by omega⟩
      · exact ⟨(h.2 g hg).1, by have := (h.2 g hg).2; omega⟩
theorem manW_ok {N : Nat} : ∀ {ps : List PL} {L : List GM}, manOK N L → N + 6 * ps.length ≤ 100000 → (∀ x ∈ ps, x.2.length = x.1.len) → manOK (N + 6 * ps.length) (manW L ps) := by
  intro ps
  induction ps generalizing N with
  | nil => intro L h _ _; exact h
  | cons x r ih =>
    intro L h hN hx
    rw [List.length_cons] at hN ⊢
    have := ih (N := N + 6) (manD_ok h (by omega) (hx x List.mem_cons_self)) (by omega) (fun y hy => hx y (List.mem_cons_of_mem _ hy))
    rw [show N + 6 * (r.length + 1) = N + 6 + 6 * r.length by omega]
    exact this
theorem doG_id {N : Nat} {L : List GM} {x : PL} (h : manOK N L) (hN : N ≤ 100000) (hx : x.2.length = x.1.len) (hb : isB x.1 x.2 = true) : (doG (manG L x.1.g) x.1 x.2).id = x.1.g := by
  obtain ⟨g1, g2, g3⟩ := manG_ok h (isB_gid hb)
  rw [(doG_isG g1 (by omega) hx).2.2.1, g2]
/-- What a part makes of the groups, number by number. -/
theorem getZ_manD {N : Nat} {L : List GM} {x : PL} (h : manOK N L) (hN : N ≤ 100000) (hx : x.2.length = x.1.len) (i : Int) : getZ GM.id (manD L x) i = if i = x.1.g then manD1 (getZ GM.id L x.1.g) x else getZ GM.id L i := by
  unfold manD
  by_cases hi : i = x.1.g
  · subst hi
    rw [if_pos rfl]
    unfold manD1
    show _ = if manE L x ≠ 0 then _ else _
    split
    · rfl
    · rename_i he
      obtain ⟨hb, hk6⟩ := manE_ok (L := L) (x := x) (by omega)
      split
      · exact getZ_del_same _ _ _
      · have e := doG_id h hN hx hb
        have := getZ_put_same GM.id (doG (manG L x.1.g) x.1 x.2) L
        rw [e] at this
        exact this
  · rw [if_neg hi]
    split
    · rfl
    · rename_i he
      obtain ⟨hb, hk6⟩ := manE_ok (L := L) (x := x) (by omega)
      split
      · exact getZ_del_other _ hi _
      · exact getZ_put_other _ (by rw [doG_id h hN hx hb]; exact Ne.symm hi) _
theorem manD_len (L : List GM) (x : PL) : (manD L x).length ≤ L.length + 1 := by
  unfold manD
  split
  · omega
  · split
    · have := delZ_len GM.id L x.1.g; omega
    · exact putZ_len _ _ _
theorem manW_len : ∀ (ps : List PL) (L : List GM), (manW L ps).length ≤ L.length + ps.length
  | [], L => Nat.le_refl _
  | x :: r, L => by
    have := manW_len r (manD L x)
    have h2 := manD_len L x
    rw [List.length_cons]
    show (manW (manD L x) r).length ≤ _
    omega
theorem manW_snoc : ∀ (ps : List PL) (x : PL) (L : List GM), manW L (ps ++ [x]) = manD (manW L ps) x
  | [], x, L => rfl
  | y :: r, x, L => manW_snoc r x (manD L y)
theorem manS_snoc : ∀ (ps : List PL) (x : PL) (L : List GM), manS L (ps ++ [x]) = manS L ps ++ [setX (manW L ps) x]
  | [], x, L => rfl
  | y :: r, x, L => by
    show setX L y :: manS (manD L y) (r ++ [x]) = _
    rw [manS_snoc r x (manD L y)]; rfl
theorem manF_snoc : ∀ (ps : List PL) (x : PL) (L : List GM), manF L (ps ++ [x]) = if manF L ps ≠ 0 then manF L ps else manE (manW L ps) x
  | [], x, L => by
    show (if manE L x ≠ 0 then manE L x else 0) = if (0 : Int) ≠ 0 then 0 else manE L x
    rw [if_neg (show ¬ (0 : Int) ≠ 0 by decide)]
    split
    · rfl
    · rename_i h; omega
  | y :: r, x, L => by
    show (if manE L y ≠ 0 then manE L y else manF (manD L y) (r ++ [x])) = if (if manE L y ≠ 0 then manE L y else manF (manD L y) r) ≠ 0 then (if manE L y ≠ 0 then manE L y else manF (manD L y) r) else manE (manW (manD L y) r) x
    by_cases h : manE L y ≠ 0
    · rw [if_pos h, if_pos h, if_pos h]
    · rw [if_neg h, if_neg h, manF_snoc r x (manD L y)]
theorem risZ_bound {α : Type} {nm : α → Int} : ∀ {F : List α} (lo : Int) (n : Nat), RisZ nm F → (∀ x ∈ F, lo ≤ nm x ∧ nm x < lo + n) → F.length ≤ n
  | [], _, _, _, _ => Nat.zero_le _
  | x :: r, lo, n, h, hb => by
    obtain ⟨h1, h2⟩ := List.pairwise_cons.1 h
    have hx := hb x List.mem_cons_self
    obtain ⟨m, rfl⟩ : ∃ m, n = m + 1 := ⟨n - 1, by omega⟩
    have := risZ_bound (nm x + 1) (m + 1 - (nm x + 1 - lo).toNat) (F := r) h2 (fun y hy => by
      have a := h1 y hy
      have b := hb y (List.mem_cons_of_mem _ hy)
      omega)
    rw [List.length_cons]
    omega
theorem manOK_len {N : Nat} {L : List GM} (h : manOK N L) : L.length ≤ 1000 :=
  risZ_bound 0 1000 h.1 fun g hg => by
    have := (isG_iff.1 (h.2 g hg).1).1.1
    show (0 : Int) ≤ g.id ∧ g.id < 0 + 1000
    omega

end Go.Proofs.YthedmemkckclpaaGreat
