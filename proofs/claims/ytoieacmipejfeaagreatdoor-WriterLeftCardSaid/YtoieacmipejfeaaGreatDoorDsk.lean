/- DskM, Dsk, DskO, DskF, DskG, DskH: in one text. -/
import Derived.Test.YtoieacmipejfeaaGreatDoorKit
import Derived.Test.YtoieacmipejfeaaGreatDoorIterK
import Derived.Maps.OwnSet
import Derived.Maps.OwnOps
import Derived.Maps.Views
import Derived.Test.YtoieacmipejfeaaGreatDoorProg
/- What a disk holds, as plain data: its files by their names, in rising order. -/
namespace Go.Proofs.YtoieacmipejfeaaGreatDoor
open Go.RowKit Go.Shelf
set_option linter.unusedVariables false

/-! ### Lists by names -/
def insK {α : Type} (nm : α → ByteArray) (x : α) : List α → List α
  | [] => [x]
  | y :: r => if Lit.before (.string (nm x).data.toList) (.string (nm y).data.toList) then x :: y :: r else y :: insK nm x r
def delK {α : Type} (nm : α → ByteArray) (F : List α) (s : ByteArray) : List α := F.filter fun f => !decide (nm f = s)
def getK {α : Type} (nm : α → ByteArray) (F : List α) (s : ByteArray) : Option α := F.find? fun f => decide (nm f = s)
def putK {α : Type} (nm : α → ByteArray) (x : α) (F : List α) : List α := insK nm x (delK nm F (nm x))
def setK {α : Type} (nm : α → ByteArray) (x : α) (F : List α) : List α := F.map fun f => if nm f = nm x then x else f
theorem insK_perm {α : Type} (nm : α → ByteArray) (x : α) : ∀ F : List α, (insK nm x F).Perm (x :: F)
  | [] => List.Perm.refl _
  | y :: r => by
    unfold insK
    split
    · exact List.Perm.refl _
    · exact ((insK_perm nm x r).cons y).trans (List.Perm.swap x y r)
theorem insK_len {α : Type} (nm : α → ByteArray) (x : α) (F : List α) : (insK nm x F).length = F.length + 1 := (insK_perm nm x F).length_eq
theorem mem_insK {α : Type} {nm : α → ByteArray} {x y : α} {F : List α} : y ∈ insK nm x F ↔ y = x ∨ y ∈ F := by rw [(insK_perm nm x F).mem_iff, List.mem_cons]
theorem insK_map {α β : Type} {nm : α → ByteArray} {nb : β → ByteArray} {g : α → β} (h : ∀ x, nb (g x) = nm x) (x : α) : ∀ F : List α, (insK nm x F).map g = insK nb (g x) (F.map g)
  | [] => rfl
  | y :: r => by
    simp only [insK, List.map_cons, h]
    split
    · rfl
    · rw [List.map_cons, insK_map h x r]
theorem delK_map {α β : Type} {nm : α → ByteArray} {nb : β → ByteArray} {g : α → β} (h : ∀ x, nb (g x) = nm x) (F : List α) (s : ByteArray) : (delK nm F s).map g = delK nb (F.map g) s := by
  unfold delK; rw [List.filter_map]; congr 1; apply List.filter_congr; intro x _; simp [h]
theorem getK_map {α β : Type} {nm : α → ByteArray} {nb : β → ByteArray} {g : α → β} (h : ∀ x, nb (g x) = nm x) (F : List α) (s : ByteArray) : (getK nm F s).map g = getK nb (F.map g) s := by
  unfold getK; rw [List.find?_map]; congr 2; funext x; simp [h]
theorem putK_map {α β : Type} {nm : α → ByteArray} {nb : β → ByteArray} {g : α → β} (h : ∀ x, nb (g x) = nm x) (x : α) (F : List α) : (putK nm x F).map g = putK nb (g x) (F.map g) := by
  unfold putK; rw [insK_map h, delK_map h, h]
theorem setK_map {α β : Type} {nm : α → ByteArray} {nb : β → ByteArray} {g : α → β} (h : ∀ x, nb (g x) = nm x) (x : α) (F : List α) : (setK nm x F).map g = setK nb (g x) (F.map g) := by
  unfold setK
  rw [List.map_map, List.map_map]
  apply List.map_congr_left
  intro f _
  simp only [Function.comp, h]
  split <;> rfl
theorem getK_some {α : Type} {nm : α → ByteArray} {F : List α} {s : ByteArray} {f : α} (h : getK nm F s = some f) : f ∈ F ∧ nm f = s := by
  unfold getK at h
  exact ⟨List.mem_of_find?_eq_some h, by simpa using List.find?_some h⟩
theorem getK_none {α : Type} {nm : α → ByteArray} {F : List α} {s : ByteArray} (h : getK nm F s = none) : ∀ f ∈ F, nm f ≠ s := by
  unfold getK at h
  intro f hf e
  have := List.find?_eq_none.1 h f hf
  simp [e] at this
theorem delK_none {α : Type} {nm : α → ByteArray} {F : List α} {s : ByteArray} (h : getK nm F s = none) : delK nm F s = F := by
  unfold delK
  rw [List.filter_eq_self]
  intro f hf
  simp [getK_none h f hf]
theorem mem_delK {α : Type} {nm : α → ByteArray} {F : List α} {s : ByteArray} {f : α} : f ∈ delK nm F s ↔ f ∈ F ∧ nm f ≠ s := by
  unfold delK; simp [List.mem_filter]

/-! ### A file, a disk -/
structure PF where
  n : ByteArray
  b : List UInt8
  k : Nat
/-- What a disk is, without its memory. -/
structure PD where
  L : List PF
  room : Nat
  steps : Nat
  lim : Bool
  left : Nat
/-- A file in memory: its name, its block, the slice of its bytes. -/
structure FileC where
  n : ByteArray
  fb : Nat
  v : Value
  b : List UInt8
  k : Nat
def FileC.core (f : FileC) : PF := ⟨f.n, f.b, f.k⟩
def usedL (L : List PF) : Nat := (L.map fun f => f.b.length).sum
theorem used_mem {L : List PF} {f : PF} (h : f ∈ L) : f.b.length ≤ usedL L := by
  unfold usedL
  induction L with
  | nil => cases h
  | cons x r ih =>
    rw [List.map_cons, List.sum_cons]
    rcases List.mem_cons.1 h with rfl | h
    · omega
    · have := ih h; omega
/-- How a pointer to a file reads: as its block. -/
def ptrElem : Value → Option (DataW Unit × List MemPlace)
  | .pointer (some ⟨b, 0, none⟩) => some (.lit (.int .i64 b), [])
  | .pointer none => some (.nil, [])
  | _ => none
theorem ptrElem_some {v : Value} {b : Nat} {ps : List MemPlace} (h : ptrElem v = some (.lit (.int .i64 b), ps)) : v = .pointer (some ⟨b, 0, none⟩) := by
  unfold ptrElem at h
  split at h
  · simp only [Option.some.injEq, Prod.mk.injEq, DataW.lit.injEq, Lit.int.injEq, true_and] at h
    have : (_ : Nat) = b := Int.ofNat.inj h.1
    rw [this]
  · simp at h
  · cases h
theorem ptrElem_nil {v : Value} {ps : List MemPlace} (h : ptrElem v = some (.nil, ps)) : v = .pointer none := by
  unfold ptrElem at h
  split at h
  · simp at h
  · rfl
  · cases h
def fent (f : FileC) : Lit × DataW Unit := (.string f.n.data.toList, .lit (.int .i64 f.fb))
def dmap (F : List FileC) : DataW Unit := .map (F.map fent)
theorem ba_eq {a b : ByteArray} : a.data.toList = b.data.toList ↔ a = b := ⟨fun h => ByteArray.ext (Array.toList_inj.1 h), fun h => by rw [h]⟩
theorem same_name (a b : ByteArray) : (Lit.string a.data.toList).sameKey (.string b.data.toList) = decide (a = b) := by
  show (a.data.toList == b.data.toList) = _
  rw [Bool.eq_iff_iff, beq_iff_eq, decide_eq_true_iff, ba_eq]
theorem dmap_at (F : List FileC) (s : ByteArray) (z : DataW Unit) : (dmap F).atKey (.string s.data.toList) z = match getK FileC.n F s with | some f => .lit (.int .i64 f.fb) | none => z := by
  unfold dmap DataW.atKey getK
  dsimp only
  rw [List.find?_map]
  rw [show ((fun p : Lit × DataW Unit => p.1.sameKey (.string s.data.toList)) ∘ fent) = fun f : FileC => decide (f.n = s) from funext fun f => same_name f.n s]
  cases F.find? (fun f : FileC => decide (f.n = s)) <;> rfl
theorem dmap_has (F : List FileC) (s : ByteArray) : Maps.has (dmap F) (.string s.data.toList) = (getK FileC.n F s).isSome := by
  unfold dmap getK
  rw [Maps.has_eq, List.any_map, List.isSome_find?]
  congr 1
  funext f
  exact same_name f.n s
theorem dmap_size (F : List FileC) : Maps.size (dmap F) = F.length := by unfold dmap; rw [Maps.size_eq, List.length_map]
theorem insert_map (x : FileC) : ∀ F : List FileC, DataW.insert (fent x) (F.map fent) = (insK FileC.n x F).map fent
  | [] => rfl
  | y :: r => by
    simp only [List.map_cons, DataW.insert, insK]
    show (if Lit.before (.string x.n.data.toList) (.string y.n.data.toList) = true then _ else _) = _
    split
    · rfl
    · rw [insert_map x r]; rfl
theorem dmap_del (F : List FileC) (s : ByteArray) : (dmap F).del (.string s.data.toList) = dmap (delK FileC.n F s) := by
  unfold dmap DataW.del delK
  dsimp only
  rw [List.filter_map]
  congr 2
  apply List.filter_congr
  intro f _
  show (!(Lit.string f.n.data.toList).sameKey _) = _
  rw [same_name]
theorem dmap_put (F : List FileC) (x : FileC) : (dmap F).put (.string x.n.data.toList) (.lit (.int .i64 x.fb)) = dmap (putK FileC.n x F) := by
  have h := dmap_del F x.n
  unfold dmap DataW.del at h
  unfold dmap DataW.put
  dsimp only at h ⊢
  injection h with h
  rw [h]
  unfold putK
  rw [← insert_map]; rfl
theorem dmap_set {F : List FileC} {x : FileC} (h : ∀ f ∈ F, f.n = x.n → f.fb = x.fb) : dmap (setK FileC.n x F) = dmap F := by
  unfold dmap setK
  rw [List.map_map]
  congr 1
  apply List.map_congr_left
  intro f hf
  simp only [Function.comp]
  split
  · rename_i e; unfold fent; rw [e, h f hf e]
  · rfl
/-- The bound of a map is its number of entries. -/
theorem ins_len (x : Lit × DataW Unit) : ∀ l : List (Lit × DataW Unit), (DataW.insert x l).length = l.length + 1
  | [] => rfl
  | y :: r => by
    unfold DataW.insert
    split
    · rfl
    · rw [List.length_cons, ins_len x r]; rfl
theorem ownsMap_tight {P : Program} {k : TypeId} {R : Value → Option (DataW Unit × List MemPlace)} {w : World} {b n : Nat} {D : DataW Unit} (h : w.ownsMap P k R b n D) : w.ownsMap P k R b (Maps.size D) D := by
  obtain ⟨es, clock, h1, h2, h3, h4⟩ := h
  refine ⟨es, clock, h1, h2, ?_, h4⟩
  rw [h4, Maps.size_eq]
  have : ∀ l : List (Lit × DataW Unit), (l.foldr DataW.insert []).length = l.length := fun l => by
    induction l with
    | nil => rfl
    | cons x r ih => rw [List.foldr_cons, ins_len, ih]; rfl
  rw [this, List.length_map]
  simp

end Go.Proofs.YtoieacmipejfeaaGreatDoor

/- A disk in memory; the contracts of its small functions. -/
namespace Go.Proofs.YtoieacmipejfeaaGreatDoor
open Go.RowKit Go.Shelf
set_option linter.unusedVariables false
attribute [local go_sem] Oper.semAt_some wide_fn wide_round_fn

/-- As ownsRow; the row may bear a mark behind its cells, as what []byte(s) lays does. -/
def ownsG (w : World) (base : Nat) (e : TypeId) (size : Nat) (v : Value) (n : Nat) (xs : List Value) : Prop :=
  xs.length = n * size ∧ ((v = .slice none 0 0 ∧ n = 0) ∨
    ∃ g cap cur fz, v = .slice (some ⟨g, 0, none⟩) n cap ∧ base ≤ g ∧ w.heap[g]? = some (.cells cur e fz) ∧ n ≤ cap ∧ cap ≤ maxLen ∧ cur.size = cap * size ∧ cur.toList.take (n * size) = xs ∧ (fz = (0, 0) ∨ cur.size ≤ fz.1))
theorem ownsG_of {w : World} {base : Nat} {e : TypeId} {size n : Nat} {v : Value} {xs : List Value} (h : w.ownsRow base e size v n xs) : ownsG w base e size v n xs := by
  refine ⟨h.1, ?_⟩
  rcases h.2 with h2 | ⟨g, cap, cur, hv, hb, hg, h1, h3, h4, h5⟩
  · exact .inl h2
  · exact .inr ⟨g, cap, cur, (0, 0), hv, hb, hg, h1, h3, h4, h5, .inl rfl⟩
theorem ownsG_lt {w : World} {base : Nat} {e : TypeId} {size n : Nat} {v : Value} {xs : List Value} (h : ownsG w base e size v n xs) : ∀ k, v.ownBlock = some k → base ≤ k ∧ k < w.heap.size := by
  intro k hk
  rcases h.2 with ⟨rfl, _⟩ | ⟨g, cap, cur, fz, rfl, hb, hg, _⟩
  · simp [Value.ownBlock] at hk
  · obtain rfl : g = k := by simpa [Value.ownBlock] using hk
    exact ⟨hb, (Array.getElem?_eq_some_iff.1 hg).1⟩
structure HasDisk (W : World) (B d m : Nat) (D : PD) (F : List FileC) : Prop where
  cell : W.heap[d]? = some (.cells #[.map (some m), .int .i64 D.room, .int .i64 D.steps, .bool D.lim, .int .i64 D.left] 72 (0, 0))
  map : W.ownsMap Tryz.prog 9 ptrElem m F.length (dmap F)
  file : ∀ f ∈ F, W.heap[f.fb]? = some (.cells #[f.v, .int .i64 f.k] 97 (0, 0)) ∧ ownsG W B 5 1 f.v f.b.length (f.b.map vb) ∧ f.k ≤ f.b.length
  fbs : F.Pairwise fun f g => f.fb ≠ g.fb
  rows : F.Pairwise fun f g => ∀ j, f.v.ownBlock = some j → g.v.ownBlock ≠ some j
  nms : F.Pairwise fun f g => f.n ≠ g.n
  core : F.map FileC.core = D.L
  low : B ≤ d ∧ B ≤ m ∧ ∀ f ∈ F, B ≤ f.fb
/-- The blocks that are the disk's. -/
def ownD (F : List FileC) (d m k : Nat) : Prop := k = d ∨ k = m ∨ ∃ f ∈ F, k = f.fb ∨ f.v.ownBlock = some k
theorem ownsG_frame {T : Nat → Prop} {W W' : World} {B : Nat} {e : TypeId} {sz n : Nat} {v : Value} {xs : List Value} (h : ownsG W B e sz v n xs) (hF : FrameT T W W') (hT : ∀ j, v.ownBlock = some j → ¬ T j) : ownsG W' B e sz v n xs := by
  refine ⟨h.1, ?_⟩
  rcases h.2 with h2 | ⟨g, cap, cur, fz, hv, hb, hg, r⟩
  · exact .inl h2
  · exact .inr ⟨g, cap, cur, fz, hv, hb, hF.get hg (hT g (by rw [hv]; rfl)), r⟩
theorem ownsMap_frame {T : Nat → Prop} {W W' : World} {P : Program} {k : TypeId} {R : Value → Option (DataW Unit × List MemPlace)} {b n : Nat} {D : DataW Unit} (h : W.ownsMap P k R b n D) (hF : FrameT T W W') (hT : ¬ T b) : W'.ownsMap P k R b n D := by
  obtain ⟨es, clock, h1, r⟩ := h
  exact ⟨es, clock, hF.get h1 hT, r⟩
theorem HasDisk.frame {T : Nat → Prop} {W W' : World} {B d m : Nat} {D : PD} {F : List FileC} (h : HasDisk W B d m D F) (hF : FrameT T W W') (hT : ∀ k, ownD F d m k → ¬ T k) : HasDisk W' B d m D F :=
  { cell := hF.get h.cell (hT d (.inl rfl))
    map := ownsMap_frame h.map hF (hT m (.inr (.inl rfl)))
    file := fun f hf => ⟨hF.get (h.file f hf).1 (hT _ (.inr (.inr ⟨f, hf, .inl rfl⟩))), ownsG_frame (h.file f hf).2.1 hF (fun j hj => hT j (.inr (.inr ⟨f, hf, .inr hj⟩))), (h.file f hf).2.2⟩
    fbs := h.fbs, rows := h.rows, nms := h.nms, core := h.core, low := h.low }
theorem HasDisk.below {W W' : World} {B d m : Nat} {D : PD} {F : List FileC} (h : HasDisk W B d m D F) (hB : Below W.heap.size W W') : HasDisk W' B d m D F :=
  h.frame (T := fun _ => False) (FrameT.below hB) (fun _ _ => id)
/-- The disk's own cells have turned, nothing else. -/
theorem HasDisk.own {W W' : World} {B d m : Nat} {D D' : PD} {F : List FileC} (h : HasDisk W B d m D F) (hF : FrameT (fun k => k = d) W W') (hc : W'.heap[d]? = some (.cells #[.map (some m), .int .i64 D'.room, .int .i64 D'.steps, .bool D'.lim, .int .i64 D'.left] 72 (0, 0))) (hL : D'.L = D.L) : HasDisk W' B d m D' F := by
  have hm : m ≠ d := fun e => by
    obtain ⟨es, clock, h1, _⟩ := h.map
    rw [e, h.cell] at h1; cases h1
  have hf : ∀ f ∈ F, f.fb ≠ d ∧ f.v.ownBlock ≠ some d := fun f hf => by
    constructor
    · intro e
      have := (h.file f hf).1
      rw [e, h.cell] at this
      injection this with this; injection this with _ ht; exact absurd ht (by decide)
    · intro e
      rcases (h.file f hf).2.1.2 with ⟨hv, _⟩ | ⟨g, cap, cur, fz, hv, _, hg, _⟩
      · rw [hv] at e; cases e
      · rw [hv] at e
        obtain rfl : g = d := by simpa [Value.ownBlock] using e
        rw [h.cell] at hg
        injection hg with hg; injection hg with _ ht; exact absurd ht (by decide)
  exact
  { cell := hc
    map := ownsMap_frame h.map hF hm
    file := fun f hf' => ⟨hF.get (h.file f hf').1 (hf f hf').1, ownsG_frame (h.file f hf').2.1 hF (fun j hj e => (hf f hf').2 (by rw [← e]; exact hj)), (h.file f hf').2.2⟩
    fbs := h.fbs, rows := h.rows, nms := h.nms, core := by rw [hL]; exact h.core, low := h.low }
theorem cells5 {W : World} {X : Nat} {T : TypeId} {v0 v1 v2 v3 v4 : Value} (h : W.heap[X]? = some (.cells #[v0, v1, v2, v3, v4] T (0, 0))) :
    W.cell? ⟨X, 0, none⟩ = some v0 ∧ W.cell? ⟨X, 1, none⟩ = some v1 ∧ W.cell? ⟨X, 2, none⟩ = some v2 ∧ W.cell? ⟨X, 3, none⟩ = some v3 ∧ W.cell? ⟨X, 4, none⟩ = some v4 :=
  ⟨cell_of_row _ _ 0 _ _ _ h, cell_of_row _ _ 1 _ _ _ h, cell_of_row _ _ 2 _ _ _ h, cell_of_row _ _ 3 _ _ _ h, cell_of_row _ _ 4 _ _ _ h⟩
theorem frozen5 {W : World} {X : Nat} {T : TypeId} {v0 v1 v2 v3 v4 : Value} (h : W.heap[X]? = some (.cells #[v0, v1, v2, v3, v4] T (0, 0))) : W.frozen? ⟨X, 2, none⟩ = false ∧ W.frozen? ⟨X, 3, none⟩ = false ∧ W.frozen? ⟨X, 4, none⟩ = false :=
  ⟨frozen_of_row _ _ 2 _ _ h, frozen_of_row _ _ 3 _ _ h, frozen_of_row _ _ 4 _ _ h⟩

theorem lawStr : Maps.Keyed Tryz.prog 9 := Maps.string_keyed Tryz.underlying9
theorem zeroPtr (w : World) : (zeroValue 95).run Tryz.prog w = .ok (.pointer none) w := by kernel_rfl

def offB (D : PD) : Bool := D.lim && decide (D.left = 0)
theorem off_any {W : World} {B d m : Nat} {D : PD} {F : List FileC} (h : HasDisk W B d m D F) : Calls Tryz.prog 54 #[.pointer (some ⟨d, 0, none⟩)] W fun e w' => e = .returned (.bool (offB D)) ∧ w' = W := by
  obtain ⟨c0, c1, c2, c3, c4⟩ := cells5 h.cell
  obtain ⟨L, room, steps, lim, left⟩ := D
  dsimp only at *
  unfold offB
  dsimp only
  clear h
  cases lim
  · go_enter Tryz.func54, Tryz.ntmps54
    go_wp2
    go_ret
    exact ⟨by simp, rfl⟩
  · go_enter Tryz.func54, Tryz.ntmps54
    go_wp2
    go_ret
    refine ⟨?_, rfl⟩
    show Ending.returned (.bool ((left : Int) == 0)) = _
    congr 2
    rw [Bool.eq_iff_iff]; simp
set_option maxRecDepth 100000 in
theorem has_any {W : World} {B d m : Nat} {D : PD} {F : List FileC} (h : HasDisk W B d m D F) (s : ByteArray) (hs : s.size ≤ maxLen) : Calls Tryz.prog 55 #[.pointer (some ⟨d, 0, none⟩), .string s] W fun e w' => e = .returned (.bool (getK PF.n D.L s).isSome) ∧ w' = W := by
  obtain ⟨c0, c1, c2, c3, c4⟩ := cells5 h.cell
  have hmap := h.map
  have hkey := Go.WideMaps.keyOf_string_mk (s := s) Tryz.underlying9 hs
  have HH := Lib.hid (show Maps.has (dmap F) (.string s.data.toList) = (getK PF.n D.L s).isSome by rw [dmap_has, ← h.core, ← getK_map (g := FileC.core) (nm := FileC.n) (nb := PF.n) (fun x => rfl)]; simp)
  clear h c1 c2 c3 c4
  go_enter Tryz.func55, Tryz.ntmps55
  go_wp2_with (at_lookup; refine wpList_lookup_own_ok _ rfl _ _ 69 rfl 9 95 lawStr Tryz.underlying69 ptrElem (zeroPtr _) .nil [] rfl m F.length (dmap F) rfl hmap _ _ rfl hkey ?_; intro v ps hv; rw [HH.out])
  go_ret
  exact ⟨rfl, rfl⟩

def askE (D : PD) (s : ByteArray) : Int := if offB D then 18 else if (getK PF.n D.L s).isSome then 0 else 19
set_option maxRecDepth 100000 in
theorem ask_any {W : World} {B d m : Nat} {D : PD} {F : List FileC} (h : HasDisk W B d m D F) (s : ByteArray) (hs : s.size ≤ maxLen) : Calls Tryz.prog 51 #[.pointer (some ⟨d, 0, none⟩), .string s] W fun e w' => e = .returned (.int .i64 (askE D s)) ∧ w' = W := by
  have GO := Lib.hid (off_any h)
  have GH := Lib.hid (has_any h s hs)
  unfold askE
  generalize offB D = o at *
  generalize (getK PF.n D.L s).isSome = t at *
  clear h
  cases o <;> cases t
  all_goals
    go_enter Tryz.func51, Tryz.ntmps51
    go_wp2_with (first
      | (go_at_call 54; ((with_reducible refine GO.out.mono ?_); rintro e w1 ⟨rfl, rfl⟩))
      | (go_at_call 55; ((with_reducible refine GH.out.mono ?_); rintro e w1 ⟨rfl, rfl⟩)))
    go_ret
    exact ⟨rfl, rfl⟩
def doneD (D : PD) : PD := { D with steps := D.steps + 1, left := if D.lim then D.left - 1 else D.left }
theorem done_any {W : World} {B d m : Nat} {D : PD} {F : List FileC} (h : HasDisk W B d m D F) (ho : offB D = false) (hst : D.steps < 4611686018427387904) (hle : D.left < 9223372036854775808) : Calls Tryz.prog 56 #[.pointer (some ⟨d, 0, none⟩)] W fun e w' => e = .returned (.int .i64 0) ∧ HasDisk w' B d m (doneD D) F ∧ FrameT (fun k => k = d) W w' := by
  obtain ⟨c0, c1, c2, c3, c4⟩ := cells5 h.cell
  obtain ⟨f2, f3, f4⟩ := frozen5 h.cell
  have HD := Lib.hid h
  have hcell := Lib.hid h.cell
  obtain ⟨L, room, steps, lim, left⟩ := D
  dsimp only at *
  unfold doneD
  dsimp only
  clear h
  cases lim
  · have H1 := Lib.hid (heap_setCell_same W d 2 _ _ (.int .i64 ((steps : Int) + 1)) hcell.out)
    have H2 := Lib.hid (FrameT.setCell W d 2 (.int .i64 ((steps : Int) + 1)))
    clear ho
    go_enter Tryz.func56, Tryz.ntmps56
    go_wp2
    go_ret
    refine ⟨rfl, HD.out.own H2.out ?_ rfl, H2.out⟩
    rw [H1.out]; simp
  · have hl : left ≠ 0 := by intro e; subst e; simp [offB] at ho
    have H1 := Lib.hid (heap_setCell_same _ d 4 _ _ (.int .i64 ((left : Int) - 1)) (heap_setCell_same W d 2 _ _ (.int .i64 ((steps : Int) + 1)) hcell.out))
    have H2 := Lib.hid ((FrameT.setCell W d 2 (.int .i64 ((steps : Int) + 1))).trans (FrameT.setCell _ d 4 (.int .i64 ((left : Int) - 1))))
    have hl1 : (1 : Int) ≤ (left : Int) := by omega
    have HL := Lib.hid (show (((left - 1 : Nat) : Nat) : Int) = (left : Int) - 1 by omega)
    clear ho hl
    go_enter Tryz.func56, Tryz.ntmps56
    go_wp2
    go_ret
    refine ⟨rfl, HD.out.own H2.out ?_ rfl, H2.out⟩
    rw [H1.out]; simp [HL.out]

end Go.Proofs.YtoieacmipejfeaaGreatDoor

/- What becomes of a disk in memory: a file laid in, taken out, turned. -/
namespace Go.Proofs.YtoieacmipejfeaaGreatDoor
open Go.RowKit Go.Shelf
set_option linter.unusedVariables false

theorem frame_grown {w w' : World} {row : Option Nat} (h : w.grownBy w' row) : FrameT (fun k => some k = row) w w' := ⟨h.os, h.tape, h.output, h.size, fun k hk hT => h.block k hk hT⟩
theorem frame_map {w w' : World} {m : Nat} (h : w.grownBy w' (some m)) : FrameT (fun k => k = m) w w' := (frame_grown h).mono fun k hk => by injection hk
/-- No block of files or rows is the map's, none of rows a file's or the disk's. -/
theorem HasDisk.apart {W : World} {B d m : Nat} {D : PD} {F : List FileC} (h : HasDisk W B d m D F) : m ≠ d ∧ (∀ f ∈ F, f.fb ≠ d ∧ f.fb ≠ m ∧ f.v.ownBlock ≠ some d ∧ f.v.ownBlock ≠ some m) ∧ ∀ f ∈ F, ∀ g ∈ F, f.v.ownBlock ≠ some g.fb := by
  obtain ⟨es, clock, h1, _⟩ := h.map
  have row : ∀ f ∈ F, ∀ j, f.v.ownBlock = some j → ∃ cur fz, W.heap[j]? = some (.cells cur 5 fz) := fun f hf j hj => by
    rcases (h.file f hf).2.1.2 with ⟨hv, _⟩ | ⟨g, cap, cur, fz, hv, _, hg, _⟩
    · rw [hv] at hj; cases hj
    · rw [hv] at hj
      obtain rfl : g = j := by simpa [Value.ownBlock] using hj
      exact ⟨cur, fz, hg⟩
  refine ⟨fun e => (by rw [e, h.cell] at h1; cases h1), fun f hf => ⟨fun e => ?_, fun e => ?_, fun e => ?_, fun e => ?_⟩, fun f hf g hg e => ?_⟩
  · have := (h.file f hf).1
    rw [e, h.cell] at this
    injection this with this; injection this with _ ht; exact absurd ht (by decide)
  · have := (h.file f hf).1
    rw [e, h1] at this; cases this
  · obtain ⟨cur, fz, hc⟩ := row f hf d e
    rw [h.cell] at hc
    injection hc with hc; injection hc with _ ht; exact absurd ht (by decide)
  · obtain ⟨cur, fz, hc⟩ := row f hf m e
    rw [h1] at hc; cases hc
  · obtain ⟨cur, fz, hc⟩ := row f hf _ e
    rw [(h.file g hg).1] at hc
    injection hc with hc; injection hc with _ ht; exact absurd ht (by decide)
/-- What lies in the disk's blocks lies in the heap. -/
theorem HasDisk.lt {W : World} {B d m : Nat} {D : PD} {F : List FileC} (h : HasDisk W B d m D F) {k : Nat} (hk : ownD F d m k) : k < W.heap.size := by
  rcases hk with rfl | rfl | ⟨f, hf, rfl | hj⟩
  · exact (Array.getElem?_eq_some_iff.1 h.cell).1
  · exact h.map.lt
  · exact (Array.getElem?_eq_some_iff.1 (h.file f hf).1).1
  · exact (ownsG_lt (h.file f hf).2.1 k hj).2
theorem HasDisk.ge {W : World} {B d m : Nat} {D : PD} {F : List FileC} (h : HasDisk W B d m D F) {k : Nat} (hk : ownD F d m k) : B ≤ k := by
  rcases hk with rfl | rfl | ⟨f, hf, rfl | hj⟩
  · exact h.low.1
  · exact h.low.2.1
  · exact h.low.2.2 f hf
  · exact (ownsG_lt (h.file f hf).2.1 k hj).1
theorem pairwise_put {α : Type} {R : α → α → Prop} (hs : ∀ {a b}, R a b → R b a) {nm : α → ByteArray} {x : α} {F : List α} (h : F.Pairwise R) (hx : ∀ y ∈ F, nm y ≠ nm x → R x y) : (putK nm x F).Pairwise R := by
  unfold putK
  rw [(insK_perm nm x _).pairwise_iff hs, List.pairwise_cons]
  exact ⟨fun y hy => hx y (mem_delK.1 hy).1 (mem_delK.1 hy).2, h.sublist List.filter_sublist⟩
theorem mem_putK {α : Type} {nm : α → ByteArray} {x y : α} {F : List α} : y ∈ putK nm x F ↔ y = x ∨ (y ∈ F ∧ nm y ≠ nm x) := by unfold putK; rw [mem_insK, mem_delK]
theorem mem_setK {α : Type} {nm : α → ByteArray} {x y : α} {F : List α} (h : y ∈ setK nm x F) : y = x ∨ (y ∈ F ∧ nm y ≠ nm x) := by
  unfold setK at h
  obtain ⟨f, hf, e⟩ := List.mem_map.1 h
  by_cases hn : nm f = nm x
  · rw [if_pos hn] at e; exact .inl e.symm
  · rw [if_neg hn] at e; subst e; exact .inr ⟨hf, hn⟩
theorem HasDisk.put {W w1 : World} {B d m n' : Nat} {D : PD} {F : List FileC} (h : HasDisk W B d m D F) (x : FileC) (hd : ∀ g ∈ F, g.n ≠ x.n → g.fb ≠ x.fb ∧ ∀ j, g.v.ownBlock = some j → x.v.ownBlock ≠ some j)
    (hx : w1.heap[x.fb]? = some (.cells #[x.v, .int .i64 x.k] 97 (0, 0)) ∧ ownsG w1 B 5 1 x.v x.b.length (x.b.map vb) ∧ x.k ≤ x.b.length) (hm : w1.ownsMap Tryz.prog 9 ptrElem m n' ((dmap F).put (.string x.n.data.toList) (.lit (.int .i64 x.fb)))) (hF : FrameT (fun k => k = m) W w1) (hB : B ≤ x.fb) :
    HasDisk w1 B d m { D with L := putK PF.n x.core D.L } (putK FileC.n x F) := by
  obtain ⟨a1, a2, a3⟩ := h.apart
  rw [dmap_put] at hm
  have hm2 := ownsMap_tight hm
  rw [dmap_size] at hm2
  exact
  { cell := hF.get h.cell (fun e => a1 e.symm)
    map := hm2
    file := fun f hf => by
      rcases mem_putK.1 hf with rfl | ⟨hf, _⟩
      · exact hx
      · exact ⟨hF.get (h.file f hf).1 (a2 f hf).2.1, ownsG_frame (h.file f hf).2.1 hF (fun j hj e => (a2 f hf).2.2.2 (by rw [← e]; exact hj)), (h.file f hf).2.2⟩
    fbs := pairwise_put (fun e => Ne.symm e) h.fbs (fun y hy hn => (hd y hy hn).1.symm)
    rows := pairwise_put (fun {a b} hab j hj e => hab j e hj) h.rows (fun y hy hn j hj e => (hd y hy hn).2 j e hj)
    nms := pairwise_put (fun e => Ne.symm e) h.nms (fun y hy hn => hn.symm)
    core := by rw [putK_map (nm := FileC.n) (nb := PF.n) (g := FileC.core) (fun _ => rfl), h.core]
    low := ⟨h.low.1, h.low.2.1, fun f hf => by
      rcases mem_putK.1 hf with rfl | ⟨hf, _⟩
      · exact hB
      · exact h.low.2.2 f hf⟩ }
theorem HasDisk.del {W w1 : World} {B d m n' : Nat} {D : PD} {F : List FileC} (h : HasDisk W B d m D F) (s : ByteArray) (hm : w1.ownsMap Tryz.prog 9 ptrElem m n' ((dmap F).del (.string s.data.toList))) (hF : FrameT (fun k => k = m) W w1) :
    HasDisk w1 B d m { D with L := delK PF.n D.L s } (delK FileC.n F s) := by
  obtain ⟨a1, a2, a3⟩ := h.apart
  rw [dmap_del] at hm
  have hm2 := ownsMap_tight hm
  rw [dmap_size] at hm2
  exact
  { cell := hF.get h.cell (fun e => a1 e.symm)
    map := hm2
    file := fun f hf => by
      have hf := (mem_delK.1 hf).1
      exact ⟨hF.get (h.file f hf).1 (a2 f hf).2.1, ownsG_frame (h.file f hf).2.1 hF (fun j hj e => (a2 f hf).2.2.2 (by rw [← e]; exact hj)), (h.file f hf).2.2⟩
    fbs := h.fbs.sublist List.filter_sublist
    rows := h.rows.sublist List.filter_sublist
    nms := h.nms.sublist List.filter_sublist
    core := by rw [delK_map (nm := FileC.n) (nb := PF.n) (g := FileC.core) (fun _ => rfl), h.core]
    low := ⟨h.low.1, h.low.2.1, fun f hf => h.low.2.2 f (mem_delK.1 hf).1⟩ }
theorem pairwise_set {α : Type} {R : α → α → Prop} (hs : ∀ {a b}, R a b → R b a) {nm : α → ByteArray} {x : α} : ∀ {F : List α}, F.Pairwise R → F.Pairwise (fun f g => nm f ≠ nm g) → (∀ y ∈ F, nm y ≠ nm x → R x y) → (setK nm x F).Pairwise R
  | [], _, _, _ => List.Pairwise.nil
  | f :: F, h, hn, hx => by
    obtain ⟨h1, h2⟩ := List.pairwise_cons.1 h
    obtain ⟨n1, n2⟩ := List.pairwise_cons.1 hn
    have ih := pairwise_set hs h2 n2 (fun y hy => hx y (List.mem_cons_of_mem _ hy))
    show (List.Pairwise R ((if nm f = nm x then x else f) :: setK nm x F))
    rw [List.pairwise_cons]
    refine ⟨fun g hg => ?_, ih⟩
    rcases mem_setK hg with rfl | ⟨hg, hgn⟩
    · by_cases e : nm f = nm g
      · rw [if_pos e]
        exfalso
        unfold setK at hg
        obtain ⟨y, hy, ey⟩ := List.mem_map.1 hg
        by_cases hyn : nm y = nm g
        · exact n1 y hy (e.trans hyn.symm)
        · rw [if_neg hyn] at ey; exact hyn (by rw [ey])
      · rw [if_neg e]; exact hs (hx f List.mem_cons_self e)
    · by_cases e : nm f = nm x
      · rw [if_pos e]; exact hx g (List.mem_cons_of_mem _ hg) hgn
      · rw [if_neg e]; exact h1 g hg
theorem pairwise_get {α : Type} {R : α → α → Prop} (hs : ∀ {a b}, R a b → R b a) {F : List α} (h : F.Pairwise R) {f g : α} (hf : f ∈ F) (hg : g ∈ F) : f = g ∨ R f g := by
  induction F with
  | nil => cases hf
  | cons y r ih =>
    obtain ⟨h1, h2⟩ := List.pairwise_cons.1 h
    rcases List.mem_cons.1 hf with e1 | hf' <;> rcases List.mem_cons.1 hg with e2 | hg'
    · exact .inl (e1.trans e2.symm)
    · rw [e1]; exact .inr (h1 g hg')
    · rw [e2]; exact .inr (hs (h1 f hf'))
    · exact ih h2 hf' hg'
/-- A file's struct and row have turned, nothing else. -/
theorem HasDisk.set {W w1 : World} {B d m : Nat} {D : PD} {F : List FileC} (h : HasDisk W B d m D F) {f : FileC} (hf : f ∈ F) (x : FileC) (hn : x.n = f.n) (hfb : x.fb = f.fb)
    (hx : w1.heap[x.fb]? = some (.cells #[x.v, .int .i64 x.k] 97 (0, 0)) ∧ ownsG w1 B 5 1 x.v x.b.length (x.b.map vb) ∧ x.k ≤ x.b.length) (hv : ∀ j, x.v.ownBlock = some j → f.v.ownBlock = some j ∨ W.heap.size ≤ j) (hF : FrameT (fun k => k = f.fb ∨ f.v.ownBlock = some k) W w1) :
    HasDisk w1 B d m { D with L := setK PF.n x.core D.L } (setK FileC.n x F) := by
  obtain ⟨a1, a2, a3⟩ := h.apart
  have only : ∀ g ∈ F, g.n = x.n → g = f := fun g hg e => by
    rcases pairwise_get (fun e => Ne.symm e) h.nms hg hf with e1 | e1
    · exact e1
    · exact absurd (e.trans hn) e1
  have other : ∀ g ∈ F, g.n ≠ x.n → g.fb ≠ f.fb ∧ (∀ j, g.v.ownBlock = some j → f.v.ownBlock ≠ some j) := fun g hg e => by
    constructor
    · rcases pairwise_get (fun e => Ne.symm e) h.fbs hg hf with e1 | e1
      · subst e1; exact absurd hn.symm e
      · exact e1
    · rcases pairwise_get (R := fun f g : FileC => ∀ j, f.v.ownBlock = some j → g.v.ownBlock ≠ some j) (fun {a b} hab j hj e => hab j e hj) h.rows hg hf with e1 | e1
      · subst e1; exact absurd hn.symm e
      · exact e1
  exact
  { cell := hF.get h.cell (by
      rintro (e | e)
      · exact (a2 f hf).1 e.symm
      · exact (a2 f hf).2.2.1 e)
    map := by
      rw [dmap_set (fun g hg e => by rw [only g hg e]; exact hfb.symm), show (setK FileC.n x F).length = F.length by simp [setK]]
      exact ownsMap_frame h.map hF (by
        rintro (e | e)
        · exact (a2 f hf).2.1 e.symm
        · exact (a2 f hf).2.2.2 e)
    file := fun g hg => by
      rcases mem_setK hg with rfl | ⟨hg, hgn⟩
      · exact hx
      · obtain ⟨o1, o2⟩ := other g hg hgn
        refine ⟨hF.get (h.file g hg).1 ?_, ownsG_frame (h.file g hg).2.1 hF ?_, (h.file g hg).2.2⟩
        · rintro (e | e)
          · exact o1 e
          · exact a3 f hf g hg e
        · rintro j hj (e | e)
          · exact a3 g hg f hf (by rw [← e]; exact hj)
          · exact o2 j hj e
    fbs := pairwise_set (fun e => Ne.symm e) h.fbs h.nms (fun y hy hyn => by rw [hfb]; exact (other y hy hyn).1.symm)
    rows := pairwise_set (fun {a b} hab j hj e => hab j e hj) h.rows h.nms (fun y hy hyn j hj e => by
      rcases hv j hj with h1 | h1
      · exact (other y hy hyn).2 j e h1
      · have := h.lt (k := j) (.inr (.inr ⟨y, hy, .inr e⟩)); omega)
    nms := pairwise_set (fun e => Ne.symm e) h.nms h.nms (fun y hy hyn => hyn.symm)
    core := by rw [setK_map (nm := FileC.n) (nb := PF.n) (g := FileC.core) (fun _ => rfl), h.core]
    low := ⟨h.low.1, h.low.2.1, fun g hg => by
      rcases mem_setK hg with rfl | ⟨hg, _⟩
      · rw [hfb]; exact h.low.2.2 f hf
      · exact h.low.2.2 g hg⟩ }
/-- What an operation leaves: a disk; nothing else has turned. -/
def OpD (W : World) (B d m : Nat) (F : List FileC) (D' : PD) (W' : World) : Prop := ∃ F', HasDisk W' B d m D' F' ∧ FrameT (ownD F d m) W W' ∧ ∀ k, ownD F' d m k → ownD F d m k ∨ W.heap.size ≤ k
theorem OpD.refl {W : World} {B d m : Nat} {D : PD} {F : List FileC} (h : HasDisk W B d m D F) : OpD W B d m F D W := ⟨F, h, FrameT.refl _ _, fun _ hk => .inl hk⟩
theorem HasDisk.get {W : World} {B d m : Nat} {D : PD} {F : List FileC} (h : HasDisk W B d m D F) (s : ByteArray) : (getK PF.n D.L s) = (getK FileC.n F s).map FileC.core := by rw [← h.core, getK_map (nm := FileC.n) (nb := PF.n) (g := FileC.core) (fun _ => rfl)]

end Go.Proofs.YtoieacmipejfeaaGreatDoor

/- The contracts of a disk's functions: New, Limit, Steps, Create, Remove, Sync, Rename, Read. -/
namespace Go.Proofs.YtoieacmipejfeaaGreatDoor
open Go.RowKit Go.Shelf
set_option linter.unusedVariables false
attribute [local go_sem] Oper.semAt_some wide_fn wide_round_fn

theorem own_slice {W : World} {B : Nat} {e : TypeId} {sz n : Nat} {v : Value} {xs : List Value} (h : W.ownsRow B e sz v n xs) : ∃ a cap, v = .slice a n cap := by
  rcases h.2 with ⟨rfl, rfl⟩ | ⟨g, cap, _, rfl, _⟩
  · exact ⟨none, 0, rfl⟩
  · exact ⟨_, cap, rfl⟩
theorem own_sliceG {W : World} {B : Nat} {e : TypeId} {sz n : Nat} {v : Value} {xs : List Value} (h : ownsG W B e sz v n xs) : ∃ a cap, v = .slice a n cap := by
  rcases h.2 with ⟨rfl, rfl⟩ | ⟨g, cap, _, _, rfl, _⟩
  · exact ⟨none, 0, rfl⟩
  · exact ⟨_, cap, rfl⟩
theorem ownsG_cells {W : World} {B : Nat} {e : TypeId} {n : Nat} {v : Value} {xs : List Value} (h : ownsG W B e 1 v n xs) {g : Nat} (hg : v.ownBlock = some g) : ∀ j u, xs[j]? = some u → W.cell? ((⟨g, 0, none⟩ : Addr).add j) = some u := by
  intro j u hu
  rcases h.2 with ⟨rfl, _⟩ | ⟨g', cap, cur, fz, rfl, hb, hg', _, _, _, ht, _⟩
  · simp [Value.ownBlock] at hg
  · obtain rfl : g' = g := by simpa [Value.ownBlock] using hg
    rw [Addr.add_lit, Lib.cell_of_heap hg']
    rw [← ht, List.getElem?_take] at hu
    split at hu
    · simpa [Array.getElem?_toList] using hu
    · cases hu
theorem run_string_G {P : Program} {W : World} {src dst e : TypeId} (hs : P.underlying src = some (.slice e)) (he : P.underlying e = some (.int .u8)) (hd : P.underlying dst = some .string)
    {base n : Nat} {v : Value} {l : List UInt8} (h : ownsG W base e 1 v n (l.map vb)) : (convert src dst v).run P W = .ok (.string ⟨l.toArray⟩) W := by
  have hl : l.length = n := by have := h.1; simpa using this
  subst hl
  rcases h.2 with ⟨rfl, h0⟩ | ⟨g, cap, cur, fz, rfl, _, hg, _, _, _, ht, _⟩
  · obtain rfl : l = [] := List.eq_nil_of_length_eq_zero h0
    exact Lib.run_convert_nil_bytes W src dst e 0 hs he hd
  · refine run_convert_bytes_back W src dst e _ cap l hs he hd fun j hj => ?_
    exact ownsG_cells h (g := g) rfl j (vb l[j]) (by simp [hj])
theorem ptr_some (b : Nat) : ptrElem (.pointer (some ⟨b, 0, none⟩)) = some (.lit (.int .i64 b), []) := rfl
theorem look_run {W : World} {B d m : Nat} {D : PD} {F : List FileC} (h : HasDisk W B d m D F) {s : ByteArray} (hs : s.size ≤ maxLen) {f : FileC} (hf : getK FileC.n F s = some f) :
    (Instr.lookup 69 (.map (some m)) (.string s) false).run Tryz.prog W = .ok (.pointer (some ⟨f.fb, 0, none⟩)) W := by
  obtain ⟨v, ps, hrun, hv⟩ := h.map.lookup lawStr Tryz.underlying69 (zeroPtr W) (zd := .nil) (zp := []) rfl (Go.WideMaps.keyOf_string_mk Tryz.underlying9 hs)
  rw [dmap_at, hf] at hv
  rw [ptrElem_some hv] at hrun
  exact hrun
theorem cells2 {W : World} {X : Nat} {T : TypeId} {v0 v1 : Value} (h : W.heap[X]? = some (.cells #[v0, v1] T (0, 0))) : W.cell? ⟨X, 0, none⟩ = some v0 ∧ W.cell? ⟨X, 1, none⟩ = some v1 ∧ W.frozen? ⟨X, 0, none⟩ = false ∧ W.frozen? ⟨X, 1, none⟩ = false :=
  ⟨cell_of_row _ _ 0 _ _ _ h, cell_of_row _ _ 1 _ _ _ h, frozen_of_row _ _ 0 _ _ h, frozen_of_row _ _ 1 _ _ h⟩
theorem dheld_any (n most : Int) (w : World) : Calls Tryz.prog 31 #[.int .i64 n, .int .i64 most] w fun e w' => e = .returned (.int .i64 (min (max n 0) most)) ∧ w' = w := by
  go_enter Tryz.func31, Tryz.ntmps31
  go_wp2
  all_goals
    go_ret
    refine ⟨?_, rfl⟩
    show Ending.returned (.int .i64 _) = .returned (.int .i64 _)
    congr 2
    omega
theorem keep_any {W : World} {fb : Nat} {a : Option Addr} {len cap k : Nat} (h : W.heap[fb]? = some (.cells #[.slice a len cap, .int .i64 k] 97 (0, 0))) : Calls Tryz.prog 50 #[.pointer (some ⟨fb, 0, none⟩)] W fun e w' => (∃ v, e = .returned v) ∧ w' = W.setCell ⟨fb, 1, none⟩ (.int .i64 len) := by
  obtain ⟨c0, c1, f0, f1⟩ := cells2 h
  clear h
  go_enter Tryz.func50, Tryz.ntmps50
  go_wp2
  refine bodyPost_end (results_none rfl _ _ _) rfl ?_
  exact ⟨⟨_, rfl⟩, rfl⟩
theorem dnew_any (room : Int) (w : World) : Calls Tryz.prog 10 #[.int .i64 room] w fun e w' => e = .returned (.pointer (some ⟨w.heap.size + 1, 0, none⟩)) ∧ HasDisk w' w.heap.size (w.heap.size + 1) w.heap.size ⟨[], (min (max room 0) 1000000).toNat, 0, false, 0⟩ [] ∧ Below w.heap.size w w' := by
  have GH := Lib.hid (dheld_any room 1000000)
  have hr : ((((min (max room 0) 1000000).toNat : Nat)) : Int) = min (max room 0) 1000000 := by omega
  have HR := Lib.hid hr
  have hmm := @run_makeMap Tryz.prog
  generalize min (max room 0) 1000000 = r at *
  clear hr
  go_enter Tryz.func10, Tryz.ntmps10
  go_wp2_with (go_at_call 31; ((with_reducible refine (GH.out _).mono ?_); rintro e w1 ⟨rfl, rfl⟩))
  exact bodyPost_ret (results_tmp rfl _ _ _) rfl ⟨rfl,
    { cell := by have := World.alloc_heap_new (w.alloc (.map #[] 0)) (.cells #[.map (some w.heap.size), .int .i64 r, .int .i64 0, .bool false, .int .i64 0] 72); rw [World.size_alloc] at this; rw [this, HR.out]; rfl
      map := (World.ownsMap_made _ _ _ _).alloc _
      file := fun f hf => by cases hf
      fbs := List.Pairwise.nil, rows := List.Pairwise.nil, nms := List.Pairwise.nil, core := rfl
      low := ⟨by omega, by omega, fun f hf => by cases hf⟩ }, bel_alloc (bel_alloc (Below.refl _ _) _) _⟩
theorem limit_any {W : World} {B d m : Nat} {D : PD} {F : List FileC} (h : HasDisk W B d m D F) (n : Int) : Calls Tryz.prog 23 #[.pointer (some ⟨d, 0, none⟩), .int .i64 n] W fun e w' => (∃ v, e = .returned v) ∧ HasDisk w' B d m { D with lim := true, left := (max n 0).toNat } F ∧ FrameT (fun k => k = d) W w' := by
  obtain ⟨c0, c1, c2, c3, c4⟩ := cells5 h.cell
  obtain ⟨f2, f3, f4⟩ := frozen5 h.cell
  have HD := Lib.hid h
  have hcell := Lib.hid h.cell
  obtain ⟨L, room, steps, lim, left⟩ := D
  dsimp only at *
  clear h
  rcases (by omega : n < 0 ∨ n = 0 ∨ 0 < n) with hn | rfl | hn
  · have HN := Lib.hid (show max n 0 = 0 by omega)
    have H1 := Lib.hid (heap_setCell_same _ d 4 _ _ (.int .i64 0) (heap_setCell_same W d 3 _ _ (.bool true) hcell.out))
    have H2 := Lib.hid ((FrameT.setCell W d 3 (.bool true)).trans (FrameT.setCell _ d 4 (.int .i64 0)))
    go_enter Tryz.func23, Tryz.ntmps23
    go_wp2
    refine bodyPost_end (results_none rfl _ _ _) rfl ?_
    refine ⟨⟨_, rfl⟩, HD.out.own H2.out ?_ rfl, H2.out⟩
    rw [H1.out]; simp [HN.out]
  · have HN := Lib.hid (show max 0 0 = 0 by omega)
    have H1 := Lib.hid (heap_setCell_same _ d 4 _ _ (.int .i64 0) (heap_setCell_same W d 3 _ _ (.bool true) hcell.out))
    have H2 := Lib.hid ((FrameT.setCell W d 3 (.bool true)).trans (FrameT.setCell _ d 4 (.int .i64 0)))
    go_enter Tryz.func23, Tryz.ntmps23
    go_wp2
    refine bodyPost_end (results_none rfl _ _ _) rfl ?_
    refine ⟨⟨_, rfl⟩, HD.out.own H2.out ?_ rfl, H2.out⟩
    rw [H1.out]; simp
  · have HN := Lib.hid (show max n 0 = n by omega)
    have H1 := Lib.hid (heap_setCell_same _ d 4 _ _ (.int .i64 n) (heap_setCell_same W d 3 _ _ (.bool true) hcell.out))
    have H2 := Lib.hid ((FrameT.setCell W d 3 (.bool true)).trans (FrameT.setCell _ d 4 (.int .i64 n)))
    go_enter Tryz.func23, Tryz.ntmps23
    go_wp2
    refine bodyPost_end (results_none rfl _ _ _) rfl ?_
    refine ⟨⟨_, rfl⟩, HD.out.own H2.out ?_ rfl, H2.out⟩
    rw [H1.out]; simp [HN.out]
end Go.Proofs.YtoieacmipejfeaaGreatDoor

/- The contracts of a disk's functions: Create, Remove, Sync, Rename, Read. -/
namespace Go.Proofs.YtoieacmipejfeaaGreatDoor
open Go.RowKit Go.Shelf
set_option linter.unusedVariables false
attribute [local go_sem] Oper.semAt_some wide_fn wide_round_fn

def createE (D : PD) (s : ByteArray) : Int := if offB D then 18 else if (getK PF.n D.L s).isSome then 20 else if 1000 ≤ D.L.length then 17 else 0
def createD (D : PD) (s : ByteArray) : PD := if createE D s = 0 then doneD { D with L := putK PF.n ⟨s, [], 0⟩ D.L } else D
theorem createD_no {W : World} {B d m : Nat} {D : PD} {F : List FileC} (h : HasDisk W B d m D F) {s : ByteArray} {n : Int} (e : createE D s = n) (hn : n ≠ 0) : Ending.returned (.int .i64 n) = Ending.returned (.int .i64 (createE D s)) ∧ OpD W B d m F (createD D s) W := by
  unfold createD
  rw [e, if_neg hn]
  exact ⟨rfl, OpD.refl h⟩
theorem putC_new {W w1 : World} {B d m n' : Nat} {D : PD} {F : List FileC} (h : HasDisk W B d m D F) {s : ByteArray} (hg : w1.heap[W.heap.size]? = some (.cells #[.slice none 0 0, .int .i64 0] 97 (0, 0))) (hm : w1.ownsMap Tryz.prog 9 ptrElem m n' ((dmap F).put (.string s.data.toList) (.lit (.int .i64 W.heap.size)))) (hF : FrameT (fun k => k = m) (W.alloc (.cells #[.slice none 0 0, .int .i64 0] 97)) w1) (hB : B ≤ W.heap.size) :
    HasDisk w1 B d m { D with L := putK PF.n ⟨s, [], 0⟩ D.L } (putK FileC.n ⟨s, W.heap.size, .slice none 0 0, [], 0⟩ F) := by
  have h2 : HasDisk (W.alloc (.cells #[.slice none 0 0, .int .i64 0] 97)) B d m D F := h.below (bel_alloc (Below.refl _ _) _)
  refine h2.put ⟨s, W.heap.size, .slice none 0 0, [], 0⟩ (fun g hg' _ => ⟨fun e => ?_, fun j hj => by simp [Value.ownBlock]⟩) ⟨hg, ownsG_of (World.ownsRow_nil _ _ _ _), Nat.le_refl _⟩ hm hF hB
  have := h.lt (k := g.fb) (.inr (.inr ⟨g, hg', .inl rfl⟩))
  have e' : g.fb = W.heap.size := e
  omega
theorem putC_grown {W w1 : World} {B d m n' : Nat} {D : PD} {F : List FileC} (h : HasDisk W B d m D F) {s : ByteArray} (hm : w1.ownsMap Tryz.prog 9 ptrElem m n' ((dmap F).put (.string s.data.toList) (.lit (.int .i64 W.heap.size)))) (hG : (W.alloc (.cells #[.slice none 0 0, .int .i64 0] 97)).grownBy w1 (some m)) (hB : B ≤ W.heap.size) :
    HasDisk w1 B d m { D with L := putK PF.n ⟨s, [], 0⟩ D.L } (putK FileC.n ⟨s, W.heap.size, .slice none 0 0, [], 0⟩ F) := by
  have hlt := h.map.lt
  refine putC_new h ?_ hm (frame_map hG) hB
  rw [hG.block _ (by rw [World.size_alloc]; omega) (by intro e; injection e with e; omega), World.alloc_heap_new]
theorem opD_put {W w1 w2 : World} {B d m : Nat} {D : PD} {F : List FileC} (h : HasDisk W B d m D F) {x : FileC} (hx : W.heap.size ≤ x.fb ∧ ∀ j, x.v.ownBlock = some j → W.heap.size ≤ j) (hF : FrameT (fun k => k = m) W w1) (hG : FrameT (fun k => k = d) w1 w2) (D' : PD) (hD : HasDisk w2 B d m D' (putK FileC.n x F)) : OpD W B d m F D' w2 := by
  refine ⟨_, hD, (hF.mono fun k hk => .inr (.inl hk)).trans (hG.mono fun k hk => .inl hk), fun k hk => ?_⟩
  rcases hk with hk | hk | ⟨f, hf, hk⟩
  · exact .inl (.inl hk)
  · exact .inl (.inr (.inl hk))
  · rcases mem_putK.1 hf with rfl | ⟨hf, _⟩
    · rcases hk with rfl | hk
      · exact .inr hx.1
      · exact .inr (hx.2 k hk)
    · exact .inl (.inr (.inr ⟨f, hf, hk⟩))
set_option maxRecDepth 100000 in
set_option maxHeartbeats 1000000 in
theorem create_any {W : World} {B d m : Nat} {D : PD} {F : List FileC} (h : HasDisk W B d m D F) (s : ByteArray) (hs : s.size ≤ maxLen) (hst : D.steps < 4611686018427387904) (hle : D.left < 9223372036854775808) (hBW : B ≤ W.heap.size) :
    Calls Tryz.prog 29 #[.pointer (some ⟨d, 0, none⟩), .string s] W fun e w' => e = .returned (.int .i64 (createE D s)) ∧ OpD W B d m F (createD D s) w' := by
  have GO := Lib.hid (off_any h)
  have GH := Lib.hid (has_any h s hs)
  obtain ⟨c0, c1, c2, c3, c4⟩ := cells5 h.cell
  have hmap := h.map
  have hkey := Go.WideMaps.keyOf_string_mk (s := s) Tryz.underlying9 hs
  have HL : F.length = D.L.length := by rw [← h.core, List.length_map]
  have HD := Lib.hid h
  have HG := Lib.hid (h.get s)
  cases ho : offB D
  · cases hg : (getK PF.n D.L s).isSome
    · by_cases hc : 1000 ≤ D.L.length
      · have HE := Lib.hid (show createE D s = 17 by unfold createE; rw [ho, hg, if_pos hc]; rfl)
        have hci : (1000 : Int) ≤ (F.length : Int) := by omega
        rw [ho] at GO
        rw [hg] at GH
        clear h ho hg hc HL
        go_enter Tryz.func29, Tryz.ntmps29
        go_wp2_with (first
          | (go_at_call 54; ((with_reducible refine GO.out.mono ?_); rintro e w1 ⟨rfl, rfl⟩))
          | (go_at_call 55; ((with_reducible refine GH.out.mono ?_); rintro e w1 ⟨rfl, rfl⟩))
          | (at_len; refine wpList_len_own _ rfl _ 69 rfl 9 95 Tryz.underlying69 ptrElem m F.length (dmap F) rfl hmap ?_; rw [dmap_size]))
        go_ret
        exact createD_no HD.out HE.out (by decide)
      · have HE := Lib.hid (show createE D s = 0 by unfold createE; rw [ho, hg, if_neg hc]; rfl)
        have hci : (F.length : Int) < 1000 := by omega
        have hcm : F.length < maxLen := by unfold maxLen; omega
        have hn : getK FileC.n F s = none := by
          rw [h.get s] at hg
          cases e : getK FileC.n F s with
          | none => rfl
          | some x => rw [e] at hg; cases hg
        have HN := Lib.hid hn
        have GD := Lib.hid (fun (w1 : World) (hH : HasDisk w1 B d m { D with L := putK PF.n ⟨s, [], 0⟩ D.L } (putK FileC.n ⟨s, W.heap.size, .slice none 0 0, [], 0⟩ F)) => done_any hH (show offB { D with L := putK PF.n ⟨s, [], 0⟩ D.L } = false from ho) hst hle)
        rw [ho] at GO
        rw [hg] at GH
        clear h ho hg hc HL hn
        go_enter Tryz.func29, Tryz.ntmps29
        go_wp2_with (first
          | (go_at_call 54; ((with_reducible refine GO.out.mono ?_); rintro e w1 ⟨rfl, rfl⟩))
          | (go_at_call 55; ((with_reducible refine GH.out.mono ?_); rintro e w1 ⟨rfl, rfl⟩))
          | (at_len; refine wpList_len_own _ rfl _ 69 rfl 9 95 Tryz.underlying69 ptrElem m F.length (dmap F) rfl hmap ?_; rw [dmap_size])
          | (at_mapUpdate; refine wpList_mapUpdate_own _ rfl _ _ _ 69 rfl 9 95 lawStr Tryz.underlying69 ptrElem m F.length (dmap F) rfl (hmap.alloc _) hcm _ _ _ rfl rfl hkey _ [] (ptr_some _) ?_; intro w1 hown1 hgrow1; have hH1 := Lib.hid (putC_grown HD.out hown1 hgrow1 hBW); have hF1 := Lib.hid (frame_map hgrow1))
          | (go_at_call 56; ((with_reducible refine (GD.out _ hH1.out).mono ?_); rintro e w2 ⟨rfl, hD2, hF2⟩)))
        go_ret
        have hcd : createD D s = doneD { D with L := putK PF.n ⟨s, [], 0⟩ D.L } := by unfold createD; rw [HE.out]; rfl
        rw [HE.out, hcd]
        exact ⟨rfl, opD_put HD.out ⟨Nat.le_refl _, fun j hj => by simp [Value.ownBlock] at hj⟩ ((FrameT.below (bel_alloc (Below.refl _ _) _)).trans hF1.out) hF2 _ hD2⟩
    · have HE := Lib.hid (show createE D s = 20 by unfold createE; rw [ho, hg]; rfl)
      rw [ho] at GO
      rw [hg] at GH
      clear h ho hg HL
      go_enter Tryz.func29, Tryz.ntmps29
      go_wp2_with (first
        | (go_at_call 54; ((with_reducible refine GO.out.mono ?_); rintro e w1 ⟨rfl, rfl⟩))
        | (go_at_call 55; ((with_reducible refine GH.out.mono ?_); rintro e w1 ⟨rfl, rfl⟩)))
      go_ret
      exact createD_no HD.out HE.out (by decide)
  · have HE := Lib.hid (show createE D s = 18 by unfold createE; rw [ho]; rfl)
    rw [ho] at GO
    clear h ho HL
    go_enter Tryz.func29, Tryz.ntmps29
    go_wp2_with (go_at_call 54; ((with_reducible refine GO.out.mono ?_); rintro e w1 ⟨rfl, rfl⟩))
    go_ret
    exact createD_no HD.out HE.out (by decide)

end Go.Proofs.YtoieacmipejfeaaGreatDoor

/- The contracts of a disk's functions: Remove, Sync, Rename. -/
namespace Go.Proofs.YtoieacmipejfeaaGreatDoor
open Go.RowKit Go.Shelf
set_option linter.unusedVariables false
attribute [local go_sem] Oper.semAt_some wide_fn wide_round_fn

theorem ask_ok {W : World} {B d m : Nat} {D : PD} {F : List FileC} (h : HasDisk W B d m D F) {s : ByteArray} (e : askE D s = 0) : offB D = false ∧ ∃ f, getK FileC.n F s = some f ∧ f ∈ F ∧ f.n = s ∧ getK PF.n D.L s = some f.core := by
  unfold askE at e
  cases ho : offB D with
  | true => rw [ho] at e; cases e
  | false =>
    rw [ho] at e
    refine ⟨rfl, ?_⟩
    cases hg : getK FileC.n F s with
    | none => rw [h.get s, hg] at e; cases e
    | some f => exact ⟨f, rfl, (getK_some hg).1, (getK_some hg).2, by rw [h.get s, hg]; rfl⟩
theorem opD_no {W : World} {B d m : Nat} {D : PD} {F : List FileC} (h : HasDisk W B d m D F) {s : ByteArray} {n : Int} {D' : PD} (e : askE D s = n) (hn : n ≠ 0) : Ending.returned (.int .i64 n) = Ending.returned (.int .i64 (askE D s)) ∧ OpD W B d m F (if askE D s = 0 then D' else D) W := by
  rw [e, if_neg hn]
  exact ⟨rfl, OpD.refl h⟩
theorem askE_ne {D : PD} {s : ByteArray} (h : askE D s ≠ 0) : askE D s = 18 ∨ askE D s = 19 := by
  unfold askE at h ⊢
  split
  · exact .inl rfl
  · split
    · rename_i h1 h2; rw [if_neg h1, if_pos h2] at h; exact absurd rfl h
    · exact .inr rfl
def removeD (D : PD) (s : ByteArray) : PD := if askE D s = 0 then doneD { D with L := delK PF.n D.L s } else D
theorem opD_del {W w1 w2 : World} {B d m : Nat} {F : List FileC} {s : ByteArray} (hF : FrameT (fun k => k = m) W w1) (hG : FrameT (fun k => k = d) w1 w2) (D' : PD) (hD : HasDisk w2 B d m D' (delK FileC.n F s)) : OpD W B d m F D' w2 := by
  refine ⟨_, hD, (hF.mono fun k hk => .inr (.inl hk)).trans (hG.mono fun k hk => .inl hk), fun k hk => ?_⟩
  rcases hk with hk | hk | ⟨f, hf, hk⟩
  · exact .inl (.inl hk)
  · exact .inl (.inr (.inl hk))
  · exact .inl (.inr (.inr ⟨f, (mem_delK.1 hf).1, hk⟩))
theorem delC {W w1 : World} {B d m n' : Nat} {D : PD} {F : List FileC} (h : HasDisk W B d m D F) (s : ByteArray) (hm : w1.ownsMap Tryz.prog 9 ptrElem m n' ((dmap F).del (.string s.data.toList))) (hT : W.mapTurned w1 m) : HasDisk w1 B d m { D with L := delK PF.n D.L s } (delK FileC.n F s) ∧ FrameT (fun k => k = m) W w1 := ⟨h.del s hm (frame_map hT.grown), frame_map hT.grown⟩
set_option maxRecDepth 100000 in
set_option maxHeartbeats 1000000 in
theorem remove_any {W : World} {B d m : Nat} {D : PD} {F : List FileC} (h : HasDisk W B d m D F) (s : ByteArray) (hs : s.size ≤ maxLen) (hst : D.steps < 4611686018427387904) (hle : D.left < 9223372036854775808) :
    Calls Tryz.prog 43 #[.pointer (some ⟨d, 0, none⟩), .string s] W fun e w' => e = .returned (.int .i64 (askE D s)) ∧ OpD W B d m F (removeD D s) w' := by
  have GA := Lib.hid (ask_any h s hs)
  obtain ⟨c0, c1, c2, c3, c4⟩ := cells5 h.cell
  have hmap := h.map
  have hkey := Go.WideMaps.keyOf_string_mk (s := s) Tryz.underlying9 hs
  have HD := Lib.hid h
  by_cases ha : askE D s = 0
  · obtain ⟨ho, -⟩ := ask_ok h ha
    have GD := Lib.hid (fun (w1 : World) (hH : HasDisk w1 B d m { D with L := delK PF.n D.L s } (delK FileC.n F s)) => done_any hH (show offB { D with L := delK PF.n D.L s } = false from ho) hst hle)
    have HA := Lib.hid ha
    rw [ha] at GA
    clear h ha ho
    go_enter Tryz.func43, Tryz.ntmps43
    go_wp2_with (first
      | (go_at_call 51; ((with_reducible refine GA.out.mono ?_); rintro e w1 ⟨rfl, rfl⟩))
      | (at_delete; refine wpList_delete_own _ rfl _ _ 69 9 rfl 95 lawStr Tryz.underlying69 ptrElem m F.length (dmap F) rfl hmap _ _ rfl hkey ?_; intro w1 hown1 hturn1; have hH1 := Lib.hid (delC HD.out s hown1 hturn1))
      | (go_at_call 56; ((with_reducible refine (GD.out _ hH1.out.1).mono ?_); rintro e w2 ⟨rfl, hD2, hF2⟩)))
    go_ret
    have hcd : removeD D s = doneD { D with L := delK PF.n D.L s } := by unfold removeD; rw [HA.out]; rfl
    rw [HA.out, hcd]
    exact ⟨rfl, opD_del hH1.out.2 hF2 _ hD2⟩
  · have HE := Lib.hid ha
    rcases askE_ne ha with h18 | h18
    all_goals
      have H18 := Lib.hid h18
      rw [h18] at GA
      clear h ha h18
      go_enter Tryz.func43, Tryz.ntmps43
      go_wp2_with (go_at_call 51; ((with_reducible refine GA.out.mono ?_); rintro e w1 ⟨rfl, rfl⟩))
      go_ret
      exact opD_no HD.out H18.out (by decide)

/-- A file's bytes are kept. -/
def keepP (x : PF) : PF := { x with k := x.b.length }
def keepC (x : FileC) : FileC := { x with k := x.b.length }
def turnL (g : PF → PF) (L : List PF) (s : ByteArray) : List PF := L.map fun x => if x.n = s then g x else x
theorem set_turn {W : World} {B d m : Nat} {D : PD} {F : List FileC} (h : HasDisk W B d m D F) {f : FileC} (hf : f ∈ F) (g : PF → PF) (hg : (g f.core).n = f.n) : setK PF.n (g f.core) D.L = turnL g D.L f.n := by
  unfold setK turnL
  rw [← h.core]
  apply List.map_congr_left
  intro x hx
  obtain ⟨y, hy, rfl⟩ := List.mem_map.1 hx
  rw [hg]
  by_cases e : (FileC.core y).n = f.n
  · rw [if_pos e, if_pos e]
    rcases pairwise_get (fun e => Ne.symm e) h.nms hy hf with e1 | e1
    · rw [e1]
    · exact absurd e e1
  · rw [if_neg e, if_neg e]
theorem opD_set {W w1 w2 : World} {B d m : Nat} {F : List FileC} {f x : FileC} (hf : f ∈ F) (hfb : x.fb = f.fb) (hv : ∀ j, x.v.ownBlock = some j → f.v.ownBlock = some j ∨ W.heap.size ≤ j) (hF : FrameT (fun k => k = f.fb ∨ f.v.ownBlock = some k) W w1) (hG : FrameT (fun k => k = d) w1 w2) (D' : PD) (hD : HasDisk w2 B d m D' (setK FileC.n x F)) : OpD W B d m F D' w2 := by
  refine ⟨_, hD, (hF.mono fun k hk => .inr (.inr ⟨f, hf, hk⟩)).trans (hG.mono fun k hk => .inl hk), fun k hk => ?_⟩
  rcases hk with hk | hk | ⟨y, hy, hk⟩
  · exact .inl (.inl hk)
  · exact .inl (.inr (.inl hk))
  · rcases mem_setK hy with rfl | ⟨hy, _⟩
    · rcases hk with rfl | hk
      · exact .inl (.inr (.inr ⟨f, hf, .inl hfb⟩))
      · rcases hv k hk with h1 | h1
        · exact .inl (.inr (.inr ⟨f, hf, .inr h1⟩))
        · exact .inr h1
    · exact .inl (.inr (.inr ⟨y, hy, hk⟩))
theorem keep_disk {W : World} {B d m : Nat} {D : PD} {F : List FileC} (h : HasDisk W B d m D F) {f : FileC} (hf : f ∈ F) : Calls Tryz.prog 50 #[.pointer (some ⟨f.fb, 0, none⟩)] W fun e w' => (∃ v, e = .returned v) ∧ HasDisk w' B d m { D with L := turnL keepP D.L f.n } (setK FileC.n (keepC f) F) ∧ FrameT (fun k => k = f.fb ∨ f.v.ownBlock = some k) W w' := by
  obtain ⟨h1, h2, h3⟩ := h.file f hf
  obtain ⟨a, cap, hv⟩ := own_sliceG h2
  rw [hv] at h1
  refine (keep_any h1).mono ?_
  rintro e w' ⟨he, rfl⟩
  have hF : FrameT (fun k => k = f.fb) W (W.setCell ⟨f.fb, 1, none⟩ (.int .i64 f.b.length)) := FrameT.setCell W f.fb 1 _
  have hF' := hF.mono (U := fun k => k = f.fb ∨ f.v.ownBlock = some k) fun k hk => .inl hk
  refine ⟨he, ?_, hF'⟩
  have hown : f.v.ownBlock ≠ some f.fb := h.apart.2.2 f hf f hf
  have := h.set hf (keepC f) rfl rfl ⟨by rw [show (keepC f).fb = f.fb from rfl, heap_setCell_same _ _ _ _ _ _ h1]; rw [show (keepC f).v = f.v from rfl, hv]; rfl, ownsG_frame h2 hF (fun j hj e => hown (by rw [← e]; exact hj)), Nat.le_refl _⟩ (fun j hj => .inl hj) hF'
  rw [show (keepC f).core = keepP f.core from rfl, set_turn h hf keepP rfl] at this
  exact this
def syncD (D : PD) (s : ByteArray) : PD := if askE D s = 0 then doneD { D with L := turnL keepP D.L s } else D
set_option maxRecDepth 100000 in
set_option maxHeartbeats 1000000 in
theorem sync_any {W : World} {B d m : Nat} {D : PD} {F : List FileC} (h : HasDisk W B d m D F) (s : ByteArray) (hs : s.size ≤ maxLen) (hst : D.steps < 4611686018427387904) (hle : D.left < 9223372036854775808) :
    Calls Tryz.prog 39 #[.pointer (some ⟨d, 0, none⟩), .string s] W fun e w' => e = .returned (.int .i64 (askE D s)) ∧ OpD W B d m F (syncD D s) w' := by
  have GA := Lib.hid (ask_any h s hs)
  obtain ⟨c0, c1, c2, c3, c4⟩ := cells5 h.cell
  have HD := Lib.hid h
  by_cases ha : askE D s = 0
  · obtain ⟨ho, f, hg, hf, hn, -⟩ := ask_ok h ha
    have hrun := look_run h hs hg
    have GK := Lib.hid (keep_disk h hf)
    rw [hn] at GK
    have GD := Lib.hid (fun (w1 : World) (hH : HasDisk w1 B d m { D with L := turnL keepP D.L s } (setK FileC.n (keepC f) F)) => done_any hH (show offB { D with L := turnL keepP D.L s } = false from ho) hst hle)
    have HA := Lib.hid ha
    have HF := Lib.hid hf
    rw [ha] at GA
    clear h ha ho hg hf hn
    go_enter Tryz.func39, Tryz.ntmps39
    go_wp2_with (first
      | (go_at_call 51; ((with_reducible refine GA.out.mono ?_); rintro e w1 ⟨rfl, rfl⟩))
      | (go_at_call 50; ((with_reducible refine GK.out.mono ?_); rintro e w1 ⟨⟨v, rfl⟩, hH1, hF1⟩; have HH1 := Lib.hid hH1; have HF1 := Lib.hid hF1; clear hH1 hF1))
      | (go_at_call 56; ((with_reducible refine (GD.out _ HH1.out).mono ?_); rintro e w2 ⟨rfl, hD2, hF2⟩)))
    go_ret
    have hcd : syncD D s = doneD { D with L := turnL keepP D.L s } := by unfold syncD; rw [HA.out]; rfl
    rw [HA.out, hcd]
    exact ⟨rfl, opD_set (x := keepC f) HF.out rfl (fun j hj => .inl hj) HF1.out hF2 _ hD2⟩
  · have HE := Lib.hid ha
    rcases askE_ne ha with h18 | h18
    all_goals
      have H18 := Lib.hid h18
      rw [h18] at GA
      clear h ha h18
      go_enter Tryz.func39, Tryz.ntmps39
      go_wp2_with (go_at_call 51; ((with_reducible refine GA.out.mono ?_); rintro e w1 ⟨rfl, rfl⟩))
      go_ret
      exact opD_no HD.out H18.out (by decide)

def namedP (f : PF) (t : ByteArray) (k : Nat) : PF := ⟨t, f.b, k⟩
def namedC (f : FileC) (t : ByteArray) (k : Nat) : FileC := ⟨t, f.fb, f.v, f.b, k⟩
/-- A file under another name, its bytes kept. -/
def renF (D : PD) (s t : ByteArray) : PD := match getK PF.n D.L s with | some f => { D with L := putK PF.n (namedP f t f.b.length) (delK PF.n D.L s) } | none => D
def renameD (D : PD) (s t : ByteArray) : PD := if askE D s = 0 then doneD (renF D s t) else D
theorem set_ins {α : Type} {nm : α → ByteArray} {x y : α} (e : nm y = nm x) : ∀ G : List α, (∀ z ∈ G, nm z ≠ nm x) → setK nm y (insK nm x G) = insK nm y G
  | [], _ => by simp [setK, insK, e]
  | z :: r, hd => by
    have hz := hd z List.mem_cons_self
    have hr : ∀ w ∈ r, nm w ≠ nm x := fun w hw => hd w (List.mem_cons_of_mem _ hw)
    have ih := set_ins e r hr
    have hid : setK nm y r = r := by
      unfold setK
      conv => rhs; rw [← List.map_id r]
      apply List.map_congr_left
      intro w hw
      rw [if_neg (by rw [e]; exact hr w hw)]; rfl
    show setK nm y (if Lit.before (.string (nm x).data.toList) (.string (nm z).data.toList) = true then x :: z :: r else z :: insK nm x r) = (if Lit.before (.string (nm y).data.toList) (.string (nm z).data.toList) = true then y :: z :: r else z :: insK nm y r)
    rw [e]
    split
    · show (if nm x = nm y then y else x) :: (if nm z = nm y then y else z) :: setK nm y r = _
      rw [if_pos e.symm, if_neg (by rw [e]; exact hz), hid]
    · show (if nm z = nm y then y else z) :: setK nm y (insK nm x r) = _
      rw [if_neg (by rw [e]; exact hz), ih]
theorem set_put {α : Type} {nm : α → ByteArray} {x y : α} (e : nm y = nm x) (F : List α) : setK nm y (putK nm x F) = putK nm y F := by
  unfold putK
  rw [e]
  exact set_ins e _ fun z hz => (mem_delK.1 hz).2
theorem delK_get {F : List FileC} {s : ByteArray} {f : FileC} (hp : F.Pairwise fun f g => f.n ≠ g.n) (hf : f ∈ F) (hn : f.n = s) : ∀ g ∈ delK FileC.n F s, g ≠ f := fun g hg e => by rw [e] at hg; exact (mem_delK.1 hg).2 hn
/-- The file that was taken out is laid in anew, under another name. -/
theorem renC {W w1 w2 : World} {B d m n' n'' : Nat} {D : PD} {F : List FileC} (h : HasDisk W B d m D F) {s t : ByteArray} {f : FileC} (hf : f ∈ F) (hn : f.n = s) (hm1 : w1.ownsMap Tryz.prog 9 ptrElem m n' ((dmap F).del (.string s.data.toList))) (hT1 : W.mapTurned w1 m)
    (hm2 : w2.ownsMap Tryz.prog 9 ptrElem m n'' (((dmap F).del (.string s.data.toList)).put (.string t.data.toList) (.lit (.int .i64 f.fb)))) (hT2 : w1.grownBy w2 (some m)) :
    HasDisk w2 B d m { D with L := putK PF.n (namedP f.core t f.k) (delK PF.n D.L s) } (putK FileC.n (namedC f t f.k) (delK FileC.n F s)) ∧ FrameT (fun k => k = m) W w2 := by
  obtain ⟨h1, hF1⟩ := delC h s hm1 hT1
  have hF2 := frame_map hT2
  rw [dmap_del] at hm2
  obtain ⟨a1, a2, a3⟩ := h.apart
  obtain ⟨b1, b2, b3⟩ := h.file f hf
  have hF := hF1.trans hF2
  refine ⟨h1.put (namedC f t f.k) (fun g hg _ => ?_) ⟨hF.get b1 (a2 f hf).2.1, ownsG_frame b2 hF (fun j hj e => (a2 f hf).2.2.2 (by rw [← e]; exact hj)), b3⟩ hm2 hF2 (h.low.2.2 f hf), hF⟩
  have hg1 := (mem_delK.1 hg).1
  constructor
  · rcases pairwise_get (fun e => Ne.symm e) h.fbs hg1 hf with e1 | e1
    · exact absurd e1 (delK_get h.nms hf hn g hg)
    · exact e1
  · rcases pairwise_get (R := fun f g : FileC => ∀ j, f.v.ownBlock = some j → g.v.ownBlock ≠ some j) (fun {a b} hab j hj e => hab j e hj) h.rows hg1 hf with e1 | e1
    · exact absurd e1 (delK_get h.nms hf hn g hg)
    · exact e1
theorem keep_ren {W : World} {B d m : Nat} {D : PD} {F : List FileC} {s t : ByteArray} {f : FileC} (h : HasDisk W B d m { D with L := putK PF.n (namedP f.core t f.k) (delK PF.n D.L s) } (putK FileC.n (namedC f t f.k) (delK FileC.n F s))) (hg : getK PF.n D.L s = some f.core) : Calls Tryz.prog 50 #[.pointer (some ⟨f.fb, 0, none⟩)] W fun e w' => (∃ v, e = .returned v) ∧ HasDisk w' B d m (renF D s t) (putK FileC.n (namedC f t f.b.length) (delK FileC.n F s)) ∧ FrameT (fun k => k = f.fb ∨ f.v.ownBlock = some k) W w' := by
  have hf : namedC f t f.k ∈ putK FileC.n (namedC f t f.k) (delK FileC.n F s) := mem_putK.2 (.inl rfl)
  refine (keep_disk h hf).mono ?_
  rintro e w' ⟨he, h2, h3⟩
  refine ⟨he, ?_, h3⟩
  rw [show keepC (namedC f t f.k) = (namedC f t f.b.length) from rfl, set_put (show FileC.n (namedC f t f.b.length) = FileC.n (namedC f t f.k) from rfl)] at h2
  have e1 : turnL keepP (putK PF.n (namedP f.core t f.k) (delK PF.n D.L s)) (namedC f t f.k).n = putK PF.n (namedP f.core t f.b.length) (delK PF.n D.L s) := by
    have := set_turn h hf keepP rfl
    dsimp only at this
    rw [← this]
    exact set_put (show PF.n (namedP f.core t f.b.length) = PF.n (namedP f.core t f.k) from rfl) _
  dsimp only at h2
  rw [e1] at h2
  unfold renF
  rw [hg]
  exact h2
theorem opD_ren {W w1 w2 w3 : World} {B d m : Nat} {F : List FileC} {f x : FileC} {s : ByteArray} (hf : f ∈ F) (hfb : x.fb = f.fb) (hv : x.v = f.v) (hF : FrameT (fun k => k = m) W w1) (hK : FrameT (fun k => k = f.fb ∨ f.v.ownBlock = some k) w1 w2) (hG : FrameT (fun k => k = d) w2 w3) (D' : PD) (hD : HasDisk w3 B d m D' (putK FileC.n x (delK FileC.n F s))) : OpD W B d m F D' w3 := by
  refine ⟨_, hD, ((hF.mono fun k hk => .inr (.inl hk)).trans (hK.mono fun k hk => .inr (.inr ⟨f, hf, hk⟩))).trans (hG.mono fun k hk => .inl hk), fun k hk => .inl ?_⟩
  rcases hk with hk | hk | ⟨y, hy, hk⟩
  · exact .inl hk
  · exact .inr (.inl hk)
  · rcases mem_putK.1 hy with rfl | ⟨hy, _⟩
    · rw [hfb, hv] at hk; exact .inr (.inr ⟨f, hf, hk⟩)
    · exact .inr (.inr ⟨y, (mem_delK.1 hy).1, hk⟩)
set_option maxRecDepth 100000 in
set_option maxHeartbeats 1000000 in
theorem rename_any {W : World} {B d m : Nat} {D : PD} {F : List FileC} (h : HasDisk W B d m D F) (s t : ByteArray) (hs : s.size ≤ maxLen) (ht : t.size ≤ maxLen) (hFl : F.length < maxLen) (hst : D.steps < 4611686018427387904) (hle : D.left < 9223372036854775808) :
    Calls Tryz.prog 60 #[.pointer (some ⟨d, 0, none⟩), .string s, .string t] W fun e w' => e = .returned (.int .i64 (askE D s)) ∧ OpD W B d m F (renameD D s t) w' := by
  have GA := Lib.hid (ask_any h s hs)
  obtain ⟨c0, c1, c2, c3, c4⟩ := cells5 h.cell
  have hmap := h.map
  have hkey := Go.WideMaps.keyOf_string_mk (s := s) Tryz.underlying9 hs
  have hkeyt := Go.WideMaps.keyOf_string_mk (s := t) Tryz.underlying9 ht
  have HD := Lib.hid h
  by_cases ha : askE D s = 0
  · obtain ⟨ho, f, hg, hf, hn, hgd⟩ := ask_ok h ha
    have hrun := look_run h hs hg
    have HKR := Lib.hid (fun (w : World) (hH : HasDisk w B d m { D with L := putK PF.n (namedP f.core t f.k) (delK PF.n D.L s) } (putK FileC.n (namedC f t f.k) (delK FileC.n F s))) => keep_ren hH hgd)
    have GD := Lib.hid (fun (w1 : World) (hH : HasDisk w1 B d m (renF D s t) (putK FileC.n (namedC f t f.b.length) (delK FileC.n F s))) => done_any hH (show offB (renF D s t) = false by unfold renF; rw [hgd]; exact ho) (show (renF D s t).steps < _ by unfold renF; rw [hgd]; exact hst) (show (renF D s t).left < _ by unfold renF; rw [hgd]; exact hle))
    have HA := Lib.hid ha
    have HF := Lib.hid hf
    have HN := Lib.hid hn
    rw [ha] at GA
    clear h ha ho hg hf hn hgd
    go_enter Tryz.func60, Tryz.ntmps60
    go_wp2_with (first
      | (go_at_call 51; ((with_reducible refine GA.out.mono ?_); rintro e w1 ⟨rfl, rfl⟩))
      | (at_delete; refine wpList_delete_own _ rfl _ _ 69 9 rfl 95 lawStr Tryz.underlying69 ptrElem m F.length (dmap F) rfl hmap _ _ rfl hkey ?_; intro w1 hown1 hturn1; have c0' := (cells5 (delC HD.out s hown1 hturn1).1.cell).1; have HO1 := Lib.hid hown1; have HT1 := Lib.hid hturn1)
      | (at_mapUpdate; refine wpList_mapUpdate_own _ rfl _ _ _ 69 rfl 9 95 lawStr Tryz.underlying69 ptrElem m F.length _ rfl HO1.out hFl _ _ _ rfl rfl hkeyt _ [] (ptr_some _) ?_; intro w2 hown2 hgrow2; have HH2 := Lib.hid (renC HD.out HF.out HN.out HO1.out HT1.out hown2 hgrow2))
      | (go_at_call 50; ((with_reducible refine (HKR.out _ HH2.out.1).mono ?_); rintro e w3 ⟨⟨v, rfl⟩, hH3, hF3⟩; have HH3 := Lib.hid hH3; have HF3 := Lib.hid hF3; clear hH3 hF3))
      | (go_at_call 56; ((with_reducible refine (GD.out _ HH3.out).mono ?_); rintro e w4 ⟨rfl, hD4, hF4⟩)))
    go_ret
    have hcd : renameD D s t = doneD (renF D s t) := by unfold renameD; rw [HA.out]; rfl
    rw [HA.out, hcd]
    exact ⟨rfl, opD_ren (x := (namedC f t f.b.length)) HF.out rfl rfl HH2.out.2 HF3.out hF4 _ hD4⟩
  · have HE := Lib.hid ha
    rcases askE_ne ha with h18 | h18
    all_goals
      have H18 := Lib.hid h18
      rw [h18] at GA
      clear h ha h18
      go_enter Tryz.func60, Tryz.ntmps60
      go_wp2_with (go_at_call 51; ((with_reducible refine GA.out.mono ?_); rintro e w1 ⟨rfl, rfl⟩))
      go_ret
      exact opD_no HD.out H18.out (by decide)

end Go.Proofs.YtoieacmipejfeaaGreatDoor
