/- Rec, RecM, RecIs: in one text. -/
import Derived.Test.YtdncdlbhgaehmaaPartSame
import Derived.Test.YtdncdlbhgaehmaaPartFacts
import Derived.Test.YtdncdlbhgaehmaaFrame
import Derived.Test.YtdncdlbhgaehmaaReadM
import Derived.Test.YtdncdlbhgaehmaaQuietC
/- A record as a flat value; whether it is well-formed, its bytes, whether two are alike: as plain mathematics. -/
namespace Go.Proofs.Ytdncdlbhgaehmaa
open Go.RowKit Go.Shelf
set_option linter.unusedVariables false

/-- What is in a row of parts. -/
def HasP (w : World) (a : Option Addr) (len : Nat) (L : List PL) : Prop := L.length = len ∧ len < 1000000 ∧ RowV w a len 10 (partCells L) ∧ ∀ x ∈ L, HasE w x.1 x.2
theorem HasP.below {w W : World} {a : Option Addr} {len : Nat} {L : List PL} (h : HasP w a len L) (hB : Below w.heap.size w W) : HasP W a len L := ⟨h.1, h.2.1, h.2.2.1.below hB, fun x hx => (h.2.2.2 x hx).below hB⟩
theorem hasP_nil (w : World) (a : Option Addr) : HasP w a 0 [] := ⟨rfl, by decide, RowV.nil _ _ _, fun x hx => by cases hx⟩
def okR (f : Bool) (x : PL) : Bool := isB x.1 x.2 && (decide (x.1.k = 6) == f)
def fwdOf (L : List PL) : Bool := (L.head?.map fun x => decide (x.1.k = 6)).getD false
def recB (s : Int) (L : List PL) : Bool := (decide (1 ≤ s) && decide (s ≤ 1125899906842624)) && ((decide (1 ≤ L.length) && decide (L.length ≤ 4)) && L.all (okR (fwdOf L)))
theorem recB_iff {s : Int} {L : List PL} : recB s L = true ↔ (1 ≤ s ∧ s ≤ 1125899906842624) ∧ (1 ≤ L.length ∧ L.length ≤ 4) ∧ ∀ x ∈ L, okR (fwdOf L) x = true := by
  simp only [recB, Bool.and_eq_true, decide_eq_true_eq, List.all_eq_true]
theorem okR_isB {f : Bool} {x : PL} (h : okR f x = true) : isB x.1 x.2 = true := by
  simp only [okR, Bool.and_eq_true] at h; exact h.1
/-- The parts' bytes. -/
def bytP (x : PL) : List UInt8 := bytesL x.1 x.2
def allB (M : List PL) : List UInt8 := M.flatMap bytP
theorem allB_snoc (M : List PL) (x : PL) : allB (M ++ [x]) = allB M ++ bytP x := by simp [allB]
/-- What the frame of a record holds. -/
def bodyL (s : Int) (L : List PL) : List UInt8 := sevL s.toNat ++ (sevL L.length ++ allB L)
def bodyS (s : Int) (L : List PL) : ByteArray := ⟨(bodyL s L).toArray⟩
def recS (s : Int) (L : List PL) : ByteArray := if recB s L then wrapB (bodyS s L) else ⟨#[]⟩
def recE (s : Int) (L : List PL) : Int := if recB s L then 0 else 11
theorem bytP_len {x : PL} (hl : x.2.length = x.1.len) (h : isB x.1 x.2 = true) : (bytP x).length ≤ 483 := by
  obtain ⟨_, _, _, h6, hen⟩ := isB_bounds hl h
  have h1 := text_len x.1.k x.2 (fun e he => (entryB_bd (hen e he)).2.2)
  unfold bytP bytesL
  simp only [List.length_append]
  have h2 := putL_len [x.1.g, x.1.k]
  have h3 : (putL (headN x.1 x.2)).length ≤ 63 := by
    refine Nat.le_trans (putL_len _) ?_
    have : (headN x.1 x.2).length ≤ 7 := by
      unfold headN
      split
      · simp
      · split
        · simp
        · split
          · simp
          · split
            · exact fwdN_len _
            · simp
    omega
  have h4 : x.2.length ≤ 6 := by omega
  simp only [List.length_cons, List.length_nil] at h2
  omega
theorem allB_len {L : List PL} (hl : ∀ x ∈ L, x.2.length = x.1.len) (h : ∀ x ∈ L, isB x.1 x.2 = true) : (allB L).length ≤ 483 * L.length := by
  induction L with
  | nil => simp [allB]
  | cons x r ih =>
    have h1 := bytP_len (hl x List.mem_cons_self) (h x List.mem_cons_self)
    have h2 := ih (fun y hy => hl y (List.mem_cons_of_mem _ hy)) (fun y hy => h y (List.mem_cons_of_mem _ hy))
    have h3 : allB (x :: r) = bytP x ++ allB r := rfl
    rw [h3, List.length_append, List.length_cons]; omega
theorem bodyL_len {s : Int} {L : List PL} (hl : ∀ x ∈ L, x.2.length = x.1.len) (h : recB s L = true) : 2 ≤ (bodyL s L).length ∧ (bodyL s L).length ≤ 1950 := by
  obtain ⟨_, ⟨_, h4⟩, ho⟩ := recB_iff.1 h
  have h1 := sevL_len s.toNat; have h2 := sevL_len L.length
  have h3 := allB_len hl (fun x hx => okR_isB (ho x hx))
  have p1 := sevL_pos s.toNat; have p2 := sevL_pos L.length
  unfold bodyL
  simp only [List.length_append]
  omega
/-- Two rows of parts are alike. -/
def samePs : List PL → List PL → Bool
  | [], [] => true
  | x :: l, y :: m => sameB x.1 y.1 x.2 y.2 && samePs l m
  | _, _ => false
def sameR (s t : Int) (L M : List PL) : Bool := decide (s = t) && samePs L M
theorem samePs_len : ∀ {L M : List PL}, samePs L M = true → L.length = M.length
  | [], [], _ => rfl
  | x :: l, y :: m, h => by
    simp only [samePs, Bool.and_eq_true] at h
    simp only [List.length_cons, samePs_len h.2]
  | [], y :: m, h => by simp [samePs] at h
  | x :: l, [], h => by simp [samePs] at h
theorem samePs_take : ∀ {L M : List PL} {k : Nat} (h1 : k < L.length) (h2 : k < M.length), samePs (L.take (k + 1)) (M.take (k + 1)) = (samePs (L.take k) (M.take k) && sameB L[k].1 M[k].1 L[k].2 M[k].2)
  | x :: l, y :: m, 0, _, _ => by simp [samePs]
  | x :: l, y :: m, k + 1, h1, h2 => by
    have ih := samePs_take (L := l) (M := m) (k := k) (by simpa using h1) (by simpa using h2)
    rw [List.take_succ_cons, List.take_succ_cons, List.take_succ_cons, List.take_succ_cons]
    simp only [samePs, ih, Bool.and_assoc, List.getElem_cons_succ]
theorem samePs_no : ∀ {L M : List PL} {k : Nat} (h1 : k < L.length) (h2 : k < M.length), sameB L[k].1 M[k].1 L[k].2 M[k].2 = false → samePs L M = false
  | x :: l, y :: m, 0, _, _, h => by simp only [List.getElem_cons_zero] at h; simp [samePs, h]
  | x :: l, y :: m, k + 1, h1, h2, h => by
    have ih := samePs_no (L := l) (M := m) (k := k) (by simpa using h1) (by simpa using h2) (by simpa using h)
    simp [samePs, ih]

end Go.Proofs.Ytdncdlbhgaehmaa

/- What package record's Read tells, as plain mathematics. -/
namespace Go.Proofs.Ytdncdlbhgaehmaa
open Go.RowKit Go.Shelf
set_option linter.unusedVariables false

/-- A part, but for where its entries lie. -/
def core (x : PL) : ReadC := ⟨x.1.g, x.1.k, x.2, x.1.ht, x.1.hv, x.1.hc, x.1.i, x.1.t, x.1.m, x.1.h⟩
def plOf (r : ReadC) : PL := (r.part none 0, r.l)
theorem core_plOf (r : ReadC) : core (plOf r) = r := rfl
theorem plOf_core {x : PL} (h : x.2.length = x.1.len) : plOf (core x) = (⟨x.1.g, x.1.k, none, x.1.len, 0, x.1.ht, x.1.hv, x.1.hc, x.1.i, x.1.t, x.1.m, x.1.h⟩, x.2) := by
  unfold plOf core ReadC.part; rw [h]
theorem isB_core {x : PL} (h : x.2.length = x.1.len) : isB (plOf (core x)).1 (plOf (core x)).2 = isB x.1 x.2 := by
  rw [plOf_core h]; exact (isB_addr x.1.g x.1.k x.1.a x.1.len x.1.cap x.1.ht x.1.hv x.1.hc x.1.i x.1.t x.1.m x.1.h x.2).symm
theorem bytP_core {x : PL} (h : x.2.length = x.1.len) : bytP (plOf (core x)) = bytP x := by
  rw [plOf_core h]; rfl
theorem allB_core : ∀ {L : List PL}, (∀ x ∈ L, x.2.length = x.1.len) → allB ((L.map core).map plOf) = allB L
  | [], _ => rfl
  | x :: r, h => by
    have h1 : allB (((x :: r).map core).map plOf) = bytP (plOf (core x)) ++ allB ((r.map core).map plOf) := rfl
    have h2 : allB (x :: r) = bytP x ++ allB r := rfl
    rw [h1, h2, bytP_core (h x List.mem_cons_self), allB_core fun y hy => h y (List.mem_cons_of_mem _ hy)]
theorem bodyL_core {s : Int} {L : List PL} (h : ∀ x ∈ L, x.2.length = x.1.len) : bodyL s ((L.map core).map plOf) = bodyL s L := by
  unfold bodyL; rw [allB_core h]; simp
theorem bodyS_core {s : Int} {L : List PL} (h : ∀ x ∈ L, x.2.length = x.1.len) : bodyS s ((L.map core).map plOf) = bodyS s L := by
  unfold bodyS; rw [bodyL_core h]
theorem all_core {f : Bool} : ∀ {L : List PL}, (∀ x ∈ L, x.2.length = x.1.len) → ((L.map core).map plOf).all (okR f) = L.all (okR f)
  | [], _ => rfl
  | x :: r, h => by
    have h1 : okR f (plOf (core x)) = okR f x := by unfold okR; rw [isB_core (h x List.mem_cons_self)]; rfl
    simp only [List.map_cons, List.all_cons, h1, all_core fun y hy => h y (List.mem_cons_of_mem _ hy)]
theorem recB_core {s : Int} {L : List PL} (h : ∀ x ∈ L, x.2.length = x.1.len) : recB s ((L.map core).map plOf) = recB s L := by
  have h1 : fwdOf ((L.map core).map plOf) = fwdOf L := by cases L <;> rfl
  unfold recB; rw [h1, all_core h]; simp
theorem core_iff {x y : PL} : core x = core y ↔ sameB x.1 y.1 x.2 y.2 = true := by
  rw [sameB_iff]; simp only [core, ReadC.mk.injEq]; grind
theorem samePs_core : ∀ {L M : List PL}, samePs L M = true ↔ L.map core = M.map core
  | [], [] => by simp [samePs]
  | x :: l, y :: m => by simp only [samePs, Bool.and_eq_true, List.map_cons, List.cons.injEq, core_iff, samePs_core (L := l) (M := m)]
  | [], y :: m => by simp [samePs]
  | x :: l, [] => by simp [samePs]
theorem sameR_iff {s t : Int} {L M : List PL} : sameR s t L M = true ↔ s = t ∧ L.map core = M.map core := by
  simp only [sameR, Bool.and_eq_true, decide_eq_true_eq, samePs_core]

theorem fwdM_ok {s : ByteArray} {g : Int} {st : RSt} (h : st.ok s) : (fwdM s g st).2.ok s := by
  have h1 := numTo_ok (most := 3) h
  unfold fwdM
  dsimp only
  refine entM_ok (idxRead_ok s) _ _ _ (numTo_ok ?_)
  generalize numTo s 3 st = f at *
  cases (f.1 % 2 == 1) <;> cases (f.1 / 2 == 1) <;> simp only [if_true, Bool.false_eq_true, if_false]
  · exact h1
  · exact hardM_ok h1
  · exact numM_ok (numM_ok h1)
  · exact hardM_ok (numM_ok (numM_ok h1))
theorem bodyM_ok {s : ByteArray} {g k : Nat} {st : RSt} (h : st.ok s) : (bodyM s g k st).2.ok s := by
  unfold bodyM
  split
  · exact entM_ok (idxFrom_ok s _) _ _ _ (numM_ok (numTo_ok h))
  · split
    · exact hardM_ok h
    · split
      · exact numM_ok (numM_ok h)
      · split
        · exact fwdM_ok h
        · exact h
theorem readM_le (s : ByteArray) : (readM s).2.1 ≤ s.size := by
  unfold readM
  split
  · exact Nat.zero_le _
  · exact (bodyM_ok (numTo_ok (numM_ok ⟨Nat.zero_le _, Nat.zero_le _⟩))).1
/-- At most n parts, one behind the other. -/
def partsM : Nat → ByteArray → List ReadC
  | 0, _ => []
  | n + 1, s => if (readM s).2.2 ≠ 0 then [] else (readM s).1 :: partsM n (restB s (readM s).2.1)
theorem partsM_len : ∀ (n : Nat) (s : ByteArray), (partsM n s).length ≤ n
  | 0, _ => Nat.le_refl _
  | n + 1, s => by
    unfold partsM
    split
    · exact Nat.zero_le _
    · have := partsM_len n (restB s (readM s).2.1)
      simp only [List.length_cons]; omega
def seqM (b : ByteArray) : Nat × Nat × Nat := getL b.data.toList
def cntM (b : ByteArray) : Nat × Nat × Nat := getL (restB b (seqM b).2.1).data.toList
def openM (b : ByteArray) : Int × List ReadC :=
  if (seqM b).2.2 ≠ 0 ∨ (cntM b).2.2 ≠ 0 ∨ 4 < (cntM b).1 then (0, []) else ((seqM b).1, partsM (cntM b).1 (restB b ((seqM b).2.1 + (cntM b).2.1)))
theorem openM_len (b : ByteArray) : (openM b).2.length ≤ 4 := by
  unfold openM
  split
  · exact Nat.zero_le _
  · have := partsM_len (cntM b).1 (restB b ((seqM b).2.1 + (cntM b).2.1))
    dsimp only; omega
/-- Seq, the parts, how many bytes, the class. -/
def recM (s : ByteArray) : Int × List ReadC × Nat × Nat :=
  if (readF s).2.2 ≠ 1 then (0, [], 0, (readF s).2.2)
  else if recB (openM (readF s).1).1 ((openM (readF s).1).2.map plOf) = true ∧ bodyS (openM (readF s).1).1 ((openM (readF s).1).2.map plOf) = (readF s).1 then ((openM (readF s).1).1, (openM (readF s).1).2, (readF s).2.1, 1)
  else (0, [], 0, 4)

end Go.Proofs.Ytdncdlbhgaehmaa

/- The contract of package record's Is. -/
namespace Go.Proofs.Ytdncdlbhgaehmaa
open Go.RowKit Go.Shelf
set_option linter.unusedVariables false
attribute [local go_sem] Oper.semAt_some wide_fn wide_round_fn

theorem cells10_above {w W : World} {b o : Nat} {v0 v1 v2 v3 v4 v5 v6 v7 v8 v9 : Value} (hs : b < w.heap.size) (c0 : w.cell? ⟨b, o, none⟩ = some v0) (c1 : w.cell? ⟨b, o + 1, none⟩ = some v1) (c2 : w.cell? ⟨b, o + 2, none⟩ = some v2) (c3 : w.cell? ⟨b, o + 3, none⟩ = some v3) (c4 : w.cell? ⟨b, o + 4, none⟩ = some v4) (c5 : w.cell? ⟨b, o + 5, none⟩ = some v5) (c6 : w.cell? ⟨b, o + 6, none⟩ = some v6) (c7 : w.cell? ⟨b, o + 7, none⟩ = some v7) (c8 : w.cell? ⟨b, o + 8, none⟩ = some v8) (c9 : w.cell? ⟨b, o + 9, none⟩ = some v9) (hW : Below w.heap.size w W) :
    W.cell? ⟨b, o, none⟩ = some v0 ∧ W.cell? ⟨b, o + 1, none⟩ = some v1 ∧ W.cell? ⟨b, o + 2, none⟩ = some v2 ∧ W.cell? ⟨b, o + 3, none⟩ = some v3 ∧ W.cell? ⟨b, o + 4, none⟩ = some v4 ∧ W.cell? ⟨b, o + 5, none⟩ = some v5 ∧ W.cell? ⟨b, o + 6, none⟩ = some v6 ∧ W.cell? ⟨b, o + 7, none⟩ = some v7 ∧ W.cell? ⟨b, o + 8, none⟩ = some v8 ∧ W.cell? ⟨b, o + 9, none⟩ = some v9 :=
  ⟨(hW.cell (p := ⟨b, o, none⟩) hs).trans c0, (hW.cell (p := ⟨b, o + 1, none⟩) hs).trans c1, (hW.cell (p := ⟨b, o + 2, none⟩) hs).trans c2, (hW.cell (p := ⟨b, o + 3, none⟩) hs).trans c3, (hW.cell (p := ⟨b, o + 4, none⟩) hs).trans c4, (hW.cell (p := ⟨b, o + 5, none⟩) hs).trans c5, (hW.cell (p := ⟨b, o + 6, none⟩) hs).trans c6, (hW.cell (p := ⟨b, o + 7, none⟩) hs).trans c7, (hW.cell (p := ⟨b, o + 8, none⟩) hs).trans c8, (hW.cell (p := ⟨b, o + 9, none⟩) hs).trans c9⟩
theorem three_a (w : World) (A B C : Array Value) (T U V : TypeId) : (((w.alloc (.cells A T)).alloc (.cells B U)).alloc (.cells C V)).heap[w.heap.size]? = some (.cells A T (0, 0)) :=
  ((bel_alloc (bel_alloc (Below.refl _ _) _) _).block _ (by simp)).trans (World.alloc_heap_new w _)
theorem three_c (w : World) (A B C : Array Value) (T U V : TypeId) : (((w.alloc (.cells A T)).alloc (.cells B U)).alloc (.cells C V)).heap[w.heap.size + 1 + 1]? = some (.cells C V (0, 0)) :=
  alloc_new1 _ _ _ (by simp)
theorem head_k {L : List PL} (h : 0 < L.length) : fwdOf L = decide (L[0].1.k = 6) := by
  cases L with
  | nil => simp at h
  | cons x l => rfl
theorem recB_short {s : Int} {L : List PL} (h : s < 1 ∨ 1125899906842624 < s ∨ L.length < 1 ∨ 4 < L.length) : recB s L = false := by
  rw [Bool.eq_false_iff, Ne, recB_iff]; rintro ⟨h1, h2, _⟩; omega
theorem recB_no {s : Int} {L : List PL} {k : Nat} (hk : k < L.length) (h : okR (fwdOf L) L[k] = false) : recB s L = false := by
  rw [Bool.eq_false_iff, Ne, recB_iff]; rintro ⟨_, _, h2⟩; rw [h2 _ (List.getElem_mem hk)] at h; cases h
theorem recB_all {s : Int} {L : List PL} (hs : 1 ≤ s ∧ s ≤ 1125899906842624) (hl : 1 ≤ L.length ∧ L.length ≤ 4) (h : (L.take L.length).all (okR (fwdOf L)) = true) : recB s L = true := by
  rw [recB_iff]; rw [List.take_length, List.all_eq_true] at h; exact ⟨hs, hl, h⟩

end Go.Proofs.Ytdncdlbhgaehmaa
