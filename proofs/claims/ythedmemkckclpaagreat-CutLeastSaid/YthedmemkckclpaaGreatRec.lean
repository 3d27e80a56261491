/- Rec, RecM, RecIs, RecBody: in one text. -/
import Derived.Test.YthedmemkckclpaaGreatPartSame
import Derived.Test.YthedmemkckclpaaGreatPartFacts
import Derived.Test.YthedmemkckclpaaGreatFrame
import Derived.Test.YthedmemkckclpaaGreatReadM
import Derived.Test.YthedmemkckclpaaGreatQuietC
import Derived.Test.YthedmemkckclpaaGreatPartBytes
import Derived.Deep.RegionHeld3
/- A record as a flat value; whether it is well-formed, its bytes, whether two are alike: as plain mathematics. -/
namespace Go.Proofs.YthedmemkckclpaaGreat
open Go.RowKit Go.Shelf
set_option linter.unusedVariables false

/-- What is in a row of parts. -/
def HasP (w : World) (a : Option Addr) (len : Nat) (L : List PL) : Prop := L.length = len ∧ len < 1000000 ∧ RowV w a len 10 (partCells L) ∧ ∀ x ∈ L, HasE w x.1 x.2
theorem HasP.below {w W : World} {a : Option Addr} {len : Nat} {L : List PL} (h : HasP w a len L) (hB : Below w.heap.size w W) : HasP W a len L := ⟨h.1, h.2.1, h.2.2.1.below hB, fun x hx => (h.2.2.2 x hx).below hB⟩
theorem hasP_nil (w : World) (a : Option Addr) : HasP w a 0 [] := ⟨rfl, by decide, RowV.nil _ _ _, fun x hx => by cases hx⟩
def okR (f : Bool) (x : PL) : Bool := isB x.1 x.2 && (decide (x.1.k = 6) == f)
def fwdOf (L : List PL) : Bool := (L.head?.map fun x => decide (x.1.k = 6)).getD false
def recB (s : Int) (L : List PL) : Bool := (decide (1 ≤ s) && decide (s ≤ 1125899906842624)) && ((decide (1 ≤ L.length) && decide (L.length ≤ 4)) && L.all (okR (fwdOf L)))
theorem recB_iff {s : Int} {L : List PL} : recB s L = true ↔ (1 ≤ s ∧ s ≤ 1125899906842624) ∧ (1 ≤ L.length ∧ L.length ≤ 4) ∧ ∀ x ∈ L, okR (fwdOf L) x = true := by
  simp only [recB, Bool.and_eq_true, decide_eq_true_eq, List.all_eq_true]
theorem okR_isB {f : Bool} {x : PL} (h : okR f x = true) : isB x.1 x.2 = true := by
  simp only [okR, Bool.and_eq_true] at h; exact h.1
/-- The parts' bytes. -/
def bytP (x : PL) : List UInt8 := bytesL x.1 x.2
def allB (M : List PL) : List UInt8 := M.flatMap bytP
theorem allB_snoc (M : List PL) (x : PL) : allB (M ++ [x]) = allB M ++ bytP x := by simp [allB]
/-- What the frame of a record holds. -/
def bodyL (s : Int) (L : List PL) : List UInt8 := sevL s.toNat ++ (sevL L.length ++ allB L)
def bodyS (s : Int) (L : List PL) : ByteArray := ⟨(bodyL s L).toArray⟩
def recS (s : Int) (L : List PL) : ByteArray := if recB s L then wrapB (bodyS s L) else ⟨#[]⟩
def recE (s : Int) (L : List PL) : Int := if recB s L then 0 else 11
theorem bytP_len {x : PL} (hl : x.2.length = x.1.len) (h : isB x.1 x.2 = true) : (bytP x).length ≤ 483 := by
  obtain ⟨_, _, _, h6, hen⟩ := isB_bounds hl h
  have h1 := text_len x.1.k x.2 (fun e he => (entryB_bd (hen e he)).2.2)
  unfold bytP bytesL
  simp only [List.length_append]
  have h2 := putL_len [x.1.g, x.1.k]
  have h3 : (putL (headN x.1 x.2)).length ≤ 63 := by
    refine Nat.le_trans (putL_len _) ?_
    have : (headN x.1 x.2).length ≤ 7 := by
      unfold headN
      split
      · simp
      · split
        · simp
        · split
          · simp
          · split
            · exact fwdN_len _
            · simp
    omega
  have h4 : x.2.length ≤ 6 := by omega
  simp only [List.length_cons, List.length_nil] at h2
  omega
theorem allB_len {L : List PL} (hl : ∀ x ∈ L, x.2.length = x.1.len) (h : ∀ x ∈ L, isB x.1 x.2 = true) : (allB L).length ≤ 483 * L.length := by
  induction L with
  | nil => simp [allB]
  | cons x r ih =>
    have h1 := bytP_len (hl x List.mem_cons_self) (h x List.mem_cons_self)
    have h2 := ih (fun y hy => hl y (List.mem_cons_of_mem _ hy)) (fun y hy => h y (List.mem_cons_of_mem _ hy))
    have h3 : allB (x :: r) = bytP x ++ allB r := rfl
    rw [h3, List.length_append, List.length_cons]; omega
theorem bodyL_len {s : Int} {L : List PL} (hl : ∀ x ∈ L, x.2.length = x.1.len) (h : recB s L = true) : 2 ≤ (bodyL s L).length ∧ (bodyL s L).length ≤ 1950 := by
  obtain ⟨_, ⟨_, h4⟩, ho⟩ := recB_iff.1 h
  have h1 := sevL_len s.toNat; have h2 := sevL_len L.length
  have h3 := allB_len hl (fun x hx => okR_isB (ho x hx))
  have p1 := sevL_pos s.toNat; have p2 := sevL_pos L.length
  unfold bodyL
  simp only [List.length_append]
  omega
/-- Two rows of parts are alike. -/
def samePs : List PL → List PL → Bool
  | [], [] => true
  | x :: l, y :: m => sameB x.1 y.1 x.2 y.2 && samePs l m
  | _, _ => false
def sameR (s t : Int) (L M : List PL) : Bool := decide (s = t) && samePs L M
theorem samePs_len : ∀ {L M : List PL}, samePs L M = true → L.length = M.length
  | [], [], _ => rfl
  | x :: l, y :: m, h => by
    simp only [samePs, Bool.and_eq_true] at h
    simp only [List.length_cons, samePs_len h.2]
  | [], y :: m, h => by simp [samePs] at h
  | x :: l, [], h => by simp [samePs] at h
theorem samePs_take : ∀ {L M : List PL} {k : Nat} (h1 : k < L.length) (h2 : k < M.length), samePs (L.take (k + 1)) (M.take (k + 1)) = (samePs (L.take k) (M.take k) && sameB L[k].1 M[k].1 L[k].2 M[k].2)
  | x :: l, y :: m, 0, _, _ => by simp [samePs]
  | x :: l, y :: m, k + 1, h1, h2 => by
    have ih := samePs_take (L := l) (M := m) (k := k) (by simpa using h1) (by simpa using h2)
    rw [List.take_succ_cons, List.take_succ_cons, List.take_succ_cons, List.take_succ_cons]
    simp only [samePs, ih, Bool.and_assoc, List.getElem_cons_succ]
theorem samePs_no : ∀ {L M : List PL} {k : Nat} (h1 : k < L.length) (h2 : k < M.length), sameB L[k].1 M[k].1 L[k].2 M[k].2 = false → samePs L M = false
  | x :: l, y :: m, 0, _, _, h => by simp only [List.getElem_cons_zero] at h; simp [samePs, h]
  | x :: l, y :: m, k + 1, h1, h2, h => by
    have ih := samePs_no (L := l) (M := m) (k := k) (by simpa using h1) (by simpa using h2) (by simpa using h)
    simp [samePs, ih]

end Go.Proofs.YthedmemkckclpaaGreat

/- What package record's Read tells, as plain mathematics. -/
namespace Go.Proofs.YthedmemkckclpaaGreat
open Go.RowKit Go.Shelf
set_option linter.unusedVariables false

/-- A part, but for where its entries lie. -/
def core (x : PL) : ReadC := ⟨x.1.g, x.1.k, x.2, x.1.ht, x.1.hv, x.1.hc, x.1.i, x.1.t, x.1.m, x.1.h⟩
def plOf (r : ReadC) : PL := (r.part none 0, r.l)
theorem core_plOf (r : ReadC) : core (plOf r) = r := rfl
theorem plOf_core {x : PL} (h : x.2.length = x.1.len) : plOf (core x) = (⟨x.1.g, x.1.k, none, x.1.len, 0, x.1.ht, x.1.hv, x.1.hc, x.1.i, x.1.t, x.1.m, x.1.h⟩, x.2) := by
  unfold plOf core ReadC.part; rw [h]
theorem isB_core {x : PL} (h : x.2.length = x.1.len) : isB (plOf (core x)).1 (plOf (core x)).2 = isB x.1 x.2 := by
  rw [plOf_core h]; exact (isB_addr x.1.g x.1.k x.1.a x.1.len x.1.cap x.1.ht x.1.hv x.1.hc x.1.i x.1.t x.1.m x.1.h x.2).symm
theorem bytP_core {x : PL} (h : x.2.length = x.1.len) : bytP (plOf (core x)) = bytP x := by
  rw [plOf_core h]; rfl
theorem allB_core : ∀ {L : List PL}, (∀ x ∈ L, x.2.length = x.1.len) → allB ((L.map core).map plOf) = allB L
  | [], _ => rfl
  | x :: r, h => by
    have h1 : allB (((x :: r).map core).map plOf) = bytP (plOf (core x)) ++ allB ((r.map core).map plOf) := rfl
    have h2 : allB (x :: r) = bytP x ++ allB r := rfl
    rw [h1, h2, bytP_core (h x List.mem_cons_self), allB_core fun y hy => h y (List.mem_cons_of_mem _ hy)]
theorem bodyL_core {s : Int} {L : List PL} (h : ∀ x ∈ L, x.2.length = x.1.len) : bodyL s ((L.map core).map plOf) = bodyL s L := by
  unfold bodyL; rw [allB_core h]; simp
theorem bodyS_core {s : Int} {L : List PL} (h : ∀ x ∈ L, x.2.length = x.1.len) : bodyS s ((L.map core).map plOf) = bodyS s L := by
  unfold bodyS; rw [bodyL_core h]
theorem all_core {f : Bool} : ∀ {L : List PL}, (∀ x ∈ L, x.2.length = x.1.len) → ((L.map core).map plOf).all (okR f) = L.all (okR f)
  | [], _ => rfl
  | x :: r, h => by
    have h1 : okR f (plOf (core x)) = okR f x := by unfold okR; rw [isB_core (h x List.mem_cons_self)]; rfl
    simp only [List.map_cons, List.all_cons, h1, all_core fun y hy => h y (List.mem_cons_of_mem _ hy)]
theorem recB_core {s : Int} {L : List PL} (h : ∀ x ∈ L, x.2.length = x.1.len) : recB s ((L.map core).map plOf) = recB s L := by
  have h1 : fwdOf ((L.map core).map plOf) = fwdOf L := by cases L <;> rfl
  unfold recB; rw [h1, all_core h]; simp
theorem core_iff {x y : PL} : core x = core y ↔ sameB x.1 y.1 x.2 y.2 = true := by
  rw [sameB_iff]; simp only [core, ReadC.mk.injEq]; grind
theorem samePs_core : ∀ {L M : List PL}, samePs L M = true ↔ L.map core = M.map core
  | [], [] => by simp [samePs]
  | x :: l, y :: m => by simp only [samePs, Bool.and_eq_true, List.map_cons, List.cons.injEq, core_iff, samePs_core (L := l) (M := m)]
  | [], y :: m => by simp [samePs]
  | x :: l, [] => by simp [samePs]
theorem sameR_iff {s t : Int} {L M : List PL} : sameR s t L M = true ↔ s = t ∧ L.map core = M.map core := by
  simp only [sameR, Bool.and_eq_true, decide_eq_true_eq, samePs_core]

theorem fwdM_ok {s : ByteArray} {g : Int} {st : RSt} (h : st.ok s) : (fwdM s g st).2.ok s := by
  have h1 := numTo_ok (most := 3) h
  unfold fwdM
  dsimp only
  refine entM_ok (idxRead_ok s) _ _ _ (numTo_ok ?_)
  generalize numTo s 3 st = f at *
  cases (f.1 % 2 == 1) <;> cases (f.1 / 2 == 1) <;> simp only [if_true, Bool.false_eq_true, if_false]
  · exact h1
  · exact hardM_ok h1
  · exact numM_ok (numM_ok h1)
  · exact hardM_ok (numM_ok (numM_ok h1))
theorem bodyM_ok {s : ByteArray} {g k : Nat} {st : RSt} (h : st.ok s) : (bodyM s g k st).2.ok s := by
  unfold bodyM
  split
  · exact entM_ok (idxFrom_ok s _) _ _ _ (numM_ok (numTo_ok h))
  · split
    · exact hardM_ok h
    · split
      · exact numM_ok (numM_ok h)
      · split
        · exact fwdM_ok h
        · exact h
theorem readM_le (s : ByteArray) : (readM s).2.1 ≤ s.size := by
  unfold readM
  split
  · exact Nat.zero_le _
  · exact (bodyM_ok (numTo_ok (numM_ok ⟨Nat.zero_le _, Nat.zero_le _⟩))).1
/-- At most n parts, one behind the other. -/
def partsM : Nat → ByteArray → List ReadC
  | 0, _ => []
  | n + 1, s => if (readM s).2.2 ≠ 0 then [] else (readM s).1 :: partsM n (restB s (readM s).2.1)
theorem partsM_len : ∀ (n : Nat) (s : ByteArray), (partsM n s).length ≤ n
  | 0, _ => Nat.le_refl _
  | n + 1, s => by
    unfold partsM
    split
    · exact Nat.zero_le _
    · have := partsM_len n (restB s (readM s).2.1)
      simp only [List.length_cons]; omega
def seqM (b : ByteArray) : Nat × Nat × Nat := getL b.data.toList
def cntM (b : ByteArray) : Nat × Nat × Nat := getL (restB b (seqM b).2.1).data.toList
def openM (b : ByteArray) : Int × List ReadC :=
  if (seqM b).2.2 ≠ 0 ∨ (cntM b).2.2 ≠ 0 ∨ 4 < (cntM b).1 then (0, []) else ((seqM b).1, partsM (cntM b).1 (restB b ((seqM b).2.1 + (cntM b).2.1)))
theorem openM_len (b : ByteArray) : (openM b).2.length ≤ 4 := by
  unfold openM
  split
  · exact Nat.zero_le _
  · have := partsM_len (cntM b).1 (restB b ((seqM b).2.1 + (cntM b).2.1))
    dsimp only; omega
/-- Seq, the parts, how many bytes, the class. -/
def recM (s : ByteArray) : Int × List ReadC × Nat × Nat :=
  if (readF s).2.2 ≠ 1 then (0, [], 0, (readF s).2.2)
  else if recB (openM (readF s).1).1 ((openM (readF s).1).2.map plOf) = true ∧ bodyS (openM (readF s).1).1 ((openM (readF s).1).2.map plOf) = (readF s).1 then ((openM (readF s).1).1, (openM (readF s).1).2, (readF s).2.1, 1)
  else (0, [], 0, 4)

end Go.Proofs.YthedmemkckclpaaGreat

/- The contract of package record's Is. -/
namespace Go.Proofs.YthedmemkckclpaaGreat
open Go.RowKit Go.Shelf
set_option linter.unusedVariables false
attribute [local go_sem] Oper.semAt_some wide_fn wide_round_fn

theorem cells10_above {w W : World} {b o : Nat} {v0 v1 v2 v3 v4 v5 v6 v7 v8 v9 : Value} (hs : b < w.heap.size) (c0 : w.cell? ⟨b, o, none⟩ = some v0) (c1 : w.cell? ⟨b, o + 1, none⟩ = some v1) (c2 : w.cell? ⟨b, o + 2, none⟩ = some v2) (c3 : w.cell? ⟨b, o + 3, none⟩ = some v3) (c4 : w.cell? ⟨b, o + 4, none⟩ = some v4) (c5 : w.cell? ⟨b, o + 5, none⟩ = some v5) (c6 : w.cell? ⟨b, o + 6, none⟩ = some v6) (c7 : w.cell? ⟨b, o + 7, none⟩ = some v7) (c8 : w.cell? ⟨b, o + 8, none⟩ = some v8) (c9 : w.cell? ⟨b, o + 9, none⟩ = some v9) (hW : Below w.heap.size w W) :
    W.cell? ⟨b, o, none⟩ = some v0 ∧ W.cell? ⟨b, o + 1, none⟩ = some v1 ∧ W.cell? ⟨b, o + 2, none⟩ = some v2 ∧ W.cell? ⟨b, o + 3, none⟩ = some v3 ∧ W.cell? ⟨b, o + 4, none⟩ = some v4 ∧ W.cell? ⟨b, o + 5, none⟩ = some v5 ∧ W.cell? ⟨b, o + 6, none⟩ = some v6 ∧ W.cell? ⟨b, o + 7, none⟩ = some v7 ∧ W.cell? ⟨b, o + 8, none⟩ = some v8 ∧ W.cell? ⟨b, o + 9, none⟩ = some v9 :=
  ⟨(hW.cell (p := ⟨b, o, none⟩) hs).trans c0, (hW.cell (p := ⟨b, o + 1, none⟩) hs).trans c1, (hW.cell (p := ⟨b, o + 2, none⟩) hs).trans c2, (hW.cell (p := ⟨b, o + 3, none⟩) hs).trans c3, (hW.cell (p := ⟨b, o + 4, none⟩) hs).trans c4, (hW.cell (p := ⟨b, o + 5, none⟩) hs).trans c5, (hW.cell (p := ⟨b, o + 6, none⟩) hs).trans c6, (hW.cell (p := ⟨b, o + 7, none⟩) hs).trans c7, (hW.cell (p := ⟨b, o + 8, none⟩) hs).trans c8, (hW.cell (p := ⟨b, o + 9, none⟩) hs).trans c9⟩
theorem three_a (w : World) (A B C : Array Value) (T U V : TypeId) : (((w.alloc (.cells A T)).alloc (.cells B U)).alloc (.cells C V)).heap[w.heap.size]? = some (.cells A T (0, 0)) :=
  ((bel_alloc (bel_alloc (Below.refl _ _) _) _).block _ (by simp)).trans (World.alloc_heap_new w _)
theorem three_c (w : World) (A B C : Array Value) (T U V : TypeId) : (((w.alloc (.cells A T)).alloc (.cells B U)).alloc (.cells C V)).heap[w.heap.size + 1 + 1]? = some (.cells C V (0, 0)) :=
  alloc_new1 _ _ _ (by simp)
theorem head_k {L : List PL} (h : 0 < L.length) : fwdOf L = decide (L[0].1.k = 6) := by
  cases L with
  | nil => simp at h
  | cons x l => rfl
theorem recB_short {s : Int} {L : List PL} (h : s < 1 ∨ 1125899906842624 < s ∨ L.length < 1 ∨ 4 < L.length) : recB s L = false := by
  rw [Bool.eq_false_iff, Ne, recB_iff]; rintro ⟨h1, h2, _⟩; omega
theorem recB_no {s : Int} {L : List PL} {k : Nat} (hk : k < L.length) (h : okR (fwdOf L) L[k] = false) : recB s L = false := by
  rw [Bool.eq_false_iff, Ne, recB_iff]; rintro ⟨_, _, h2⟩; rw [h2 _ (List.getElem_mem hk)] at h; cases h
theorem recB_all {s : Int} {L : List PL} (hs : 1 ≤ s ∧ s ≤ 1125899906842624) (hl : 1 ≤ L.length ∧ L.length ≤ 4) (h : (L.take L.length).all (okR (fwdOf L)) = true) : recB s L = true := by
  rw [recB_iff]; rw [List.take_length, List.all_eq_true] at h; exact ⟨hs, hl, h⟩

set_option maxRecDepth 100000 in
set_option maxHeartbeats 2000000 in
theorem recIs_short (s : Int) (a : Option Addr) (len cap : Nat) (L : List PL) (w : World) (hL : L.length = len) (hm : len < 1000000) (h : s < 1 ∨ 1125899906842624 < s ∨ len < 1 ∨ 4 < len) : Gives Tryz.prog 53 #[.agg #[.int .i64 s, .slice a len cap]] w (.bool false) := by
  have hA := bel_alloc (Below.refl w.heap.size w) (.cells #[.int .i64 s, .slice a len cap] 83)
  unfold Gives
  by_cases h1 : s < 1
  · go_enter Tryz.func53, Tryz.ntmps53
    go_wp2
    go_ret
    exact ⟨rfl, hA⟩
  have h1' : 1 ≤ s := by omega
  by_cases h2 : 1125899906842624 < s
  · go_enter Tryz.func53, Tryz.ntmps53
    go_wp2
    go_ret
    exact ⟨rfl, hA⟩
  have h2' : s ≤ 1125899906842624 := by omega
  by_cases h3 : len < 1
  · obtain rfl : len = 0 := by omega
    go_enter Tryz.func53, Tryz.ntmps53
    go_wp2
    go_ret
    exact ⟨rfl, hA⟩
  have h3' : 1 ≤ len := by omega
  have h4 : 4 < len := by omega
  go_enter Tryz.func53, Tryz.ntmps53
  go_wp2
  go_ret
  exact ⟨rfl, hA⟩

set_option maxRecDepth 100000 in
set_option maxHeartbeats 4000000 in
theorem recIs_any (s : Int) (a : Option Addr) (len cap : Nat) (L : List PL) (w : World) (h : HasP w a len L) : Gives Tryz.prog 53 #[.agg #[.int .i64 s, .slice a len cap]] w (.bool (recB s L)) := by
  by_cases hs : s < 1 ∨ 1125899906842624 < s ∨ len < 1 ∨ 4 < len
  · rw [recB_short (by rw [h.1]; exact hs)]; exact recIs_short s a len cap L w h.1 h.2.1 hs
  have s1 : 1 ≤ s := by omega
  have s2 : s ≤ 1125899906842624 := by omega
  have l1 : 1 ≤ len := by omega
  have l2 : len ≤ 4 := by omega
  clear hs
  obtain ⟨hL, hm, hrow, hE⟩ := h
  have HE := Lib.hid hE
  have HL := Lib.hid hL
  obtain ⟨b, off, rfl, hb, hx⟩ := hrow.2.2 l1
  have HX := Lib.hid hx
  have hA := bel_alloc (Below.refl w.heap.size w) (.cells #[.int .i64 s, .slice (some ⟨b, off, none⟩) len cap] 83)
  have hk0 : (w.alloc (.cells #[.int .i64 s, .slice (some ⟨b, off, none⟩) len cap] 83)).cell? ⟨b, off + 1, none⟩ = some (.int .i64 L[0].1.k) := by
    have := (part_at10 hb hA hx (k := 0) (by omega)).2.1
    simpa using this
  have HF := Lib.hid (head_k (L := L) (by omega))
  have HN := Lib.hid (fun (k : Nat) (hk : k < L.length) h => recB_no (s := s) hk h)
  have HY := Lib.hid (fun h => recB_all (L := L) ⟨s1, s2⟩ (by omega) h)
  generalize L[0].1.k = k0 at *
  clear hE hL hrow hx
  unfold Gives
  cases hf : fwdOf L
  · rw [hf] at HF HN HY
    have hkn : ¬ k0 = 6 := of_decide_eq_false HF.out.symm
    have hk6 : (k0 == 6) = false := by simpa using hkn
    have HK := Lib.hid hkn
    clear hkn
    clear HF hf
    go_enter Tryz.func53, Tryz.ntmps53
    go_wp2
    go_loopw [35] (fun q wr => ∃ k : Nat, k ≤ len ∧ q = .int .i64 k ∧ (L.take k).all (okR false) = true ∧ Below w.heap.size w wr) (fun q _ => len - (intOf q).toNat)
    case atStart => exact ⟨0, by omega, rfl, rfl, hA⟩
    case round =>
      obtain ⟨k, hk, rfl, ha, hB⟩ := hrel
      have HAl := Lib.hid ha
      clear ha hk0
      by_cases hlt : k < len
      · have hkl : k < L.length := by rw [HL.out]; exact hlt
        obtain ⟨c0, c1, c2, c3, c4, c5, c6, c7, c8, c9⟩ := part_at10 hb hB HX.out hkl
        have HN2 := Lib.hid (HN.out k hkl)
        have HY2 := Lib.hid (show okR false L[k] = true → (L.take (k + 1)).all (okR false) = true from fun h => by rw [List.take_succ_eq_append_getElem hkl, List.all_append, HAl.out]; simp [h])
        have hEk := HE.out L[k] (List.getElem_mem hkl)
        clear HN HY HE HX HL HAl
        generalize L[k] = x at *
        obtain ⟨p, l⟩ := x
        have GI := Lib.hid (fun W (hW : Below w.heap.size w W) => is_any p l W (hEk.below hW))
        have HO := Lib.hid (show okR false (p, l) = (isB p l && (decide (p.k = 6) == false)) from rfl)
        obtain ⟨pg, pk, pa, plen, pcap, pht, phv, phc, pi, pt, pm, ph⟩ := p
        dsimp only [PartC.val] at *
        have hBw := bel2 hB (bel_alloc (Below.refl wr.heap.size wr) (.cells #[.int .i64 pg, .int .i64 pk, .slice pa plen pcap, .int .i64 pht, .int .i64 phv, .int .i64 phc, .int .i64 pi, .int .i64 pt, .bool pm, .bool ph] 30))
        clear hEk
        cases hi : isB ⟨pg, pk, pa, plen, pcap, pht, phv, phc, pi, pt, pm, ph⟩ l
        · rw [hi] at GI HO
          go_wp2_with (go_at_call 28; ((with_reducible refine (GI.out _ hBw).mono ?_); rintro e w1 ⟨rfl, hB1⟩))
          go_ret
          exact ⟨by rw [HN2.out HO.out]; rfl, bel2 hBw hB1⟩
        · rw [hi] at GI HO
          by_cases h6 : pk = 6
          · subst h6
            have HO2 := Lib.hid (show okR false (_, l) = false from HO.out.trans (by simp ))
            clear HO
            go_wp2_with (go_at_call 28; ((with_reducible refine (GI.out _ hBw).mono ?_); rintro e w1 ⟨rfl, hB1⟩; have d1 : w1.cell? ⟨wr.heap.size, 1, none⟩ = some (.int .i64 6) := blk_cell hB1 1))
            go_ret
            exact ⟨by rw [HN2.out HO2.out]; rfl, bel2 hBw hB1⟩
          · have h6' : (pk == 6) = false := by simpa using h6
            have H6 := Lib.hid h6
            clear h6
            have HO2 := Lib.hid (show okR false (_, l) = true from HO.out.trans (by simp [H6.out]))
            clear HO
            go_wp2_with (go_at_call 28; ((with_reducible refine (GI.out _ hBw).mono ?_); rintro e w1 ⟨rfl, hB1⟩; have d1 : w1.cell? ⟨wr.heap.size, 1, none⟩ = some (.int .i64 pk) := blk_cell hB1 1))
            go_roundw
            case rel => exact ⟨k + 1, by omega, by go_num, HY2.out HO2.out, bel2 hBw hB1⟩
            case measure => simp [intOf]; omega
      · obtain rfl : k = len := by omega
        have HV := Lib.hid (HY.out (by rw [HL.out]; exact HAl.out))
        go_wp2
        go_ret
        exact ⟨by rw [HV.out]; rfl, hB⟩
  · rw [hf] at HF HN HY
    have hk6 : k0 = 6 := of_decide_eq_true HF.out.symm
    subst hk6
    clear HF hf
    go_enter Tryz.func53, Tryz.ntmps53
    go_wp2
    go_loopw [35] (fun q wr => ∃ k : Nat, k ≤ len ∧ q = .int .i64 k ∧ (L.take k).all (okR true) = true ∧ Below w.heap.size w wr) (fun q _ => len - (intOf q).toNat)
    case atStart => exact ⟨0, by omega, rfl, rfl, hA⟩
    case round =>
      obtain ⟨k, hk, rfl, ha, hB⟩ := hrel
      have HAl := Lib.hid ha
      clear ha hk0
      by_cases hlt : k < len
      · have hkl : k < L.length := by rw [HL.out]; exact hlt
        obtain ⟨c0, c1, c2, c3, c4, c5, c6, c7, c8, c9⟩ := part_at10 hb hB HX.out hkl
        have HN2 := Lib.hid (HN.out k hkl)
        have HY2 := Lib.hid (show okR true L[k] = true → (L.take (k + 1)).all (okR true) = true from fun h => by rw [List.take_succ_eq_append_getElem hkl, List.all_append, HAl.out]; simp [h])
        have hEk := HE.out L[k] (List.getElem_mem hkl)
        clear HN HY HE HX HL HAl
        generalize L[k] = x at *
        obtain ⟨p, l⟩ := x
        have GI := Lib.hid (fun W (hW : Below w.heap.size w W) => is_any p l W (hEk.below hW))
        have HO := Lib.hid (show okR true (p, l) = (isB p l && (decide (p.k = 6) == true)) from rfl)
        obtain ⟨pg, pk, pa, plen, pcap, pht, phv, phc, pi, pt, pm, ph⟩ := p
        dsimp only [PartC.val] at *
        have hBw := bel2 hB (bel_alloc (Below.refl wr.heap.size wr) (.cells #[.int .i64 pg, .int .i64 pk, .slice pa plen pcap, .int .i64 pht, .int .i64 phv, .int .i64 phc, .int .i64 pi, .int .i64 pt, .bool pm, .bool ph] 30))
        clear hEk
        cases hi : isB ⟨pg, pk, pa, plen, pcap, pht, phv, phc, pi, pt, pm, ph⟩ l
        · rw [hi] at GI HO
          go_wp2_with (go_at_call 28; ((with_reducible refine (GI.out _ hBw).mono ?_); rintro e w1 ⟨rfl, hB1⟩))
          go_ret
          exact ⟨by rw [HN2.out HO.out]; rfl, bel2 hBw hB1⟩
        · rw [hi] at GI HO
          by_cases h6 : pk = 6
          · subst h6
            have HO2 := Lib.hid (show okR true (_, l) = true from HO.out.trans (by simp ))
            clear HO
            go_wp2_with (go_at_call 28; ((with_reducible refine (GI.out _ hBw).mono ?_); rintro e w1 ⟨rfl, hB1⟩; have d1 : w1.cell? ⟨wr.heap.size, 1, none⟩ = some (.int .i64 6) := blk_cell hB1 1))
            go_roundw
            case rel => exact ⟨k + 1, by omega, by go_num, HY2.out HO2.out, bel2 hBw hB1⟩
            case measure => simp [intOf]; omega
          · have h6' : (pk == 6) = false := by simpa using h6
            have H6 := Lib.hid h6
            clear h6
            have HO2 := Lib.hid (show okR true (_, l) = false from HO.out.trans (by simp [H6.out]))
            clear HO
            go_wp2_with (go_at_call 28; ((with_reducible refine (GI.out _ hBw).mono ?_); rintro e w1 ⟨rfl, hB1⟩; have d1 : w1.cell? ⟨wr.heap.size, 1, none⟩ = some (.int .i64 pk) := blk_cell hB1 1))
            go_ret
            exact ⟨by rw [HN2.out HO2.out]; rfl, bel2 hBw hB1⟩
      · obtain rfl : k = len := by omega
        have HV := Lib.hid (HY.out (by rw [HL.out]; exact HAl.out))
        go_wp2
        go_ret
        exact ⟨by rw [HV.out]; rfl, hB⟩


end Go.Proofs.YthedmemkckclpaaGreat

/- The contracts of package record's texts, body, Bytes, Size. -/
namespace Go.Proofs.YthedmemkckclpaaGreat
open Go.RowKit Go.Shelf
set_option linter.unusedVariables false
attribute [local go_sem] Oper.semAt_some wide_fn wide_round_fn

theorem Rd.toBelow {B n : Nat} {S : Nat → Prop} {w w' : World} (h : Rd B S w w') (hn : n ≤ w.heap.size) (hS : ∀ k, k < n → S k) : Below n w w' :=
  ⟨h.os, h.tape, h.output, h.size, fun k hk => by
    obtain ⟨o, ho⟩ : ∃ o, w.heap[k]? = some o := ⟨_, Array.getElem?_eq_some_iff.2 ⟨by omega, rfl⟩⟩
    rw [ho]; exact h.block k o ho (.inl (hS k hk))⟩

set_option maxRecDepth 100000 in
set_option maxHeartbeats 4000000 in
theorem recTexts_iter (Bp : Nat) (a : Option Addr) (len cap : Nat) (L : List PL) (w w0 : World) (h : HasP w a len L) (hok : ∀ x ∈ L, isB x.1 x.2 = true) (hB0 : Below w.heap.size w w0) (hBp : w0.heap[Bp]? = some (.cells #[.slice a len cap] 31 (0, 0))) :
    Iter Tryz.prog 91 #[.pointer (some ⟨Bp, 0, none⟩)] (fun s : ByteArray => #[.string s]) (L.map fun x => bytesS x.1 x.2) (fun k => k < w.heap.size ∨ k = Bp) (fun _ => False) w0 := by
  intro J0 J Jx W hW hJs _ hY h0
  have hcl0 : W.cell? ⟨Bp, 0, none⟩ = some (.slice a len cap) := cell_of_row _ _ 0 _ _ _ (hW.get hBp (.inr rfl))
  have hBW : Below w.heap.size w W := hB0.trans (hW.toBelow hB0.size fun k hk => .inl hk)
  obtain ⟨hL, hm, hrow, hE⟩ := h
  have HL := Lib.hid hL
  have HE := Lib.hid hE
  have HO := Lib.hid hok
  have hcs := hrow.2.2
  clear hL hE hok hrow
  refine callsIn_of_wp Tryz.func91 rfl trivial ?_ rfl
  simp only [Tryz.ntmps91, List.size_toArray, List.length_cons, List.length_nil, Nat.reduceAdd, Nat.reduceSub, Array.replicate_succ, Array.replicate_zero, List.push_toArray, List.append_toArray, List.nil_append, List.cons_append]
  gi_wp2
  gi_loopw [9] (fun q wr => ∃ (k : Nat) (pre : List ByteArray), k ≤ len ∧ q = .int .i64 k ∧ (L.map fun x => bytesS x.1 x.2) = pre ++ (L.drop k).map (fun x => bytesS x.1 x.2) ∧ J pre wr ∧ Rd W.heap.size (fun k => k < w.heap.size ∨ k = Bp) W wr) (fun q _ => len - (intOf q).toNat)
  case atStart => exact ⟨0, [], by omega, rfl, rfl, h0, Rd.refl _ _ _⟩
  case round =>
    obtain ⟨k, pre, hk, rfl, hX, hJ, hR⟩ := hrel
    have HX0 := Lib.hid hX
    clear hX
    by_cases hlt : k < len
    · obtain ⟨b, off, rfl, hb, hx⟩ := hcs (by omega)
      have hkl : k < L.length := by rw [HL.out]; exact hlt
      have hB : Below w.heap.size w wr := hBW.trans (hR.toBelow hBW.size fun k hk => .inl hk)
      obtain ⟨c0, c1, c2, c3, c4, c5, c6, c7, c8, c9⟩ := part_at10 hb hB hx hkl
      have HX := Lib.hid (show (L.map fun x => bytesS x.1 x.2) = pre ++ (bytesS L[k].1 L[k].2 :: (L.drop (k + 1)).map (fun x => bytesS x.1 x.2)) by rw [HX0.out, List.drop_eq_getElem_cons hkl]; rfl)
      have hEk := HE.out L[k] (List.getElem_mem hkl)
      have hok := HO.out L[k] (List.getElem_mem hkl)
      have GB := Lib.hid (fun W (hW : Below w.heap.size w W) => show Gives Tryz.prog 92 #[L[k].1.val] W (.tuple #[.string (bytesS L[k].1 L[k].2), .int .i64 0]) from by have := bytes_any L[k].1 L[k].2 W (hEk.below hW); unfold bytesE at this; rwa [if_pos hok] at this)
      clear hx HX0 hEk hok hcl0
      generalize L[k] = x at *
      obtain ⟨p, l⟩ := x
      dsimp only at *
      generalize bytesS p l = X at *
      obtain ⟨pg, pk, pa, plen, pcap, pht, phv, phc, pi, pt, pm, ph⟩ := p
      dsimp only [PartC.val] at *
      have hBw := bel2 hB (bel_alloc (Below.refl wr.heap.size wr) (.cells #[.int .i64 pg, .int .i64 pk, .slice pa plen pcap, .int .i64 pht, .int .i64 phv, .int .i64 phc, .int .i64 pi, .int .i64 pt, .bool pm, .bool ph] 30))
      have hRR := hR.alloc (.cells #[.int .i64 pg, .int .i64 pk, .slice pa plen pcap, .int .i64 pht, .int .i64 phv, .int .i64 phc, .int .i64 pi, .int .i64 pt, .bool pm, .bool ph] 30)
      have hJJ := hJs _ _ _ hJ (Moves.alloc wr (.cells #[.int .i64 pg, .int .i64 pk, .slice pa plen pcap, .int .i64 pht, .int .i64 phv, .int .i64 phc, .int .i64 pi, .int .i64 pt, .bool pm, .bool ph] 30))
      clear hJ
      gi_wp2_with (gi_at_call 92; refine (callsIn_wide.2 (GB.out _ hBw)).mono ?_; rintro e w4 ⟨rfl, hB⟩; replace hRR := hRR.trans (Rd.below hB); replace hJJ := hJs _ _ _ hJJ (Moves.below hB); obtain ⟨fn, tmps, assign, body, hy, hR1⟩ := hY _ _ _ w4 HX.out hJJ)
      refine (roundIn_wide_n hR1).mono ?_
      rintro e W3 (⟨rfl, hJ3, hk3⟩ | ⟨rfl, hJx3⟩)
      · gi_wp2
        go_roundw
        case rel => exact ⟨k + 1, _, by omega, by go_num, by rw [HX.out]; simp, hJ3, hRR.trans hk3⟩
        case measure => simp [intOf]; omega
      · gi_wp2
        refine bodyPost_ret (results_none rfl _ _ _) rfl ?_
        exact ⟨⟨_, rfl⟩, .inr ⟨_, _, _, HX.out, hJx3⟩⟩
    · obtain rfl : k = len := by omega
      have HX := Lib.hid (show (L.map fun x => bytesS x.1 x.2) = pre by rw [HX0.out, List.drop_of_length_le (by rw [HL.out]; omega)]; simp)
      gi_wp2
      refine bodyPost_end (results_none rfl _ _ _) rfl ?_
      exact ⟨⟨_, rfl⟩, .inl (by rw [HX.out]; exact hJ)⟩

theorem recTexts_makes (a : Option Addr) (len cap : Nat) (L : List PL) (w w0 : World) (h : HasP w a len L) (hok : ∀ x ∈ L, isB x.1 x.2 = true) (hB0 : Below w.heap.size w w0) :
    Calls Tryz.prog 74 #[.slice a len cap] w0 fun e w' => ∃ lb, e = .returned (.func (.func 91) #[] lb) ∧ w' = w0.alloc (.cells #[.slice a len cap] 31) ∧
      Iter Tryz.prog 91 lb (fun s : ByteArray => #[.string s]) (L.map fun x => bytesS x.1 x.2) (fun k => k < w.heap.size ∨ k = w0.heap.size) (fun _ => False) w' := by
  have HI := Lib.hid (recTexts_iter w0.heap.size a len cap L w (w0.alloc (.cells #[.slice a len cap] 31)) h hok (bel2 hB0 (bel_alloc (Below.refl _ _) _)) (World.alloc_heap_new w0 _))
  clear h hok hB0
  go_enter Tryz.func74, Tryz.ntmps74
  go_wp2
  go_ret
  exact ⟨_, rfl, rfl, HI.out⟩

/-- What body's loop holds: the builder, its pointer, the parts that the iterator reads. -/
def bodI (w : World) (b q X : Nat) (v : Value) (bs : List UInt8) (pre : List ByteArray) (W : World) : Prop :=
  Builds w.heap.size b (Lib.byteCells (bs ++ pre.flatMap fun s => s.data.toList)) W ∧ (W.heap[q]? = some (.cells #[.pointer (some ⟨b, 0, none⟩)] 121 (0, 0)) ∧
    (W.heap[X]? = some (.cells #[v] 31 (0, 0)) ∧ Below w.heap.size w W))
theorem bodI_stab {w : World} {b q X C : Nat} {v : Value} {bs : List UInt8} {pre : List ByteArray} (h : w.heap.size ≤ C) : Stab C (fun _ => False) (bodI w b q X v bs pre) :=
  builds_stab.and ((Stab.block id (.inr rfl)).and ((Stab.block id (.inr rfl)).and (Stab.below (Nat.le_refl _) h (fun _ h => h.elim))))
theorem flat_bytes {L : List PL} (h : ∀ x ∈ L, isB x.1 x.2 = true) : ((L.map fun x => bytesS x.1 x.2).flatMap fun s => s.data.toList) = allB L := by
  induction L with
  | nil => rfl
  | cons x r ih =>
    have h1 := h x List.mem_cons_self
    have e1 : (bytesS x.1 x.2).data.toList = bytP x := by unfold bytesS; rw [if_pos h1]; rfl
    simp only [List.map_cons, List.flatMap_cons, e1, ih (fun y hy => h y (List.mem_cons_of_mem _ hy))]
    rfl
set_option maxRecDepth 100000 in
set_option maxHeartbeats 8000000 in
theorem recBody_any (s : Int) (a : Option Addr) (len cap : Nat) (L : List PL) (w : World) (h : HasP w a len L) (hok : recB s L = true) : Gives Tryz.prog 55 #[.agg #[.int .i64 s, .slice a len cap]] w (.string (bodyS s L)) := by
  obtain ⟨hsb, hLb, hAll⟩ := recB_iff.1 hok
  have hIs : ∀ x ∈ L, isB x.1 x.2 = true := fun x hx => okR_isB (hAll x hx)
  have HLen := Lib.hid (bodyL_len (fun x hx => (h.2.2.2 x hx).1) hok)
  have HV := Lib.hid (show bodyL s L = (sevL s.toNat ++ sevL ((len : Int)).toNat) ++ ((L.map fun x => bytesS x.1 x.2).flatMap fun s => s.data.toList) by rw [flat_bytes hIs]; unfold bodyL; rw [h.1, List.append_assoc]; rfl)
  have GS := Lib.hid (put_any s (by omega)); have GN := Lib.hid (put_any (len : Int) (by have := h.2.1; omega))
  have HH := Lib.hid h
  have HI := Lib.hid hIs
  have hl1 := sevL_len s.toNat; have hl2 := sevL_len ((len : Int)).toNat
  have hz1 : (⟨(sevL s.toNat).toArray⟩ : ByteArray).size = (sevL s.toNat).length := rfl
  have hz2 : (⟨(sevL ((len : Int)).toNat).toArray⟩ : ByteArray).size = (sevL ((len : Int)).toNat).length := rfl
  have HP := Lib.hid (show (⟨(sevL s.toNat).toArray⟩ ++ ⟨(sevL ((len : Int)).toNat).toArray⟩ : ByteArray).data.toList = sevL s.toNat ++ sevL ((len : Int)).toNat by simp)
  have HPz := Lib.hid (show (Lib.byteCells []).length + (⟨(sevL s.toNat).toArray⟩ ++ ⟨(sevL ((len : Int)).toNat).toArray⟩ : ByteArray).size ≤ 140737488355328 by rw [ByteArray.size_append, hz1, hz2]; have : (Lib.byteCells []).length = 0 := rfl; omega)
  generalize (⟨(sevL s.toNat).toArray⟩ : ByteArray) = X1 at *
  generalize (⟨(sevL ((len : Int)).toNat).toArray⟩ : ByteArray) = X2 at *
  have hcat : ¬ 9223372036854775807 < X1.size + X2.size := by omega
  have HV2 := Lib.hid (show bodyL s L = (X1 ++ X2).data.toList ++ ((L.map fun x => bytesS x.1 x.2).flatMap fun s => s.data.toList) by rw [HP.out]; exact HV.out)
  have HV3 := Lib.hid (show bodyL s L = X1.data.toList ++ (X2.data.toList ++ ((L.map fun x => bytesS x.1 x.2).flatMap fun s => s.data.toList)) by rw [HV2.out]; simp)
  have HT := Lib.hid (show ((X1 ++ X2).data.toList ++ ((L.map fun x => bytesS x.1 x.2).flatMap fun s => s.data.toList)).length ≤ 1950 by rw [← HV2.out]; exact HLen.out.2)
  have HNe := Lib.hid (show (X1 ++ X2).data.toList ++ ((L.map fun x => bytesS x.1 x.2).flatMap fun s => s.data.toList) ≠ [] by rw [← HV2.out]; intro e; have := HLen.out.1; rw [e] at this; simp at this)
  clear hIs hAll h hok hLb hsb hz1 hz2 hl1 hl2
  refine (callsIn_wide (n := 9)).1 ?_
  refine callsIn_of_wp_marks Tryz.func55 rfl trivial ?_ rfl
  simp only [Tryz.ntmps55, List.size_toArray, List.length_cons, List.length_nil, Nat.reduceAdd, Nat.reduceSub, Array.replicate_succ, Array.replicate_zero, List.push_toArray, List.append_toArray, List.nil_append, List.cons_append]
  gi_wp2
  have hr := three_a w #[.int .i64 s, .slice a len cap] #[.pointer none, .slice none 0 0] #[.pointer (some ⟨w.heap.size + 1, 0, none⟩)] 83 124 121
  have hq := three_c w #[.int .i64 s, .slice a len cap] #[.pointer none, .slice none 0 0] #[.pointer (some ⟨w.heap.size + 1, 0, none⟩)] 83 124 121
  have hA := bel_alloc (bel_alloc (bel_alloc (Below.refl w.heap.size w) (.cells #[.int .i64 s, .slice a len cap] 83)) (.cells #[.pointer none, .slice none 0 0] 124)) (.cells #[.pointer (some ⟨w.heap.size + 1, 0, none⟩)] 121)
  have HB := Lib.hid (show Builds w.heap.size (w.heap.size + 1) (Lib.byteCells []) (((w.alloc (.cells #[.int .i64 s, .slice a len cap] 83)).alloc (.cells #[.pointer none, .slice none 0 0] 124)).alloc (.cells #[.pointer (some ⟨w.heap.size + 1, 0, none⟩)] 121)) from Builds.kept (.inl ⟨by omega, .slice none 0 0, alloc_new1 _ _ _ (by simp), World.ownsRow_nil _ _ _ _, by simp [Value.ownBlock]⟩) (bel_alloc (Below.refl _ _) _))
  obtain ⟨W3, hW3⟩ : ∃ W3, W3 = ((w.alloc (.cells #[.int .i64 s, .slice a len cap] 83)).alloc (.cells #[.pointer none, .slice none 0 0] 124)).alloc (.cells #[.pointer (some ⟨w.heap.size + 1, 0, none⟩)] 121) := ⟨_, rfl⟩
  rw [← hW3] at hr hq hA HB ⊢
  clear hW3
  have c0 : W3.cell? ⟨w.heap.size, 0, none⟩ = some (.int .i64 s) := cell_of_row _ _ 0 _ _ _ hr
  have c1 : W3.cell? ⟨w.heap.size, 1, none⟩ = some (.slice a len cap) := cell_of_row _ _ 1 _ _ _ hr
  have cq : W3.cell? ⟨w.heap.size + 1 + 1, 0, none⟩ = some (.pointer (some ⟨w.heap.size + 1, 0, none⟩)) := cell_of_row _ _ 0 _ _ _ hq
  replace hA := hA.drew
  replace HB := Lib.hid (show Builds w.heap.size (w.heap.size + 1) (Lib.byteCells []) W3.drew from HB.out)
  replace hr : W3.drew.heap[w.heap.size]? = _ := hr
  replace hq : W3.drew.heap[w.heap.size + 1 + 1]? = _ := hq
  refine wpIn_wide.2 ?_
  go_region_held3 (fun W' => W'.cell? ⟨w.heap.size + 1 + 1, 0, none⟩ = some (.pointer (some ⟨w.heap.size + 1, 0, none⟩)) ∧ W'.cell? ⟨w.heap.size, 0, none⟩ = some (.int .i64 s) ∧ W'.cell? ⟨w.heap.size, 1, none⟩ = some (.slice a len cap)) (go_keep) (first
    | (go_at_call 73; (with_reducible refine (GS.out _).mono ?_); rintro e w4 ⟨rfl, hX⟩; replace hA := bel2 hA hX; replace HB := Lib.hid (HB.out.kept hX); replace hr := (hX.block _ (heap_lt hr)).trans hr; replace hq := (hX.block _ (heap_lt hq)).trans hq; clear c0 c1 cq hX; have c0 : w4.cell? ⟨w.heap.size, 0, none⟩ = some (.int .i64 s) := cell_of_row _ _ 0 _ _ _ hr; have c1 : w4.cell? ⟨w.heap.size, 1, none⟩ = some (.slice a len cap) := cell_of_row _ _ 1 _ _ _ hr; have cq : w4.cell? ⟨w.heap.size + 1 + 1, 0, none⟩ = some (.pointer (some ⟨w.heap.size + 1, 0, none⟩)) := cell_of_row _ _ 0 _ _ _ hq)
    | (go_at_call 73; (with_reducible refine (GN.out _).mono ?_); rintro e w5 ⟨rfl, hX⟩; replace hA := bel2 hA hX; replace HB := Lib.hid (HB.out.kept hX); replace hr := (hX.block _ (heap_lt hr)).trans hr; replace hq := (hX.block _ (heap_lt hq)).trans hq; clear c0 c1 cq hX; have c0 : w5.cell? ⟨w.heap.size, 0, none⟩ = some (.int .i64 s) := cell_of_row _ _ 0 _ _ _ hr; have c1 : w5.cell? ⟨w.heap.size, 1, none⟩ = some (.slice a len cap) := cell_of_row _ _ 1 _ _ _ hr; have cq : w5.cell? ⟨w.heap.size + 1 + 1, 0, none⟩ = some (.pointer (some ⟨w.heap.size + 1, 0, none⟩)) := cell_of_row _ _ 0 _ _ _ hq)
    | (go_at_call 72; (refine (writeString_any w.heap.size (w.heap.size + 1) _ _ _ HB.out HPz.out hA.size).mono ?_); rintro e w6 ⟨rfl, h1, h2, h3⟩; have HB6 := Lib.hid h1; replace hA := hA.trans h2; replace hr := h3.cells hr (Nat.succ_ne_self _).symm (by decide); replace hq := h3.cells hq (Nat.succ_ne_self _) (by decide); clear c0 c1 cq h1 h2 h3; have c0 : w6.cell? ⟨w.heap.size, 0, none⟩ = some (.int .i64 s) := cell_of_row _ _ 0 _ _ _ hr; have c1 : w6.cell? ⟨w.heap.size, 1, none⟩ = some (.slice a len cap) := cell_of_row _ _ 1 _ _ _ hr; have cq : w6.cell? ⟨w.heap.size + 1 + 1, 0, none⟩ = some (.pointer (some ⟨w.heap.size + 1, 0, none⟩)) := cell_of_row _ _ 0 _ _ _ hq))
  all_goals
    have HB7 := Lib.hid (show Builds w.heap.size (w.heap.size + 1) (Lib.byteCells ((X1 ++ X2).data.toList ++ ([] : List ByteArray).flatMap fun s => s.data.toList)) w6 from .inr (by have := HB6.out; simp only [List.flatMap_nil, List.append_nil]; exact this))
    clear HB HB6
    gi_wp2_with (gi_at_call 74; refine (callsIn_wide.2 (recTexts_makes a len cap L w w6 HH.out HI.out hA)).mono ?_; rintro e w9 ⟨lb, rfl, rfl, hI9⟩)
    have hW9 : Below w6.heap.size w6 (w6.alloc (.cells #[.slice a len cap] 31)) := bel_alloc (Below.refl _ _) _
    have hs9 : w.heap.size ≤ (w6.alloc (.cells #[.slice a len cap] 31)).heap.size := Nat.le_trans hA.size hW9.size
    refine range_outer rfl (enters_of Tryz.func91 (by kernel_rfl) rfl) hI9 (fun _ => rfl) (fun k hk => hk.elim (fun h => Nat.lt_of_lt_of_le h hs9) (fun e => by rw [e, World.size_alloc]; exact Nat.lt_succ_self _)) (fun _ h => h.elim)
      (fun pre W => bodI w (w.heap.size + 1) (w.heap.size + 1 + 1) w6.heap.size (.slice a len cap) (X1 ++ X2).data.toList pre W) (fun _ _ _ => False) (fun _ => bodI_stab hs9) (fun _ _ => Stab.pure _)
      ⟨HB7.out.kept hW9, (hW9.block _ (heap_lt hq)).trans hq, World.alloc_heap_new _ _, hA.trans (hW9.mono hA.size)⟩ ?hr ?hd (fun _ _ _ _ _ _ h => h.elim)
    case hr =>
      rintro L0 pre x suf W hx hl' hi1 hrec
      dsimp only
      gi_wp2
      refine rdThen_mk _ (bodI_stab hs9) hi1 (Rd.refl _ _ _) ?_
      clear hi1 hrec W
      rintro W ⟨hb, hqW, hX, hBl⟩ hrec
      have cqW : W.cell? ⟨w.heap.size + 1 + 1, 0, none⟩ = some (.pointer (some ⟨w.heap.size + 1, 0, none⟩)) := cell_of_row _ _ 0 _ _ _ hqW
      have HLx := Lib.hid (show (Lib.byteCells ((X1 ++ X2).data.toList ++ pre.flatMap fun s => s.data.toList)).length + x.size ≤ 140737488355328 by
        have h1 := HT.out
        rw [hx] at h1
        have h3 : x.size = x.data.toList.length := by rw [Array.length_toList]; rfl
        rw [byteCells_len]
        simp only [List.flatMap_append, List.flatMap_cons, List.length_append] at *
        omega)
      have HBx := Lib.hid hb
      have hWs := hBl.size
      clear hx hb
      gi_wp2_with (gi_at_call 72; refine (callsIn_wide.2 (writeString_any w.heap.size (w.heap.size + 1) _ x W HBx.out HLx.out hWs)).mono ?_; rintro e w7 ⟨rfl, h1, h2, h3⟩)
      have hnX : w6.heap.size ≠ w.heap.size + 1 := by have := HB7.out.lt; omega
      refine ⟨rd_of_keeps HBx.out h3 h2 (fun k hk => hk.elim (fun h => .inl h) (fun e => .inr ⟨by rw [e]; exact hnX, #[.slice a len cap], 31, (0, 0), by rw [e]; exact hX, by decide⟩)), .inr ?_, h3.cells hqW (Nat.succ_ne_self _) (by decide), h3.cells hX hnX (by decide), hBl.trans h2⟩
      have e1 : Lib.byteCells ((X1 ++ X2).data.toList ++ (pre ++ [x]).flatMap fun s => s.data.toList) = Lib.byteCells ((X1 ++ X2).data.toList ++ pre.flatMap fun s => s.data.toList) ++ Lib.strCells x := by
        rw [List.flatMap_append, ← List.append_assoc, byteCells_app, List.flatMap_singleton]; rfl
      rw [e1]
      exact h1
    case hd =>
      rintro W ⟨hb, hqW, hX, hBl⟩ hD
      have cqW : W.cell? ⟨w.heap.size + 1 + 1, 0, none⟩ = some (.pointer (some ⟨w.heap.size + 1, 0, none⟩)) := cell_of_row _ _ 0 _ _ _ hqW
      have HBx := Lib.hid hb
      clear hb
      gi_wp2_with (gi_at_call 75; refine (callsIn_wide.2 (string_full w.heap.size (w.heap.size + 1) _ W HBx.out HNe.out)).mono ?_; rintro e w8 ⟨rfl, h2, h3⟩)
      have hD2 := h3.block _ _ hD (by rintro e; obtain ⟨cs, hcs⟩ := HBx.out.cells; rw [e, hcs] at hD; cases hD) (by rintro cs fr ⟨⟩)
      rw [World.size_alloc] at hD2
      exact leave_one hD2 (results_tmp rfl _ _ _) ⟨by unfold bodyS; rw [HV3.out]; rfl, below_putObj (hBl.trans h2) (Nat.le_refl _) (by rw [World.size_alloc] at hs9; exact hs9) _⟩

set_option maxRecDepth 100000 in
set_option maxHeartbeats 1000000 in
theorem recBytes_any (s : Int) (a : Option Addr) (len cap : Nat) (L : List PL) (w : World) (h : HasP w a len L) : Gives Tryz.prog 37 #[.agg #[.int .i64 s, .slice a len cap]] w (.tuple #[.string (recS s L), .int .i64 (recE s L)]) := by
  have GI := Lib.hid (fun W (hW : Below w.heap.size w W) => recIs_any s a len cap L W (h.below hW))
  have hA := bel_alloc (Below.refl w.heap.size w) (.cells #[.int .i64 s, .slice a len cap] 83)
  unfold Gives recS recE
  by_cases hok : recB s L = true
  · have GB := Lib.hid (fun W (hW : Below w.heap.size w W) => recBody_any s a len cap L W (h.below hW) hok)
    obtain ⟨z1, z2⟩ := bodyL_len (fun x hx => (h.2.2.2 x hx).1) hok
    have GW := Lib.hid (wrap_ok (bodyS s L) (by show 0 < (bodyL s L).length; omega) (by show (bodyL s L).length ≤ 2000; omega))
    rw [if_pos hok, if_pos hok]
    rw [hok] at GI
    clear hok h z1 z2
    go_enter Tryz.func37, Tryz.ntmps37
    go_wp2_with (first
      | (go_at_call 53; ((with_reducible refine (GI.out _ hA).mono ?_); rintro e w1 ⟨rfl, hB1⟩; replace hA := bel2 hA hB1; have c0 : w1.cell? ⟨w.heap.size, 0, none⟩ = some (.int .i64 s) := blk_cell hB1 0; have c1 : w1.cell? ⟨w.heap.size, 1, none⟩ = some (.slice a len cap) := blk_cell hB1 1))
      | (go_at_call 55; ((with_reducible refine (GB.out _ hA).mono ?_); rintro e w2 ⟨rfl, hB2⟩; replace hA := bel2 hA hB2))
      | (go_at_call 54; ((with_reducible refine (GW.out _).mono ?_); rintro e w3 ⟨rfl, hB3⟩; replace hA := bel2 hA hB3)))
    go_ret2
    exact ⟨rfl, hA⟩
  · rw [if_neg hok, if_neg hok]
    rw [Bool.eq_false_iff.2 hok] at GI
    clear hok h
    go_enter Tryz.func37, Tryz.ntmps37
    go_wp2_with (go_at_call 53; ((with_reducible refine (GI.out _ hA).mono ?_); rintro e w1 ⟨rfl, hB1⟩; replace hA := bel2 hA hB1))
    go_ret2
    exact ⟨rfl, hA⟩

theorem recS_size {w : World} {s : Int} {a : Option Addr} {len : Nat} {L : List PL} (h : HasP w a len L) : (recS s L).size ≤ 1962 := by
  unfold recS
  split
  · rename_i hok
    have := bodyL_len (fun x hx => (h.2.2.2 x hx).1) hok
    rw [wrapB_size]
    show (bodyL s L).length + 12 ≤ 1962
    omega
  · exact Nat.zero_le _
end Go.Proofs.YthedmemkckclpaaGreat
