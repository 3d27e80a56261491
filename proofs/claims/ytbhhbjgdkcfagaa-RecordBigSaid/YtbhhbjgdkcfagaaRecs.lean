/- IterD, Rec, RecM, RecBack, RecIs, RecSame, RecBody, RecOpen, RecOpen2, RecRead, Known5: in one text. -/
import Derived.Test.YtbhhbjgdkcfagaaKit
import Derived.Test.YtbhhbjgdkcfagaaOpens
import Derived.Test.YtbhhbjgdkcfagaaPartFacts
import Derived.Test.YtbhhbjgdkcfagaaFrames
import Derived.Test.YtbhhbjgdkcfagaaReadM2
import Derived.Test.YtbhhbjgdkcfagaaReadBack
import Derived.Test.YtbhhbjgdkcfagaaQuietC
import Derived.Test.YtbhhbjgdkcfagaaPartBytes
import Derived.Deep.RegionHeld3
import Derived.Test.YtbhhbjgdkcfagaaReadZ
/- An iterator whose elements are known only as it goes (they lie in memory that it makes): the protocol, and the law of a loop over it; no program is named here. -/
namespace Go.Proofs.Ytbhhbjgdkcfagaa
set_option linter.unusedVariables false
open Go.RowKit Go.Shelf

/-- As Iter; what it hands out next is one of those that Nx tells, and when it ends what it has handed out is one of those that Fin tells. -/
def IterD (P : Program) (g : Nat) (lb : Array Value) {α : Type} (encs : α → Array Value) (Nx : List α → α → World → World → Prop) (Fin : List α → Prop) (S T : Nat → Prop) (w0 : World) : Prop :=
  ∀ (l : Nat) (J Jx : List α → World → Prop) (W : World), Rd w0.heap.size S w0 W → (∀ s, Stab W.heap.size T (J s)) → (∀ s, Stab W.heap.size T (Jx s)) →
    (∀ pre x W2 W1, J pre W2 → Nx pre x W2 W1 → J pre W1 → YieldAt Fence.wide 9 P l (encs x) W1 fun e W' =>
      (e = .returned (.bool true) ∧ J (pre ++ [x]) W' ∧ Rd W.heap.size S W1 W') ∨ (e = .returned (.bool false) ∧ Jx (pre ++ [x]) W')) →
    J [] W →
    CallsIn Fence.wide 9 P g (#[.func (.yield l) #[] #[]] ++ lb) W fun e W' => (∃ v, e = .returned v) ∧ ((∃ xs, Fin xs ∧ J xs W') ∨ (∃ pre x, Jx (pre ++ [x]) W'))

/-- A LOOP OVER SUCH AN ITERATOR, outside every other one. -/
theorem range_outerD {α : Type} {P : Program} {g : Operand} {ps : Array Tmp} {assign body : Code} {Q : Exit → Act → World → Prop} {a : Act} {w : World}
    {gf : Nat} {lb : Array Value} (hg : a.eval g = .func (.func gf) #[] lb) (eg : Enters P gf)
    {encs : α → Array Value} {Nx : List α → α → World → World → Prop} {Fin : List α → Prop} {S T : Nat → Prop} (hseq : IterD P gf lb encs Nx Fin S T w) (hps : ∀ x, (encs x).size = ps.size) (hS : ∀ k, S k → k < w.heap.size) (hT : ∀ k, T k → k < w.heap.size)
    (I : List α → World → Prop) (Ix : Code → List α → World → Prop) (hI : ∀ s, Stab w.heap.size T (I s)) (hIx : ∀ c s, Stab w.heap.size T (Ix c s)) (h0 : I [] w)
    (hround : ∀ l pre x W2 W, I pre W2 → Nx pre x W2 W → w.heap.size < l → I pre W → (∃ r, W.heap[l]? = some (.loop r)) →
      assign.wpIn (Fence.wide.inRound l) 9 P (Exit.then (rdThen l P w.heap.size S I Ix (pre ++ [x]) body W) (fun _ _ _ => False))
      { tmps := (ps.zip (encs x)).foldl (fun t (p, v) => t.setIfInBounds p v) a.tmps, defers := [] } W)
    (hdone : ∀ xs W, Fin xs → I xs W → W.heap[w.heap.size]? = some (.deferred (some [])) → Q .normal { a with defers := { target := .collected w.heap.size, args := #[] } :: a.defers } W)
    (hstop : ∀ c pre x W, Ix c (pre ++ [x]) W → W.heap[w.heap.size]? = some (.deferred (some [])) → c.wpIn Fence.wide 9 P Q { a with defers := { target := .collected w.heap.size, args := #[] } :: a.defers } W) :
    (Code.rangeFunc g ps assign body).wpIn Fence.wide 9 P Q a w := by
  refine wpIn_rangeFunc ?_
  intro fn hfn
  obtain ⟨rec, hrec⟩ : ∃ rec : LoopState → Option Code → Loop, rec = fun st pe => { state := st, pending := pe, fn, tmps := a.tmps, params := ps, assign, body, defers := w.heap.size } := ⟨_, rfl⟩
  obtain ⟨W1, hW1⟩ : ∃ W1, (w.alloc (.deferred (some []))).alloc (.loop (rec .ready none)) = W1 := ⟨_, rfl⟩
  have hL1 : W1.heap[w.heap.size + 1]? = some (.loop (rec .ready none)) := by
    rw [← hW1]; have := World.alloc_heap_new (w.alloc (.deferred (some []))) (.loop (rec .ready none)); rwa [World.size_alloc] at this
  have hK1 : W1.heap[w.heap.size]? = some (.deferred (some [])) := by
    rw [← hW1]; exact (Below.heap_alloc _ _ _ (by simp)).trans (World.alloc_heap_new w _)
  have hsz : W1.heap.size = w.heap.size + 2 := by rw [← hW1]; simp
  have hb1 : Below w.heap.size w W1 := by
    rw [← hW1]; exact ((Below.refl _ w).alloc (Nat.le_refl _) _).alloc (by simp) _
  refine ⟨w.heap.size + 1, [{ target := .collected w.heap.size, args := #[] }], W1, { target := .fn (.func gf) lb, args := #[.func (.yield (w.heap.size + 1)) #[] #[]] }, W1, gf,
    #[.func (.yield (w.heap.size + 1)) #[] #[]] ++ lb, W1, ?_, ?_, ?_, ?_, fun _ => by omega, ?_⟩
  · rw [← hW1, hrec]; exact run_enterLoop_outer _ _ _ _ _
  · simp only [resolve, hg]
    simp [go_sem]
  · intro f' hf'; exact trivial
  · simp [invoke, go_sem, eg _ _]
  · have hJS : ∀ {r : Loop} {p : World → Prop}, Stab w.heap.size T p → Stab W1.heap.size T (fun W => p W ∧ W.heap[w.heap.size + 1]? = some (.loop r) ∧ heldD (some w.heap.size) W) := fun {r p} hp W W' h hm =>
      ⟨hp W W' h.1 (hm.up (by omega)), hm.block _ _ h.2.1 (fun ht => by have := hT _ ht; omega) (.inl (by omega)),
        fun d hd => by cases hd; exact hm.block _ _ (h.2.2 _ rfl) (fun ht => by have := hT _ ht; omega) (.inl (by omega))⟩
    refine callsIn_wide_n ((hseq (w.heap.size + 1)
      (fun pre W => I pre W ∧ W.heap[w.heap.size + 1]? = some (.loop (rec .ready none)) ∧ heldD (some w.heap.size) W)
      (fun pre W => ∃ c, Ix c pre W ∧ W.heap[w.heap.size + 1]? = some (.loop (rec .done (some c))) ∧ heldD (some w.heap.size) W)
      W1 (.below hb1) (fun s => hJS (hI s)) (fun s => Stab.ex fun c => hJS (hIx c s)) ?_ ⟨hI _ _ _ h0 (.below hb1), hL1, fun d hd => by cases hd; exact hK1⟩).mono ?_)
    · rintro pre x W2 W h2 hx ⟨hi, hl, hk⟩
      exact range_round rec hrec hps (by omega) (by omega) hS (fun d hd => by cases hd; omega) I Ix hI hIx pre x W (fun hi' hl' => hround _ pre x W2 W h2.1 hx (by omega) hi' hl') hi hl hk
    · rintro e W2 ⟨⟨v, rfl⟩, (⟨xs, hx, hi, hl, hk⟩ | ⟨pre, x, c, hi, hl, hk⟩)⟩
      · exact ⟨none, _, by have := run_endLoop (P := P) hl (by rw [hrec]; simp); rw [hrec] at this; exact this,
          hdone xs _ hx (hI _ _ _ hi (Moves.putObj _ _ (by omega) hl rfl)) ((World.putObj_heap_other (by omega)).trans (hk _ rfl))⟩
      · exact ⟨some c, _, by have := run_endLoop (P := P) hl (by rw [hrec]; simp); rw [hrec] at this; exact this,
          hstop c pre x _ (hIx c _ _ _ hi (Moves.putObj _ _ (by omega) hl rfl)) ((World.putObj_heap_other (by omega)).trans (hk _ rfl))⟩


end Go.Proofs.Ytbhhbjgdkcfagaa

/- A record as a flat value; whether it is well-formed, its bytes, whether two are alike: as plain mathematics. -/
namespace Go.Proofs.Ytbhhbjgdkcfagaa
open Go.RowKit Go.Shelf
set_option linter.unusedVariables false

/-- What is in a row of parts. -/
def HasP (w : World) (a : Option Addr) (len : Nat) (L : List PL) : Prop := L.length = len ∧ len < 1000000 ∧ RowV w a len 10 (partCells L) ∧ ∀ x ∈ L, HasE w x.1 x.2
theorem HasP.below {w W : World} {a : Option Addr} {len : Nat} {L : List PL} (h : HasP w a len L) (hB : Below w.heap.size w W) : HasP W a len L := ⟨h.1, h.2.1, h.2.2.1.below hB, fun x hx => (h.2.2.2 x hx).below hB⟩
theorem hasP_nil (w : World) (a : Option Addr) : HasP w a 0 [] := ⟨rfl, by decide, RowV.nil _ _ _, fun x hx => by cases hx⟩
def okR (f : Bool) (x : PL) : Bool := isB x.1 x.2 && (decide (x.1.k = 6) == f)
def fwdOf (L : List PL) : Bool := (L.head?.map fun x => decide (x.1.k = 6)).getD false
def recB (s : Int) (L : List PL) : Bool := (decide (1 ≤ s) && decide (s ≤ 1125899906842624)) && ((decide (1 ≤ L.length) && decide (L.length ≤ 4)) && L.all (okR (fwdOf L)))
theorem recB_iff {s : Int} {L : List PL} : recB s L = true ↔ (1 ≤ s ∧ s ≤ 1125899906842624) ∧ (1 ≤ L.length ∧ L.length ≤ 4) ∧ ∀ x ∈ L, okR (fwdOf L) x = true := by
  simp only [recB, Bool.and_eq_true, decide_eq_true_eq, List.all_eq_true]
theorem okR_isB {f : Bool} {x : PL} (h : okR f x = true) : isB x.1 x.2 = true := by
  simp only [okR, Bool.and_eq_true] at h; exact h.1
/-- The parts' bytes. -/
def bytP (x : PL) : List UInt8 := bytesL x.1 x.2
def allB (M : List PL) : List UInt8 := M.flatMap bytP
theorem allB_snoc (M : List PL) (x : PL) : allB (M ++ [x]) = allB M ++ bytP x := by simp [allB]
/-- What the frame of a record holds. -/
def bodyL (s : Int) (L : List PL) : List UInt8 := sevL s.toNat ++ (sevL L.length ++ allB L)
def bodyS (s : Int) (L : List PL) : ByteArray := ⟨(bodyL s L).toArray⟩
def recS (s : Int) (L : List PL) : ByteArray := if recB s L then wrapB (bodyS s L) else ⟨#[]⟩
def recE (s : Int) (L : List PL) : Int := if recB s L then 0 else 11
theorem bytP_len {x : PL} (hl : x.2.length = x.1.len) (h : isB x.1 x.2 = true) : (bytP x).length ≤ 483 := by
  obtain ⟨_, _, _, h6, hen⟩ := isB_bounds hl h
  have h1 := text_len x.1.k x.2 (fun e he => (entryB_bd (hen e he)).2.2)
  unfold bytP bytesL
  simp only [List.length_append]
  have h2 := putL_len [x.1.g, x.1.k]
  have h3 : (putL (headN x.1 x.2)).length ≤ 63 := by
    refine Nat.le_trans (putL_len _) ?_
    have : (headN x.1 x.2).length ≤ 7 := by
      unfold headN
      split
      · simp
      · split
        · simp
        · split
          · simp
          · split
            · exact fwdN_len _
            · simp
    omega
  have h4 : x.2.length ≤ 6 := by omega
  simp only [List.length_cons, List.length_nil] at h2
  omega
theorem allB_len {L : List PL} (hl : ∀ x ∈ L, x.2.length = x.1.len) (h : ∀ x ∈ L, isB x.1 x.2 = true) : (allB L).length ≤ 483 * L.length := by
  induction L with
  | nil => simp [allB]
  | cons x r ih =>
    have h1 := bytP_len (hl x List.mem_cons_self) (h x List.mem_cons_self)
    have h2 := ih (fun y hy => hl y (List.mem_cons_of_mem _ hy)) (fun y hy => h y (List.mem_cons_of_mem _ hy))
    have h3 : allB (x :: r) = bytP x ++ allB r := rfl
    rw [h3, List.length_append, List.length_cons]; omega
theorem bodyL_len {s : Int} {L : List PL} (hl : ∀ x ∈ L, x.2.length = x.1.len) (h : recB s L = true) : 2 ≤ (bodyL s L).length ∧ (bodyL s L).length ≤ 1950 := by
  obtain ⟨_, ⟨_, h4⟩, ho⟩ := recB_iff.1 h
  have h1 := sevL_len s.toNat; have h2 := sevL_len L.length
  have h3 := allB_len hl (fun x hx => okR_isB (ho x hx))
  have p1 := sevL_pos s.toNat; have p2 := sevL_pos L.length
  unfold bodyL
  simp only [List.length_append]
  omega
/-- Two rows of parts are alike. -/
def samePs : List PL → List PL → Bool
  | [], [] => true
  | x :: l, y :: m => sameB x.1 y.1 x.2 y.2 && samePs l m
  | _, _ => false
def sameR (s t : Int) (L M : List PL) : Bool := decide (s = t) && samePs L M
theorem samePs_len : ∀ {L M : List PL}, samePs L M = true → L.length = M.length
  | [], [], _ => rfl
  | x :: l, y :: m, h => by
    simp only [samePs, Bool.and_eq_true] at h
    simp only [List.length_cons, samePs_len h.2]
  | [], y :: m, h => by simp [samePs] at h
  | x :: l, [], h => by simp [samePs] at h
theorem samePs_take : ∀ {L M : List PL} {k : Nat} (h1 : k < L.length) (h2 : k < M.length), samePs (L.take (k + 1)) (M.take (k + 1)) = (samePs (L.take k) (M.take k) && sameB L[k].1 M[k].1 L[k].2 M[k].2)
  | x :: l, y :: m, 0, _, _ => by simp [samePs]
  | x :: l, y :: m, k + 1, h1, h2 => by
    have ih := samePs_take (L := l) (M := m) (k := k) (by simpa using h1) (by simpa using h2)
    rw [List.take_succ_cons, List.take_succ_cons, List.take_succ_cons, List.take_succ_cons]
    simp only [samePs, ih, Bool.and_assoc, List.getElem_cons_succ]
theorem samePs_no : ∀ {L M : List PL} {k : Nat} (h1 : k < L.length) (h2 : k < M.length), sameB L[k].1 M[k].1 L[k].2 M[k].2 = false → samePs L M = false
  | x :: l, y :: m, 0, _, _, h => by simp only [List.getElem_cons_zero] at h; simp [samePs, h]
  | x :: l, y :: m, k + 1, h1, h2, h => by
    have ih := samePs_no (L := l) (M := m) (k := k) (by simpa using h1) (by simpa using h2) (by simpa using h)
    simp [samePs, ih]

end Go.Proofs.Ytbhhbjgdkcfagaa

/- What package record's Read tells, as plain mathematics. -/
namespace Go.Proofs.Ytbhhbjgdkcfagaa
open Go.RowKit Go.Shelf
set_option linter.unusedVariables false

/-- A part, but for where its entries lie. -/
def core (x : PL) : ReadC := ⟨x.1.g, x.1.k, x.2, x.1.ht, x.1.hv, x.1.hc, x.1.i, x.1.t, x.1.m, x.1.h⟩
def plOf (r : ReadC) : PL := (r.part none 0, r.l)
theorem core_plOf (r : ReadC) : core (plOf r) = r := rfl
theorem plOf_core {x : PL} (h : x.2.length = x.1.len) : plOf (core x) = (⟨x.1.g, x.1.k, none, x.1.len, 0, x.1.ht, x.1.hv, x.1.hc, x.1.i, x.1.t, x.1.m, x.1.h⟩, x.2) := by
  unfold plOf core ReadC.part; rw [h]
theorem isB_core {x : PL} (h : x.2.length = x.1.len) : isB (plOf (core x)).1 (plOf (core x)).2 = isB x.1 x.2 := by
  rw [plOf_core h]; exact (isB_addr x.1.g x.1.k x.1.a x.1.len x.1.cap x.1.ht x.1.hv x.1.hc x.1.i x.1.t x.1.m x.1.h x.2).symm
theorem bytP_core {x : PL} (h : x.2.length = x.1.len) : bytP (plOf (core x)) = bytP x := by
  rw [plOf_core h]; rfl
theorem allB_core : ∀ {L : List PL}, (∀ x ∈ L, x.2.length = x.1.len) → allB ((L.map core).map plOf) = allB L
  | [], _ => rfl
  | x :: r, h => by
    have h1 : allB (((x :: r).map core).map plOf) = bytP (plOf (core x)) ++ allB ((r.map core).map plOf) := rfl
    have h2 : allB (x :: r) = bytP x ++ allB r := rfl
    rw [h1, h2, bytP_core (h x List.mem_cons_self), allB_core fun y hy => h y (List.mem_cons_of_mem _ hy)]
theorem bodyL_core {s : Int} {L : List PL} (h : ∀ x ∈ L, x.2.length = x.1.len) : bodyL s ((L.map core).map plOf) = bodyL s L := by
  unfold bodyL; rw [allB_core h]; simp
theorem bodyS_core {s : Int} {L : List PL} (h : ∀ x ∈ L, x.2.length = x.1.len) : bodyS s ((L.map core).map plOf) = bodyS s L := by
  unfold bodyS; rw [bodyL_core h]
theorem all_core {f : Bool} : ∀ {L : List PL}, (∀ x ∈ L, x.2.length = x.1.len) → ((L.map core).map plOf).all (okR f) = L.all (okR f)
  | [], _ => rfl
  | x :: r, h => by
    have h1 : okR f (plOf (core x)) = okR f x := by unfold okR; rw [isB_core (h x List.mem_cons_self)]; rfl
    simp only [List.map_cons, List.all_cons, h1, all_core fun y hy => h y (List.mem_cons_of_mem _ hy)]
theorem recB_core {s : Int} {L : List PL} (h : ∀ x ∈ L, x.2.length = x.1.len) : recB s ((L.map core).map plOf) = recB s L := by
  have h1 : fwdOf ((L.map core).map plOf) = fwdOf L := by cases L <;> rfl
  unfold recB; rw [h1, all_core h]; simp
theorem core_iff {x y : PL} : core x = core y ↔ sameB x.1 y.1 x.2 y.2 = true := by
  rw [sameB_iff]; simp only [core, ReadC.mk.injEq]; grind
theorem samePs_core : ∀ {L M : List PL}, samePs L M = true ↔ L.map core = M.map core
  | [], [] => by simp [samePs]
  | x :: l, y :: m => by simp only [samePs, Bool.and_eq_true, List.map_cons, List.cons.injEq, core_iff, samePs_core (L := l) (M := m)]
  | [], y :: m => by simp [samePs]
  | x :: l, [] => by simp [samePs]
theorem sameR_iff {s t : Int} {L M : List PL} : sameR s t L M = true ↔ s = t ∧ L.map core = M.map core := by
  simp only [sameR, Bool.and_eq_true, decide_eq_true_eq, samePs_core]

theorem fwdM_ok {s : ByteArray} {g : Int} {st : RSt} (h : st.ok s) : (fwdM s g st).2.ok s := by
  have h1 := numTo_ok (most := 3) h
  unfold fwdM
  dsimp only
  refine entM_ok (idxRead_ok s) _ _ _ (numTo_ok ?_)
  generalize numTo s 3 st = f at *
  cases (f.1 % 2 == 1) <;> cases (f.1 / 2 == 1) <;> simp only [if_true, Bool.false_eq_true, if_false]
  · exact h1
  · exact hardM_ok h1
  · exact numM_ok (numM_ok h1)
  · exact hardM_ok (numM_ok (numM_ok h1))
theorem bodyM_ok {s : ByteArray} {g k : Nat} {st : RSt} (h : st.ok s) : (bodyM s g k st).2.ok s := by
  unfold bodyM
  split
  · exact entM_ok (idxFrom_ok s _) _ _ _ (numM_ok (numTo_ok h))
  · split
    · exact hardM_ok h
    · split
      · exact numM_ok (numM_ok h)
      · split
        · exact fwdM_ok h
        · exact h
theorem readM_le (s : ByteArray) : (readM s).2.1 ≤ s.size := by
  unfold readM
  split
  · exact Nat.zero_le _
  · exact (bodyM_ok (numTo_ok (numM_ok ⟨Nat.zero_le _, Nat.zero_le _⟩))).1
/-- At most n parts, one behind the other. -/
def partsM : Nat → ByteArray → List ReadC
  | 0, _ => []
  | n + 1, s => if (readM s).2.2 ≠ 0 then [] else (readM s).1 :: partsM n (restB s (readM s).2.1)
theorem partsM_len : ∀ (n : Nat) (s : ByteArray), (partsM n s).length ≤ n
  | 0, _ => Nat.le_refl _
  | n + 1, s => by
    unfold partsM
    split
    · exact Nat.zero_le _
    · have := partsM_len n (restB s (readM s).2.1)
      simp only [List.length_cons]; omega
def seqM (b : ByteArray) : Nat × Nat × Nat := getL b.data.toList
def cntM (b : ByteArray) : Nat × Nat × Nat := getL (restB b (seqM b).2.1).data.toList
def openM (b : ByteArray) : Int × List ReadC :=
  if (seqM b).2.2 ≠ 0 ∨ (cntM b).2.2 ≠ 0 ∨ 4 < (cntM b).1 then (0, []) else ((seqM b).1, partsM (cntM b).1 (restB b ((seqM b).2.1 + (cntM b).2.1)))
theorem openM_len (b : ByteArray) : (openM b).2.length ≤ 4 := by
  unfold openM
  split
  · exact Nat.zero_le _
  · have := partsM_len (cntM b).1 (restB b ((seqM b).2.1 + (cntM b).2.1))
    dsimp only; omega
/-- Seq, the parts, how many bytes, the class. -/
def recM (s : ByteArray) : Int × List ReadC × Nat × Nat :=
  if (readF s).2.2 ≠ 1 then (0, [], 0, (readF s).2.2)
  else if recB (openM (readF s).1).1 ((openM (readF s).1).2.map plOf) = true ∧ bodyS (openM (readF s).1).1 ((openM (readF s).1).2.map plOf) = (readF s).1 then ((openM (readF s).1).1, (openM (readF s).1).2, (readF s).2.1, 1)
  else (0, [], 0, 4)

end Go.Proofs.Ytbhhbjgdkcfagaa

/- A record that was written is read; cut off it is torn: on bytes alone. -/
namespace Go.Proofs.Ytbhhbjgdkcfagaa
open Go.RowKit Go.Shelf
set_option linter.unusedVariables false

def mkBA (l : List UInt8) : ByteArray := ⟨l.toArray⟩
theorem mkBA_list (l : List UInt8) : (mkBA l).data.toList = l := by simp [mkBA]
theorem mkBA_self (s : ByteArray) : mkBA s.data.toList = s := by simp [mkBA]
theorem mkBA_size (l : List UInt8) : (mkBA l).size = l.length := rfl
theorem restB_mk (l : List UInt8) (k : Nat) : restB (mkBA l) k = mkBA (l.drop k) := by
  rw [← mkBA_self (restB (mkBA l) k), restB_list, mkBA_list]
theorem bytesS_mk {x : PL} (h : isB x.1 x.2 = true) : bytesS x.1 x.2 = mkBA (bytP x) := by unfold bytesS; rw [if_pos h]; rfl
theorem mkBA_app (l m : List UInt8) : mkBA (l ++ m) = mkBA l ++ mkBA m := by
  rw [← mkBA_self (mkBA l ++ mkBA m), ba_toList, mkBA_list, mkBA_list]
theorem readM_part {x : PL} (hl : x.2.length = x.1.len) (h : isB x.1 x.2 = true) (t : List UInt8) : readM (mkBA (bytP x ++ t)) = (core x, (bytP x).length, 0) := by
  have := read_back x.1 x.2 hl h (mkBA (bytP x ++ t)) (mkBA t) (by rw [bytesS_mk h, mkBA_app])
  rw [this, bytesS_mk h]; rfl
theorem partsM_back : ∀ (L : List PL) (t : List UInt8), (∀ x ∈ L, x.2.length = x.1.len) → (∀ x ∈ L, isB x.1 x.2 = true) → partsM L.length (mkBA (allB L ++ t)) = L.map core
  | [], _, _, _ => rfl
  | x :: r, t, hl, h => by
    have h1 : allB (x :: r) ++ t = bytP x ++ (allB r ++ t) := by
      have : allB (x :: r) = bytP x ++ allB r := rfl
      rw [this, List.append_assoc]
    have h2 := readM_part (hl x List.mem_cons_self) (h x List.mem_cons_self) (allB r ++ t)
    rw [List.length_cons, partsM, h1, h2]
    simp only [ne_eq, not_true_eq_false, if_false, List.map_cons, List.cons.injEq, true_and]
    rw [restB_mk, List.drop_left]
    exact partsM_back r t (fun y hy => hl y (List.mem_cons_of_mem _ hy)) (fun y hy => h y (List.mem_cons_of_mem _ hy))
theorem seqM_body {s : Int} {L : List PL} (h1 : 1 ≤ s) (h2 : s ≤ 1125899906842624) : seqM (bodyS s L) = (s.toNat, (sevL s.toNat).length, 0) := by
  unfold seqM bodyS bodyL
  rw [show ((⟨(sevL s.toNat ++ (sevL L.length ++ allB L)).toArray⟩ : ByteArray)).data.toList = sevL s.toNat ++ (sevL L.length ++ allB L) by simp]
  exact getL_sevL _ _ (by omega)
theorem cntM_body {s : Int} {L : List PL} (h1 : 1 ≤ s) (h2 : s ≤ 1125899906842624) (h3 : L.length ≤ 4) : cntM (bodyS s L) = (L.length, (sevL L.length).length, 0) := by
  unfold cntM
  rw [seqM_body h1 h2]
  dsimp only
  have : restB (bodyS s L) (sevL s.toNat).length = mkBA (sevL L.length ++ allB L) := by
    have := restB_mk (bodyL s L) (sevL s.toNat).length
    unfold bodyL at this
    rw [List.drop_left] at this
    exact this
  rw [this, mkBA_list]
  exact getL_sevL _ _ (by omega)
theorem openM_body {s : Int} {L : List PL} (hl : ∀ x ∈ L, x.2.length = x.1.len) (h : recB s L = true) : openM (bodyS s L) = (s, L.map core) := by
  obtain ⟨⟨h1, h2⟩, ⟨_, h4⟩, ho⟩ := recB_iff.1 h
  unfold openM
  rw [seqM_body h1 h2, cntM_body h1 h2 h4]
  dsimp only
  rw [if_neg (by omega)]
  have e : restB (bodyS s L) ((sevL s.toNat).length + (sevL L.length).length) = mkBA (allB L ++ []) := by
    have := restB_mk (bodyL s L) ((sevL s.toNat).length + (sevL L.length).length)
    unfold bodyL at this
    rw [← List.drop_drop, List.drop_left, List.drop_left] at this
    rw [List.append_nil]; exact this
  rw [e, partsM_back L [] hl fun x hx => okR_isB (ho x hx)]
  refine Prod.ext ?_ rfl
  show ((s.toNat : Nat) : Int) = s
  omega
theorem recS_ok {s : Int} {L : List PL} (h : recB s L = true) : recS s L = wrapB (bodyS s L) := by unfold recS; rw [if_pos h]
theorem recS_no {s : Int} {L : List PL} (h : recB s L = false) : recS s L = ⟨#[]⟩ := by unfold recS; rw [h]; rfl
theorem recE_ok {s : Int} {L : List PL} (h : recB s L = true) : recE s L = 0 := by unfold recE; rw [if_pos h]
theorem recE_no {s : Int} {L : List PL} (h : recB s L = false) : recE s L = 11 := by unfold recE; rw [h]; rfl
theorem recS_len {s : Int} {L : List PL} (hl : ∀ x ∈ L, x.2.length = x.1.len) (h : recB s L = true) : 14 ≤ (recS s L).size ∧ (recS s L).size ≤ 1962 ∧ (bodyS s L).size + 12 = (recS s L).size := by
  have h1 := bodyL_len hl h
  rw [recS_ok h, wrapB_size]
  have : (bodyS s L).size = (bodyL s L).length := rfl
  omega
theorem recS_min {s : Int} {L : List PL} (h : recB s L = true) : 16 ≤ (recS s L).size := by
  obtain ⟨_, ⟨h1, _⟩, ho⟩ := recB_iff.1 h
  have h2 : 2 ≤ (allB L).length := by
    cases L with
    | nil => simp at h1
    | cons x r =>
      have hx := okR_isB (ho x List.mem_cons_self)
      have h3 := bytes_two hx
      rw [bytesS_mk hx, mkBA_size] at h3
      have h4 : allB (x :: r) = bytP x ++ allB r := rfl
      rw [h4, List.length_append]; omega
  have p1 := sevL_pos s.toNat; have p2 := sevL_pos L.length
  rw [recS_ok h, wrapB_size]
  have h5 : (bodyS s L).size = (bodyL s L).length := rfl
  unfold bodyL at h5
  simp only [List.length_append] at h5
  omega
/-- WHAT WAS WRITTEN IS READ, whatever stands behind it. -/
theorem recM_back {s : Int} {L : List PL} (hl : ∀ x ∈ L, x.2.length = x.1.len) (h : recB s L = true) (t : ByteArray) : recM (recS s L ++ t) = (s, L.map core, (recS s L).size, 1) := by
  have hb := bodyL_len hl h
  have hz := recS_len hl h
  have hr := read_wrap (bodyS s L) t (by show 1 ≤ (bodyL s L).length; omega) (by show (bodyL s L).length ≤ 2000; omega)
  rw [← recS_ok h] at hr
  unfold recM
  rw [hr]
  dsimp only
  rw [if_neg (by simp), openM_body hl h]
  dsimp only
  rw [if_pos ⟨by rw [recB_core hl]; exact h, bodyS_core hl⟩, hz.2.2]
theorem recM_end {s : ByteArray} (h : s.size < 1) : recM s = (0, [], 0, 2) := by
  unfold recM; rw [readF_end h]; dsimp only; rw [if_pos (by decide)]
/-- CUT OFF IT IS TORN. -/
theorem recM_cut {s : Int} {L : List PL} (hl : ∀ x ∈ L, x.2.length = x.1.len) (h : recB s L = true) (m : Nat) (h0 : 1 ≤ m) (hm : m < (recS s L).size) : recM ((recS s L).extract 0 m) = (0, [], 0, 3) := by
  have hb := bodyL_len hl h
  have hz := recS_len hl h
  have hr := frame_cut (bodyS s L) (by show 1 ≤ (bodyL s L).length; omega) (by show (bodyL s L).length ≤ 2000; omega) m h0 (by omega)
  rw [← recS_ok h] at hr
  unfold recM; rw [hr]; dsimp only; rw [if_pos (by decide)]
/-- Unlike ones have unlike bytes. -/
theorem recS_same {s t : Int} {L M : List PL} (hl : ∀ x ∈ L, x.2.length = x.1.len) (hm : ∀ x ∈ M, x.2.length = x.1.len) (h : recB s L = true) (k : recB t M = true) : recS s L = recS t M ↔ sameR s t L M = true := by
  rw [sameR_iff]
  constructor
  · intro e
    have h1 := recM_back hl h ⟨#[]⟩
    have h2 := recM_back hm k ⟨#[]⟩
    rw [e, h2] at h1
    simp only [Prod.mk.injEq] at h1
    exact ⟨h1.1.symm, h1.2.1.symm⟩
  · rintro ⟨rfl, e⟩
    rw [recS_ok h, recS_ok k, ← bodyS_core hl, ← bodyS_core hm, e]

end Go.Proofs.Ytbhhbjgdkcfagaa

/- The contract of package record's Is. -/
namespace Go.Proofs.Ytbhhbjgdkcfagaa
open Go.RowKit Go.Shelf
set_option linter.unusedVariables false
attribute [local go_sem] Oper.semAt_some wide_fn wide_round_fn

theorem cells10_above {w W : World} {b o : Nat} {v0 v1 v2 v3 v4 v5 v6 v7 v8 v9 : Value} (hs : b < w.heap.size) (c0 : w.cell? ⟨b, o, none⟩ = some v0) (c1 : w.cell? ⟨b, o + 1, none⟩ = some v1) (c2 : w.cell? ⟨b, o + 2, none⟩ = some v2) (c3 : w.cell? ⟨b, o + 3, none⟩ = some v3) (c4 : w.cell? ⟨b, o + 4, none⟩ = some v4) (c5 : w.cell? ⟨b, o + 5, none⟩ = some v5) (c6 : w.cell? ⟨b, o + 6, none⟩ = some v6) (c7 : w.cell? ⟨b, o + 7, none⟩ = some v7) (c8 : w.cell? ⟨b, o + 8, none⟩ = some v8) (c9 : w.cell? ⟨b, o + 9, none⟩ = some v9) (hW : Below w.heap.size w W) :
    W.cell? ⟨b, o, none⟩ = some v0 ∧ W.cell? ⟨b, o + 1, none⟩ = some v1 ∧ W.cell? ⟨b, o + 2, none⟩ = some v2 ∧ W.cell? ⟨b, o + 3, none⟩ = some v3 ∧ W.cell? ⟨b, o + 4, none⟩ = some v4 ∧ W.cell? ⟨b, o + 5, none⟩ = some v5 ∧ W.cell? ⟨b, o + 6, none⟩ = some v6 ∧ W.cell? ⟨b, o + 7, none⟩ = some v7 ∧ W.cell? ⟨b, o + 8, none⟩ = some v8 ∧ W.cell? ⟨b, o + 9, none⟩ = some v9 :=
  ⟨(hW.cell (p := ⟨b, o, none⟩) hs).trans c0, (hW.cell (p := ⟨b, o + 1, none⟩) hs).trans c1, (hW.cell (p := ⟨b, o + 2, none⟩) hs).trans c2, (hW.cell (p := ⟨b, o + 3, none⟩) hs).trans c3, (hW.cell (p := ⟨b, o + 4, none⟩) hs).trans c4, (hW.cell (p := ⟨b, o + 5, none⟩) hs).trans c5, (hW.cell (p := ⟨b, o + 6, none⟩) hs).trans c6, (hW.cell (p := ⟨b, o + 7, none⟩) hs).trans c7, (hW.cell (p := ⟨b, o + 8, none⟩) hs).trans c8, (hW.cell (p := ⟨b, o + 9, none⟩) hs).trans c9⟩
theorem three_a (w : World) (A B C : Array Value) (T U V : TypeId) : (((w.alloc (.cells A T)).alloc (.cells B U)).alloc (.cells C V)).heap[w.heap.size]? = some (.cells A T (0, 0)) :=
  ((bel_alloc (bel_alloc (Below.refl _ _) _) _).block _ (by simp)).trans (World.alloc_heap_new w _)
theorem three_c (w : World) (A B C : Array Value) (T U V : TypeId) : (((w.alloc (.cells A T)).alloc (.cells B U)).alloc (.cells C V)).heap[w.heap.size + 1 + 1]? = some (.cells C V (0, 0)) :=
  alloc_new1 _ _ _ (by simp)
theorem head_k {L : List PL} (h : 0 < L.length) : fwdOf L = decide (L[0].1.k = 6) := by
  cases L with
  | nil => simp at h
  | cons x l => rfl
theorem recB_short {s : Int} {L : List PL} (h : s < 1 ∨ 1125899906842624 < s ∨ L.length < 1 ∨ 4 < L.length) : recB s L = false := by
  rw [Bool.eq_false_iff, Ne, recB_iff]; rintro ⟨h1, h2, _⟩; omega
theorem recB_no {s : Int} {L : List PL} {k : Nat} (hk : k < L.length) (h : okR (fwdOf L) L[k] = false) : recB s L = false := by
  rw [Bool.eq_false_iff, Ne, recB_iff]; rintro ⟨_, _, h2⟩; rw [h2 _ (List.getElem_mem hk)] at h; cases h
theorem recB_all {s : Int} {L : List PL} (hs : 1 ≤ s ∧ s ≤ 1125899906842624) (hl : 1 ≤ L.length ∧ L.length ≤ 4) (h : (L.take L.length).all (okR (fwdOf L)) = true) : recB s L = true := by
  rw [recB_iff]; rw [List.take_length, List.all_eq_true] at h; exact ⟨hs, hl, h⟩

set_option maxRecDepth 100000 in
set_option maxHeartbeats 2000000 in
theorem recIs_short (s : Int) (a : Option Addr) (len cap : Nat) (L : List PL) (w : World) (hL : L.length = len) (hm : len < 1000000) (h : s < 1 ∨ 1125899906842624 < s ∨ len < 1 ∨ 4 < len) : Gives Try.prog 8 #[.agg #[.int .i64 s, .slice a len cap]] w (.bool false) := by
  have hA := bel_alloc (Below.refl w.heap.size w) (.cells #[.int .i64 s, .slice a len cap] 32)
  unfold Gives
  by_cases h1 : s < 1
  · go_enter Try.func8, Try.ntmps8
    go_wp2
    go_ret
    exact ⟨rfl, hA⟩
  have h1' : 1 ≤ s := by omega
  by_cases h2 : 1125899906842624 < s
  · go_enter Try.func8, Try.ntmps8
    go_wp2
    go_ret
    exact ⟨rfl, hA⟩
  have h2' : s ≤ 1125899906842624 := by omega
  by_cases h3 : len < 1
  · obtain rfl : len = 0 := by omega
    go_enter Try.func8, Try.ntmps8
    go_wp2
    go_ret
    exact ⟨rfl, hA⟩
  have h3' : 1 ≤ len := by omega
  have h4 : 4 < len := by omega
  go_enter Try.func8, Try.ntmps8
  go_wp2
  go_ret
  exact ⟨rfl, hA⟩

set_option maxRecDepth 100000 in
set_option maxHeartbeats 4000000 in
theorem recIs_any (s : Int) (a : Option Addr) (len cap : Nat) (L : List PL) (w : World) (h : HasP w a len L) : Gives Try.prog 8 #[.agg #[.int .i64 s, .slice a len cap]] w (.bool (recB s L)) := by
  by_cases hs : s < 1 ∨ 1125899906842624 < s ∨ len < 1 ∨ 4 < len
  · rw [recB_short (by rw [h.1]; exact hs)]; exact recIs_short s a len cap L w h.1 h.2.1 hs
  have s1 : 1 ≤ s := by omega
  have s2 : s ≤ 1125899906842624 := by omega
  have l1 : 1 ≤ len := by omega
  have l2 : len ≤ 4 := by omega
  clear hs
  obtain ⟨hL, hm, hrow, hE⟩ := h
  have HE := Lib.hid hE
  have HL := Lib.hid hL
  obtain ⟨b, off, rfl, hb, hx⟩ := hrow.2.2 l1
  have HX := Lib.hid hx
  have hA := bel_alloc (Below.refl w.heap.size w) (.cells #[.int .i64 s, .slice (some ⟨b, off, none⟩) len cap] 32)
  have hk0 : (w.alloc (.cells #[.int .i64 s, .slice (some ⟨b, off, none⟩) len cap] 32)).cell? ⟨b, off + 1, none⟩ = some (.int .i64 L[0].1.k) := by
    have := (part_at10 hb hA hx (k := 0) (by omega)).2.1
    simpa using this
  have HF := Lib.hid (head_k (L := L) (by omega))
  have HN := Lib.hid (fun (k : Nat) (hk : k < L.length) h => recB_no (s := s) hk h)
  have HY := Lib.hid (fun h => recB_all (L := L) ⟨s1, s2⟩ (by omega) h)
  generalize L[0].1.k = k0 at *
  clear hE hL hrow hx
  unfold Gives
  cases hf : fwdOf L
  · rw [hf] at HF HN HY
    have hkn : ¬ k0 = 6 := of_decide_eq_false HF.out.symm
    have hk6 : (k0 == 6) = false := by simpa using hkn
    have HK := Lib.hid hkn
    clear hkn
    clear HF hf
    go_enter Try.func8, Try.ntmps8
    go_wp2
    go_loopw [35] (fun q wr => ∃ k : Nat, k ≤ len ∧ q = .int .i64 k ∧ (L.take k).all (okR false) = true ∧ Below w.heap.size w wr) (fun q _ => len - (intOf q).toNat)
    case atStart => exact ⟨0, by omega, rfl, rfl, hA⟩
    case round =>
      obtain ⟨k, hk, rfl, ha, hB⟩ := hrel
      have HAl := Lib.hid ha
      clear ha hk0
      by_cases hlt : k < len
      · have hkl : k < L.length := by rw [HL.out]; exact hlt
        obtain ⟨c0, c1, c2, c3, c4, c5, c6, c7, c8, c9⟩ := part_at10 hb hB HX.out hkl
        have HN2 := Lib.hid (HN.out k hkl)
        have HY2 := Lib.hid (show okR false L[k] = true → (L.take (k + 1)).all (okR false) = true from fun h => by rw [List.take_succ_eq_append_getElem hkl, List.all_append, HAl.out]; simp [h])
        have hEk := HE.out L[k] (List.getElem_mem hkl)
        clear HN HY HE HX HL HAl
        generalize L[k] = x at *
        obtain ⟨p, l⟩ := x
        have GI := Lib.hid (fun W (hW : Below w.heap.size w W) => is_any p l W (hEk.below hW))
        have HO := Lib.hid (show okR false (p, l) = (isB p l && (decide (p.k = 6) == false)) from rfl)
        obtain ⟨pg, pk, pa, plen, pcap, pht, phv, phc, pi, pt, pm, ph⟩ := p
        dsimp only [PartC.val] at *
        have hBw := bel2 hB (bel_alloc (Below.refl wr.heap.size wr) (.cells #[.int .i64 pg, .int .i64 pk, .slice pa plen pcap, .int .i64 pht, .int .i64 phv, .int .i64 phc, .int .i64 pi, .int .i64 pt, .bool pm, .bool ph] 30))
        clear hEk
        cases hi : isB ⟨pg, pk, pa, plen, pcap, pht, phv, phc, pi, pt, pm, ph⟩ l
        · rw [hi] at GI HO
          go_wp2_with (go_at_call 19; ((with_reducible refine (GI.out _ hBw).mono ?_); rintro e w1 ⟨rfl, hB1⟩))
          go_ret
          exact ⟨by rw [HN2.out HO.out]; rfl, bel2 hBw hB1⟩
        · rw [hi] at GI HO
          by_cases h6 : pk = 6
          · subst h6
            have HO2 := Lib.hid (show okR false (_, l) = false from HO.out.trans (by simp ))
            clear HO
            go_wp2_with (go_at_call 19; ((with_reducible refine (GI.out _ hBw).mono ?_); rintro e w1 ⟨rfl, hB1⟩; have d1 : w1.cell? ⟨wr.heap.size, 1, none⟩ = some (.int .i64 6) := blk_cell hB1 1))
            go_ret
            exact ⟨by rw [HN2.out HO2.out]; rfl, bel2 hBw hB1⟩
          · have h6' : (pk == 6) = false := by simpa using h6
            have H6 := Lib.hid h6
            clear h6
            have HO2 := Lib.hid (show okR false (_, l) = true from HO.out.trans (by simp [H6.out]))
            clear HO
            go_wp2_with (go_at_call 19; ((with_reducible refine (GI.out _ hBw).mono ?_); rintro e w1 ⟨rfl, hB1⟩; have d1 : w1.cell? ⟨wr.heap.size, 1, none⟩ = some (.int .i64 pk) := blk_cell hB1 1))
            go_roundw
            case rel => exact ⟨k + 1, by omega, by go_num, HY2.out HO2.out, bel2 hBw hB1⟩
            case measure => simp [intOf]; omega
      · obtain rfl : k = len := by omega
        have HV := Lib.hid (HY.out (by rw [HL.out]; exact HAl.out))
        go_wp2
        go_ret
        exact ⟨by rw [HV.out]; rfl, hB⟩
  · rw [hf] at HF HN HY
    have hk6 : k0 = 6 := of_decide_eq_true HF.out.symm
    subst hk6
    clear HF hf
    go_enter Try.func8, Try.ntmps8
    go_wp2
    go_loopw [35] (fun q wr => ∃ k : Nat, k ≤ len ∧ q = .int .i64 k ∧ (L.take k).all (okR true) = true ∧ Below w.heap.size w wr) (fun q _ => len - (intOf q).toNat)
    case atStart => exact ⟨0, by omega, rfl, rfl, hA⟩
    case round =>
      obtain ⟨k, hk, rfl, ha, hB⟩ := hrel
      have HAl := Lib.hid ha
      clear ha hk0
      by_cases hlt : k < len
      · have hkl : k < L.length := by rw [HL.out]; exact hlt
        obtain ⟨c0, c1, c2, c3, c4, c5, c6, c7, c8, c9⟩ := part_at10 hb hB HX.out hkl
        have HN2 := Lib.hid (HN.out k hkl)
        have HY2 := Lib.hid (show okR true L[k] = true → (L.take (k + 1)).all (okR true) = true from fun h => by rw [List.take_succ_eq_append_getElem hkl, List.all_append, HAl.out]; simp [h])
        have hEk := HE.out L[k] (List.getElem_mem hkl)
        clear HN HY HE HX HL HAl
        generalize L[k] = x at *
        obtain ⟨p, l⟩ := x
        have GI := Lib.hid (fun W (hW : Below w.heap.size w W) => is_any p l W (hEk.below hW))
        have HO := Lib.hid (show okR true (p, l) = (isB p l && (decide (p.k = 6) == true)) from rfl)
        obtain ⟨pg, pk, pa, plen, pcap, pht, phv, phc, pi, pt, pm, ph⟩ := p
        dsimp only [PartC.val] at *
        have hBw := bel2 hB (bel_alloc (Below.refl wr.heap.size wr) (.cells #[.int .i64 pg, .int .i64 pk, .slice pa plen pcap, .int .i64 pht, .int .i64 phv, .int .i64 phc, .int .i64 pi, .int .i64 pt, .bool pm, .bool ph] 30))
        clear hEk
        cases hi : isB ⟨pg, pk, pa, plen, pcap, pht, phv, phc, pi, pt, pm, ph⟩ l
        · rw [hi] at GI HO
          go_wp2_with (go_at_call 19; ((with_reducible refine (GI.out _ hBw).mono ?_); rintro e w1 ⟨rfl, hB1⟩))
          go_ret
          exact ⟨by rw [HN2.out HO.out]; rfl, bel2 hBw hB1⟩
        · rw [hi] at GI HO
          by_cases h6 : pk = 6
          · subst h6
            have HO2 := Lib.hid (show okR true (_, l) = true from HO.out.trans (by simp ))
            clear HO
            go_wp2_with (go_at_call 19; ((with_reducible refine (GI.out _ hBw).mono ?_); rintro e w1 ⟨rfl, hB1⟩; have d1 : w1.cell? ⟨wr.heap.size, 1, none⟩ = some (.int .i64 6) := blk_cell hB1 1))
            go_roundw
            case rel => exact ⟨k + 1, by omega, by go_num, HY2.out HO2.out, bel2 hBw hB1⟩
            case measure => simp [intOf]; omega
          · have h6' : (pk == 6) = false := by simpa using h6
            have H6 := Lib.hid h6
            clear h6
            have HO2 := Lib.hid (show okR true (_, l) = false from HO.out.trans (by simp [H6.out]))
            clear HO
            go_wp2_with (go_at_call 19; ((with_reducible refine (GI.out _ hBw).mono ?_); rintro e w1 ⟨rfl, hB1⟩; have d1 : w1.cell? ⟨wr.heap.size, 1, none⟩ = some (.int .i64 pk) := blk_cell hB1 1))
            go_ret
            exact ⟨by rw [HN2.out HO2.out]; rfl, bel2 hBw hB1⟩
      · obtain rfl : k = len := by omega
        have HV := Lib.hid (HY.out (by rw [HL.out]; exact HAl.out))
        go_wp2
        go_ret
        exact ⟨by rw [HV.out]; rfl, hB⟩


end Go.Proofs.Ytbhhbjgdkcfagaa

/- The contracts of slices.EqualFunc at parts, and of package record's Same. -/
namespace Go.Proofs.Ytbhhbjgdkcfagaa
open Go.RowKit Go.Shelf
set_option linter.unusedVariables false
attribute [local go_sem] Oper.semAt_some wide_fn wide_round_fn


set_option maxRecDepth 100000 in
set_option maxHeartbeats 4000000 in
theorem equalFn_any (a1 a2 : Option Addr) (n1 n2 k1 k2 : Nat) (L M : List PL) (w : World) (h1 : HasP w a1 n1 L) (h2 : HasP w a2 n2 M) :
    Gives Try.prog 25 #[.slice a1 n1 k1, .slice a2 n2 k2, .func (.func 26) #[] #[]] w (.bool (samePs L M)) := by
  obtain ⟨hL, hm1, hr1, hE1⟩ := h1
  obtain ⟨hM, hm2, hr2, hE2⟩ := h2
  have hc1 := hr1.2.2
  have hc2 := hr2.2.2
  have HE1 := Lib.hid hE1
  have HE2 := Lib.hid hE2
  clear hr1 hr2 hE1 hE2
  unfold Gives
  by_cases hne : n1 = n2
  · subst hne
    have HL := Lib.hid hL
    have HM := Lib.hid hM
    clear hL hM
    go_enter Try.func25, Try.ntmps25
    go_wp2
    go_loopw [17] (fun i wr => ∃ k : Nat, k ≤ n1 ∧ i = .int .i64 k ∧ samePs (L.take k) (M.take k) = true ∧ Below w.heap.size w wr) (fun i _ => n1 - (intOf i).toNat)
    case atStart => exact ⟨0, by omega, rfl, by simp [samePs], Below.refl _ _⟩
    case round =>
      obtain ⟨k, hk, rfl, ht, hB⟩ := hrel
      have HT := Lib.hid ht
      clear ht
      by_cases hlt : k < n1
      · obtain ⟨b1, o1, rfl, hb1, hx1⟩ := hc1 (by omega)
        obtain ⟨b2, o2, rfl, hb2, hx2⟩ := hc2 (by omega)
        have hkl : k < L.length := by rw [HL.out]; exact hlt
        have hkm : k < M.length := by rw [HM.out]; exact hlt
        obtain ⟨c0, c1, c2, c3, c4, c5, c6, c7, c8, c9⟩ := part_at10 hb1 hB hx1 hkl
        obtain ⟨d0, d1, d2, d3, d4, d5, d6, d7, d8, d9⟩ := part_at10 hb2 hB hx2 hkm
        have hq1 : b1 < wr.heap.size := Nat.lt_of_lt_of_le hb1 hB.size
        have hq2 : b2 < wr.heap.size := Nat.lt_of_lt_of_le hb2 hB.size
        have HS := Lib.hid (show samePs (L.take (k + 1)) (M.take (k + 1)) = (true && sameB L[k].1 M[k].1 L[k].2 M[k].2) by rw [samePs_take hkl hkm, HT.out])
        have HN := Lib.hid (fun h => samePs_no hkl hkm h)
        have hx := HE1.out L[k] (List.getElem_mem _)
        have hy := HE2.out M[k] (List.getElem_mem _)
        have G := Lib.hid (fun W (hW : Below w.heap.size w W) => same_any _ _ _ _ W (hx.below hW) (hy.below hW))
        clear hx hy hx1 hx2 hc1 hc2 HE1 HE2 HT
        generalize L[k] = x at *
        generalize M[k] = y at *
        obtain ⟨p, l⟩ := x
        obtain ⟨q, m⟩ := y
        dsimp only at *
        generalize hs : sameB p q l m = c at *
        clear hs
        obtain ⟨pg, pk, pa, plen, pcap, pht, phv, phc, pi, pt, pm, ph⟩ := p
        obtain ⟨qg, qk, qa, qlen, qcap, qht, qhv, qhc, qi, qt, qm, qh⟩ := q
        dsimp only [PartC.val] at *
        have hBw := bel2 (bel2 hB (bel_alloc (Below.refl wr.heap.size wr) (.cells #[.int .i64 pg, .int .i64 pk, .slice pa plen pcap, .int .i64 pht, .int .i64 phv, .int .i64 phc, .int .i64 pi, .int .i64 pt, .bool pm, .bool ph] 30))) (bel_alloc (Below.refl (wr.alloc (.cells #[.int .i64 pg, .int .i64 pk, .slice pa plen pcap, .int .i64 pht, .int .i64 phv, .int .i64 phc, .int .i64 pi, .int .i64 pt, .bool pm, .bool ph] 30)).heap.size (wr.alloc (.cells #[.int .i64 pg, .int .i64 pk, .slice pa plen pcap, .int .i64 pht, .int .i64 phv, .int .i64 phc, .int .i64 pi, .int .i64 pt, .bool pm, .bool ph] 30))) (.cells #[.int .i64 qg, .int .i64 qk, .slice qa qlen qcap, .int .i64 qht, .int .i64 qhv, .int .i64 qhc, .int .i64 qi, .int .i64 qt, .bool qm, .bool qh] 30))
        cases c
        · have HN2 := Lib.hid (HN.out rfl)
          clear HN HS
          go_wp2_with (go_at_call 26; ((with_reducible refine (G.out _ hBw).mono ?_); rintro e w1 ⟨rfl, hB1⟩))
          go_ret
          exact ⟨by rw [HN2.out]; rfl, bel2 hBw hB1⟩
        · have HS2 := Lib.hid HS.out
          clear HN HS
          go_wp2_with (go_at_call 26; ((with_reducible refine (G.out _ hBw).mono ?_); rintro e w1 ⟨rfl, hB1⟩))
          go_roundw
          case rel => exact ⟨k + 1, by omega, by go_num, HS2.out, bel2 hBw hB1⟩
          case measure => simp [intOf]; omega
      · obtain rfl : k = n1 := by omega
        have HV := Lib.hid (show samePs L M = true by
          have := HT.out
          rwa [List.take_of_length_le (by rw [HL.out]; omega), List.take_of_length_le (by rw [HM.out]; omega)] at this)
        go_wp2
        go_ret
        exact ⟨by rw [HV.out]; rfl, hB⟩
  · have HV := Lib.hid (show samePs L M = false by rw [Bool.eq_false_iff]; intro h; have := samePs_len h; omega)
    go_enter Try.func25, Try.ntmps25
    go_wp2
    go_ret
    exact ⟨by rw [HV.out]; rfl, Below.refl _ _⟩

set_option maxRecDepth 100000 in
set_option maxHeartbeats 1000000 in
theorem recSame_any (s t : Int) (a1 a2 : Option Addr) (n1 n2 k1 k2 : Nat) (L M : List PL) (w : World) (h1 : HasP w a1 n1 L) (h2 : HasP w a2 n2 M) :
    Gives Try.prog 13 #[.agg #[.int .i64 s, .slice a1 n1 k1], .agg #[.int .i64 t, .slice a2 n2 k2]] w (.bool (sameR s t L M)) := by
  have G := Lib.hid (fun W (hW : Below w.heap.size w W) => equalFn_any a1 a2 n1 n2 k1 k2 L M W (h1.below hW) (h2.below hW))
  have hBw := bel_alloc (bel_alloc (Below.refl w.heap.size w) (.cells #[.int .i64 s, .slice a1 n1 k1] 32)) (.cells #[.int .i64 t, .slice a2 n2 k2] 32)
  clear h1 h2
  unfold Gives sameR
  by_cases e : s = t
  · subst e
    go_enter Try.func13, Try.ntmps13
    go_wp2_with (go_at_call 25; ((with_reducible refine (G.out _ hBw).mono ?_); rintro e w1 ⟨rfl, hB1⟩))
    go_ret
    exact ⟨by simp, bel2 hBw hB1⟩
  · go_enter Try.func13, Try.ntmps13
    go_wp2
    go_ret
    exact ⟨by simp [e], hBw⟩

end Go.Proofs.Ytbhhbjgdkcfagaa

/- The contracts of package record's texts, body, Bytes, Size. -/
namespace Go.Proofs.Ytbhhbjgdkcfagaa
open Go.RowKit Go.Shelf
set_option linter.unusedVariables false
attribute [local go_sem] Oper.semAt_some wide_fn wide_round_fn

theorem Rd.toBelow {B n : Nat} {S : Nat → Prop} {w w' : World} (h : Rd B S w w') (hn : n ≤ w.heap.size) (hS : ∀ k, k < n → S k) : Below n w w' :=
  ⟨h.os, h.tape, h.output, h.size, fun k hk => by
    obtain ⟨o, ho⟩ : ∃ o, w.heap[k]? = some o := ⟨_, Array.getElem?_eq_some_iff.2 ⟨by omega, rfl⟩⟩
    rw [ho]; exact h.block k o ho (.inl (hS k hk))⟩

set_option maxRecDepth 100000 in
set_option maxHeartbeats 4000000 in
theorem recTexts_iter (Bp : Nat) (a : Option Addr) (len cap : Nat) (L : List PL) (w w0 : World) (h : HasP w a len L) (hok : ∀ x ∈ L, isB x.1 x.2 = true) (hB0 : Below w.heap.size w w0) (hBp : w0.heap[Bp]? = some (.cells #[.slice a len cap] 22 (0, 0))) :
    Iter Try.prog 53 #[.pointer (some ⟨Bp, 0, none⟩)] (fun s : ByteArray => #[.string s]) (L.map fun x => bytesS x.1 x.2) (fun k => k < w.heap.size ∨ k = Bp) (fun _ => False) w0 := by
  intro J0 J Jx W hW hJs _ hY h0
  have hcl0 : W.cell? ⟨Bp, 0, none⟩ = some (.slice a len cap) := cell_of_row _ _ 0 _ _ _ (hW.get hBp (.inr rfl))
  have hBW : Below w.heap.size w W := hB0.trans (hW.toBelow hB0.size fun k hk => .inl hk)
  obtain ⟨hL, hm, hrow, hE⟩ := h
  have HL := Lib.hid hL
  have HE := Lib.hid hE
  have HO := Lib.hid hok
  have hcs := hrow.2.2
  clear hL hE hok hrow
  refine callsIn_of_wp Try.func53 rfl trivial ?_ rfl
  simp only [Try.ntmps53, List.size_toArray, List.length_cons, List.length_nil, Nat.reduceAdd, Nat.reduceSub, Array.replicate_succ, Array.replicate_zero, List.push_toArray, List.append_toArray, List.nil_append, List.cons_append]
  gi_wp2
  gi_loopw [9] (fun q wr => ∃ (k : Nat) (pre : List ByteArray), k ≤ len ∧ q = .int .i64 k ∧ (L.map fun x => bytesS x.1 x.2) = pre ++ (L.drop k).map (fun x => bytesS x.1 x.2) ∧ J pre wr ∧ Rd W.heap.size (fun k => k < w.heap.size ∨ k = Bp) W wr) (fun q _ => len - (intOf q).toNat)
  case atStart => exact ⟨0, [], by omega, rfl, rfl, h0, Rd.refl _ _ _⟩
  case round =>
    obtain ⟨k, pre, hk, rfl, hX, hJ, hR⟩ := hrel
    have HX0 := Lib.hid hX
    clear hX
    by_cases hlt : k < len
    · obtain ⟨b, off, rfl, hb, hx⟩ := hcs (by omega)
      have hkl : k < L.length := by rw [HL.out]; exact hlt
      have hB : Below w.heap.size w wr := hBW.trans (hR.toBelow hBW.size fun k hk => .inl hk)
      obtain ⟨c0, c1, c2, c3, c4, c5, c6, c7, c8, c9⟩ := part_at10 hb hB hx hkl
      have HX := Lib.hid (show (L.map fun x => bytesS x.1 x.2) = pre ++ (bytesS L[k].1 L[k].2 :: (L.drop (k + 1)).map (fun x => bytesS x.1 x.2)) by rw [HX0.out, List.drop_eq_getElem_cons hkl]; rfl)
      have hEk := HE.out L[k] (List.getElem_mem hkl)
      have hok := HO.out L[k] (List.getElem_mem hkl)
      have GB := Lib.hid (fun W (hW : Below w.heap.size w W) => show Gives Try.prog 54 #[L[k].1.val] W (.tuple #[.string (bytesS L[k].1 L[k].2), .int .i64 0]) from by have := bytes_any L[k].1 L[k].2 W (hEk.below hW); unfold bytesE at this; rwa [if_pos hok] at this)
      clear hx HX0 hEk hok hcl0
      generalize L[k] = x at *
      obtain ⟨p, l⟩ := x
      dsimp only at *
      generalize bytesS p l = X at *
      obtain ⟨pg, pk, pa, plen, pcap, pht, phv, phc, pi, pt, pm, ph⟩ := p
      dsimp only [PartC.val] at *
      have hBw := bel2 hB (bel_alloc (Below.refl wr.heap.size wr) (.cells #[.int .i64 pg, .int .i64 pk, .slice pa plen pcap, .int .i64 pht, .int .i64 phv, .int .i64 phc, .int .i64 pi, .int .i64 pt, .bool pm, .bool ph] 30))
      have hRR := hR.alloc (.cells #[.int .i64 pg, .int .i64 pk, .slice pa plen pcap, .int .i64 pht, .int .i64 phv, .int .i64 phc, .int .i64 pi, .int .i64 pt, .bool pm, .bool ph] 30)
      have hJJ := hJs _ _ _ hJ (Moves.alloc wr (.cells #[.int .i64 pg, .int .i64 pk, .slice pa plen pcap, .int .i64 pht, .int .i64 phv, .int .i64 phc, .int .i64 pi, .int .i64 pt, .bool pm, .bool ph] 30))
      clear hJ
      gi_wp2_with (gi_at_call 54; refine (callsIn_wide.2 (GB.out _ hBw)).mono ?_; rintro e w4 ⟨rfl, hB⟩; replace hRR := hRR.trans (Rd.below hB); replace hJJ := hJs _ _ _ hJJ (Moves.below hB); obtain ⟨fn, tmps, assign, body, hy, hR1⟩ := hY _ _ _ w4 HX.out hJJ)
      refine (roundIn_wide_n hR1).mono ?_
      rintro e W3 (⟨rfl, hJ3, hk3⟩ | ⟨rfl, hJx3⟩)
      · gi_wp2
        go_roundw
        case rel => exact ⟨k + 1, _, by omega, by go_num, by rw [HX.out]; simp, hJ3, hRR.trans hk3⟩
        case measure => simp [intOf]; omega
      · gi_wp2
        refine bodyPost_ret (results_none rfl _ _ _) rfl ?_
        exact ⟨⟨_, rfl⟩, .inr ⟨_, _, _, HX.out, hJx3⟩⟩
    · obtain rfl : k = len := by omega
      have HX := Lib.hid (show (L.map fun x => bytesS x.1 x.2) = pre by rw [HX0.out, List.drop_of_length_le (by rw [HL.out]; omega)]; simp)
      gi_wp2
      refine bodyPost_end (results_none rfl _ _ _) rfl ?_
      exact ⟨⟨_, rfl⟩, .inl (by rw [HX.out]; exact hJ)⟩

theorem recTexts_makes (a : Option Addr) (len cap : Nat) (L : List PL) (w w0 : World) (h : HasP w a len L) (hok : ∀ x ∈ L, isB x.1 x.2 = true) (hB0 : Below w.heap.size w w0) :
    Calls Try.prog 39 #[.slice a len cap] w0 fun e w' => ∃ lb, e = .returned (.func (.func 53) #[] lb) ∧ w' = w0.alloc (.cells #[.slice a len cap] 22) ∧
      Iter Try.prog 53 lb (fun s : ByteArray => #[.string s]) (L.map fun x => bytesS x.1 x.2) (fun k => k < w.heap.size ∨ k = w0.heap.size) (fun _ => False) w' := by
  have HI := Lib.hid (recTexts_iter w0.heap.size a len cap L w (w0.alloc (.cells #[.slice a len cap] 22)) h hok (bel2 hB0 (bel_alloc (Below.refl _ _) _)) (World.alloc_heap_new w0 _))
  clear h hok hB0
  go_enter Try.func39, Try.ntmps39
  go_wp2
  go_ret
  exact ⟨_, rfl, rfl, HI.out⟩

/-- What body's loop holds: the builder, its pointer, the parts that the iterator reads. -/
def bodI (w : World) (b q X : Nat) (v : Value) (bs : List UInt8) (pre : List ByteArray) (W : World) : Prop :=
  Builds w.heap.size b (Lib.byteCells (bs ++ pre.flatMap fun s => s.data.toList)) W ∧ (W.heap[q]? = some (.cells #[.pointer (some ⟨b, 0, none⟩)] 64 (0, 0)) ∧
    (W.heap[X]? = some (.cells #[v] 22 (0, 0)) ∧ Below w.heap.size w W))
theorem bodI_stab {w : World} {b q X C : Nat} {v : Value} {bs : List UInt8} {pre : List ByteArray} (h : w.heap.size ≤ C) : Stab C (fun _ => False) (bodI w b q X v bs pre) :=
  builds_stab.and ((Stab.block id (.inr rfl)).and ((Stab.block id (.inr rfl)).and (Stab.below (Nat.le_refl _) h (fun _ h => h.elim))))
theorem flat_bytes {L : List PL} (h : ∀ x ∈ L, isB x.1 x.2 = true) : ((L.map fun x => bytesS x.1 x.2).flatMap fun s => s.data.toList) = allB L := by
  induction L with
  | nil => rfl
  | cons x r ih =>
    have h1 := h x List.mem_cons_self
    have e1 : (bytesS x.1 x.2).data.toList = bytP x := by unfold bytesS; rw [if_pos h1]; rfl
    simp only [List.map_cons, List.flatMap_cons, e1, ih (fun y hy => h y (List.mem_cons_of_mem _ hy))]
    rfl
set_option maxRecDepth 100000 in
set_option maxHeartbeats 8000000 in
theorem recBody_any (s : Int) (a : Option Addr) (len cap : Nat) (L : List PL) (w : World) (h : HasP w a len L) (hok : recB s L = true) : Gives Try.prog 21 #[.agg #[.int .i64 s, .slice a len cap]] w (.string (bodyS s L)) := by
  obtain ⟨hsb, hLb, hAll⟩ := recB_iff.1 hok
  have hIs : ∀ x ∈ L, isB x.1 x.2 = true := fun x hx => okR_isB (hAll x hx)
  have HLen := Lib.hid (bodyL_len (fun x hx => (h.2.2.2 x hx).1) hok)
  have HV := Lib.hid (show bodyL s L = (sevL s.toNat ++ sevL ((len : Int)).toNat) ++ ((L.map fun x => bytesS x.1 x.2).flatMap fun s => s.data.toList) by rw [flat_bytes hIs]; unfold bodyL; rw [h.1, List.append_assoc]; rfl)
  have GS := Lib.hid (put_any s (by omega)); have GN := Lib.hid (put_any (len : Int) (by have := h.2.1; omega))
  have HH := Lib.hid h
  have HI := Lib.hid hIs
  have hl1 := sevL_len s.toNat; have hl2 := sevL_len ((len : Int)).toNat
  have hz1 : (⟨(sevL s.toNat).toArray⟩ : ByteArray).size = (sevL s.toNat).length := rfl
  have hz2 : (⟨(sevL ((len : Int)).toNat).toArray⟩ : ByteArray).size = (sevL ((len : Int)).toNat).length := rfl
  have HP := Lib.hid (show (⟨(sevL s.toNat).toArray⟩ ++ ⟨(sevL ((len : Int)).toNat).toArray⟩ : ByteArray).data.toList = sevL s.toNat ++ sevL ((len : Int)).toNat by simp)
  have HPz := Lib.hid (show (Lib.byteCells []).length + (⟨(sevL s.toNat).toArray⟩ ++ ⟨(sevL ((len : Int)).toNat).toArray⟩ : ByteArray).size ≤ 140737488355328 by rw [ByteArray.size_append, hz1, hz2]; have : (Lib.byteCells []).length = 0 := rfl; omega)
  generalize (⟨(sevL s.toNat).toArray⟩ : ByteArray) = X1 at *
  generalize (⟨(sevL ((len : Int)).toNat).toArray⟩ : ByteArray) = X2 at *
  have hcat : ¬ 9223372036854775807 < X1.size + X2.size := by omega
  have HV2 := Lib.hid (show bodyL s L = (X1 ++ X2).data.toList ++ ((L.map fun x => bytesS x.1 x.2).flatMap fun s => s.data.toList) by rw [HP.out]; exact HV.out)
  have HV3 := Lib.hid (show bodyL s L = X1.data.toList ++ (X2.data.toList ++ ((L.map fun x => bytesS x.1 x.2).flatMap fun s => s.data.toList)) by rw [HV2.out]; simp)
  have HT := Lib.hid (show ((X1 ++ X2).data.toList ++ ((L.map fun x => bytesS x.1 x.2).flatMap fun s => s.data.toList)).length ≤ 1950 by rw [← HV2.out]; exact HLen.out.2)
  have HNe := Lib.hid (show (X1 ++ X2).data.toList ++ ((L.map fun x => bytesS x.1 x.2).flatMap fun s => s.data.toList) ≠ [] by rw [← HV2.out]; intro e; have := HLen.out.1; rw [e] at this; simp at this)
  clear hIs hAll h hok hLb hsb hz1 hz2 hl1 hl2
  refine (callsIn_wide (n := 9)).1 ?_
  refine callsIn_of_wp_marks Try.func21 rfl trivial ?_ rfl
  simp only [Try.ntmps21, List.size_toArray, List.length_cons, List.length_nil, Nat.reduceAdd, Nat.reduceSub, Array.replicate_succ, Array.replicate_zero, List.push_toArray, List.append_toArray, List.nil_append, List.cons_append]
  gi_wp2
  have hr := three_a w #[.int .i64 s, .slice a len cap] #[.pointer none, .slice none 0 0] #[.pointer (some ⟨w.heap.size + 1, 0, none⟩)] 32 66 64
  have hq := three_c w #[.int .i64 s, .slice a len cap] #[.pointer none, .slice none 0 0] #[.pointer (some ⟨w.heap.size + 1, 0, none⟩)] 32 66 64
  have hA := bel_alloc (bel_alloc (bel_alloc (Below.refl w.heap.size w) (.cells #[.int .i64 s, .slice a len cap] 32)) (.cells #[.pointer none, .slice none 0 0] 66)) (.cells #[.pointer (some ⟨w.heap.size + 1, 0, none⟩)] 64)
  have HB := Lib.hid (show Builds w.heap.size (w.heap.size + 1) (Lib.byteCells []) (((w.alloc (.cells #[.int .i64 s, .slice a len cap] 32)).alloc (.cells #[.pointer none, .slice none 0 0] 66)).alloc (.cells #[.pointer (some ⟨w.heap.size + 1, 0, none⟩)] 64)) from Builds.kept (.inl ⟨by omega, .slice none 0 0, alloc_new1 _ _ _ (by simp), World.ownsRow_nil _ _ _ _, by simp [Value.ownBlock]⟩) (bel_alloc (Below.refl _ _) _))
  obtain ⟨W3, hW3⟩ : ∃ W3, W3 = ((w.alloc (.cells #[.int .i64 s, .slice a len cap] 32)).alloc (.cells #[.pointer none, .slice none 0 0] 66)).alloc (.cells #[.pointer (some ⟨w.heap.size + 1, 0, none⟩)] 64) := ⟨_, rfl⟩
  rw [← hW3] at hr hq hA HB ⊢
  clear hW3
  have c0 : W3.cell? ⟨w.heap.size, 0, none⟩ = some (.int .i64 s) := cell_of_row _ _ 0 _ _ _ hr
  have c1 : W3.cell? ⟨w.heap.size, 1, none⟩ = some (.slice a len cap) := cell_of_row _ _ 1 _ _ _ hr
  have cq : W3.cell? ⟨w.heap.size + 1 + 1, 0, none⟩ = some (.pointer (some ⟨w.heap.size + 1, 0, none⟩)) := cell_of_row _ _ 0 _ _ _ hq
  replace hA := hA.drew
  replace HB := Lib.hid (show Builds w.heap.size (w.heap.size + 1) (Lib.byteCells []) W3.drew from HB.out)
  replace hr : W3.drew.heap[w.heap.size]? = _ := hr
  replace hq : W3.drew.heap[w.heap.size + 1 + 1]? = _ := hq
  refine wpIn_wide.2 ?_
  go_region_held3 (fun W' => W'.cell? ⟨w.heap.size + 1 + 1, 0, none⟩ = some (.pointer (some ⟨w.heap.size + 1, 0, none⟩)) ∧ W'.cell? ⟨w.heap.size, 0, none⟩ = some (.int .i64 s) ∧ W'.cell? ⟨w.heap.size, 1, none⟩ = some (.slice a len cap)) (go_keep) (first
    | (go_at_call 38; (with_reducible refine (GS.out _).mono ?_); rintro e w4 ⟨rfl, hX⟩; replace hA := bel2 hA hX; replace HB := Lib.hid (HB.out.kept hX); replace hr := (hX.block _ (heap_lt hr)).trans hr; replace hq := (hX.block _ (heap_lt hq)).trans hq; clear c0 c1 cq hX; have c0 : w4.cell? ⟨w.heap.size, 0, none⟩ = some (.int .i64 s) := cell_of_row _ _ 0 _ _ _ hr; have c1 : w4.cell? ⟨w.heap.size, 1, none⟩ = some (.slice a len cap) := cell_of_row _ _ 1 _ _ _ hr; have cq : w4.cell? ⟨w.heap.size + 1 + 1, 0, none⟩ = some (.pointer (some ⟨w.heap.size + 1, 0, none⟩)) := cell_of_row _ _ 0 _ _ _ hq)
    | (go_at_call 38; (with_reducible refine (GN.out _).mono ?_); rintro e w5 ⟨rfl, hX⟩; replace hA := bel2 hA hX; replace HB := Lib.hid (HB.out.kept hX); replace hr := (hX.block _ (heap_lt hr)).trans hr; replace hq := (hX.block _ (heap_lt hq)).trans hq; clear c0 c1 cq hX; have c0 : w5.cell? ⟨w.heap.size, 0, none⟩ = some (.int .i64 s) := cell_of_row _ _ 0 _ _ _ hr; have c1 : w5.cell? ⟨w.heap.size, 1, none⟩ = some (.slice a len cap) := cell_of_row _ _ 1 _ _ _ hr; have cq : w5.cell? ⟨w.heap.size + 1 + 1, 0, none⟩ = some (.pointer (some ⟨w.heap.size + 1, 0, none⟩)) := cell_of_row _ _ 0 _ _ _ hq)
    | (go_at_call 37; (refine (writeString_any w.heap.size (w.heap.size + 1) _ _ _ HB.out HPz.out hA.size).mono ?_); rintro e w6 ⟨rfl, h1, h2, h3⟩; have HB6 := Lib.hid h1; replace hA := hA.trans h2; replace hr := h3.cells hr (Nat.succ_ne_self _).symm (by decide); replace hq := h3.cells hq (Nat.succ_ne_self _) (by decide); clear c0 c1 cq h1 h2 h3; have c0 : w6.cell? ⟨w.heap.size, 0, none⟩ = some (.int .i64 s) := cell_of_row _ _ 0 _ _ _ hr; have c1 : w6.cell? ⟨w.heap.size, 1, none⟩ = some (.slice a len cap) := cell_of_row _ _ 1 _ _ _ hr; have cq : w6.cell? ⟨w.heap.size + 1 + 1, 0, none⟩ = some (.pointer (some ⟨w.heap.size + 1, 0, none⟩)) := cell_of_row _ _ 0 _ _ _ hq))
  all_goals
    have HB7 := Lib.hid (show Builds w.heap.size (w.heap.size + 1) (Lib.byteCells ((X1 ++ X2).data.toList ++ ([] : List ByteArray).flatMap fun s => s.data.toList)) w6 from .inr (by have := HB6.out; simp only [List.flatMap_nil, List.append_nil]; exact this))
    clear HB HB6
    gi_wp2_with (gi_at_call 39; refine (callsIn_wide.2 (recTexts_makes a len cap L w w6 HH.out HI.out hA)).mono ?_; rintro e w9 ⟨lb, rfl, rfl, hI9⟩)
    have hW9 : Below w6.heap.size w6 (w6.alloc (.cells #[.slice a len cap] 22)) := bel_alloc (Below.refl _ _) _
    have hs9 : w.heap.size ≤ (w6.alloc (.cells #[.slice a len cap] 22)).heap.size := Nat.le_trans hA.size hW9.size
    refine range_outer rfl (enters_of Try.func53 (by kernel_rfl) rfl) hI9 (fun _ => rfl) (fun k hk => hk.elim (fun h => Nat.lt_of_lt_of_le h hs9) (fun e => by rw [e, World.size_alloc]; exact Nat.lt_succ_self _)) (fun _ h => h.elim)
      (fun pre W => bodI w (w.heap.size + 1) (w.heap.size + 1 + 1) w6.heap.size (.slice a len cap) (X1 ++ X2).data.toList pre W) (fun _ _ _ => False) (fun _ => bodI_stab hs9) (fun _ _ => Stab.pure _)
      ⟨HB7.out.kept hW9, (hW9.block _ (heap_lt hq)).trans hq, World.alloc_heap_new _ _, hA.trans (hW9.mono hA.size)⟩ ?hr ?hd (fun _ _ _ _ _ _ h => h.elim)
    case hr =>
      rintro L0 pre x suf W hx hl' hi1 hrec
      dsimp only
      gi_wp2
      refine rdThen_mk _ (bodI_stab hs9) hi1 (Rd.refl _ _ _) ?_
      clear hi1 hrec W
      rintro W ⟨hb, hqW, hX, hBl⟩ hrec
      have cqW : W.cell? ⟨w.heap.size + 1 + 1, 0, none⟩ = some (.pointer (some ⟨w.heap.size + 1, 0, none⟩)) := cell_of_row _ _ 0 _ _ _ hqW
      have HLx := Lib.hid (show (Lib.byteCells ((X1 ++ X2).data.toList ++ pre.flatMap fun s => s.data.toList)).length + x.size ≤ 140737488355328 by
        have h1 := HT.out
        rw [hx] at h1
        have h3 : x.size = x.data.toList.length := by rw [Array.length_toList]; rfl
        rw [byteCells_len]
        simp only [List.flatMap_append, List.flatMap_cons, List.length_append] at *
        omega)
      have HBx := Lib.hid hb
      have hWs := hBl.size
      clear hx hb
      gi_wp2_with (gi_at_call 37; refine (callsIn_wide.2 (writeString_any w.heap.size (w.heap.size + 1) _ x W HBx.out HLx.out hWs)).mono ?_; rintro e w7 ⟨rfl, h1, h2, h3⟩)
      have hnX : w6.heap.size ≠ w.heap.size + 1 := by have := HB7.out.lt; omega
      refine ⟨rd_of_keeps HBx.out h3 h2 (fun k hk => hk.elim (fun h => .inl h) (fun e => .inr ⟨by rw [e]; exact hnX, #[.slice a len cap], 22, (0, 0), by rw [e]; exact hX, by decide⟩)), .inr ?_, h3.cells hqW (Nat.succ_ne_self _) (by decide), h3.cells hX hnX (by decide), hBl.trans h2⟩
      have e1 : Lib.byteCells ((X1 ++ X2).data.toList ++ (pre ++ [x]).flatMap fun s => s.data.toList) = Lib.byteCells ((X1 ++ X2).data.toList ++ pre.flatMap fun s => s.data.toList) ++ Lib.strCells x := by
        rw [List.flatMap_append, ← List.append_assoc, byteCells_app, List.flatMap_singleton]; rfl
      rw [e1]
      exact h1
    case hd =>
      rintro W ⟨hb, hqW, hX, hBl⟩ hD
      have cqW : W.cell? ⟨w.heap.size + 1 + 1, 0, none⟩ = some (.pointer (some ⟨w.heap.size + 1, 0, none⟩)) := cell_of_row _ _ 0 _ _ _ hqW
      have HBx := Lib.hid hb
      clear hb
      gi_wp2_with (gi_at_call 40; refine (callsIn_wide.2 (string_full w.heap.size (w.heap.size + 1) _ W HBx.out HNe.out)).mono ?_; rintro e w8 ⟨rfl, h2, h3⟩)
      have hD2 := h3.block _ _ hD (by rintro e; obtain ⟨cs, hcs⟩ := HBx.out.cells; rw [e, hcs] at hD; cases hD) (by rintro cs fr ⟨⟩)
      rw [World.size_alloc] at hD2
      exact leave_one hD2 (results_tmp rfl _ _ _) ⟨by unfold bodyS; rw [HV3.out]; rfl, below_putObj (hBl.trans h2) (Nat.le_refl _) (by rw [World.size_alloc] at hs9; exact hs9) _⟩

set_option maxRecDepth 100000 in
set_option maxHeartbeats 1000000 in
theorem recBytes_any (s : Int) (a : Option Addr) (len cap : Nat) (L : List PL) (w : World) (h : HasP w a len L) : Gives Try.prog 9 #[.agg #[.int .i64 s, .slice a len cap]] w (.tuple #[.string (recS s L), .int .i64 (recE s L)]) := by
  have GI := Lib.hid (fun W (hW : Below w.heap.size w W) => recIs_any s a len cap L W (h.below hW))
  have hA := bel_alloc (Below.refl w.heap.size w) (.cells #[.int .i64 s, .slice a len cap] 32)
  unfold Gives recS recE
  by_cases hok : recB s L = true
  · have GB := Lib.hid (fun W (hW : Below w.heap.size w W) => recBody_any s a len cap L W (h.below hW) hok)
    obtain ⟨z1, z2⟩ := bodyL_len (fun x hx => (h.2.2.2 x hx).1) hok
    have GW := Lib.hid (wrap_ok (bodyS s L) (by show 0 < (bodyL s L).length; omega) (by show (bodyL s L).length ≤ 2000; omega))
    rw [if_pos hok, if_pos hok]
    rw [hok] at GI
    clear hok h z1 z2
    go_enter Try.func9, Try.ntmps9
    go_wp2_with (first
      | (go_at_call 8; ((with_reducible refine (GI.out _ hA).mono ?_); rintro e w1 ⟨rfl, hB1⟩; replace hA := bel2 hA hB1; have c0 : w1.cell? ⟨w.heap.size, 0, none⟩ = some (.int .i64 s) := blk_cell hB1 0; have c1 : w1.cell? ⟨w.heap.size, 1, none⟩ = some (.slice a len cap) := blk_cell hB1 1))
      | (go_at_call 21; ((with_reducible refine (GB.out _ hA).mono ?_); rintro e w2 ⟨rfl, hB2⟩; replace hA := bel2 hA hB2))
      | (go_at_call 20; ((with_reducible refine (GW.out _).mono ?_); rintro e w3 ⟨rfl, hB3⟩; replace hA := bel2 hA hB3)))
    go_ret2
    exact ⟨rfl, hA⟩
  · rw [if_neg hok, if_neg hok]
    rw [Bool.eq_false_iff.2 hok] at GI
    clear hok h
    go_enter Try.func9, Try.ntmps9
    go_wp2_with (go_at_call 8; ((with_reducible refine (GI.out _ hA).mono ?_); rintro e w1 ⟨rfl, hB1⟩; replace hA := bel2 hA hB1))
    go_ret2
    exact ⟨rfl, hA⟩

theorem recS_size {w : World} {s : Int} {a : Option Addr} {len : Nat} {L : List PL} (h : HasP w a len L) : (recS s L).size ≤ 1962 := by
  unfold recS
  split
  · rename_i hok
    have := bodyL_len (fun x hx => (h.2.2.2 x hx).1) hok
    rw [wrapB_size]
    show (bodyL s L).length + 12 ≤ 1962
    omega
  · exact Nat.zero_le _
set_option maxRecDepth 100000 in
set_option maxHeartbeats 1000000 in
theorem recSize_any (s : Int) (a : Option Addr) (len cap : Nat) (L : List PL) (w : World) (h : HasP w a len L) : Gives Try.prog 12 #[.agg #[.int .i64 s, .slice a len cap]] w (.int .i64 (recS s L).size) := by
  have GB := Lib.hid (fun W (hW : Below w.heap.size w W) => recBytes_any s a len cap L W (h.below hW))
  have hA := bel_alloc (Below.refl w.heap.size w) (.cells #[.int .i64 s, .slice a len cap] 32)
  have hz := recS_size (s := s) h
  generalize recS s L = X at *
  generalize recE s L = n at *
  clear h
  unfold Gives
  go_enter Try.func12, Try.ntmps12
  go_wp2_with (go_at_call 9; ((with_reducible refine (GB.out _ hA).mono ?_); rintro e w1 ⟨rfl, hB1⟩))
  go_ret
  exact ⟨rfl, bel2 hA hB1⟩

end Go.Proofs.Ytbhhbjgdkcfagaa

/- The contracts of package record's parts, open. -/
namespace Go.Proofs.Ytbhhbjgdkcfagaa
open Go.RowKit Go.Shelf
set_option linter.unusedVariables false
attribute [local go_sem] Oper.semAt_some wide_fn wide_round_fn

theorem infoPart : (Try.prog.info? 30).map (fun i => (i.zero, i.size, i.bytes)) = some (some (.agg #[.int .i64 0, .int .i64 0, .slice none 0 0, .int .i64 0, .int .i64 0, .int .i64 0, .int .i64 0, .int .i64 0, .bool false, .bool false]), 10, 88) := by kernel_rfl
theorem HasE.frame {T : Nat → Prop} {W W' : World} {P : PartC} {l : List EntryC} (h : HasE W P l) (hF : FrameT T W W') (hne : ∀ k, inBlkE P.a P.len k → ¬ T k) : HasE W' P l := by
  refine ⟨h.1, h.2.1, h.2.2.1, h.2.2.2.1, fun h0 => ?_⟩
  obtain ⟨c, off, e, hlt, hc⟩ := h.2.2.2.2 h0
  refine ⟨c, off, e, Nat.lt_of_lt_of_le hlt hF.size, fun j hj => ?_⟩
  exact (World.cell?_of_block (w := W) (hF.block c hlt (hne c ⟨c, off, e, h0, rfl⟩))).trans (hc j hj)
theorem hasE_stab {B : Nat} {P : PartC} {l : List EntryC} : Stab B (fun _ => False) (fun W => HasE W P l) := fun W W' h hm => by
  refine ⟨h.1, h.2.1, h.2.2.1, h.2.2.2.1, fun h0 => ?_⟩
  obtain ⟨c, off, e, hlt, hc⟩ := h.2.2.2.2 h0
  exact ⟨c, off, e, Nat.lt_of_lt_of_le hlt hm.size, fun j hj => Stab.cell (B := B) (T := fun _ => False) id W W' (hc j hj) hm⟩
theorem FrameT.grownRow {w w' : World} {row : Option Nat} (h : w.grownBy w' row) : FrameT (fun k => some k = row) w w' := ⟨h.os, h.tape, h.output, h.size, fun k hk hT => h.block k hk hT⟩
theorem inBlkE_len {W : World} {P : PartC} {l : List EntryC} (h : HasE W P l) {k : Nat} (hk : inBlkE P.a P.len k) : k < W.heap.size := inBlkE_lt h.2.2 hk
theorem wpListIn_append_at {F : Fence} {n : Nat} {P : Program} (w : World) {ops : Array Oper} {rest : List Oper} {o : Oper} {a : Act} {Q : Exit → Act → World → Prop}
    (hg : o.guard = none) (s x : Operand) (t : TypeId) (hop : o.op = Op.call { callee := Callee.builtin Builtin.append, args := #[s, x], argTypes := #[t, t] })
    (base : Nat) (e : TypeId) (i : TypeInfo) (z : Value) (size bytes : Nat) (h1 : P.underlying t = some (.slice e)) (h2 : P.info? e = some i) (h3 : i.zero = some z) (h4 : i.size = size) (h5 : i.bytes = bytes) (h6 : z.cells.size = size) (h7 : 0 < size)
    (v : Value) (k : Nat) (xs : List Value) (hs : a.eval s = v) (hown : w.ownsRow base e size v k xs) (ad : Addr) (m c : Nat) (news : List Value) (hx : a.eval x = .slice (some ad) m c) (hn : news.length = m * size)
    (hc : ∀ j u, news[j]? = some u → w.cell? (ad.add j) = some u) (h1c : ∀ u ∈ news, u.oneCell' = true) (b1 : k + m ≤ maxLen) (b2 : (k + m) * bytes ≤ 140737488355328) (b3 : base ≤ w.heap.size)
    (hK : ∀ v' w', w'.ownsRow base e size v' (k + m) (xs ++ news) → w.grownBy w' v.ownBlock → (v'.ownBlock = v.ownBlock ∨ v'.ownBlock = some w.heap.size) → wpListIn F n P ops Q rest (a.put o.dst v') w') :
    wpListIn F n P ops Q (o :: rest) a w := by
  refine wpListIn_plain hg fun K hK' => ?_
  obtain ⟨v', w', hrun, r1, r2, _, r3⟩ := run_append_own_at (P := P) (w := w) base t o.type e i z size bytes h1 h2 h3 h4 h5 h6 h7 v k xs hown ad m c news hn hc h1c b1 b2 b3
  unfold Oper.wpIn
  refine ⟨?_, ?_⟩
  · simp [Oper.about, hop, resolve, Target.leads, Sem.run_pure]
  · rw [Oper.semAt_plain F _ _ (by rw [hop]; intro c hc'; cases hc')]
    simp [execOp, hop, resolve, invoke, builtin, hs, hx, hrun, Result.andThen]
    exact hK' _ _ (hK v' w' r1 r2 r3)

/-- What parts hands out next: few, in new memory. -/
def nxP (pre : List PL) (x : PL) (W2 W : World) : Prop := pre.length < 4 ∧ HasE W x.1 x.2 ∧ (∀ k, inBlkE x.1.a x.1.len k → W2.heap.size ≤ k) ∧ Below W2.heap.size W2 W

set_option maxRecDepth 100000 in
set_option maxHeartbeats 4000000 in
theorem recParts_iter (Bs Bn : Nat) (s : ByteArray) (n : Nat) (hn : n ≤ 4) (hs : s.size < 4611686018427387904) (w0 : World) (h1 : w0.heap[Bs]? = some (.cells #[.string s] 9 (0, 0))) (h2 : w0.heap[Bn]? = some (.cells #[.int .i64 n] 3 (0, 0))) :
    IterD Try.prog 57 #[.pointer (some ⟨Bs, 0, none⟩), .pointer (some ⟨Bn, 0, none⟩)] (fun x : PL => #[x.1.val]) nxP (fun ys => ys.map core = partsM n s) (fun k => k = Bs ∨ k = Bn) (fun _ => False) w0 := by
  intro J0 J Jx W hW hJs _ hY h0
  have cs0 : W.cell? ⟨Bs, 0, none⟩ = some (.string s) := cell_of_row _ _ 0 _ _ _ (hW.get h1 (.inl rfl))
  have cn0 : W.cell? ⟨Bn, 0, none⟩ = some (.int .i64 n) := cell_of_row _ _ 0 _ _ _ (hW.get h2 (.inr rfl))
  clear h1 h2
  refine callsIn_of_wp Try.func57 rfl trivial ?_ rfl
  simp only [Try.ntmps57, List.size_toArray, List.length_cons, List.length_nil, Nat.reduceAdd, Nat.reduceSub, Array.replicate_succ, Array.replicate_zero, List.push_toArray, List.append_toArray, List.nil_append, List.cons_append]
  gi_wp2
  gi_loopw [4, 10] (fun sl q wr => ∃ (k : Nat) (pre : List PL) (left : ByteArray), k ≤ n ∧ sl = .string left ∧ q = .int .i64 k ∧ left.size ≤ s.size ∧ pre.length = k ∧ pre.map core ++ partsM (n - k) left = partsM n s ∧ J pre wr ∧ Rd W.heap.size (fun k => k = Bs ∨ k = Bn) W wr) (fun _ q _ => n - (intOf q).toNat)
  case atStart => exact ⟨0, [], s, by omega, rfl, rfl, Nat.le_refl _, rfl, rfl, h0, Rd.refl _ _ _⟩
  case round =>
    obtain ⟨k, pre, left, hk, rfl, rfl, hz, hpl, hP, hJ, hR⟩ := hrel
    have HPl := Lib.hid hpl
    have HP := Lib.hid hP
    clear hpl hP cs0 cn0
    by_cases hlt : k < n
    · obtain ⟨r, m, x, hr⟩ : ∃ r m x, readM left = (r, m, x) := ⟨_, _, _, rfl⟩
      have hm := readM_le left
      rw [hr] at hm
      dsimp only at hm
      have hpm : partsM (n - k) left = if x ≠ 0 then [] else r :: partsM (n - (k + 1)) (restB left m) := by
        rw [show n - k = (n - (k + 1)) + 1 by omega, partsM, hr]
      by_cases hx : x = 0
      · subst hx
        have GR := Lib.hid (fun W => partRead_new left r m 0 (by omega) hr W)
        have HP2 := Lib.hid (show (pre.map core ++ [r]) ++ partsM (n - (k + 1)) (restB left m) = partsM n s by rw [← HP.out, hpm]; simp)
        have hz2 : (restB left m).size = left.size - m := restB_size left m hm
        have hm0 : (0 : Int) ≤ (m : Int) := by omega
        have hm1 : (m : Int) ≤ (left.size : Int) := by omega
        have HRB := Lib.hid (show restB left m = left.extract m left.size from rfl)
        have HZ2 := Lib.hid hz2
        clear hr hpm hz2 HP
        obtain ⟨rg, rk, l, rht, rhv, rhc, ri, rt, rm, rh⟩ := r
        gi_wp2_with (gi_at_call 58; refine (callsIn_wide.2 (GR.out _)).mono ?_; rintro e w4 ⟨xa, xc, rfl, hE, hB, hO⟩; dsimp only [ReadC.part, PartC.val]; have hBy := bel2 hB (bel_alloc (Below.refl w4.heap.size w4) (.cells #[.int .i64 rg, .int .i64 rk, .slice xa l.length xc, .int .i64 rht, .int .i64 rhv, .int .i64 rhc, .int .i64 ri, .int .i64 rt, .bool rm, .bool rh] 30)); have hRR := hR.trans (Rd.below hBy); obtain ⟨fn, tmps, assign, body, hy, hR1⟩ := hY pre ((⟨rg, rk, xa, l.length, xc, rht, rhv, rhc, ri, rt, rm, rh⟩ : PartC), l) wr (w4.alloc (.cells #[.int .i64 rg, .int .i64 rk, .slice xa l.length xc, .int .i64 rht, .int .i64 rhv, .int .i64 rhc, .int .i64 ri, .int .i64 rt, .bool rm, .bool rh] 30)) hJ ⟨by rw [HPl.out]; omega, hE.below (bel_alloc (Below.refl _ _) _), fun k hk => Nat.le_of_lt (hO k hk), hBy⟩ (hJs _ _ _ hJ (Moves.below hBy)); clear hE hB hO hBy)
        refine (roundIn_wide_n hR1).mono ?_
        rintro e W3 (⟨rfl, hJ3, hk3⟩ | ⟨rfl, hJx3⟩)
        · gi_wp2
          go_roundw
          case rel => exact ⟨k + 1, _, restB left m, by omega, by rw [HRB.out], by go_num, by rw [HZ2.out]; omega, by rw [List.length_append, HPl.out]; rfl, by rw [List.map_append]; exact HP2.out, hJ3, hRR.trans hk3⟩
          case measure => simp [intOf]; omega
        · gi_wp2
          refine bodyPost_ret (results_none rfl _ _ _) rfl ?_
          exact ⟨⟨_, rfl⟩, .inr ⟨_, _, hJx3⟩⟩
      · have GR := Lib.hid (fun W => partRead_new left r m x (by omega) hr W)
        have HF := Lib.hid (show pre.map core = partsM n s by rw [← HP.out, hpm, if_pos hx]; simp)
        have hx1 : ((x : Int) == 0) = false := by rw [beq_eq_false_iff_ne]; omega
        have hx2 : ((x : Int) != 0) = true := by rw [bne_iff_ne]; omega
        clear hr hpm HP hx
        obtain ⟨rg, rk, l, rht, rhv, rhc, ri, rt, rm, rh⟩ := r
        gi_wp2_with (gi_at_call 58; refine (callsIn_wide.2 (GR.out _)).mono ?_; rintro e w4 ⟨xa, xc, rfl, hE, hB, hO⟩; dsimp only [ReadC.part, PartC.val]; have hJJ := hJs _ _ _ hJ (Moves.below (bel2 hB (bel_alloc (Below.refl w4.heap.size w4) (.cells #[.int .i64 rg, .int .i64 rk, .slice xa l.length xc, .int .i64 rht, .int .i64 rhv, .int .i64 rhc, .int .i64 ri, .int .i64 rt, .bool rm, .bool rh] 30)))); clear hE hB hO)
        refine bodyPost_ret (results_none rfl _ _ _) rfl ?_
        exact ⟨⟨_, rfl⟩, .inl ⟨_, HF.out, hJJ⟩⟩
    · obtain rfl : k = n := by omega
      have HF := Lib.hid (show pre.map core = partsM k s by rw [← HP.out, Nat.sub_self]; simp [partsM])
      gi_wp2
      refine bodyPost_end (results_none rfl _ _ _) rfl ?_
      exact ⟨⟨_, rfl⟩, .inl ⟨_, HF.out, hJ⟩⟩

theorem two_boxes (w : World) (A B : Array Value) (T U : TypeId) : ((w.alloc (.cells A T)).alloc (.cells B U)).heap[w.heap.size]? = some (.cells A T (0, 0)) ∧ ((w.alloc (.cells A T)).alloc (.cells B U)).heap[w.heap.size + 1]? = some (.cells B U (0, 0)) :=
  ⟨two_a w A B T U, two_b w A B T U⟩
theorem recParts_makes (s : ByteArray) (n : Nat) (hn : n ≤ 4) (hs : s.size < 4611686018427387904) (w : World) :
    Calls Try.prog 44 #[.string s, .int .i64 n] w fun e w' => ∃ lb, e = .returned (.func (.func 57) #[] lb) ∧ w' = (w.alloc (.cells #[.string s] 9)).alloc (.cells #[.int .i64 n] 3) ∧
      IterD Try.prog 57 lb (fun x : PL => #[x.1.val]) nxP (fun ys => ys.map core = partsM n s) (fun k => k = w.heap.size ∨ k = w.heap.size + 1) (fun _ => False) w' := by
  have HI := Lib.hid (recParts_iter w.heap.size (w.heap.size + 1) s n hn hs ((w.alloc (.cells #[.string s] 9)).alloc (.cells #[.int .i64 n] 3)) (two_boxes _ _ _ _ _).1 (two_boxes _ _ _ _ _).2)
  clear hn hs
  go_enter Try.func44, Try.ntmps44
  go_wp2
  go_ret
  exact ⟨_, rfl, rfl, HI.out⟩

end Go.Proofs.Ytbhhbjgdkcfagaa

/- The contract of package record's open. -/
namespace Go.Proofs.Ytbhhbjgdkcfagaa
open Go.RowKit Go.Shelf
set_option linter.unusedVariables false
attribute [local go_sem] Oper.semAt_some wide_fn wide_round_fn

/-- What a row of parts holds lies in new memory. -/
def NewP (n : Nat) (a : Option Addr) (len : Nat) (L : List PL) : Prop := (∀ k, inBlkE a len k → n ≤ k) ∧ ∀ x, x ∈ L → ∀ k, inBlkE x.1.a x.1.len k → n ≤ k
theorem NewP.le {n m : Nat} {a : Option Addr} {len : Nat} {L : List PL} (h : NewP n a len L) (hm : m ≤ n) : NewP m a len L := ⟨fun k hk => Nat.le_trans hm (h.1 k hk), fun x hx k hk => Nat.le_trans hm (h.2 x hx k hk)⟩
theorem newP_nil (n : Nat) : NewP n none 0 [] := ⟨fun k hk => absurd hk inBlkE_nil, fun x hx => by cases hx⟩
theorem HasP.frame {T : Nat → Prop} {W W' : World} {a : Option Addr} {len n : Nat} {L : List PL} (h : HasP W a len L) (hF : FrameT T W W') (hn : NewP n a len L) (hT : ∀ k, n ≤ k → ¬ T k) : HasP W' a len L := by
  obtain ⟨h1, h2, h3, h4⟩ := h
  refine ⟨h1, h2, ⟨h3.1, h3.2.1, fun h0 => ?_⟩, fun x hx => (h4 x hx).frame hF fun k hk => hT k (hn.2 x hx k hk)⟩
  obtain ⟨c, off, e, hlt, hc⟩ := h3.2.2 h0
  exact ⟨c, off, e, Nat.lt_of_lt_of_le hlt hF.size, fun j hj => (World.cell?_of_block (w := W) (hF.block c hlt (hT c (hn.1 c ⟨c, off, e, h0, rfl⟩)))).trans (hc j hj)⟩
/-- A record whose parts are those, in new memory. -/
def OpenPost (q : Int) (rs : List ReadC) (w : World) (e : Ending) (w' : World) : Prop :=
  ∃ (a : Option Addr) (len cap : Nat) (L : List PL), e = .returned (.agg #[.int .i64 q, .slice a len cap]) ∧ HasP w' a len L ∧ L.map core = rs ∧ Below w.heap.size w w' ∧ NewP w.heap.size a len L
theorem openPost_nil {w w' : World} {e : Ending} (he : e = .returned (.agg #[.int .i64 0, .slice none 0 0])) (hB : Below w.heap.size w w') : OpenPost 0 [] w e w' := ⟨none, 0, 0, [], he, hasP_nil _ _, rfl, hB, newP_nil _⟩
/-- A record that grows: it lies at X, its row of parts from C on; what its parts hold lies elsewhere. -/
def opV (w : World) (R X C : Nat) (q : Int) (v : Value) (pre : List PL) (W : World) : Prop :=
  W.heap[X]? = some (.cells #[.int .i64 q, v] 32 (0, 0)) ∧ (W.ownsRow C 30 10 v pre.length (partCells pre) ∧ ((∀ x, x ∈ pre → HasE W x.1 x.2 ∧ ∀ k, inBlkE x.1.a x.1.len k → C ≤ k ∧ some k ≠ v.ownBlock) ∧
    (W.heap[R]? = some (.cells #[.int .i64 0, .slice none 0 0] 32 (0, 0)) ∧ (Below w.heap.size w W ∧ C ≤ W.heap.size))))
def opI (w : World) (R X C : Nat) (q : Int) (pre : List PL) (W : World) : Prop := ∃ v, opV w R X C q v pre W
theorem opV_stab {w : World} {R X C : Nat} {q : Int} {v : Value} {pre : List PL} (h : w.heap.size ≤ C) : Stab C (fun _ => False) (opV w R X C q v pre) :=
  (Stab.block id (.inr rfl)).and ((Stab.ownsRow (fun _ h => h.elim)).and ((Stab.all fun x => Stab.imp fun _ => hasE_stab.and (Stab.pure _)).and ((Stab.block id (.inr rfl)).and ((Stab.below (Nat.le_refl _) h (fun _ h => h.elim)).and Stab.size))))
theorem opI_stab {w : World} {R X C : Nat} {q : Int} {pre : List PL} (h : w.heap.size ≤ C) : Stab C (fun _ => False) (opI w R X C q pre) := Stab.ex fun _ => opV_stab h
theorem ownBlock_lt {W : World} {base : Nat} {e : TypeId} {size : Nat} {v : Value} {k : Nat} {xs : List Value} (h : W.ownsRow base e size v k xs) {j : Nat} (hj : some j = v.ownBlock) : j < W.heap.size ∧ base ≤ j ∧ ∃ o : Obj, W.heap[j]? = some o ∧ o.isCells = true := by
  rcases h.2 with ⟨rfl, _⟩ | ⟨g, cap, cur, rfl, hb, hg, _⟩
  · simp [Value.ownBlock] at hj
  · obtain rfl : j = g := by simpa [Value.ownBlock] using hj
    exact ⟨(Array.getElem?_eq_some_iff.1 hg).1, hb, _, hg, rfl⟩
theorem FrameT.toRd {T S : Nat → Prop} {B : Nat} {w w' : World} (h : FrameT T w w') (hT : ∀ k o, w.heap[k]? = some o → (S k ∨ (B ≤ k ∧ o.isCells = false)) → ¬ T k) : Rd B S w w' :=
  ⟨h.os, h.tape, h.output, h.size, fun k o ho hc => h.get ho (hT k o ho hc)⟩
/-- 'r.Parts = append(r.Parts, p)' on such a record. -/
theorem opV_append {w W W1 w2 : World} {R X C : Nat} {q : Int} {v v' : Value} {pre : List PL} {x : PL} {S : Nat → Prop} (h : opV w R X C q v pre W) (hC : w.heap.size ≤ R ∧ R < X ∧ X < C) (hS : ∀ k, S k → k < C ∧ k ≠ X)
    (hx : HasE W x.1 x.2 ∧ ∀ k, inBlkE x.1.a x.1.len k → C ≤ k ∧ some k ≠ v.ownBlock) (h1 : Below W.heap.size W W1) (hown : w2.ownsRow C 30 10 v' (pre.length + 1) (partCells pre ++ x.1.arr.toList)) (hg : W1.grownBy w2 v.ownBlock) (hn : v'.ownBlock = v.ownBlock ∨ v'.ownBlock = some W1.heap.size) :
    w2.heap[X]? = some (.cells #[.int .i64 q, v] 32 (0, 0)) ∧ Rd C S W (w2.setCell ⟨X, 1, none⟩ v') ∧ opV w R X C q v' (pre ++ [x]) (w2.setCell ⟨X, 1, none⟩ v') := by
  obtain ⟨hX, hrow, hall, hR, hB, hs⟩ := h
  have hFg : FrameT (fun k => some k = v.ownBlock) W w2 := (FrameT.below h1).mono (fun _ h => h) |>.trans (FrameT.grownRow hg)
  have hXo : ∀ {z : Value} {Z : World} {n : Nat} {ys : List Value}, Z.ownsRow C 30 10 z n ys → some X ≠ z.ownBlock := fun hr e => by have := (ownBlock_lt hr e).2.1; omega
  have hX2 : w2.heap[X]? = some (.cells #[.int .i64 q, v] 32 (0, 0)) := hFg.get hX (hXo hrow)
  have hF : FrameT (fun k => some k = v.ownBlock ∨ k = X) W (w2.setCell ⟨X, 1, none⟩ v') := (hFg.mono fun _ h => .inl h).trans ((FrameT.setCell w2 X 1 v').mono fun _ h => .inr h)
  have hE : ∀ y : PL, HasE W y.1 y.2 ∧ (∀ k, inBlkE y.1.a y.1.len k → C ≤ k ∧ some k ≠ v.ownBlock) → HasE (w2.setCell ⟨X, 1, none⟩ v') y.1 y.2 ∧ ∀ k, inBlkE y.1.a y.1.len k → C ≤ k ∧ some k ≠ v'.ownBlock := fun y hy =>
    ⟨hy.1.frame hF (fun k hk hT => by
        have := hy.2 k hk
        rcases hT with hT | hT
        · exact this.2 hT
        · omega), fun k hk => ⟨(hy.2 k hk).1, fun e => by
        have h3 := inBlkE_len hy.1 hk
        have h4 := h1.size
        rcases hn with hn | hn
        · exact (hy.2 k hk).2 (e.trans hn)
        · rw [hn] at e; cases e; omega⟩⟩
  refine ⟨hX2, hF.toRd ?_, ?_, ?_, ?_, ?_, ?_, ?_⟩
  · rintro k o ho hc (hT | hT)
    · obtain ⟨_, hb, o2, ho2, hc2⟩ := ownBlock_lt hrow hT
      rcases hc with hc | hc
      · have := hS k hc; omega
      · rw [ho] at ho2; cases ho2; rw [hc.2] at hc2; cases hc2
    · rcases hc with hc | hc
      · exact (hS k hc).2 hT
      · omega
  · have := heap_setCell_same w2 X 1 _ _ v' hX2
    exact this
  · rw [List.length_append, partCells_snoc]
    exact hown.kept (row := some X) ⟨rfl, rfl, rfl, by simp, fun k _ hne => heap_setCell_other _ _ _ _ (fun e => hne (congrArg some e))⟩ (.inr (hXo hown).symm)
  · intro y hy
    rcases List.mem_append.1 hy with hy | hy
    · exact hE y (hall y hy)
    · rw [List.mem_singleton] at hy; subst hy; exact hE _ hx
  · exact hF.get hR (by
      rintro (e | e)
      · have := (ownBlock_lt hrow e).2.1; omega
      · omega)
  · exact hB.trans (hF.toBelow hB.size (fun k hk => by
      rcases hk with e | e
      · have := (ownBlock_lt hrow e).2.1; omega
      · omega))
  · exact Nat.le_trans hs hF.size

set_option maxRecDepth 100000 in
set_option maxHeartbeats 4000000 in
theorem recOpen_short (b : ByteArray) (hb : b.size < 4611686018427387904) (w : World) (h : (seqM b).2.2 ≠ 0 ∨ (cntM b).2.2 ≠ 0 ∨ 4 < (cntM b).1) : Calls Try.prog 23 #[.string b] w (OpenPost 0 [] w) := by
  have g1 := get_any b (by omega)
  have b1 := getL_bound b.data.toList
  have hsz : b.data.toList.length = b.size := by simp
  have g2 := get_any (restB b (seqM b).2.1) (by have := restB_size b (seqM b).2.1 (by unfold seqM; omega); omega)
  have b2 := getL_bound (restB b (seqM b).2.1).data.toList
  rw [show getL (restB b (seqM b).2.1).data.toList = cntM b from rfl] at g2 b2
  rw [show getL b.data.toList = seqM b from rfl] at g1 b1
  generalize cntM b = c at *
  generalize seqM b = d at *
  obtain ⟨q, k, e1⟩ := d
  obtain ⟨n, j, e2⟩ := c
  dsimp only at *
  have hk0 : (0 : Int) ≤ (k : Int) := by omega
  have hk1 : (k : Int) ≤ (b.size : Int) := by omega
  rw [show restB b k = b.extract k b.size from rfl] at g2
  have G1 := Lib.hid g1; have G2 := Lib.hid g2
  clear g1 g2 hsz b1
  by_cases h1 : e1 = 0
  · subst h1
    by_cases h2 : e2 = 0
    · subst h2
      have h3 : 4 < n := by omega
      have h3i : (4 : Int) < (n : Int) := by omega
      go_enter Try.func23, Try.ntmps23
      go_wp2_with (first
        | (go_at_call 43; ((with_reducible refine (G1.out _).mono ?_); rintro e w1 ⟨rfl, hB1⟩; have hr := (hB1.block _ (by simp)).trans (World.alloc_heap_new w (.cells #[.int .i64 0, .slice none 0 0] 32)); have hA := bel2 (bel_alloc (Below.refl w.heap.size w) (.cells #[.int .i64 0, .slice none 0 0] 32)) hB1; have c0 : w1.cell? ⟨w.heap.size, 0, none⟩ = some (.int .i64 0) := cell_of_row _ _ 0 _ _ _ hr; have c1 : w1.cell? ⟨w.heap.size, 1, none⟩ = some (.slice none 0 0) := cell_of_row _ _ 1 _ _ _ hr; have f0 := frozen_of_row _ _ 0 _ _ hr; have f1 := frozen_of_row _ _ 1 _ _ hr))
        | (go_at_call 43; ((with_reducible refine (G2.out _).mono ?_); rintro e w2 ⟨rfl, hB2⟩; replace hr := (hB2.block _ (heap_lt hr)).trans hr; replace hA := bel2 hA hB2; clear c0 c1 f0 f1; have c0 : w2.cell? ⟨w.heap.size, 0, none⟩ = some (.int .i64 0) := cell_of_row _ _ 0 _ _ _ hr; have c1 : w2.cell? ⟨w.heap.size, 1, none⟩ = some (.slice none 0 0) := cell_of_row _ _ 1 _ _ _ hr; have f0 := frozen_of_row _ _ 0 _ _ hr; have f1 := frozen_of_row _ _ 1 _ _ hr)))
      refine bodyPost_ret (v := .agg #[.int .i64 0, .slice none 0 0]) (by simp [results, Try.results23, go_sem, c0, c1]) rfl ?_
      exact openPost_nil rfl ((hA.setCell (p := ⟨w.heap.size, 0, none⟩) (Nat.le_refl _) _).setCell (p := ⟨w.heap.size, 1, none⟩) (Nat.le_refl _) _)
    · have x1 : ((e2 : Int) == 0) = false := by rw [beq_eq_false_iff_ne]; omega
      have x2 : ((e2 : Int) != 0) = true := by rw [bne_iff_ne]; omega
      clear h2 h
      go_enter Try.func23, Try.ntmps23
      go_wp2_with (first
        | (go_at_call 43; ((with_reducible refine (G1.out _).mono ?_); rintro e w1 ⟨rfl, hB1⟩; have hr := (hB1.block _ (by simp)).trans (World.alloc_heap_new w (.cells #[.int .i64 0, .slice none 0 0] 32)); have hA := bel2 (bel_alloc (Below.refl w.heap.size w) (.cells #[.int .i64 0, .slice none 0 0] 32)) hB1; have c0 : w1.cell? ⟨w.heap.size, 0, none⟩ = some (.int .i64 0) := cell_of_row _ _ 0 _ _ _ hr; have c1 : w1.cell? ⟨w.heap.size, 1, none⟩ = some (.slice none 0 0) := cell_of_row _ _ 1 _ _ _ hr; have f0 := frozen_of_row _ _ 0 _ _ hr; have f1 := frozen_of_row _ _ 1 _ _ hr))
        | (go_at_call 43; ((with_reducible refine (G2.out _).mono ?_); rintro e w2 ⟨rfl, hB2⟩; replace hr := (hB2.block _ (heap_lt hr)).trans hr; replace hA := bel2 hA hB2; clear c0 c1 f0 f1; have c0 : w2.cell? ⟨w.heap.size, 0, none⟩ = some (.int .i64 0) := cell_of_row _ _ 0 _ _ _ hr; have c1 : w2.cell? ⟨w.heap.size, 1, none⟩ = some (.slice none 0 0) := cell_of_row _ _ 1 _ _ _ hr; have f0 := frozen_of_row _ _ 0 _ _ hr; have f1 := frozen_of_row _ _ 1 _ _ hr)))
      refine bodyPost_ret (v := .agg #[.int .i64 0, .slice none 0 0]) (by simp [results, Try.results23, go_sem, c0, c1]) rfl ?_
      exact openPost_nil rfl ((hA.setCell (p := ⟨w.heap.size, 0, none⟩) (Nat.le_refl _) _).setCell (p := ⟨w.heap.size, 1, none⟩) (Nat.le_refl _) _)
  · have x1 : ((e1 : Int) == 0) = false := by rw [beq_eq_false_iff_ne]; omega
    have x2 : ((e1 : Int) != 0) = true := by rw [bne_iff_ne]; omega
    clear h1 h
    go_enter Try.func23, Try.ntmps23
    go_wp2_with (first
      | (go_at_call 43; ((with_reducible refine (G1.out _).mono ?_); rintro e w1 ⟨rfl, hB1⟩; have hr := (hB1.block _ (by simp)).trans (World.alloc_heap_new w (.cells #[.int .i64 0, .slice none 0 0] 32)); have hA := bel2 (bel_alloc (Below.refl w.heap.size w) (.cells #[.int .i64 0, .slice none 0 0] 32)) hB1; have c0 : w1.cell? ⟨w.heap.size, 0, none⟩ = some (.int .i64 0) := cell_of_row _ _ 0 _ _ _ hr; have c1 : w1.cell? ⟨w.heap.size, 1, none⟩ = some (.slice none 0 0) := cell_of_row _ _ 1 _ _ _ hr; have f0 := frozen_of_row _ _ 0 _ _ hr; have f1 := frozen_of_row _ _ 1 _ _ hr))
      | (go_at_call 43; ((with_reducible refine (G2.out _).mono ?_); rintro e w2 ⟨rfl, hB2⟩; replace hr := (hB2.block _ (heap_lt hr)).trans hr; replace hA := bel2 hA hB2; clear c0 c1 f0 f1; have c0 : w2.cell? ⟨w.heap.size, 0, none⟩ = some (.int .i64 0) := cell_of_row _ _ 0 _ _ _ hr; have c1 : w2.cell? ⟨w.heap.size, 1, none⟩ = some (.slice none 0 0) := cell_of_row _ _ 1 _ _ _ hr; have f0 := frozen_of_row _ _ 0 _ _ hr; have f1 := frozen_of_row _ _ 1 _ _ hr)))
    refine bodyPost_ret (v := .agg #[.int .i64 0, .slice none 0 0]) (by simp [results, Try.results23, go_sem, c0, c1]) rfl ?_
    exact openPost_nil rfl ((hA.setCell (p := ⟨w.heap.size, 0, none⟩) (Nat.le_refl _) _).setCell (p := ⟨w.heap.size, 1, none⟩) (Nat.le_refl _) _)

theorem rec_block {w w1 : World} (hB : Below (w.alloc (.cells #[.int .i64 0, .slice none 0 0] 32)).heap.size (w.alloc (.cells #[.int .i64 0, .slice none 0 0] 32)) w1) : w1.heap[w.heap.size]? = some (.cells #[.int .i64 0, .slice none 0 0] 32 (0, 0)) :=
  (hB.block _ (by simp)).trans (World.alloc_heap_new w _)
set_option maxRecDepth 100000 in
set_option maxHeartbeats 8000000 in
theorem recOpen_full (b : ByteArray) (hb : b.size < 4611686018427387904) (q k n j : Nat) (w : World) (h1 : seqM b = (q, k, 0)) (h2 : cntM b = (n, j, 0)) (hn : n ≤ 4) : Calls Try.prog 23 #[.string b] w (OpenPost q (partsM n (restB b (k + j))) w) := by
  have g1 := get_any b (by omega)
  have b1 := getL_bound b.data.toList
  have hsz : b.data.toList.length = b.size := by simp
  have g2 := get_any (restB b (seqM b).2.1) (by have := restB_size b (seqM b).2.1 (by unfold seqM; omega); omega)
  have b2 := getL_bound (restB b (seqM b).2.1).data.toList
  have hsz2 : (restB b (seqM b).2.1).data.toList.length = (restB b (seqM b).2.1).size := by simp
  rw [restB_size b _ (by unfold seqM; omega)] at hsz2
  rw [show getL (restB b (seqM b).2.1).data.toList = cntM b from rfl, h2] at g2 b2
  rw [show getL b.data.toList = seqM b from rfl, h1] at g1 b1
  rw [h1] at g2 hsz2 b2
  dsimp only at *
  have hk0 : (0 : Int) ≤ (k : Int) := by omega
  have hk1 : (k : Int) ≤ (b.size : Int) := by omega
  have hj0 : (0 : Int) ≤ (k : Int) + (j : Int) := by omega
  have hj1 : (k : Int) + (j : Int) ≤ (b.size : Int) := by omega
  have hn4 : (n : Int) ≤ 4 := by omega
  have hkj : ((k : Int) + (j : Int)).toNat = k + j := by omega
  have hrs : (restB b (k + j)).size < 4611686018427387904 := by rw [restB_size b _ (by omega)]; omega
  rw [show restB b k = b.extract k b.size from rfl] at g2
  have hRB : restB b (k + j) = b.extract (k + j) b.size := rfl
  have gP := fun W => recParts_makes (restB b (k + j)) n hn hrs W
  rw [hRB] at gP
  have GP := Lib.hid gP
  have HRB := Lib.hid hRB
  have HKJ := Lib.hid hkj
  have G1 := Lib.hid g1; have G2 := Lib.hid g2
  obtain ⟨i0, hi, hz0, hz1, hz2⟩ := info_parts infoPart
  clear g1 g2 hsz hsz2 b1 b2 h1 h2 hkj hrs hRB gP
  refine (callsIn_wide (n := 9)).1 ?_
  refine callsIn_of_wp_marks Try.func23 rfl trivial ?_ rfl
  simp only [Try.ntmps23, List.size_toArray, List.length_cons, List.length_nil, Nat.reduceAdd, Nat.reduceSub, Array.replicate_succ, Array.replicate_zero, List.push_toArray, List.append_toArray, List.nil_append, List.cons_append]
  gi_wp2_with (first
    | (gi_at_call 43; (with_reducible refine (callsIn_wide.2 (G1.out _)).mono ?_); rintro e w1 ⟨rfl, hB1⟩)
    | (gi_at_call 43; (with_reducible refine (callsIn_wide.2 (G2.out _)).mono ?_); rintro e w2 ⟨rfl, hB2⟩)
    | (gi_at_call 44; (with_reducible refine (callsIn_wide.2 (GP.out _)).mono ?_); rintro e w5 ⟨lb, rfl, rfl, hI5⟩))
  have hr1 := rec_block hB1
  have hR2 := (hB2.block _ (heap_lt hr1)).trans hr1
  have hX5 := three_a w2 #[.int .i64 q, .slice none 0 0] #[.string (b.extract (k + j) b.size)] #[.int .i64 n] 32 9 3
  have hB5 := bel_alloc (bel_alloc (bel_alloc (Below.refl w2.heap.size w2) (.cells #[.int .i64 q, .slice none 0 0] 32)) (.cells #[.string (b.extract (k + j) b.size)] 9)) (.cells #[.int .i64 n] 3)
  have hA5 := bel2 (bel2 (bel2 (bel_alloc (Below.refl w.heap.size w) (.cells #[.int .i64 0, .slice none 0 0] 32)) hB1) hB2) hB5
  have hR5 := (hB5.block _ (heap_lt hR2)).trans hR2
  have hlt := heap_lt hR2
  have hs5 : (((w2.alloc (.cells #[.int .i64 q, .slice none 0 0] 32)).alloc (.cells #[.string (b.extract (k + j) b.size)] 9)).alloc (.cells #[.int .i64 n] 3)).heap.size = w2.heap.size + 3 := by simp
  have hs4 : (w2.alloc (.cells #[.int .i64 q, .slice none 0 0] 32)).heap.size = w2.heap.size + 1 := by simp
  obtain ⟨w5, hw5⟩ : ∃ w5, w5 = ((w2.alloc (.cells #[.int .i64 q, .slice none 0 0] 32)).alloc (.cells #[.string (b.extract (k + j) b.size)] 9)).alloc (.cells #[.int .i64 n] 3) := ⟨_, rfl⟩
  rw [← hw5] at hI5 hX5 hA5 hR5 hs5 ⊢
  rw [hs4] at hI5
  have HI5 := Lib.hid hI5
  have hC : w.heap.size ≤ w.heap.size ∧ w.heap.size < w2.heap.size ∧ w2.heap.size < w5.heap.size := by omega
  have hS : ∀ k, (k = w2.heap.size + 1 ∨ k = w2.heap.size + 1 + 1) → k < w5.heap.size ∧ k ≠ w2.heap.size := fun k hk => by omega
  have hle : w.heap.size ≤ w5.heap.size := by omega
  clear hw5 hs4 hI5 hr1 hR2 hB5 hB1 hB2 hlt hs5
  refine range_outerD rfl (enters_of Try.func57 (by kernel_rfl) rfl) HI5.out (fun _ => rfl) (fun k hk => (hS k hk).1) (fun _ h => h.elim)
    (fun pre W => opI w w.heap.size w2.heap.size w5.heap.size q pre W) (fun _ _ _ => False) (fun _ => opI_stab hle) (fun _ _ => Stab.pure _)
    ⟨_, hX5, World.ownsRow_nil _ _ _ _, (fun x hx => by cases hx), hR5, hA5, Nat.le_refl _⟩ ?hr ?hd (fun _ _ _ _ h => h.elim)
  case hr =>
    rintro l0 pre x W2 W h2 hnx hl hi1 hrec
    obtain ⟨v2, hv2⟩ := h2
    obtain ⟨v, hv⟩ := hi1
    obtain ⟨hpl, hxE, hxN, hWW⟩ := hnx
    obtain rfl : v = v2 := by
      have e1 := (hWW.block _ (heap_lt hv2.1)).trans hv2.1
      rw [hv.1] at e1
      simpa using e1
    have hxo : ∀ k, inBlkE x.1.a x.1.len k → w5.heap.size ≤ k ∧ some k ≠ v.ownBlock := fun k hk => ⟨Nat.le_trans hv2.2.2.2.2.2 (hxN k hk), fun e => by have := (ownBlock_lt hv2.2.1 e).1; have := hxN k hk; omega⟩
    clear hv2 hxN hWW hX5 hA5 hR5
    obtain ⟨⟨pg, pk, pa, plen, pcap, pht, phv, phc, pi, pt, pm, ph⟩, l⟩ := x
    dsimp only [PartC.val] at *
    have HXo := Lib.hid hxo
    clear hxo
    gi_wp2
    refine rdThen_mk (fun W' => opV w w.heap.size w2.heap.size w5.heap.size q v pre W' ∧ (W'.heap[W.heap.size]? = some (.cells #[.int .i64 pg, .int .i64 pk, .slice pa plen pcap, .int .i64 pht, .int .i64 phv, .int .i64 phc, .int .i64 pi, .int .i64 pt, .bool pm, .bool ph] 30 (0, 0)) ∧ HasE W' ⟨pg, pk, pa, plen, pcap, pht, phv, phc, pi, pt, pm, ph⟩ l))
      ((opV_stab hle).and ((Stab.block id (.inr rfl)).and hasE_stab)) ⟨opV_stab hle _ _ hv (Moves.alloc _ _), World.alloc_heap_new W _, hxE.below (bel_alloc (Below.refl _ _) _)⟩ ((Rd.refl _ _ _).alloc _) ?_
    clear hv hrec hxE
    obtain ⟨Xb, hXb⟩ : ∃ Xb, Xb = W.heap.size := ⟨_, rfl⟩
    rw [← hXb]
    clear hXb W
    rintro W ⟨hop, hblk, hE⟩ hrec
    obtain ⟨d0, d1, d2, d3, d4, d5, d6, d7, d8, d9⟩ := arr10q hblk
    have c1 : W.cell? ⟨w2.heap.size, 1, none⟩ = some v := cell_of_row _ _ 1 _ _ _ hop.1
    have hrow := hop.2.1
    have hCs := hop.2.2.2.2.2
    have HOp := Lib.hid hop
    have HEx := Lib.hid hE
    clear hop hE hblk
    gi_wp2_with (gi_at_builtin; refine wpListIn_append_at _ rfl _ _ 22 rfl w5.heap.size 30 i0 (.agg #[.int .i64 0, .int .i64 0, .slice none 0 0, .int .i64 0, .int .i64 0, .int .i64 0, .int .i64 0, .int .i64 0, .bool false, .bool false]) 10 88 Try.underlying22 hi hz0 hz1 hz2 rfl (by decide) _ _ _ rfl (hrow.alloc _) ⟨W.heap.size, 0, none⟩ 1 1 [.int .i64 pg, .int .i64 pk, .slice pa plen pcap, .int .i64 pht, .int .i64 phv, .int .i64 phc, .int .i64 pi, .int .i64 pt, .bool pm, .bool ph] rfl rfl (news_new _ _ _) (by simp [Value.oneCell']) (by unfold maxLen; omega) (by omega) (by simp; omega) ?_; intro v' w9 hown' hgrow hnew; obtain ⟨g', cap', rfl⟩ := ownsRow_succ hown'; obtain ⟨hX9, hRd, hop9⟩ := opV_append (x := (⟨pg, pk, pa, plen, pcap, pht, phv, phc, pi, pt, pm, ph⟩, l)) HOp.out hC hS ⟨HEx.out, HXo.out⟩ (bel_alloc (Below.refl W.heap.size W) (.cells #[.int .i64 pg, .int .i64 pk, .slice pa plen pcap, .int .i64 pht, .int .i64 phv, .int .i64 phc, .int .i64 pi, .int .i64 pt, .bool pm, .bool ph] 30)) hown' hgrow hnew; have cx9 : w9.cell? ⟨w2.heap.size, 1, none⟩ = some v := cell_of_row _ _ 1 _ _ _ hX9; have fx9 : w9.frozen? ⟨w2.heap.size, 1, none⟩ = false := frozen_of_row _ _ 1 _ _ hX9)
    exact ⟨hRd, _, hop9⟩
  case hd =>
    rintro xs W hF ⟨v, hX, hrow, hall, hR, hBl, hs⟩ hD
    have HFx := Lib.hid hF
    obtain ⟨va, vc, rfl, _, _⟩ := rowV_own hrow
    have HNew := Lib.hid (show NewP w.heap.size va xs.length xs from ⟨fun k ⟨g, off, e, _, hk⟩ => by subst e; have := (ownBlock_lt hrow (j := g) rfl).2.1; omega, fun x hx k hk => Nat.le_trans hle ((hall x hx).2 k hk).1⟩)
    have cx0 : W.cell? ⟨w2.heap.size, 0, none⟩ = some (.int .i64 q) := cell_of_row _ _ 0 _ _ _ hX
    have cx1 : W.cell? ⟨w2.heap.size, 1, none⟩ = some (.slice va xs.length vc) := cell_of_row _ _ 1 _ _ _ hX
    have cr0 : W.cell? ⟨w.heap.size, 0, none⟩ = some (.int .i64 0) := cell_of_row _ _ 0 _ _ _ hR
    have cr1 : W.cell? ⟨w.heap.size, 1, none⟩ = some (.slice none 0 0) := cell_of_row _ _ 1 _ _ _ hR
    have fr0 : W.frozen? ⟨w.heap.size, 0, none⟩ = false := frozen_of_row _ _ 0 _ _ hR
    have fr1 : W.frozen? ⟨w.heap.size, 1, none⟩ = false := frozen_of_row _ _ 1 _ _ hR
    have hWf : ((W.setCell ⟨w.heap.size, 0, none⟩ (.int .i64 q)).setCell ⟨w.heap.size, 1, none⟩ (.slice va xs.length vc)).heap[w.heap.size]? = some (.cells #[.int .i64 q, .slice va xs.length vc] 32 (0, 0)) :=
      heap_setCell_same _ _ 1 _ _ _ (heap_setCell_same W w.heap.size 0 _ _ _ hR)
    have hFr := (FrameT.setCell W w.heap.size 0 (.int .i64 q)).trans (FrameT.setCell (W.setCell ⟨w.heap.size, 0, none⟩ (.int .i64 q)) w.heap.size 1 (.slice va xs.length vc))
    have hD2 := hFr.get hD (show w5.heap.size ≠ w.heap.size by omega)
    have hrow2 := hrow.kept (row := some w.heap.size) (w' := (W.setCell ⟨w.heap.size, 0, none⟩ (.int .i64 q)).setCell ⟨w.heap.size, 1, none⟩ (.slice va xs.length vc)) ⟨rfl, rfl, rfl, hFr.size, fun k hk hne => hFr.block k hk (fun e => hne (congrArg some e))⟩ (.inr (fun e => by have := (ownBlock_lt hrow e.symm).2.1; omega))
    have hall2 : ∀ x ∈ xs, HasE ((W.setCell ⟨w.heap.size, 0, none⟩ (.int .i64 q)).setCell ⟨w.heap.size, 1, none⟩ (.slice va xs.length vc)) x.1 x.2 := fun x hx => (hall x hx).1.frame hFr (fun k hk e => by have := ((hall x hx).2 k hk).1; omega)
    have hBl2 := hBl.trans (hFr.toBelow hBl.size (fun k hk => Nat.le_of_eq hk.symm))
    have hlen : xs.length ≤ 4 := by
      have h1 := congrArg List.length hF
      have h2 := partsM_len n (b.extract (k + j) b.size)
      rw [List.length_map] at h1; omega
    clear hF hall hX hrow
    gi_wp2
    have HRow := Lib.hid hrow2
    refine leave_one hD2 (v := .agg #[.int .i64 q, .slice va xs.length vc]) ?_ ?_
    · have e0 := cell_putObj (o' := .deferred none) (cell_of_row _ _ 0 _ _ _ hWf) hD2 rfl
      have e1 := cell_putObj (o' := .deferred none) (cell_of_row _ _ 1 _ _ _ hWf) hD2 rfl
      simp [results, Try.results23, go_sem, e0, e1]
    · have hm : Moves w5.heap.size (fun _ => False) _ _ := Moves.putObj _ (.deferred none) (Nat.le_refl _) hD2 rfl
      obtain ⟨va', vc', e, _, hrv⟩ := rowV_own (Stab.ownsRow (B := w5.heap.size) (T := fun _ => False) (fun _ h => h.elim) _ _ HRow.out hm)
      cases e
      exact ⟨va, _, vc, xs, rfl, ⟨rfl, by omega, hrv, fun x hx => hasE_stab _ _ (hall2 x hx) hm⟩, by rw [HRB.out]; exact HFx.out, below_putObj hBl2 (Nat.le_refl _) hle _, HNew.out⟩

end Go.Proofs.Ytbhhbjgdkcfagaa

/- The contract of package record's Read. -/
namespace Go.Proofs.Ytbhhbjgdkcfagaa
open Go.RowKit Go.Shelf
set_option linter.unusedVariables false
attribute [local go_sem] Oper.semAt_some wide_fn wide_round_fn

/-- What record.Read, and the document's, answer. -/
def RecPost (s : ByteArray) (w : World) (e : Ending) (w' : World) : Prop :=
  ∃ (a : Option Addr) (len cap : Nat) (L : List PL), e = .returned (.tuple #[.agg #[.int .i64 (recM s).1, .slice a len cap], .int .i64 (recM s).2.2.1, .int .i64 (recM s).2.2.2]) ∧ HasP w' a len L ∧ L.map core = (recM s).2.1 ∧ Below w.heap.size w w' ∧ NewP w.heap.size a len L
theorem recPost_bad {s : ByteArray} {c : Nat} {w w' : World} {e : Ending} (h : recM s = (0, [], 0, c)) (he : e = .returned (.tuple #[.agg #[.int .i64 0, .slice none 0 0], .int .i64 0, .int .i64 c])) (hB : Below w.heap.size w w') : RecPost s w e w' :=
  ⟨none, 0, 0, [], he.trans (by rw [h]; rfl), hasP_nil _ _, by rw [h]; rfl, hB, newP_nil _⟩
theorem recOpen_any (b : ByteArray) (hb : b.size < 4611686018427387904) (w : World) : Calls Try.prog 23 #[.string b] w (OpenPost (openM b).1 (openM b).2 w) := by
  by_cases h : (seqM b).2.2 ≠ 0 ∨ (cntM b).2.2 ≠ 0 ∨ 4 < (cntM b).1
  · have e : openM b = (0, []) := by unfold openM; rw [if_pos h]
    rw [e]; exact recOpen_short b hb w h
  · have e : openM b = (((seqM b).1 : Int), partsM (cntM b).1 (restB b ((seqM b).2.1 + (cntM b).2.1))) := by unfold openM; rw [if_neg h]
    rw [e]
    obtain ⟨q, k, e1, h1⟩ : ∃ q k e1, seqM b = (q, k, e1) := ⟨_, _, _, rfl⟩
    obtain ⟨n, j, e2, h2⟩ : ∃ n j e2, cntM b = (n, j, e2) := ⟨_, _, _, rfl⟩
    rw [h1, h2] at h ⊢
    dsimp only at h ⊢
    obtain rfl : e1 = 0 := by omega
    obtain rfl : e2 = 0 := by omega
    exact recOpen_full b hb q k n j w h1 h2 (by omega)

theorem frameRead_at (s x : ByteArray) (n c : Nat) (hs : s.size < 9223372036854775808) (h : readF s = (x, n, c)) (w : World) : Gives Try.prog 22 #[.string s] w (.tuple #[.string x, .int .i64 n, .int .i64 c]) := by
  have := read_any s hs w
  rwa [h] at this
theorem readF_size (s : ByteArray) : (readF s).1.size ≤ s.size := by
  unfold readF
  repeat' split
  all_goals first
    | exact Nat.zero_le _
    | (rw [ByteArray.size_extract]; omega)

set_option maxRecDepth 100000 in
set_option maxHeartbeats 8000000 in
theorem recRead_any (s : ByteArray) (hs : s.size < 4611686018427387904) (w : World) : Calls Try.prog 10 #[.string s] w (RecPost s w) := by
  obtain ⟨x, n, c, hF⟩ : ∃ x n c, readF s = (x, n, c) := ⟨_, _, _, rfl⟩
  have hx : x.size ≤ s.size := by have := readF_size s; rw [hF] at this; exact this
  by_cases hc : c = 1
  · subst hc
    have GF := Lib.hid (fun W => (show Gives Try.prog 22 #[.string s] W (.tuple #[.string x, .int .i64 n, .int .i64 1]) from frameRead_at s x n 1 (by omega) hF W))
    have GO := Lib.hid (fun W => (show Calls Try.prog 23 #[.string x] W (fun e w' => ∃ (a : Option Addr) (len cap : Nat) (L : List PL), e = .returned (.agg #[.int .i64 (openM x).1, .slice a len cap]) ∧ HasP w' a len L ∧ L.map core = (openM x).2 ∧ Below W.heap.size W w' ∧ NewP W.heap.size a len L) from recOpen_any x (by omega) W))
    obtain ⟨q, rs, hO⟩ : ∃ q rs, openM x = (q, rs) := ⟨_, _, rfl⟩
    rw [hO] at GO
    dsimp only at GO
    have hM : recM s = if recB q (rs.map plOf) = true ∧ bodyS q (rs.map plOf) = x then (q, rs, n, 1) else (0, [], 0, 4) := by unfold recM; rw [hF]; dsimp only; rw [if_neg (by simp), hO]
    clear hO hF hx
    by_cases hok : recB q (rs.map plOf) = true
    · obtain ⟨Y, hY⟩ : ∃ Y, bodyS q (rs.map plOf) = Y := ⟨_, rfl⟩
      rw [hY] at hM
      have HYe := Lib.hid hY
      have Hok := Lib.hid hok
      by_cases hbd : Y = x
      · have HM := Lib.hid (show recM s = (q, rs, n, 1) by rw [hM, if_pos ⟨hok, hbd⟩])
        clear hM hY hok
        subst hbd
        go_enter Try.func10, Try.ntmps10
        go_wp2_with (first
          | (go_at_call 22; ((with_reducible refine (GF.out _).mono ?_); rintro e w1 ⟨rfl, hB1⟩; have hr := rec_block hB1; have hA := bel2 (bel_alloc (Below.refl w.heap.size w) (.cells #[.int .i64 0, .slice none 0 0] 32)) hB1; have c0 : w1.cell? ⟨w.heap.size, 0, none⟩ = some (.int .i64 0) := cell_of_row _ _ 0 _ _ _ hr; have c1 : w1.cell? ⟨w.heap.size, 1, none⟩ = some (.slice none 0 0) := cell_of_row _ _ 1 _ _ _ hr; have f0 : w1.frozen? ⟨w.heap.size, 0, none⟩ = false := frozen_of_row _ _ 0 _ _ hr; have f1 : w1.frozen? ⟨w.heap.size, 1, none⟩ = false := frozen_of_row _ _ 1 _ _ hr))
          | (go_at_call 23; ((with_reducible refine (GO.out _).mono ?_); rintro e w2 ⟨a, len, cap, L, rfl, hP, hL, hB2, hN⟩; have hlt1 := heap_lt hr; replace hr := (hB2.block _ (heap_lt hr)).trans hr; have hsz := hA.size; replace hA := bel2 hA hB2; clear c0 c1 f0 f1; have hAx := bel_alloc (Below.refl w2.heap.size w2) (.cells #[.int .i64 q, .slice a len cap] 32); have HP3 := Lib.hid (hP.below hAx); have HL := Lib.hid hL; have HN := Lib.hid hN; have hX3 := World.alloc_heap_new w2 (.cells #[.int .i64 q, .slice a len cap] 32); replace hr := (hAx.block _ (heap_lt hr)).trans hr; replace hA := bel2 hA hAx; have x0 : (w2.alloc (.cells #[.int .i64 q, .slice a len cap] 32)).cell? ⟨w2.heap.size, 0, none⟩ = some (.int .i64 q) := cell_of_row _ _ 0 _ _ _ hX3; have x1 : (w2.alloc (.cells #[.int .i64 q, .slice a len cap] 32)).cell? ⟨w2.heap.size, 1, none⟩ = some (.slice a len cap) := cell_of_row _ _ 1 _ _ _ hX3; have hlens : ∀ x ∈ L, x.2.length = x.1.len := fun x hx => (hP.2.2.2 x hx).1; have hq := recB_core (s := q) hlens; have hy := bodyS_core (s := q) hlens; rw [hL] at hq hy; have HQ := Lib.hid hq; have HY := Lib.hid hy; clear hq hy hlens hP hL hN hAx))
          | (go_at_call 8; ((refine (show Gives Try.prog 8 #[.agg #[.int .i64 q, .slice a len cap]] (w2.alloc (.cells #[.int .i64 q, .slice a len cap] 32)) (.bool true) from (by have h := recIs_any q a len cap L _ HP3.out; rwa [HQ.out.symm.trans Hok.out] at h)).mono ?_); rintro e w4 ⟨rfl, hB4⟩; replace hr := (hB4.block _ (heap_lt hr)).trans hr; replace hA := bel2 hA hB4; have hX4 := (hB4.block _ (heap_lt hX3)).trans hX3; have HP4 := Lib.hid (HP3.out.below hB4); clear x0 x1; have x0 : w4.cell? ⟨w2.heap.size, 0, none⟩ = some (.int .i64 q) := cell_of_row _ _ 0 _ _ _ hX4; have x1 : w4.cell? ⟨w2.heap.size, 1, none⟩ = some (.slice a len cap) := cell_of_row _ _ 1 _ _ _ hX4))
          | (go_at_call 21; ((refine (show Gives Try.prog 21 #[.agg #[.int .i64 q, .slice a len cap]] w4 (.string Y) from (by have h := recBody_any q a len cap L _ HP4.out (HQ.out.symm.trans Hok.out); rwa [HY.out.symm.trans HYe.out] at h)).mono ?_); rintro e w5 ⟨rfl, hB5⟩; replace hr := (hB5.block _ (heap_lt hr)).trans hr; replace hA := bel2 hA hB5; have hX5 := (hB5.block _ (heap_lt hX4)).trans hX4; have HP5 := Lib.hid (HP4.out.below hB5); clear x0 x1; have x0 : w5.cell? ⟨w2.heap.size, 0, none⟩ = some (.int .i64 q) := cell_of_row _ _ 0 _ _ _ hX5; have x1 : w5.cell? ⟨w2.heap.size, 1, none⟩ = some (.slice a len cap) := cell_of_row _ _ 1 _ _ _ hX5; have c0 : w5.cell? ⟨w.heap.size, 0, none⟩ = some (.int .i64 0) := cell_of_row _ _ 0 _ _ _ hr; have c1 : w5.cell? ⟨w.heap.size, 1, none⟩ = some (.slice none 0 0) := cell_of_row _ _ 1 _ _ _ hr; have f0 : w5.frozen? ⟨w.heap.size, 0, none⟩ = false := frozen_of_row _ _ 0 _ _ hr; have f1 : w5.frozen? ⟨w.heap.size, 1, none⟩ = false := frozen_of_row _ _ 1 _ _ hr)))
        have hWf : ((w5.setCell ⟨w.heap.size, 0, none⟩ (.int .i64 q)).setCell ⟨w.heap.size, 1, none⟩ (.slice a len cap)).heap.size = w5.heap.size := by simp
        have hFr := (FrameT.setCell w5 w.heap.size 0 (.int .i64 q)).trans (FrameT.setCell (w5.setCell ⟨w.heap.size, 0, none⟩ (.int .i64 q)) w.heap.size 1 (.slice a len cap))
        refine bodyPost_ret (v := .tuple #[.agg #[.int .i64 q, .slice a len cap], .int .i64 n, .int .i64 1]) (by simp [results, Try.results10, go_sem, c0, c1]) rfl ?_
        exact ⟨a, len, cap, L, by rw [HM.out]; rfl, HP5.out.frame hFr HN.out (fun k (hk : w1.heap.size ≤ k) (e : k = w.heap.size) => by omega), by rw [HM.out]; exact HL.out, hA.trans (hFr.toBelow hA.size (fun k hk => Nat.le_of_eq hk.symm)), HN.out.le hsz⟩
      · have HM := Lib.hid (show recM s = (0, [], 0, 4) by rw [hM, if_neg (fun h => hbd h.2)])
        have hne : (Y.toList == x.toList) = false := by rw [beq_eq_false_iff_ne]; intro h; exact hbd ((listEq _ _).1 h)
        clear hM hY hok hbd
        go_enter Try.func10, Try.ntmps10
        go_wp2_with (first
          | (go_at_call 22; ((with_reducible refine (GF.out _).mono ?_); rintro e w1 ⟨rfl, hB1⟩; have hr := rec_block hB1; have hA := bel2 (bel_alloc (Below.refl w.heap.size w) (.cells #[.int .i64 0, .slice none 0 0] 32)) hB1; have c0 : w1.cell? ⟨w.heap.size, 0, none⟩ = some (.int .i64 0) := cell_of_row _ _ 0 _ _ _ hr; have c1 : w1.cell? ⟨w.heap.size, 1, none⟩ = some (.slice none 0 0) := cell_of_row _ _ 1 _ _ _ hr; have f0 : w1.frozen? ⟨w.heap.size, 0, none⟩ = false := frozen_of_row _ _ 0 _ _ hr; have f1 : w1.frozen? ⟨w.heap.size, 1, none⟩ = false := frozen_of_row _ _ 1 _ _ hr))
          | (go_at_call 23; ((with_reducible refine (GO.out _).mono ?_); rintro e w2 ⟨a, len, cap, L, rfl, hP, hL, hB2, hN⟩; have hlt1 := heap_lt hr; replace hr := (hB2.block _ (heap_lt hr)).trans hr; have hsz := hA.size; replace hA := bel2 hA hB2; clear c0 c1 f0 f1; have hAx := bel_alloc (Below.refl w2.heap.size w2) (.cells #[.int .i64 q, .slice a len cap] 32); have HP3 := Lib.hid (hP.below hAx); have HL := Lib.hid hL; have HN := Lib.hid hN; have hX3 := World.alloc_heap_new w2 (.cells #[.int .i64 q, .slice a len cap] 32); replace hr := (hAx.block _ (heap_lt hr)).trans hr; replace hA := bel2 hA hAx; have x0 : (w2.alloc (.cells #[.int .i64 q, .slice a len cap] 32)).cell? ⟨w2.heap.size, 0, none⟩ = some (.int .i64 q) := cell_of_row _ _ 0 _ _ _ hX3; have x1 : (w2.alloc (.cells #[.int .i64 q, .slice a len cap] 32)).cell? ⟨w2.heap.size, 1, none⟩ = some (.slice a len cap) := cell_of_row _ _ 1 _ _ _ hX3; have hlens : ∀ x ∈ L, x.2.length = x.1.len := fun x hx => (hP.2.2.2 x hx).1; have hq := recB_core (s := q) hlens; have hy := bodyS_core (s := q) hlens; rw [hL] at hq hy; have HQ := Lib.hid hq; have HY := Lib.hid hy; clear hq hy hlens hP hL hN hAx))
          | (go_at_call 8; ((refine (show Gives Try.prog 8 #[.agg #[.int .i64 q, .slice a len cap]] (w2.alloc (.cells #[.int .i64 q, .slice a len cap] 32)) (.bool true) from (by have h := recIs_any q a len cap L _ HP3.out; rwa [HQ.out.symm.trans Hok.out] at h)).mono ?_); rintro e w4 ⟨rfl, hB4⟩; replace hr := (hB4.block _ (heap_lt hr)).trans hr; replace hA := bel2 hA hB4; have hX4 := (hB4.block _ (heap_lt hX3)).trans hX3; have HP4 := Lib.hid (HP3.out.below hB4); clear x0 x1; have x0 : w4.cell? ⟨w2.heap.size, 0, none⟩ = some (.int .i64 q) := cell_of_row _ _ 0 _ _ _ hX4; have x1 : w4.cell? ⟨w2.heap.size, 1, none⟩ = some (.slice a len cap) := cell_of_row _ _ 1 _ _ _ hX4))
          | (go_at_call 21; ((refine (show Gives Try.prog 21 #[.agg #[.int .i64 q, .slice a len cap]] w4 (.string Y) from (by have h := recBody_any q a len cap L _ HP4.out (HQ.out.symm.trans Hok.out); rwa [HY.out.symm.trans HYe.out] at h)).mono ?_); rintro e w5 ⟨rfl, hB5⟩; replace hr := (hB5.block _ (heap_lt hr)).trans hr; replace hA := bel2 hA hB5; have hX5 := (hB5.block _ (heap_lt hX4)).trans hX4; have HP5 := Lib.hid (HP4.out.below hB5); clear x0 x1; have x0 : w5.cell? ⟨w2.heap.size, 0, none⟩ = some (.int .i64 q) := cell_of_row _ _ 0 _ _ _ hX5; have x1 : w5.cell? ⟨w2.heap.size, 1, none⟩ = some (.slice a len cap) := cell_of_row _ _ 1 _ _ _ hX5; have c0 : w5.cell? ⟨w.heap.size, 0, none⟩ = some (.int .i64 0) := cell_of_row _ _ 0 _ _ _ hr; have c1 : w5.cell? ⟨w.heap.size, 1, none⟩ = some (.slice none 0 0) := cell_of_row _ _ 1 _ _ _ hr; have f0 : w5.frozen? ⟨w.heap.size, 0, none⟩ = false := frozen_of_row _ _ 0 _ _ hr; have f1 : w5.frozen? ⟨w.heap.size, 1, none⟩ = false := frozen_of_row _ _ 1 _ _ hr)))
        refine bodyPost_ret (v := .tuple #[.agg #[.int .i64 0, .slice none 0 0], .int .i64 0, .int .i64 4]) (by simp [results, Try.results10, go_sem, c0, c1]) rfl ?_
        exact recPost_bad HM.out rfl ((hA.setCell (p := ⟨w.heap.size, 0, none⟩) (Nat.le_refl _) _).setCell (p := ⟨w.heap.size, 1, none⟩) (Nat.le_refl _) _)
    · have HM := Lib.hid (show recM s = (0, [], 0, 4) by rw [hM, if_neg (fun h => hok h.1)])
      have Hok := Lib.hid (Bool.eq_false_iff.2 hok)
      clear hM hok
      go_enter Try.func10, Try.ntmps10
      go_wp2_with (first
        | (go_at_call 22; ((with_reducible refine (GF.out _).mono ?_); rintro e w1 ⟨rfl, hB1⟩; have hr := rec_block hB1; have hA := bel2 (bel_alloc (Below.refl w.heap.size w) (.cells #[.int .i64 0, .slice none 0 0] 32)) hB1; have c0 : w1.cell? ⟨w.heap.size, 0, none⟩ = some (.int .i64 0) := cell_of_row _ _ 0 _ _ _ hr; have c1 : w1.cell? ⟨w.heap.size, 1, none⟩ = some (.slice none 0 0) := cell_of_row _ _ 1 _ _ _ hr; have f0 : w1.frozen? ⟨w.heap.size, 0, none⟩ = false := frozen_of_row _ _ 0 _ _ hr; have f1 : w1.frozen? ⟨w.heap.size, 1, none⟩ = false := frozen_of_row _ _ 1 _ _ hr))
        | (go_at_call 23; ((with_reducible refine (GO.out _).mono ?_); rintro e w2 ⟨a, len, cap, L, rfl, hP, hL, hB2, hN⟩; have hlt1 := heap_lt hr; replace hr := (hB2.block _ (heap_lt hr)).trans hr; have hsz := hA.size; replace hA := bel2 hA hB2; clear c0 c1 f0 f1; have hAx := bel_alloc (Below.refl w2.heap.size w2) (.cells #[.int .i64 q, .slice a len cap] 32); have HP3 := Lib.hid (hP.below hAx); have HL := Lib.hid hL; have HN := Lib.hid hN; have hX3 := World.alloc_heap_new w2 (.cells #[.int .i64 q, .slice a len cap] 32); replace hr := (hAx.block _ (heap_lt hr)).trans hr; replace hA := bel2 hA hAx; have x0 : (w2.alloc (.cells #[.int .i64 q, .slice a len cap] 32)).cell? ⟨w2.heap.size, 0, none⟩ = some (.int .i64 q) := cell_of_row _ _ 0 _ _ _ hX3; have x1 : (w2.alloc (.cells #[.int .i64 q, .slice a len cap] 32)).cell? ⟨w2.heap.size, 1, none⟩ = some (.slice a len cap) := cell_of_row _ _ 1 _ _ _ hX3; have hlens : ∀ x ∈ L, x.2.length = x.1.len := fun x hx => (hP.2.2.2 x hx).1; have hq := recB_core (s := q) hlens; have hy := bodyS_core (s := q) hlens; rw [hL] at hq hy; have HQ := Lib.hid hq; have HY := Lib.hid hy; clear hq hy hlens hP hL hN hAx))
        | (go_at_call 8; ((refine (show Gives Try.prog 8 #[.agg #[.int .i64 q, .slice a len cap]] (w2.alloc (.cells #[.int .i64 q, .slice a len cap] 32)) (.bool false) from (by have h := recIs_any q a len cap L _ HP3.out; rwa [HQ.out.symm.trans Hok.out] at h)).mono ?_); rintro e w4 ⟨rfl, hB4⟩; replace hr := (hB4.block _ (heap_lt hr)).trans hr; replace hA := bel2 hA hB4; have hX4 := (hB4.block _ (heap_lt hX3)).trans hX3; have HP4 := Lib.hid (HP3.out.below hB4); clear x0 x1; have x0 : w4.cell? ⟨w2.heap.size, 0, none⟩ = some (.int .i64 q) := cell_of_row _ _ 0 _ _ _ hX4; have x1 : w4.cell? ⟨w2.heap.size, 1, none⟩ = some (.slice a len cap) := cell_of_row _ _ 1 _ _ _ hX4; have c0 : w4.cell? ⟨w.heap.size, 0, none⟩ = some (.int .i64 0) := cell_of_row _ _ 0 _ _ _ hr; have c1 : w4.cell? ⟨w.heap.size, 1, none⟩ = some (.slice none 0 0) := cell_of_row _ _ 1 _ _ _ hr; have f0 : w4.frozen? ⟨w.heap.size, 0, none⟩ = false := frozen_of_row _ _ 0 _ _ hr; have f1 : w4.frozen? ⟨w.heap.size, 1, none⟩ = false := frozen_of_row _ _ 1 _ _ hr)))
      refine bodyPost_ret (v := .tuple #[.agg #[.int .i64 0, .slice none 0 0], .int .i64 0, .int .i64 4]) (by simp [results, Try.results10, go_sem, c0, c1]) rfl ?_
      exact recPost_bad HM.out rfl ((hA.setCell (p := ⟨w.heap.size, 0, none⟩) (Nat.le_refl _) _).setCell (p := ⟨w.heap.size, 1, none⟩) (Nat.le_refl _) _)
  · have hM := Lib.hid (show recM s = (0, [], 0, c) by unfold recM; rw [hF]; dsimp only; rw [if_pos (by simpa using hc)])
    have GF := Lib.hid (fun W => frameRead_at s x n c (by omega) hF W)
    have x1 : ((c : Int) == 1) = false := by rw [beq_eq_false_iff_ne]; omega
    have x2 : ((c : Int) != 1) = true := by rw [bne_iff_ne]; omega
    clear hc hF
    go_enter Try.func10, Try.ntmps10
    go_wp2_with (go_at_call 22; ((with_reducible refine (GF.out _).mono ?_); rintro e w1 ⟨rfl, hB1⟩; have hr := rec_block hB1; have hA := bel2 (bel_alloc (Below.refl w.heap.size w) (.cells #[.int .i64 0, .slice none 0 0] 32)) hB1; have c0 : w1.cell? ⟨w.heap.size, 0, none⟩ = some (.int .i64 0) := cell_of_row _ _ 0 _ _ _ hr; have c1 : w1.cell? ⟨w.heap.size, 1, none⟩ = some (.slice none 0 0) := cell_of_row _ _ 1 _ _ _ hr; have f0 : w1.frozen? ⟨w.heap.size, 0, none⟩ = false := frozen_of_row _ _ 0 _ _ hr; have f1 : w1.frozen? ⟨w.heap.size, 1, none⟩ = false := frozen_of_row _ _ 1 _ _ hr))
    refine bodyPost_ret (v := .tuple #[.agg #[.int .i64 0, .slice none 0 0], .int .i64 0, .int .i64 c]) (by simp [results, Try.results10, go_sem, c0, c1]) rfl ?_
    exact recPost_bad hM.out rfl ((hA.setCell (p := ⟨w.heap.size, 0, none⟩) (Nat.le_refl _) _).setCell (p := ⟨w.heap.size, 1, none⟩) (Nat.le_refl _) _)

end Go.Proofs.Ytbhhbjgdkcfagaa

/- What the fifth layer's laws hold by themselves: the examples, and what is few. -/
namespace Go.Proofs.Ytbhhbjgdkcfagaa
open Go.RowKit Go.Shelf
set_option linter.unusedVariables false
attribute [local go_sem] Oper.semAt_some wide_fn wide_round_fn

theorem recRead_at (s : ByteArray) (q : Int) (rs : List ReadC) (n c : Nat) (hs : s.size < 4611686018427387904) (h : recM s = (q, rs, n, c)) (w : World) :
    Calls Try.prog 10 #[.string s] w fun e w' => ∃ (a : Option Addr) (len cap : Nat) (L : List PL), e = .returned (.tuple #[.agg #[.int .i64 q, .slice a len cap], .int .i64 n, .int .i64 c]) ∧ HasP w' a len L ∧ L.map core = rs ∧ Below w.heap.size w w' := by
  have := recRead_any s hs w
  unfold RecPost at this
  rw [h] at this
  exact this.mono fun _ _ ⟨a, len, cap, L, h1, h2, h3, h4, _⟩ => ⟨a, len, cap, L, h1, h2, h3, h4⟩
def gone5 : List PL := [(⟨5, 5, none, 0, 0, 0, 0, 0, 0, 0, false, false⟩, [])]
theorem gone5_has {W : World} {g : Nat} (h : W.heap[g]? = some (.cells #[.int .i64 5, .int .i64 5, .slice none 0 0, .int .i64 0, .int .i64 0, .int .i64 0, .int .i64 0, .int .i64 0, .bool false, .bool false] 30 (0, 0))) : HasP W (some ⟨g, 0, none⟩) 1 gone5 :=
  ⟨rfl, by decide, rowV_block (cs := #[.int .i64 5, .int .i64 5, .slice none 0 0, .int .i64 0, .int .i64 0, .int .i64 0, .int .i64 0, .int .i64 0, .bool false, .bool false]) (n := 1) (sz := 10) h rfl (by decide), fun x hx => by
    rw [List.mem_singleton.1 hx]; exact hasE_nil rfl rfl⟩
theorem gone5_len : ∀ x ∈ gone5, x.2.length = x.1.len := fun x hx => by rw [List.mem_singleton.1 hx]; rfl
theorem gone5_ok : recB 3 gone5 = true := by kernel_rfl
theorem gone5_size : (recS 3 gone5).size = 16 := by rw [recS_ok gone5_ok, wrapB_size]; rfl
set_option maxRecDepth 100000 in
set_option maxHeartbeats 4000000 in
theorem rec_known (w : World) : Gives Try.prog 5 #[] w (.bool true) := by
  have hz := gone5_size
  have e1 : recE 3 gone5 = 0 := recE_ok gone5_ok
  have hb1 := recM_back gone5_len gone5_ok ⟨#[120]⟩
  have hb2 := recM_cut gone5_len gone5_ok 9 (by decide) (by rw [gone5_size]; decide)
  rw [hz] at hb1
  have g1 := fun W g h => recBytes_any 3 (some ⟨g, 0, none⟩) 1 1 gone5 W (gone5_has h)
  have g4 := fun W g h => recSize_any 3 (some ⟨g, 0, none⟩) 1 1 gone5 W (gone5_has h)
  rw [e1] at g1
  rw [hz] at g4
  generalize recS 3 gone5 = S at *
  have G1 := Lib.hid g1
  have G2 := Lib.hid (show ∀ W, Gives Try.prog 9 #[.agg #[.int .i64 0, .slice none 0 0]] W (.tuple #[.string ⟨#[]⟩, .int .i64 11]) from fun W => recBytes_any 0 none 0 0 [] W (hasP_nil _ _))
  have G3 := Lib.hid (fun W g h => (show Gives Try.prog 8 #[.agg #[.int .i64 3, .slice (some ⟨g, 0, none⟩) 1 1]] W (.bool true) from by have := recIs_any 3 (some ⟨g, 0, none⟩) 1 1 gone5 W (gone5_has h); rwa [gone5_ok] at this))
  have G4 := Lib.hid (show ∀ W g, W.heap[g]? = some (.cells #[.int .i64 5, .int .i64 5, .slice none 0 0, .int .i64 0, .int .i64 0, .int .i64 0, .int .i64 0, .int .i64 0, .bool false, .bool false] 30 (0, 0)) → Gives Try.prog 12 #[.agg #[.int .i64 3, .slice (some ⟨g, 0, none⟩) 1 1]] W (.int .i64 16) from g4)
  have G5 := Lib.hid (show ∀ W, Gives Try.prog 12 #[.agg #[.int .i64 0, .slice none 0 0]] W (.int .i64 0) from fun W => recSize_any 0 none 0 0 [] W (hasP_nil _ _))
  have GR := Lib.hid (fun W => recRead_at (S ++ ⟨#[120]⟩) 3 (gone5.map core) 16 1 (by rw [ByteArray.size_append, hz]; decide) hb1 W)
  have GT := Lib.hid (fun W => recRead_at (S.extract 0 9) 0 [] 0 3 (by rw [ByteArray.size_extract]; omega) hb2 W)
  have GS := Lib.hid (fun W g h a len cap L (hP : HasP W a len L) (hL : L.map core = gone5.map core) => (show Gives Try.prog 13 #[.agg #[.int .i64 3, .slice a len cap], .agg #[.int .i64 3, .slice (some ⟨g, 0, none⟩) 1 1]] W (.bool true) from by have := recSame_any 3 3 a (some ⟨g, 0, none⟩) len 1 cap 1 L gone5 W hP (gone5_has h); rwa [sameR_iff.2 ⟨rfl, hL⟩] at this))
  have hp := two_a w #[.int .i64 5, .int .i64 5, .slice none 0 0, .int .i64 0, .int .i64 0, .int .i64 0, .int .i64 0, .int .i64 0, .bool false, .bool false] #[.int .i64 3, .slice (some ⟨w.heap.size, 0, none⟩) 1 1] 30 32
  have hr := two_b w #[.int .i64 5, .int .i64 5, .slice none 0 0, .int .i64 0, .int .i64 0, .int .i64 0, .int .i64 0, .int .i64 0, .bool false, .bool false] #[.int .i64 3, .slice (some ⟨w.heap.size, 0, none⟩) 1 1] 30 32
  have hA := bel_alloc (bel_alloc (Below.refl w.heap.size w) (.cells #[.int .i64 5, .int .i64 5, .slice none 0 0, .int .i64 0, .int .i64 0, .int .i64 0, .int .i64 0, .int .i64 0, .bool false, .bool false] 30)) (.cells #[.int .i64 3, .slice (some ⟨w.heap.size, 0, none⟩) 1 1] 32)
  have x0 : ((w.alloc (.cells #[.int .i64 5, .int .i64 5, .slice none 0 0, .int .i64 0, .int .i64 0, .int .i64 0, .int .i64 0, .int .i64 0, .bool false, .bool false] 30)).alloc (.cells #[.int .i64 3, .slice (some ⟨w.heap.size, 0, none⟩) 1 1] 32)).cell? ⟨w.heap.size + 1, 0, none⟩ = some (.int .i64 3) := cell_of_row _ _ 0 _ _ _ hr
  have x1 : ((w.alloc (.cells #[.int .i64 5, .int .i64 5, .slice none 0 0, .int .i64 0, .int .i64 0, .int .i64 0, .int .i64 0, .int .i64 0, .bool false, .bool false] 30)).alloc (.cells #[.int .i64 3, .slice (some ⟨w.heap.size, 0, none⟩) 1 1] 32)).cell? ⟨w.heap.size + 1, 1, none⟩ = some (.slice (some ⟨w.heap.size, 0, none⟩) 1 1) := cell_of_row _ _ 1 _ _ _ hr
  have hmn : min (9 : Int) 16 = 9 := by decide
  clear g1 g4 hb1 hb2 e1
  unfold Gives
  go_enter Try.func5, Try.ntmps5
  go_wp2_with (first
    | (go_at_call 9; ((with_reducible refine (G1.out _ _ hp).mono ?_); rintro e w2 ⟨rfl, hB⟩; replace hA := bel2 hA hB; replace hp := (hB.block _ (heap_lt hp)).trans hp; replace hr := (hB.block _ (heap_lt hr)).trans hr; clear x0 x1; have x0 : w2.cell? ⟨w.heap.size + 1, 0, none⟩ = some (.int .i64 3) := cell_of_row _ _ 0 _ _ _ hr; have x1 : w2.cell? ⟨w.heap.size + 1, 1, none⟩ = some (.slice (some ⟨w.heap.size, 0, none⟩) 1 1) := cell_of_row _ _ 1 _ _ _ hr; clear hB))
    | (go_at_call 10; ((with_reducible refine (GR.out _).mono ?_); rintro e w3 ⟨a, len, cap, L, rfl, hP, hL, hB⟩; replace hA := bel2 hA hB; replace hp := (hB.block _ (heap_lt hp)).trans hp; replace hr := (hB.block _ (heap_lt hr)).trans hr; clear x0 x1; have x0 : w3.cell? ⟨w.heap.size + 1, 0, none⟩ = some (.int .i64 3) := cell_of_row _ _ 0 _ _ _ hr; have x1 : w3.cell? ⟨w.heap.size + 1, 1, none⟩ = some (.slice (some ⟨w.heap.size, 0, none⟩) 1 1) := cell_of_row _ _ 1 _ _ _ hr; clear hB; have hAx := bel_alloc (Below.refl w3.heap.size w3) (.cells #[.int .i64 3, .slice a len cap] 32); have HQ := Lib.hid (hP.below hAx); have HL := Lib.hid hL; have hq := World.alloc_heap_new w3 (.cells #[.int .i64 3, .slice a len cap] 32); replace hp := (hAx.block _ (heap_lt hp)).trans hp; replace hr := (hAx.block _ (heap_lt hr)).trans hr; replace hA := bel2 hA hAx; clear hP hL hAx x0 x1; have x0 : (w3.alloc (.cells #[.int .i64 3, .slice a len cap] 32)).cell? ⟨w.heap.size + 1, 0, none⟩ = some (.int .i64 3) := cell_of_row _ _ 0 _ _ _ hr; have x1 : (w3.alloc (.cells #[.int .i64 3, .slice a len cap] 32)).cell? ⟨w.heap.size + 1, 1, none⟩ = some (.slice (some ⟨w.heap.size, 0, none⟩) 1 1) := cell_of_row _ _ 1 _ _ _ hr; have q0 := True.intro; have q1 := True.intro))
    | (go_at_call 10; ((with_reducible refine (GT.out _).mono ?_); rintro e w4 ⟨a2, len2, cap2, L2, rfl, _, _, hB⟩; replace hB := bel2 hB (bel_alloc (Below.refl w4.heap.size w4) (.cells #[.int .i64 0, .slice a2 len2 cap2] 32)); replace hA := bel2 hA hB; replace hp := (hB.block _ (heap_lt hp)).trans hp; replace hr := (hB.block _ (heap_lt hr)).trans hr; clear x0 x1; have x0 : (w4.alloc (.cells #[.int .i64 0, .slice a2 len2 cap2] 32)).cell? ⟨w.heap.size + 1, 0, none⟩ = some (.int .i64 3) := cell_of_row _ _ 0 _ _ _ hr; have x1 : (w4.alloc (.cells #[.int .i64 0, .slice a2 len2 cap2] 32)).cell? ⟨w.heap.size + 1, 1, none⟩ = some (.slice (some ⟨w.heap.size, 0, none⟩) 1 1) := cell_of_row _ _ 1 _ _ _ hr; replace hq := (hB.block _ (heap_lt hq)).trans hq; replace HQ := Lib.hid (HQ.out.below hB); clear q0 q1; have q0 : (w4.alloc (.cells #[.int .i64 0, .slice a2 len2 cap2] 32)).cell? ⟨w3.heap.size, 0, none⟩ = some (.int .i64 3) := cell_of_row _ _ 0 _ _ _ hq; have q1 : (w4.alloc (.cells #[.int .i64 0, .slice a2 len2 cap2] 32)).cell? ⟨w3.heap.size, 1, none⟩ = some (.slice a len cap) := cell_of_row _ _ 1 _ _ _ hq; clear hB))
    | (go_at_call 9; ((with_reducible refine (G2.out _).mono ?_); rintro e w5 ⟨rfl, hB⟩; replace hA := bel2 hA hB; replace hp := (hB.block _ (heap_lt hp)).trans hp; replace hr := (hB.block _ (heap_lt hr)).trans hr; clear x0 x1; have x0 : w5.cell? ⟨w.heap.size + 1, 0, none⟩ = some (.int .i64 3) := cell_of_row _ _ 0 _ _ _ hr; have x1 : w5.cell? ⟨w.heap.size + 1, 1, none⟩ = some (.slice (some ⟨w.heap.size, 0, none⟩) 1 1) := cell_of_row _ _ 1 _ _ _ hr; replace hq := (hB.block _ (heap_lt hq)).trans hq; replace HQ := Lib.hid (HQ.out.below hB); clear q0 q1; have q0 : w5.cell? ⟨w3.heap.size, 0, none⟩ = some (.int .i64 3) := cell_of_row _ _ 0 _ _ _ hq; have q1 : w5.cell? ⟨w3.heap.size, 1, none⟩ = some (.slice a len cap) := cell_of_row _ _ 1 _ _ _ hq; clear hB))
    | (go_at_call 13; ((refine (GS.out _ _ hp a len cap L HQ.out HL.out).mono ?_); rintro e w6 ⟨rfl, hB⟩; replace hA := bel2 hA hB; replace hp := (hB.block _ (heap_lt hp)).trans hp; replace hr := (hB.block _ (heap_lt hr)).trans hr; clear x0 x1; have x0 : w6.cell? ⟨w.heap.size + 1, 0, none⟩ = some (.int .i64 3) := cell_of_row _ _ 0 _ _ _ hr; have x1 : w6.cell? ⟨w.heap.size + 1, 1, none⟩ = some (.slice (some ⟨w.heap.size, 0, none⟩) 1 1) := cell_of_row _ _ 1 _ _ _ hr; clear hB))
    | (go_at_call 8; ((with_reducible refine (G3.out _ _ hp).mono ?_); rintro e w7 ⟨rfl, hB⟩; replace hA := bel2 hA hB; replace hp := (hB.block _ (heap_lt hp)).trans hp; replace hr := (hB.block _ (heap_lt hr)).trans hr; clear x0 x1; have x0 : w7.cell? ⟨w.heap.size + 1, 0, none⟩ = some (.int .i64 3) := cell_of_row _ _ 0 _ _ _ hr; have x1 : w7.cell? ⟨w.heap.size + 1, 1, none⟩ = some (.slice (some ⟨w.heap.size, 0, none⟩) 1 1) := cell_of_row _ _ 1 _ _ _ hr; clear hB))
    | (go_at_call 12; ((with_reducible refine (G4.out _ _ hp).mono ?_); rintro e w8 ⟨rfl, hB⟩; replace hA := bel2 hA hB; replace hp := (hB.block _ (heap_lt hp)).trans hp; replace hr := (hB.block _ (heap_lt hr)).trans hr; clear x0 x1; have x0 : w8.cell? ⟨w.heap.size + 1, 0, none⟩ = some (.int .i64 3) := cell_of_row _ _ 0 _ _ _ hr; have x1 : w8.cell? ⟨w.heap.size + 1, 1, none⟩ = some (.slice (some ⟨w.heap.size, 0, none⟩) 1 1) := cell_of_row _ _ 1 _ _ _ hr; clear hB))
    | (go_at_call 12; ((with_reducible refine (G5.out _).mono ?_); rintro e w9 ⟨rfl, hB⟩; replace hA := bel2 hA hB)))
  go_ret
  exact ⟨rfl, hA⟩

def few5B (l : List EntryC) : Bool := l.all (fun e => decide (e.d.size ≤ 60)) && decide (l.length ≤ 8)
set_option maxRecDepth 100000 in
set_option maxHeartbeats 1000000 in
theorem few5_any (p : PartC) (l : List EntryC) (w : World) (hl : l.length = p.len) (hrow : RowV w p.a p.len 3 (entryCells l)) (hg : ∀ e ∈ l, e.d.size ≤ maxLen) : Gives Try.prog 14 #[p.val] w (.bool (few5B l)) := by
  obtain ⟨g, k, a, len, cap, ht, hv, hc, i, t, mk, hd⟩ := p
  dsimp only [PartC.val] at *
  unfold Gives
  have hm := hrow.2.1
  unfold maxLen at hm
  have hcs := hrow.2.2
  have c2 : (w.alloc (.cells #[.int .i64 g, .int .i64 k, .slice a len cap, .int .i64 ht, .int .i64 hv, .int .i64 hc, .int .i64 i, .int .i64 t, .bool mk, .bool hd] 30)).cell? ⟨w.heap.size, 2, none⟩ = some (.slice a len cap) := cell_of_row _ _ 2 _ _ _ (World.alloc_heap_new w _)
  have hA := bel_alloc (Below.refl w.heap.size w) (.cells #[.int .i64 g, .int .i64 k, .slice a len cap, .int .i64 ht, .int .i64 hv, .int .i64 hc, .int .i64 i, .int .i64 t, .bool mk, .bool hd] 30)
  clear hrow
  go_enter Try.func14, Try.ntmps14
  go_wp2
  go_loop [3] (fun q => ∃ n : Nat, n ≤ len ∧ q = .int .i64 n ∧ (l.take n).all (fun e => decide (e.d.size ≤ 60)) = true) (fun q => len - (intOf q).toNat)
  case atStart => exact ⟨0, by omega, rfl, rfl⟩
  case round =>
    obtain ⟨n, hn, rfl, ha⟩ := hrel
    have HA := Lib.hid ha
    clear ha
    by_cases hlt : n < len
    · obtain ⟨b, off, rfl, hb, hx⟩ := hcs (by omega)
      have hkl : n < l.length := by omega
      obtain ⟨d0, d1, d2⟩ := entry_at hb hA hx hkl
      have hsz := hg l[n] (List.getElem_mem _)
      unfold maxLen at hsz
      have HT := Lib.hid (show l[n].d.size ≤ 60 → (l.take (n + 1)).all (fun e => decide (e.d.size ≤ 60)) = true from fun h => by rw [List.take_succ_eq_append_getElem hkl, List.all_append, HA.out]; simp [h])
      have HF := Lib.hid (show 60 < l[n].d.size → few5B l = false from fun h => by
        have : l.all (fun e => decide (e.d.size ≤ 60)) = false := by
          rw [List.all_eq_false]; exact ⟨l[n], List.getElem_mem _, by simp; omega⟩
        unfold few5B; rw [this]; rfl)
      clear hx hcs
      generalize l[n] = x at *
      by_cases h6 : x.d.size ≤ 60
      · go_wp2
        go_round
        case rel => exact ⟨n + 1, by omega, by go_num, HT.out h6⟩
        case measure => simp [intOf]; omega
      · have h6' : 60 < x.d.size := by omega
        go_wp2
        go_ret
        exact ⟨by rw [HF.out h6']; rfl, hA⟩
    · obtain rfl : n = len := by omega
      rw [List.take_of_length_le (by omega)] at HA
      have HV := Lib.hid (show few5B l = decide ((n : Int) ≤ 8) by unfold few5B; rw [HA.out, hl, Bool.true_and]; exact decide_eq_decide.2 (by omega))
      go_wp2
      go_ret
      exact ⟨by rw [HV.out]; rfl, hA⟩


/-- A row of parts is few. -/
def fewPs (L : List PL) : Bool := L.all (fun x => few5B x.2) && decide (L.length ≤ 6)
theorem fewPs_has {W : World} {a : Option Addr} {len : Nat} {L : List PL} (hl : L.length = len) (hrow : RowV W a len 10 (partCells L)) (hg : ∀ x ∈ L, GoodP W x) (h : fewPs L = true) : HasP W a len L := by
  simp only [fewPs, Bool.and_eq_true, decide_eq_true_eq, List.all_eq_true] at h
  refine ⟨hl, by omega, hrow, fun x hx => ?_⟩
  obtain ⟨_, h1, h2, _⟩ := hg x hx
  have h3 := h.1 x hx
  simp only [few5B, Bool.and_eq_true, decide_eq_true_eq] at h3
  exact ⟨h1, by omega, h2⟩
set_option maxRecDepth 100000 in
set_option maxHeartbeats 2000000 in
theorem fewPs_any (a : Option Addr) (len cap : Nat) (L : List PL) (w : World) (hL : L.length = len) (hrow : RowV w a len 10 (partCells L)) (hg : ∀ x ∈ L, GoodP w x) : Gives Try.prog 6 #[.slice a len cap] w (.bool (fewPs L)) := by
  have hm := hrow.2.1
  unfold maxLen at hm
  have hcs := hrow.2.2
  have HG := Lib.hid hg
  have HL := Lib.hid hL
  clear hrow hg hL
  unfold Gives
  go_enter Try.func6, Try.ntmps6
  go_wp2
  go_loopw [3] (fun q wr => ∃ n : Nat, n ≤ len ∧ q = .int .i64 n ∧ (L.take n).all (fun x => few5B x.2) = true ∧ Below w.heap.size w wr) (fun q _ => len - (intOf q).toNat)
  case atStart => exact ⟨0, by omega, rfl, rfl, Below.refl _ _⟩
  case round =>
    obtain ⟨n, hn, rfl, ha, hB⟩ := hrel
    have HA := Lib.hid ha
    clear ha
    by_cases hlt : n < len
    · obtain ⟨b, off, rfl, hb, hx⟩ := hcs (by omega)
      have hkl : n < L.length := by rw [HL.out]; exact hlt
      obtain ⟨c0, c1, c2, c3, c4, c5, c6, c7, c8, c9⟩ := part_at10 hb hB hx hkl
      obtain ⟨_, g1, g2, g3⟩ := HG.out L[n] (List.getElem_mem hkl)
      have HT := Lib.hid (show few5B L[n].2 = true → (L.take (n + 1)).all (fun x => few5B x.2) = true from fun h => by rw [List.take_succ_eq_append_getElem hkl, List.all_append, HA.out]; simp [h])
      have HF := Lib.hid (show few5B L[n].2 = false → fewPs L = false from fun h => by
        have : L.all (fun x => few5B x.2) = false := by
          rw [List.all_eq_false]; exact ⟨L[n], List.getElem_mem _, by simp [h]⟩
        unfold fewPs; rw [this]; rfl)
      clear hx hcs HG HL HA
      generalize L[n] = x at *
      obtain ⟨p, l⟩ := x
      dsimp only at *
      have GF := Lib.hid (fun W (hW : Below w.heap.size w W) => few5_any p l W g1 (g2.below hW) (fun e he => (g3 e he).2.2))
      obtain ⟨pg, pk, pa, plen, pcap, pht, phv, phc, pi, pt, pm, ph⟩ := p
      dsimp only [PartC.val] at *
      clear g1 g2 g3
      cases hf : few5B l
      · rw [hf] at GF
        have HF2 := Lib.hid (HF.out hf)
        clear hf
        go_wp2_with (go_at_call 14; ((with_reducible refine (GF.out _ hB).mono ?_); rintro e w1 ⟨rfl, hB1⟩))
        go_ret
        exact ⟨by rw [HF2.out]; rfl, bel2 hB hB1⟩
      · rw [hf] at GF
        have HT2 := Lib.hid (HT.out hf)
        clear hf
        go_wp2_with (go_at_call 14; ((with_reducible refine (GF.out _ hB).mono ?_); rintro e w1 ⟨rfl, hB1⟩))
        go_roundw
        case rel => exact ⟨n + 1, by omega, by go_num, HT2.out, bel2 hB hB1⟩
        case measure => simp [intOf]; omega
    · obtain rfl : n = len := by omega
      have HV := Lib.hid (show fewPs L = decide ((n : Int) ≤ 6) by
        have h1 := HA.out
        have h2 := HL.out
        rw [List.take_of_length_le (by omega)] at h1
        unfold fewPs; rw [h1, h2, Bool.true_and]; exact decide_eq_decide.2 (by omega))
      go_wp2
      go_ret
      exact ⟨by rw [HV.out]; rfl, hB⟩

end Go.Proofs.Ytbhhbjgdkcfagaa
