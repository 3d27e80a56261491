/- Grp, Collect, GrpBtw, GrpIs: in one text. -/
import Derived.Test.YtdncdlbhgaehmaaPartIs
import Derived.Test.YtdncdlbhgaehmaaIterK
import Derived.Test.YtdncdlbhgaehmaaPart
import Derived.Maps.AppendAt
import Derived.Test.YtdncdlbhgaehmaaPartFacts
/- A group as plain data: whether it is one, its last index, the terms, what a part makes of it. -/
namespace Go.Proofs.Ytdncdlbhgaehmaa
open Go.RowKit Go.Shelf
set_option linter.unusedVariables false

/-- A group, but for where its entries lie. -/
structure GM where
  id : Int
  fi : Int
  te : Int
  ht : Int
  hv : Int
  hc : Int
  l : List EntryC
  deriving DecidableEq
/-- .. as a flat value. -/
abbrev GM.val (g : GM) (a : Option Addr) (cap : Nat) : Value := .agg #[.int .i64 g.id, .int .i64 g.fi, .int .i64 g.te, .int .i64 g.ht, .int .i64 g.hv, .int .i64 g.hc, .slice a g.l.length cap]
abbrev GM.arr (g : GM) (a : Option Addr) (cap : Nat) : Array Value := #[.int .i64 g.id, .int .i64 g.fi, .int .i64 g.te, .int .i64 g.ht, .int .i64 g.hv, .int .i64 g.hc, .slice a g.l.length cap]
/-- What is in a group. -/
def HasG (w : World) (a : Option Addr) (g : GM) : Prop := g.l.length < 1000000 ∧ RowV w a g.l.length 3 (entryCells g.l)
theorem HasG.below {w W : World} {a : Option Addr} {g : GM} (h : HasG w a g) (hB : Below w.heap.size w W) : HasG W a g := ⟨h.1, h.2.below hB⟩
def denseB : List EntryC → Int → Bool
  | [], _ => true
  | e :: r, f => (entryB e && decide (e.i = f)) && denseB r (f + 1)
def isG (g : GM) : Bool := ((wB g.id 0 999 && wB g.fi 1 1099511627777) && wB g.te 0 1099511627776) && (hardB g.ht g.hv g.hc && denseB g.l g.fi)
def lastG (g : GM) : Int := g.fi - 1 + g.l.length
theorem denseB_at : ∀ {l : List EntryC} {f : Int} (h : denseB l f = true) {k : Nat} (hk : k < l.length), l[k].i = f + k ∧ entryB l[k] = true
  | e :: r, f, h, 0, _ => by
    simp only [denseB, Bool.and_eq_true, decide_eq_true_eq] at h
    exact ⟨by simp [h.1.2], h.1.1⟩
  | e :: r, f, h, k + 1, hk => by
    simp only [denseB, Bool.and_eq_true, decide_eq_true_eq] at h
    have := denseB_at h.2 (k := k) (by simpa using hk)
    exact ⟨by simp only [List.getElem_cons_succ]; rw [this.1]; push_cast; omega, this.2⟩
theorem denseB_mk : ∀ {l : List EntryC} {f : Int}, (∀ k (hk : k < l.length), l[k].i = f + k ∧ entryB l[k] = true) → denseB l f = true
  | [], _, _ => rfl
  | e :: r, f, h => by
    have h0 := h 0 (by simp)
    simp only [List.getElem_cons_zero] at h0
    simp only [denseB, Bool.and_eq_true, decide_eq_true_eq]
    refine ⟨⟨h0.2, by rw [h0.1]; simp⟩, denseB_mk fun k hk => ?_⟩
    have := h (k + 1) (by simpa using hk)
    simp only [List.getElem_cons_succ] at this
    exact ⟨by rw [this.1]; push_cast; omega, this.2⟩
theorem denseB_take (l : List EntryC) (f : Int) (k : Nat) (hk : k < l.length) : denseB (l.take (k + 1)) f = (denseB (l.take k) f && (entryB l[k] && decide (l[k].i = f + k))) := by
  induction l generalizing f k with
  | nil => simp at hk
  | cons e r ih =>
    cases k with
    | zero => simp [denseB]
    | succ k =>
      have := ih (f + 1) k (by simpa using hk)
      simp only [List.take_succ_cons, denseB, this, List.getElem_cons_succ, Bool.and_assoc]
      rw [show f + ((k + 1 : Nat) : Int) = f + 1 + (k : Int) by push_cast; omega]
theorem denseB_no {l : List EntryC} {f : Int} {k : Nat} (hk : k < l.length) (h : (entryB l[k] && decide (l[k].i = f + k)) = false) : denseB l f = false := by
  rw [Bool.eq_false_iff]; intro hd
  have := denseB_at hd hk
  rw [this.2, decide_eq_true this.1] at h; cases h
/-- Those from lo to hi. -/
def btw (l : List EntryC) (lo hi : Int) : List EntryC := l.filter fun e => decide (lo ≤ e.i) && decide (e.i ≤ hi)
/-- The term of the first one of an index. -/
def entT (l : List EntryC) (i : Int) : Int := ((btw l i i).head?.map EntryC.t).getD 0
theorem btw_take (l : List EntryC) (lo hi : Int) (k : Nat) (h : k < l.length) : btw (l.take (k + 1)) lo hi = btw (l.take k) lo hi ++ if lo ≤ l[k].i ∧ l[k].i ≤ hi then [l[k]] else [] := by
  unfold btw
  rw [List.take_succ_eq_append_getElem h, List.filter_append]
  congr 1
  by_cases hc : lo ≤ l[k].i ∧ l[k].i ≤ hi
  · rw [if_pos hc]; simp [hc.1, hc.2]
  · rw [if_neg hc]
    have : (decide (lo ≤ l[k].i) && decide (l[k].i ≤ hi)) = false := by rw [Bool.eq_false_iff]; intro h; simp only [Bool.and_eq_true, decide_eq_true_eq] at h; exact hc h
    simp [this]
theorem btw_split (l : List EntryC) (lo hi : Int) (k : Nat) (h : k < l.length) (h1 : lo ≤ l[k].i) (h2 : l[k].i ≤ hi) : btw l lo hi = btw (l.take k) lo hi ++ l[k] :: btw (l.drop (k + 1)) lo hi := by
  have e : l = l.take k ++ (l[k] :: l.drop (k + 1)) := by rw [List.getElem_cons_drop h, List.take_append_drop]
  have e2 := congrArg (fun x => btw x lo hi) e
  simp only [btw, List.filter_append, List.filter_cons] at e2 ⊢
  rw [e2]
  simp [h1, h2]
theorem btw_len (l : List EntryC) (lo hi : Int) : (btw l lo hi).length ≤ l.length := List.length_filter_le _ _
def chkA (g : GM) (f : Int) : Int := if f < g.fi then 15 else if lastG g + 1 < f then 14 else 0
def chkC (g : GM) (i t : Int) : Int := if i < g.fi then 15 else if lastG g < i then 16 else if t ≠ 0 ∧ t ≠ entT g.l i then 11 else 0
def headI (l : List EntryC) : Int := (l.head?.map EntryC.i).getD 0
/-- Why the part can't be done. -/
def chkG (g : GM) (p : PartC) (pl : List EntryC) : Int :=
  if isB p pl = false ∨ p.k = 6 ∨ p.k = 5 ∨ p.g ≠ g.id then 11
  else if p.k = 1 then chkA g (headI pl) else if p.k = 3 then chkC g p.i p.t else if p.k = 4 then (if p.i < g.fi then 15 else 0) else 0
def minI : Int := -9223372036854775808
def maxI : Int := 9223372036854775807
/-- What it makes. -/
def doG (g : GM) (p : PartC) (pl : List EntryC) : GM :=
  if chkG g p pl ≠ 0 then g
  else if p.k = 1 then { g with l := btw g.l minI (headI pl - 1) ++ pl }
  else if p.k = 2 then { g with ht := p.ht, hv := p.hv, hc := p.hc, l := btw g.l minI maxI ++ pl }
  else if p.k = 3 then { g with fi := p.i + 1, te := entT g.l p.i, l := btw g.l (p.i + 1) maxI ++ pl }
  else { g with fi := p.i + 1, te := p.t, l := btw g.l (p.i + 1) (if entT g.l p.i ≠ p.t then minI else maxI) ++ pl }

end Go.Proofs.Ytdncdlbhgaehmaa

/- The contract of slices.Collect at entries, over an iterator that turns a block of its own. -/
namespace Go.Proofs.Ytdncdlbhgaehmaa
open Go.RowKit Go.Shelf
set_option linter.unusedVariables false
attribute [local go_sem] Oper.semAt_some wide_fn wide_round_fn

theorem infoEntry : (Try.prog.info? 115).map (fun i => (i.zero, i.size, i.bytes)) = some (some (.agg #[.int .i64 0, .int .i64 0, .string ⟨#[]⟩]), 3, 32) := by kernel_rfl
theorem entryCells_snoc (l : List EntryC) (e : EntryC) : entryCells (l ++ [e]) = entryCells l ++ e.cells := by simp [entryCells]
def EntryC.enc (e : EntryC) : Array Value := #[e.val]
def collK (b : Nat) (w w1 : World) (q n : Nat) (ys : List Value) (W : World) : Prop :=
  ∃ v, Boxed W q 37 v ∧ W.ownsRow w1.heap.size 115 3 v n ys ∧ FrameT (fun k => k = b) w W ∧ w1.heap.size ≤ W.heap.size
theorem collK_stab {b : Nat} {w w1 : World} {q n : Nat} {ys : List Value} (hq : q ≠ b) (h : w.heap.size ≤ w1.heap.size) (hb : b < w.heap.size) : Stab w1.heap.size (fun k => k = b) (collK b w w1 q n ys) :=
  Stab.ex fun v => (Stab.boxed (T := fun k => k = b) hq).and ((Stab.ownsRow (T := fun k => k = b) (fun j h' => by have h' : j = b := h'; omega)).and ((FrameT.stab h).and Stab.size))
theorem ownsRow_shut {W : World} {base : Nat} {e : TypeId} {size : Nat} {v : Value} {k : Nat} {xs : List Value} (h : W.ownsRow base e size v k xs) {D : Nat} {o : Obj} (hD : W.heap[D]? = some o) (hc : o.isCells = false) (o' : Obj) : (W.putObj D o').ownsRow base e size v k xs := by
  refine ⟨h.1, ?_⟩
  rcases h.2 with h2 | ⟨g, cap, cur, hv, hg, hh, r⟩
  · exact .inl h2
  · refine .inr ⟨g, cap, cur, hv, hg, (World.putObj_heap_other (fun e => ?_)).trans hh, r⟩
    rw [e, hD] at hh
    cases hh
    cases hc

end Go.Proofs.Ytdncdlbhgaehmaa

/- The contracts of package group's between and of its iterator, of entryTerm. -/
namespace Go.Proofs.Ytdncdlbhgaehmaa
open Go.RowKit Go.Shelf
set_option linter.unusedVariables false
attribute [local go_sem] Oper.semAt_some wide_fn wide_round_fn

theorem boxes3 (w : World) (v1 v2 v3 : Value) (T1 T2 T3 : TypeId) :
    (((w.alloc (.cells #[v1] T1)).alloc (.cells #[v2] T2)).alloc (.cells #[v3] T3)).cell? ⟨w.heap.size, 0, none⟩ = some v1 ∧ (((w.alloc (.cells #[v1] T1)).alloc (.cells #[v2] T2)).alloc (.cells #[v3] T3)).cell? ⟨w.heap.size + 1, 0, none⟩ = some v2 ∧
    (((w.alloc (.cells #[v1] T1)).alloc (.cells #[v2] T2)).alloc (.cells #[v3] T3)).cell? ⟨w.heap.size + 1 + 1, 0, none⟩ = some v3 ∧ Below w.heap.size w (((w.alloc (.cells #[v1] T1)).alloc (.cells #[v2] T2)).alloc (.cells #[v3] T3)) ∧
    (((w.alloc (.cells #[v1] T1)).alloc (.cells #[v2] T2)).alloc (.cells #[v3] T3)).heap.size = w.heap.size + 3 := by
  refine ⟨(((Boxed.new w T1 v1).alloc _).alloc _).cell, ?_, ?_, bel_alloc (bel_alloc (bel_alloc (Below.refl _ _) _) _) _, by simp⟩
  · have := ((Boxed.new (w.alloc (.cells #[v1] T1)) T2 v2).alloc (.cells #[v3] T3)).cell
    rwa [World.size_alloc] at this
  · have := (Boxed.new ((w.alloc (.cells #[v1] T1)).alloc (.cells #[v2] T2)) T3 v3).cell
    rwa [World.size_alloc, World.size_alloc] at this

theorem btw_lt {a : Option Addr} {len : Nat} {w : World} {sz : Nat} {xs : List Value} (h : RowV w a len sz xs) {k : Nat} (hk : inBlkE a len k) : k < w.heap.size := by
  obtain ⟨b, off, rfl, h0, rfl⟩ := hk
  obtain ⟨b', off', e, hb, _⟩ := h.2.2 h0
  cases e; exact hb

end Go.Proofs.Ytdncdlbhgaehmaa

/- The contracts of package group's Is, Last, New. -/
namespace Go.Proofs.Ytdncdlbhgaehmaa
open Go.RowKit Go.Shelf
set_option linter.unusedVariables false
attribute [local go_sem] Oper.semAt_some wide_fn wide_round_fn

theorem isB_hard (ht hv hc : Int) : isB ⟨0, 2, none, 0, 0, ht, hv, hc, 0, 0, false, false⟩ [] = hardB ht hv hc := by
  rw [Bool.eq_iff_iff, isB_iff]; simp
theorem isG_iff {g : GM} : isG g = true ↔ ((0 ≤ g.id ∧ g.id ≤ 999) ∧ (1 ≤ g.fi ∧ g.fi ≤ 1099511627777) ∧ (0 ≤ g.te ∧ g.te ≤ 1099511627776)) ∧ hardB g.ht g.hv g.hc = true ∧ denseB g.l g.fi = true := by
  simp only [isG, Bool.and_eq_true, wB_iff]; grind
/-- The cells of a group's box in later worlds. -/
theorem gbox {w W : World} {id fi te ht hv hc : Int} {a : Option Addr} {n cap : Nat} (h : Below (w.alloc (.cells #[.int .i64 id, .int .i64 fi, .int .i64 te, .int .i64 ht, .int .i64 hv, .int .i64 hc, .slice a n cap] 65)).heap.size (w.alloc (.cells #[.int .i64 id, .int .i64 fi, .int .i64 te, .int .i64 ht, .int .i64 hv, .int .i64 hc, .slice a n cap] 65)) W) :
    W.cell? ⟨w.heap.size, 0, none⟩ = some (.int .i64 id) ∧ W.cell? ⟨w.heap.size, 1, none⟩ = some (.int .i64 fi) ∧ W.cell? ⟨w.heap.size, 2, none⟩ = some (.int .i64 te) ∧ W.cell? ⟨w.heap.size, 3, none⟩ = some (.int .i64 ht) ∧ W.cell? ⟨w.heap.size, 4, none⟩ = some (.int .i64 hv) ∧ W.cell? ⟨w.heap.size, 5, none⟩ = some (.int .i64 hc) ∧ W.cell? ⟨w.heap.size, 6, none⟩ = some (.slice a n cap) :=
  ⟨blk_cell h 0, blk_cell h 1, blk_cell h 2, blk_cell h 3, blk_cell h 4, blk_cell h 5, blk_cell h 6⟩

set_option maxRecDepth 100000 in
set_option maxHeartbeats 4000000 in
theorem grpIs_bad (id fi te ht hv hc : Int) (l : List EntryC) (a : Option Addr) (cap : Nat) (w : World) (h : ¬ ((0 ≤ id ∧ id ≤ 999) ∧ (1 ≤ fi ∧ fi ≤ 1099511627777) ∧ (0 ≤ te ∧ te ≤ 1099511627776))) : Gives Try.prog 112 #[.agg #[.int .i64 id, .int .i64 fi, .int .i64 te, .int .i64 ht, .int .i64 hv, .int .i64 hc, .slice a l.length cap]] w (.bool false) := by
  have h2 : id < 0 ∨ (0 ≤ id ∧ 999 < id) ∨ ((0 ≤ id ∧ id ≤ 999) ∧ fi < 1) ∨ ((0 ≤ id ∧ id ≤ 999) ∧ 1 ≤ fi ∧ 1099511627777 < fi) ∨ ((0 ≤ id ∧ id ≤ 999) ∧ (1 ≤ fi ∧ fi ≤ 1099511627777) ∧ te < 0) ∨ ((0 ≤ id ∧ id ≤ 999) ∧ (1 ≤ fi ∧ fi ≤ 1099511627777) ∧ 0 ≤ te ∧ 1099511627776 < te) := by omega
  clear h
  unfold Gives
  rcases h2 with h | ⟨h0, h⟩ | ⟨⟨h0, h1⟩, h⟩ | ⟨⟨h0, h1⟩, h2, h⟩ | ⟨⟨h0, h1⟩, ⟨h2, h3⟩, h⟩ | ⟨⟨h0, h1⟩, ⟨h2, h3⟩, h4, h⟩
  all_goals
    go_enter Try.func112, Try.ntmps112
    go_wp2
    go_ret
    exact ⟨by simp, bel_alloc (Below.refl _ _) _⟩

set_option maxRecDepth 100000 in
set_option maxHeartbeats 4000000 in
theorem grpIs_any (id fi te ht hv hc : Int) (l : List EntryC) (a : Option Addr) (cap : Nat) (w : World) (hg : HasG w a ⟨id, fi, te, ht, hv, hc, l⟩) : Gives Try.prog 112 #[.agg #[.int .i64 id, .int .i64 fi, .int .i64 te, .int .i64 ht, .int .i64 hv, .int .i64 hc, .slice a l.length cap]] w (.bool (isG ⟨id, fi, te, ht, hv, hc, l⟩)) := by
  by_cases hb : (0 ≤ id ∧ id ≤ 999) ∧ (1 ≤ fi ∧ fi ≤ 1099511627777) ∧ (0 ≤ te ∧ te ≤ 1099511627776)
  · have HV := Lib.hid (show isG ⟨id, fi, te, ht, hv, hc, l⟩ = (hardB ht hv hc && denseB l fi) by
      rw [Bool.eq_iff_iff, isG_iff]; simp only [hb, true_and, Bool.and_eq_true])
    rw [HV.out]
    obtain ⟨⟨h0, h1⟩, ⟨h2, h3⟩, h4, h5⟩ := hb
    have GH := Lib.hid (fun W => is_any ⟨0, 2, none, 0, 0, ht, hv, hc, 0, 0, false, false⟩ [] W (hasE_nil rfl rfl))
    rw [isB_hard] at GH
    have hm := hg.1
    have hcs := hg.2.2.2
    dsimp only at hm hcs
    clear hg HV
    unfold Gives
    generalize hardB ht hv hc = bh at *
    cases bh
    · go_enter Try.func112, Try.ntmps112
      go_wp2_with (go_at_call 44; ((with_reducible refine (GH.out _).mono ?_); rintro e w1 ⟨rfl, hB1⟩))
      go_ret
      exact ⟨by simp, blk_below hB1⟩
    · simp only [Bool.true_and]
      go_enter Try.func112, Try.ntmps112
      go_wp2_with (go_at_call 44; ((with_reducible refine (GH.out _).mono ?_); rintro e w1 ⟨rfl, hB1⟩; obtain ⟨g0, g1, g2, g3, g4, g5, g6⟩ := gbox hB1))
      clear g0 g1 g2 g3 g4 g5 g6
      go_loopw [41, 3, 4] (fun q _ _ wr => ∃ k : Nat, k ≤ l.length ∧ q = .int .i64 k ∧ denseB (l.take k) fi = true ∧ Below (w.alloc (.cells #[.int .i64 id, .int .i64 fi, .int .i64 te, .int .i64 ht, .int .i64 hv, .int .i64 hc, .slice a l.length cap] 65)).heap.size (w.alloc (.cells #[.int .i64 id, .int .i64 fi, .int .i64 te, .int .i64 ht, .int .i64 hv, .int .i64 hc, .slice a l.length cap] 65)) wr) (fun q _ _ _ => l.length - (intOf q).toNat)
      case atStart => exact ⟨0, by omega, rfl, rfl, hB1⟩
      case round =>
        obtain ⟨k, hk, rfl, hd, hB⟩ := hrel
        clear hB1
        have hBw := blk_below hB
        by_cases hlt : k < l.length
        · obtain ⟨b, off, rfl, hb, hx⟩ := hcs (by omega)
          obtain ⟨d0, d1, d2⟩ := entry_at hb hBw hx hlt
          obtain ⟨-, g1, -, -, -, -, -⟩ := gbox hB
          have HT := Lib.hid (denseB_take l fi k hlt)
          have HN := Lib.hid (fun h => denseB_no (f := fi) hlt h)
          have HD := Lib.hid hd
          have hk0 : (0 : Int) ≤ (k : Int) := by omega
          have hsum : fi + (k : Int) ≤ 9223372036854775807 := by omega
          have hgs : w.heap.size < wr.heap.size := by have := hB.size; simp at this; omega
          clear hx hd
          generalize l[k] = x at *
          have GE := Lib.hid (isEntry_any x)
          obtain ⟨xi, xt, xd⟩ := x
          dsimp only [EntryC.val] at *
          cases he : entryB ⟨xi, xt, xd⟩
          · have HN2 := Lib.hid (HN.out (by rw [he]; rfl))
            rw [he] at GE
            clear HT HN he
            go_wp2_with (go_at_call 88; ((with_reducible refine (GE.out _).mono ?_); rintro e w2 ⟨rfl, hB2⟩))
            go_ret
            exact ⟨by simp [HN2.out], bel2 hBw (bel2 (bel_alloc (Below.refl _ _) _) hB2)⟩
          · rw [he] at GE
            by_cases hi : xi = fi + k
            · have HT2 := Lib.hid (show denseB (l.take (k + 1)) fi = true by rw [HT.out, HD.out, he, decide_eq_true hi]; rfl)
              have ht0 : (xi == fi + (k : Int)) = true := by rw [beq_iff_eq]; exact hi
              have ht1 : (xi != fi + (k : Int)) = false := by rw [bne_eq_false_iff_eq]; exact hi
              clear HT HN he hi
              go_wp2_with (go_at_call 88; ((with_reducible refine (GE.out _).mono ?_); rintro e w2 ⟨rfl, hB2⟩; have hA2 := bel2 (bel_alloc (Below.refl wr.heap.size wr) (.cells #[.int .i64 xi, .int .i64 xt, .string xd] 115)) hB2; have g1b := (hA2.cell (p := ⟨w.heap.size, 1, none⟩) hgs).trans g1; have x0 : w2.cell? ⟨wr.heap.size, 0, none⟩ = some (.int .i64 xi) := blk_cell hB2 0))
              go_roundw
              case rel => exact ⟨k + 1, by omega, by go_num, HT2.out, bel2 hB hA2⟩
              case measure => simp [intOf]; omega
            · have HN2 := Lib.hid (HN.out (by rw [he, decide_eq_false hi]; rfl))
              have ht0 : (xi == fi + (k : Int)) = false := by rw [beq_eq_false_iff_ne]; exact hi
              have ht1 : (xi != fi + (k : Int)) = true := by rw [bne_iff_ne]; exact hi
              clear HT HN he hi
              go_wp2_with (go_at_call 88; ((with_reducible refine (GE.out _).mono ?_); rintro e w2 ⟨rfl, hB2⟩; have hA2 := bel2 (bel_alloc (Below.refl wr.heap.size wr) (.cells #[.int .i64 xi, .int .i64 xt, .string xd] 115)) hB2; have g1b := (hA2.cell (p := ⟨w.heap.size, 1, none⟩) hgs).trans g1; have x0 : w2.cell? ⟨wr.heap.size, 0, none⟩ = some (.int .i64 xi) := blk_cell hB2 0))
              go_ret
              exact ⟨by simp [HN2.out], bel2 hBw hA2⟩
        · obtain rfl : k = l.length := by omega
          rw [List.take_length] at hd
          have HD := Lib.hid hd
          clear hd
          go_wp2
          go_ret
          exact ⟨by simp [HD.out], hBw⟩
  · have HV := Lib.hid (show isG ⟨id, fi, te, ht, hv, hc, l⟩ = false by
      rw [Bool.eq_false_iff]; intro h; exact hb (isG_iff.1 h).1)
    rw [HV.out]
    exact grpIs_bad id fi te ht hv hc l a cap w hb

theorem new_any (id : Int) (w : World) : Gives Try.prog 89 #[.int .i64 id] w (.agg #[.int .i64 id, .int .i64 1, .int .i64 0, .int .i64 0, .int .i64 0, .int .i64 0, .slice none 0 0]) := by
  unfold Gives
  go_enter Try.func89, Try.ntmps89
  go_wp2
  exact bodyPost_ret (v := .agg #[.int .i64 id, .int .i64 1, .int .i64 0, .int .i64 0, .int .i64 0, .int .i64 0, .slice none 0 0]) (by simp [results, Try.results89, go_sem]) rfl ⟨rfl, by repeat (first | exact Below.refl _ _ | apply bel_alloc | apply Below.setCell)⟩

end Go.Proofs.Ytdncdlbhgaehmaa
