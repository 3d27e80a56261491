/- Known6, Few6, Ref6b, Ref6c: in one text. -/
import Derived.Test.YtfbibpnkfmgkaaaGrpDo
import Derived.Test.YtfbibpnkfmgkaaaOpenParts
import Derived.Test.YtfbibpnkfmgkaaaRef6a
import Derived.Test.YtfbibpnkfmgkaaaGrpMath
/- What the sixth layer's laws hold by themselves: the examples. -/
namespace Go.Proofs.Ytfbibpnkfmgkaaa
open Go.RowKit Go.Shelf
set_option linter.unusedVariables false
attribute [local go_sem] Oper.semAt_some wide_fn wide_round_fn

theorem alloc3 (w : World) (A B C : Array Value) (S T U : TypeId) : (((w.alloc (.cells A S)).alloc (.cells B T)).alloc (.cells C U)).heap[w.heap.size]? = some (.cells A S (0, 0)) ∧ (((w.alloc (.cells A S)).alloc (.cells B T)).alloc (.cells C U)).heap[w.heap.size + 1]? = some (.cells B T (0, 0)) ∧ (((w.alloc (.cells A S)).alloc (.cells B T)).alloc (.cells C U)).heap[w.heap.size + 1 + 1]? = some (.cells C U (0, 0)) ∧ Below w.heap.size w (((w.alloc (.cells A S)).alloc (.cells B T)).alloc (.cells C U)) := by
  have h1 := two_a w A B S T
  have h2 := two_b w A B S T
  have h3 := World.alloc_heap_new ((w.alloc (.cells A S)).alloc (.cells B T)) (.cells C U)
  rw [World.size_alloc, World.size_alloc] at h3
  have hB := bel_alloc (Below.refl _ ((w.alloc (.cells A S)).alloc (.cells B T))) (.cells C U)
  exact ⟨(hB.block _ (heap_lt h1)).trans h1, (hB.block _ (heap_lt h2)).trans h2, h3, bel2 (gp_bel _ _ _ _ _) hB⟩
theorem hasG_nil (W : World) (a : Option Addr) (id fi te ht hv hc : Int) : HasG W a ⟨id, fi, te, ht, hv, hc, []⟩ := ⟨(by decide : 0 < 1000000), RowV.nil _ _ _⟩
theorem cells10a {W : World} {b : Nat} {T : TypeId} {v0 v1 v2 v3 v4 v5 v6 v7 v8 v9 : Value} (h : W.heap[b]? = some (.cells #[v0, v1, v2, v3, v4, v5, v6, v7, v8, v9] T (0, 0))) :
    W.cell? ⟨b, 0, none⟩ = some v0 ∧ W.cell? ⟨b, 1, none⟩ = some v1 ∧ W.cell? ⟨b, 2, none⟩ = some v2 ∧ W.cell? ⟨b, 3, none⟩ = some v3 ∧ W.cell? ⟨b, 4, none⟩ = some v4 ∧ W.cell? ⟨b, 5, none⟩ = some v5 ∧ W.cell? ⟨b, 6, none⟩ = some v6 ∧ W.cell? ⟨b, 7, none⟩ = some v7 ∧ W.cell? ⟨b, 8, none⟩ = some v8 ∧ W.cell? ⟨b, 9, none⟩ = some v9 :=
  ⟨cell_of_row _ _ 0 _ _ _ h, cell_of_row _ _ 1 _ _ _ h, cell_of_row _ _ 2 _ _ _ h, cell_of_row _ _ 3 _ _ _ h, cell_of_row _ _ 4 _ _ _ h, cell_of_row _ _ 5 _ _ _ h, cell_of_row _ _ 6 _ _ _ h, cell_of_row _ _ 7 _ _ _ h, cell_of_row _ _ 8 _ _ _ h, cell_of_row _ _ 9 _ _ _ h⟩
theorem kn1 (X : Nat) : chkG ⟨7, 1, 0, 0, 0, 0, []⟩ ⟨7, 1, (some ⟨X, 0, none⟩), 2, 2, 0, 0, 0, 0, 0, false, false⟩ [⟨1, 2, ⟨#[97]⟩⟩, ⟨2, 2, ⟨#[]⟩⟩] = 0 ∧ doG ⟨7, 1, 0, 0, 0, 0, []⟩ ⟨7, 1, (some ⟨X, 0, none⟩), 2, 2, 0, 0, 0, 0, 0, false, false⟩ [⟨1, 2, ⟨#[97]⟩⟩, ⟨2, 2, ⟨#[]⟩⟩] = ⟨7, 1, 0, 0, 0, 0, [⟨1, 2, ⟨#[97]⟩⟩, ⟨2, 2, ⟨#[]⟩⟩]⟩ := ⟨by kernel_rfl, by kernel_rfl⟩
theorem kn2 (X : Nat) : chkG ⟨7, 1, 0, 0, 0, 0, []⟩ ⟨7, 1, (some ⟨X, 0, none⟩), 1, 1, 0, 0, 0, 0, 0, false, false⟩ [⟨2, 2, ⟨#[]⟩⟩] = 14 ∧ doG ⟨7, 1, 0, 0, 0, 0, []⟩ ⟨7, 1, (some ⟨X, 0, none⟩), 1, 1, 0, 0, 0, 0, 0, false, false⟩ [⟨2, 2, ⟨#[]⟩⟩] = ⟨7, 1, 0, 0, 0, 0, []⟩ := ⟨by kernel_rfl, by kernel_rfl⟩
theorem kn3 : chkG ⟨7, 1, 0, 0, 0, 0, [⟨1, 2, ⟨#[97]⟩⟩, ⟨2, 2, ⟨#[]⟩⟩]⟩ ⟨7, 3, none, 0, 0, 0, 0, 0, 1, 0, false, false⟩ [] = 0 ∧ doG ⟨7, 1, 0, 0, 0, 0, [⟨1, 2, ⟨#[97]⟩⟩, ⟨2, 2, ⟨#[]⟩⟩]⟩ ⟨7, 3, none, 0, 0, 0, 0, 0, 1, 0, false, false⟩ [] = ⟨7, 2, 2, 0, 0, 0, [⟨2, 2, ⟨#[]⟩⟩]⟩ := ⟨by kernel_rfl, by kernel_rfl⟩
theorem kn4 (X : Nat) : chkG ⟨7, 2, 2, 0, 0, 0, [⟨2, 2, ⟨#[]⟩⟩]⟩ ⟨7, 1, (some ⟨X, 0, none⟩), 2, 2, 0, 0, 0, 0, 0, false, false⟩ [⟨1, 2, ⟨#[97]⟩⟩, ⟨2, 2, ⟨#[]⟩⟩] = 15 := by kernel_rfl
theorem kn5 : termG ⟨7, 2, 2, 0, 0, 0, [⟨2, 2, ⟨#[]⟩⟩]⟩ 1 = (2, 0) ∧ termG ⟨7, 2, 2, 0, 0, 0, [⟨2, 2, ⟨#[]⟩⟩]⟩ 0 = (0, 15) ∧ entsG ⟨7, 2, 2, 0, 0, 0, [⟨2, 2, ⟨#[]⟩⟩]⟩ 2 3 = ([⟨2, 2, ⟨#[]⟩⟩], 0) := ⟨by kernel_rfl, by kernel_rfl, by kernel_rfl⟩
theorem kn6 : isG ⟨7, 1, 0, 0, 0, 0, []⟩ = true ∧ isG ⟨7, 1, 0, 0, 0, 0, [⟨1, 2, ⟨#[97]⟩⟩, ⟨2, 2, ⟨#[]⟩⟩]⟩ = true ∧ isG ⟨7, 2, 2, 0, 0, 0, [⟨2, 2, ⟨#[]⟩⟩]⟩ = true := ⟨by kernel_rfl, by kernel_rfl, by kernel_rfl⟩
theorem es1_has {W : World} {X : Nat} (h : W.heap[X]? = some (.cells #[.int .i64 1, .int .i64 2, .string ⟨#[97]⟩, .int .i64 2, .int .i64 2, .string ⟨#[]⟩] 38 (0, 0))) : HasE W ⟨7, 1, (some ⟨X, 0, none⟩), 2, 2, 0, 0, 0, 0, 0, false, false⟩ [⟨1, 2, ⟨#[97]⟩⟩, ⟨2, 2, ⟨#[]⟩⟩] :=
  ⟨rfl, (by decide : 2 < 1000000), by exact rowV_block (cs := #[.int .i64 1, .int .i64 2, .string ⟨#[97]⟩, .int .i64 2, .int .i64 2, .string ⟨#[]⟩]) (n := 2) (sz := 3) h rfl (by decide)⟩
theorem es2_has {W : World} {X : Nat} (h : W.heap[X]? = some (.cells #[.int .i64 2, .int .i64 2, .string ⟨#[]⟩] 38 (0, 0))) : HasE W ⟨7, 1, (some ⟨X, 0, none⟩), 1, 1, 0, 0, 0, 0, 0, false, false⟩ [⟨2, 2, ⟨#[]⟩⟩] :=
  ⟨rfl, (by decide : 1 < 1000000), by exact rowV_block (cs := #[.int .i64 2, .int .i64 2, .string ⟨#[]⟩]) (n := 1) (sz := 3) h rfl (by decide)⟩

end Go.Proofs.Ytfbibpnkfmgkaaa

/- What is few at the sixth layer; a group that came in. -/
namespace Go.Proofs.Ytfbibpnkfmgkaaa
open Go.RowKit Go.Shelf Go.ChangeShapes Go.WideShapes Go.Deep
set_option linter.unusedVariables false
open Go.ChangeMaps (open_string)
attribute [local go_sem] Oper.semAt_some wide_fn wide_round_fn

def few6B (l : List EntryC) : Bool := l.all (fun e => decide (e.d.size ≤ 60)) && decide (l.length ≤ 8)
/-- A row of parts is few. -/
def fewPs6 (L : List PL) : Bool := L.all (fun x => few6B x.2) && decide (L.length ≤ 6)
def fewGB (l : List EntryC) : Bool := l.all (fun e => decide (e.d.size ≤ 60)) && decide (l.length ≤ 30)
/-- A group that came in. -/
def GoodG (W : World) (g : GM) (a : Option Addr) : Prop := (in64 g.id ∧ in64 g.fi ∧ in64 g.te ∧ in64 g.ht ∧ in64 g.hv ∧ in64 g.hc) ∧ RowV W a g.l.length 3 (entryCells g.l) ∧ ∀ e ∈ g.l, goodEntry e
theorem GoodG.below {w W : World} {g : GM} {a : Option Addr} (h : GoodG w g a) (hB : Below w.heap.size w W) : GoodG W g a := ⟨h.1, h.2.1.below hB, h.2.2⟩
theorem GoodG.has {w : World} {g : GM} {a : Option Addr} (h : GoodG w g a) (hf : fewGB g.l = true) : HasG w a g ∧ g.l.length ≤ 30 := by
  simp only [fewGB, Bool.and_eq_true, decide_eq_true_eq] at hf
  exact ⟨⟨by omega, h.2.1⟩, hf.2⟩
theorem GoodP.has {w : World} {x : PL} (h : GoodP w x) (hf : few6B x.2 = true) : HasE w x.1 x.2 := by
  simp only [few6B, Bool.and_eq_true, decide_eq_true_eq] at hf
  exact ⟨h.2.1, by have := h.2.1; omega, h.2.2.1⟩
set_option maxRecDepth 100000 in
theorem open_group {H : Type} {enc : TypeId × Value → H} {W : World} {r : Reach} {b0 : Nat} {v : Value} {d : DataW H} {ps : List MemPlace} (hv : Value.okWide Try.prog W r b0 26 v)
    (h : DataW.Trod enc Try.prog W 0 (fun _ => true) true 26 v d ps) : ∃ (g : GM) (a : Option Addr) (cap : Nat), v = g.val a cap ∧ GoodG W g a := by
  obtain ⟨cs, rfl, hsz⟩ := okWide_struct Try.underlying26 hv
  obtain ⟨fuel, hf⟩ := h
  have h7 : cs.size = 7 := hsz.trans (show Try.prog.cellsOf 26 = 7 by kernel_rfl)
  have k1 : Try.prog.cellsOf 3 = 1 := by kernel_rfl
  have ks : Try.prog.cellsOf 24 = 1 := by kernel_rfl
  have kh : Try.prog.cellsOf 23 = 3 := by kernel_rfl
  obtain ⟨l7⟩ := cs
  simp only [Value.cells] at hf
  match l7, h7 with
  | [c0, c1, c2, c3, c4, c5, c6], _ =>
    obtain ⟨xs, n', _, _, _, hxl, hf⟩ := DataW.trod_struct Try.underlying26 hf
    match xs, hxl with
    | [y0, y1, y2, y3, y4], _ =>
      obtain ⟨z0, e0, _, w0⟩ := DataW.trod_int Try.underlying3 (trod_field hf 0 0 1 3 rfl k1)
      obtain ⟨z1, e1, _, w1⟩ := DataW.trod_int Try.underlying3 (trod_field hf 1 1 1 3 rfl k1)
      obtain ⟨z2, e2, _, w2⟩ := DataW.trod_int Try.underlying3 (trod_field hf 2 2 1 3 rfl k1)
      obtain ⟨xs2, n2, _, _, _, hxl2, hf2⟩ := DataW.trod_struct Try.underlying23 (trod_field hf 3 3 3 23 rfl kh)
      have hen := trod_field hf 4 6 1 24 rfl ks
      match xs2, hxl2 with
      | [u0, u1, u2], _ =>
        obtain ⟨z3, e3, _, w3⟩ := DataW.trod_int Try.underlying3 (trod_field hf2 0 0 1 3 rfl k1)
        obtain ⟨z4, e4, _, w4⟩ := DataW.trod_int Try.underlying3 (trod_field hf2 1 1 1 3 rfl k1)
        obtain ⟨z5, e5, _, w5⟩ := DataW.trod_int Try.underlying3 (trod_field hf2 2 2 1 3 rfl k1)
        simp at e0 e1 e2 e3 e4 e5
        subst e0 e1 e2 e3 e4 e5
        have hsl : ∃ (a : Option Addr) (len cap : Nat), c6 = .slice a len cap := by
          rcases open_slice Try.underlying24 hen with ⟨hcs, _⟩ | ⟨ad, len', cap', _, _, _, _, hcs, _⟩
          · simp at hcs; exact ⟨_, _, _, hcs⟩
          · simp at hcs; exact ⟨_, _, _, hcs⟩
        obtain ⟨a, len, cap, rfl⟩ := hsl
        obtain ⟨l, h1, h2, h3, h4⟩ := open_entries (enc := enc) (W := W) (a := a) (len := len) (cap := cap) (d := y4.1) (ps := y4.2) ⟨n', hen⟩
        subst h1
        exact ⟨⟨z0, z1, z2, z3, z4, z5, l⟩, a, cap, rfl, ⟨bounds_i64 w0, bounds_i64 w1, bounds_i64 w2, bounds_i64 w3, bounds_i64 w4, bounds_i64 w5⟩, h3, h4⟩

end Go.Proofs.Ytfbibpnkfmgkaaa

/- The contracts of the document's groups: Term, Entries. -/
namespace Go.Proofs.Ytfbibpnkfmgkaaa
open Go.RowKit Go.Shelf Go.Deep Go.ChangeShapes Go.WideShapes
set_option linter.unusedVariables false
attribute [local go_sem] Oper.semAt_some wide_fn wide_round_fn

theorem group_le {H : Type} {enc : TypeId × Value → H} {W : World} {d : DataW H} {ps : List MemPlace} {g : GM} {a : Option Addr} {cap : Nat}
    (h : DataW.Trod enc Try.prog W 0 (fun _ => true) true 26 (g.val a cap) d ps) : g.l.length ≤ cap := by
  obtain ⟨id, fi, te, ht, hv, hc, l⟩ := g
  replace h : DataW.Trod enc Try.prog W 0 (fun _ => true) true 26 (.agg #[.int .i64 id, .int .i64 fi, .int .i64 te, .int .i64 ht, .int .i64 hv, .int .i64 hc, .slice a l.length cap]) d ps := h
  obtain ⟨fuel, hf⟩ := h
  have ks : Try.prog.cellsOf 24 = 1 := by kernel_rfl
  simp only [Value.cells] at hf
  obtain ⟨xs, n', _, _, _, hxl, hf⟩ := DataW.trod_struct Try.underlying26 hf
  match xs, hxl with
  | [y0, y1, y2, y3, y4], _ =>
    have hen := trod_field hf 4 6 1 24 rfl ks
    rcases open_slice Try.underlying24 hen with ⟨hcs, _⟩ | ⟨ad, len', cap', _, _, _, _, hcs, _, hl, _⟩
    · simp at hcs; simp [hcs]
    · simp at hcs; obtain ⟨-, rfl, rfl⟩ := hcs; exact hl

/-- A part of a row. -/
theorem row_part {w : World} {b off : Nat} {l : List EntryC} (hb : b < w.heap.size) (hc : ∀ j (h : j < (entryCells l).length), w.cell? ⟨b, off + j, none⟩ = some (entryCells l)[j]) {k m : Nat} (hkm : k < m) (hm : m ≤ l.length) (hl : l.length < 1000000) :
    RowV w (some ⟨b, off + k * 3, none⟩) ((l.take m).drop k).length 3 (entryCells ((l.take m).drop k)) := by
  have hlen : ∀ x : List EntryC, (entryCells x).length = x.length * 3 := fun x => by
    induction x with
    | nil => rfl
    | cons e r ih => simp [entryCells] at ih ⊢; simp [EntryC.cells]; omega
  have hd : ((l.take m).drop k).length = m - k := by simp; omega
  refine ⟨by rw [hlen], by rw [hd]; simp [maxLen]; omega, fun _ => ⟨b, off + k * 3, rfl, hb, fun j hj => ?_⟩⟩
  have hsp : entryCells l = entryCells (l.take k) ++ (entryCells ((l.take m).drop k) ++ entryCells (l.drop m)) := by
    unfold entryCells
    rw [← List.flatten_append, ← List.map_append, ← List.flatten_append, ← List.map_append]
    congr 1
    have e1 : l.take m = l.take k ++ (l.take m).drop k := by
      conv => lhs; rw [← List.take_append_drop k (l.take m)]
      rw [List.take_take, Nat.min_eq_left (by omega)]
    rw [← List.append_assoc, ← e1, List.take_append_drop]
  have h9 : (entryCells (l.take k)).length = k * 3 := by rw [hlen]; simp; omega
  have hj2 : k * 3 + j < (entryCells l).length := by rw [hsp]; simp only [List.length_append]; omega
  have := hc (k * 3 + j) hj2
  rw [show off + k * 3 + j = off + (k * 3 + j) by omega, this]
  congr 1
  rw [List.getElem_of_eq hsp, List.getElem_append_right (by omega), List.getElem_append_left (by rw [h9]; omega)]
  congr 1
  omega

end Go.Proofs.Ytfbibpnkfmgkaaa

/- The contracts of the document's groups: below, from, At. -/
namespace Go.Proofs.Ytfbibpnkfmgkaaa
open Go.RowKit Go.Shelf Go.ChangeShapes Go.WideShapes Go.ChangeAt
set_option linter.unusedVariables false
attribute [local go_sem] Oper.semAt_some wide_fn wide_round_fn

def belL (l : List EntryC) (i : Int) : List EntryC := l.filter fun e => decide (e.i < i)
def froL (l : List EntryC) (i : Int) : List EntryC := l.filter fun e => decide (i ≤ e.i)
theorem belL_take (l : List EntryC) (i : Int) (k : Nat) (h : k < l.length) : belL (l.take (k + 1)) i = belL (l.take k) i ++ if l[k].i < i then [l[k]] else [] := by
  unfold belL
  rw [List.take_succ_eq_append_getElem h, List.filter_append]
  congr 1
  by_cases hc : l[k].i < i <;> simp [hc]
theorem froL_take (l : List EntryC) (i : Int) (k : Nat) (h : k < l.length) : froL (l.take (k + 1)) i = froL (l.take k) i ++ if i ≤ l[k].i then [l[k]] else [] := by
  unfold froL
  rw [List.take_succ_eq_append_getElem h, List.filter_append]
  congr 1
  by_cases hc : i ≤ l[k].i <;> simp [hc]
theorem belL_le (l : List EntryC) (i : Int) : (belL l i).length ≤ l.length := List.length_filter_le _ _
theorem froL_le (l : List EntryC) (i : Int) : (froL l i).length ≤ l.length := List.length_filter_le _ _
/-- Where the first entry of an index stands; -1. -/
def atM (l : List EntryC) (i : Int) : Int := if l.findIdx (fun e => e.i == i) < l.length then (l.findIdx (fun e => e.i == i) : Int) else -1
theorem atM_at {l : List EntryC} {i : Int} {k : Nat} (hk : k < l.length) (h : l[k].i = i) (hn : ∀ j (hj : j < k), (l[j]'(by omega)).i ≠ i) : atM l i = k := by
  have : l.findIdx (fun e => e.i == i) = k := (List.findIdx_eq hk).2 ⟨by simp [h], fun j hj => by simpa using hn j hj⟩
  unfold atM; rw [this, if_pos hk]
theorem atM_no {l : List EntryC} {i : Int} (hn : ∀ j (hj : j < l.length), l[j].i ≠ i) : atM l i = -1 := by
  unfold atM
  rw [if_neg]
  intro h
  have := List.findIdx_getElem (w := h)
  exact hn _ h (by simpa using this)
theorem atM_dense {l : List EntryC} {f : Int} (h : denseB l f = true) (i : Int) : atM l i = if f ≤ i ∧ i < f + l.length then i - f else -1 := by
  by_cases hc : f ≤ i ∧ i < f + l.length
  · rw [if_pos hc, atM_at (k := (i - f).toNat) (by omega) (by rw [(denseB_at h (by omega)).1]; omega) (fun j hj => by rw [(denseB_at h (by omega)).1]; omega)]
    omega
  · rw [if_neg hc]
    exact atM_no fun j hj => by rw [(denseB_at h hj).1]; omega
theorem belL_dense {l : List EntryC} {f : Int} (h : denseB l f = true) (hf : 1 ≤ f ∧ f ≤ 1099511627777) (i : Int) : belL l i = btw l minI (i - 1) := by
  unfold belL btw
  refine List.filter_congr fun e he => ?_
  obtain ⟨k, hk, rfl⟩ := List.getElem_of_mem he
  have := (denseB_at h hk).1
  have h0 : minI ≤ l[k].i := by unfold minI; omega
  simp [h0]; omega
theorem froL_dense {l : List EntryC} {f : Int} (h : denseB l f = true) (hf : 1 ≤ f ∧ f ≤ 1099511627777) (hl : l.length ≤ 100000) (i : Int) : froL l i = btw l i maxI := by
  unfold froL btw
  refine List.filter_congr fun e he => ?_
  obtain ⟨k, hk, rfl⟩ := List.getElem_of_mem he
  have := (denseB_at h hk).1
  have h0 : l[k].i ≤ maxI := by unfold maxI; omega
  simp [h0]

set_option maxRecDepth 100000 in
set_option maxHeartbeats 4000000 in
theorem refBelow_any (l : List EntryC) (a : Option Addr) (cap : Nat) (i : Int) (w : World) (hm : l.length < 1000000) (hr : RowV w a l.length 3 (entryCells l)) : Calls Try.prog 33 #[.slice a l.length cap, .int .i64 i] w fun e w' => ∃ va vc, e = .returned (.slice va (belL l i).length vc) ∧ w'.ownsRow w.heap.size 38 3 (.slice va (belL l i).length vc) (belL l i).length (entryCells (belL l i)) ∧ Below w.heap.size w w' := by
  obtain ⟨i9, hi, hz0, hz1, hz2⟩ := info_parts infoEntry
  have hcs := hr.2.2
  clear hr
  go_enter Try.func33, Try.ntmps33
  go_wp2
  go_loopw [5, 6] (fun v q wr => ∃ k : Nat, k ≤ l.length ∧ q = .int .i64 k ∧ wr.ownsRow w.heap.size 38 3 v (belL (l.take k) i).length (entryCells (belL (l.take k) i)) ∧ Below w.heap.size w wr) (fun _ q _ => l.length - (intOf q).toNat)
  case atStart => exact ⟨0, by omega, rfl, World.ownsRow_nil _ _ _ _, Below.refl _ _⟩
  case round =>
    rename_i v _
    obtain ⟨k, hk, rfl, hown, hB⟩ := hrel
    by_cases hlt : k < l.length
    · obtain ⟨b, off, rfl, hb, hx⟩ := hcs (by omega)
      obtain ⟨d0, d1, d2⟩ := entry_at hb hB hx hlt
      have hk0 : (0 : Int) ≤ (k : Int) := by omega
      have hkl : (k : Int) < (l.length : Int) := by omega
      have hXl : (belL (l.take k) i).length ≤ 1000000 := Nat.le_trans (belL_le _ _) (by rw [List.length_take]; omega)
      have HT := Lib.hid (belL_take l i k hlt)
      clear hx hcs
      generalize belL (l.take k) i = X at *
      generalize l[k] = x at *
      obtain ⟨xi, xt, xd⟩ := x
      dsimp only at *
      by_cases hc : xi < i
      · have HT2 := Lib.hid (show belL (l.take (k + 1)) i = X ++ [⟨xi, xt, xd⟩] by rw [HT.out, if_pos hc])
        have HC := Lib.hid (entryCells_snoc X ⟨xi, xt, xd⟩)
        clear HT
        go_wp2_with (at_builtin; refine wpList_append_own _ rfl _ _ 24 rfl w.heap.size 38 i9 (.agg #[.int .i64 0, .int .i64 0, .string ⟨#[]⟩]) 3 32 Try.underlying24 hi hz0 hz1 hz2 rfl (by decide) _ _ _ rfl (hown.alloc _) ⟨wr.heap.size, 0, none⟩ 1 1 [.int .i64 xi, .int .i64 xt, .string xd] rfl rfl (news_new _ _ _) (by simp [Value.oneCell']) (by unfold maxLen; omega) (by omega) (by have := hB.size; simp; omega) ?_; intro v' w3 hown3 hgrow _; have hB3 := (hB.alloc hB.size (.cells [.int .i64 xi, .int .i64 xt, .string xd].toArray 38)).grown hgrow (by have := hB.size; simp; omega) (fun k hk => by have := ownBlock_ge hown hk; omega))
        go_roundw
        case rel => exact ⟨k + 1, by omega, by go_num, by rw [HT2.out, HC.out, List.length_append]; exact hown3, hB3⟩
        case measure => simp [intOf]; omega
      · have HT2 := Lib.hid (show belL (l.take (k + 1)) i = X by rw [HT.out, if_neg hc, List.append_nil])
        clear HT
        go_wp2
        go_roundw
        case rel => exact ⟨k + 1, by omega, by go_num, by rw [HT2.out]; exact hown, hB⟩
        case measure => simp [intOf]; omega
    · obtain rfl : k = l.length := by omega
      rw [List.take_length] at hown
      obtain ⟨X, hX⟩ : ∃ X, X = belL l i := ⟨_, rfl⟩
      rw [← hX] at hown
      have HXe := Lib.hid hX
      clear hX
      obtain ⟨va, vc, rfl, -, -⟩ := rowV_own hown
      have HO := Lib.hid hown
      clear hown
      go_wp2
      go_ret
      rw [← HXe.out]
      exact ⟨va, vc, rfl, HO.out, hB⟩

set_option maxRecDepth 100000 in
set_option maxHeartbeats 4000000 in
theorem refFrom_any (l : List EntryC) (a : Option Addr) (cap : Nat) (i : Int) (w : World) (hm : l.length < 1000000) (hr : RowV w a l.length 3 (entryCells l)) : Calls Try.prog 34 #[.slice a l.length cap, .int .i64 i] w fun e w' => ∃ va vc, e = .returned (.slice va (froL l i).length vc) ∧ w'.ownsRow w.heap.size 38 3 (.slice va (froL l i).length vc) (froL l i).length (entryCells (froL l i)) ∧ Below w.heap.size w w' := by
  obtain ⟨i9, hi, hz0, hz1, hz2⟩ := info_parts infoEntry
  have hcs := hr.2.2
  clear hr
  go_enter Try.func34, Try.ntmps34
  go_wp2
  go_loopw [5, 6] (fun v q wr => ∃ k : Nat, k ≤ l.length ∧ q = .int .i64 k ∧ wr.ownsRow w.heap.size 38 3 v (froL (l.take k) i).length (entryCells (froL (l.take k) i)) ∧ Below w.heap.size w wr) (fun _ q _ => l.length - (intOf q).toNat)
  case atStart => exact ⟨0, by omega, rfl, World.ownsRow_nil _ _ _ _, Below.refl _ _⟩
  case round =>
    rename_i v _
    obtain ⟨k, hk, rfl, hown, hB⟩ := hrel
    by_cases hlt : k < l.length
    · obtain ⟨b, off, rfl, hb, hx⟩ := hcs (by omega)
      obtain ⟨d0, d1, d2⟩ := entry_at hb hB hx hlt
      have hk0 : (0 : Int) ≤ (k : Int) := by omega
      have hkl : (k : Int) < (l.length : Int) := by omega
      have hXl : (froL (l.take k) i).length ≤ 1000000 := Nat.le_trans (froL_le _ _) (by rw [List.length_take]; omega)
      have HT := Lib.hid (froL_take l i k hlt)
      clear hx hcs
      generalize froL (l.take k) i = X at *
      generalize l[k] = x at *
      obtain ⟨xi, xt, xd⟩ := x
      dsimp only at *
      by_cases hc : i ≤ xi
      · have HT2 := Lib.hid (show froL (l.take (k + 1)) i = X ++ [⟨xi, xt, xd⟩] by rw [HT.out, if_pos hc])
        have HC := Lib.hid (entryCells_snoc X ⟨xi, xt, xd⟩)
        clear HT
        go_wp2_with (at_builtin; refine wpList_append_own _ rfl _ _ 24 rfl w.heap.size 38 i9 (.agg #[.int .i64 0, .int .i64 0, .string ⟨#[]⟩]) 3 32 Try.underlying24 hi hz0 hz1 hz2 rfl (by decide) _ _ _ rfl (hown.alloc _) ⟨wr.heap.size, 0, none⟩ 1 1 [.int .i64 xi, .int .i64 xt, .string xd] rfl rfl (news_new _ _ _) (by simp [Value.oneCell']) (by unfold maxLen; omega) (by omega) (by have := hB.size; simp; omega) ?_; intro v' w3 hown3 hgrow _; have hB3 := (hB.alloc hB.size (.cells [.int .i64 xi, .int .i64 xt, .string xd].toArray 38)).grown hgrow (by have := hB.size; simp; omega) (fun k hk => by have := ownBlock_ge hown hk; omega))
        go_roundw
        case rel => exact ⟨k + 1, by omega, by go_num, by rw [HT2.out, HC.out, List.length_append]; exact hown3, hB3⟩
        case measure => simp [intOf]; omega
      · have HT2 := Lib.hid (show froL (l.take (k + 1)) i = X by rw [HT.out, if_neg hc, List.append_nil])
        clear HT
        go_wp2
        go_roundw
        case rel => exact ⟨k + 1, by omega, by go_num, by rw [HT2.out]; exact hown, hB⟩
        case measure => simp [intOf]; omega
    · obtain rfl : k = l.length := by omega
      rw [List.take_length] at hown
      obtain ⟨X, hX⟩ : ∃ X, X = froL l i := ⟨_, rfl⟩
      rw [← hX] at hown
      have HXe := Lib.hid hX
      clear hX
      obtain ⟨va, vc, rfl, -, -⟩ := rowV_own hown
      have HO := Lib.hid hown
      clear hown
      go_wp2
      go_ret
      rw [← HXe.out]
      exact ⟨va, vc, rfl, HO.out, hB⟩

set_option maxRecDepth 100000 in
set_option maxHeartbeats 4000000 in
theorem refAt_any (id fi te ht hv hc : Int) (l : List EntryC) (a : Option Addr) (cap : Nat) (i : Int) (w : World) (hg : HasG w a ⟨id, fi, te, ht, hv, hc, l⟩) : Gives Try.prog 20 #[.agg #[.int .i64 id, .int .i64 fi, .int .i64 te, .int .i64 ht, .int .i64 hv, .int .i64 hc, .slice a l.length cap], .int .i64 i] w (.int .i64 (atM l i)) := by
  have hm := hg.1
  have hcs := hg.2.2.2
  dsimp only at hm hcs
  have HA := Lib.hid (bel_alloc (Below.refl w.heap.size w) (.cells #[.int .i64 id, .int .i64 fi, .int .i64 te, .int .i64 ht, .int .i64 hv, .int .i64 hc, .slice a l.length cap] 26))
  clear hg
  unfold Gives
  go_enter Try.func20, Try.ntmps20
  go_wp2
  go_loopw [5] (fun q wr => ∃ k : Nat, k ≤ l.length ∧ q = .int .i64 k ∧ (∀ j (hj : j < l.length), j < k → l[j].i ≠ i) ∧ Below (w.alloc (.cells #[.int .i64 id, .int .i64 fi, .int .i64 te, .int .i64 ht, .int .i64 hv, .int .i64 hc, .slice a l.length cap] 26)).heap.size (w.alloc (.cells #[.int .i64 id, .int .i64 fi, .int .i64 te, .int .i64 ht, .int .i64 hv, .int .i64 hc, .slice a l.length cap] 26)) wr) (fun q _ => l.length - (intOf q).toNat)
  case atStart => exact ⟨0, by omega, rfl, fun j _ h => by omega, Below.refl _ _⟩
  case round =>
    obtain ⟨k, hk, rfl, hno, hB⟩ := hrel
    have HN := Lib.hid hno
    clear hno
    have hBw := bel2 HA.out hB
    obtain ⟨-, -, -, -, -, -, g6⟩ := gbox hB
    by_cases hlt : k < l.length
    · obtain ⟨b, off, rfl, hb, hx⟩ := hcs (by omega)
      obtain ⟨d0, d1, d2⟩ := entry_at hb hBw hx hlt
      have hk0 : (0 : Int) ≤ (k : Int) := by omega
      have hkl : (k : Int) < (l.length : Int) := by omega
      have HY := Lib.hid (show l[k].i = i → atM l i = k from fun h => atM_at hlt h fun j hj => HN.out j (by omega) hj)
      have HN2 := Lib.hid (show l[k].i ≠ i → ∀ j (hj : j < l.length), j < k + 1 → l[j].i ≠ i from fun h j hj hjk => by
        by_cases e : j = k
        · subst e; exact h
        · exact HN.out j hj (by omega))
      clear hx HN
      generalize l[k] = x at *
      obtain ⟨xi, xt, xd⟩ := x
      dsimp only at *
      by_cases hc : xi = i
      · have ht0 : (xi == i) = true := by rw [beq_iff_eq]; exact hc
        have HR := Lib.hid (HY.out hc)
        clear HY HN2 hc
        go_wp2
        go_ret
        exact ⟨by rw [HR.out]; rfl, hBw⟩
      · have ht0 : (xi == i) = false := by rw [beq_eq_false_iff_ne]; exact hc
        have HN3 := Lib.hid (HN2.out hc)
        clear HY HN2 hc
        go_wp2
        go_roundw
        case rel => exact ⟨k + 1, by omega, by go_num, HN3.out, hB⟩
        case measure => simp [intOf]; omega
    · obtain rfl : k = l.length := by omega
      have HR := Lib.hid (atM_no (l := l) (i := i) fun j hj => HN.out j hj hj)
      go_wp2
      go_ret
      exact ⟨by rw [HR.out]; rfl, hBw⟩

end Go.Proofs.Ytfbibpnkfmgkaaa
