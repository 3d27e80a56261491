/- Open, OpenPart, OpenParts, OpenRec: in one text. -/
import Derived.Test.YtbhhbjgdkcfagaaRowV
import Derived.Deep.Slices
import Derived.Test.YtbhhbjgdkcfagaaPartSame
/- Slices of structs that came in, read as lists. -/
namespace Go.Proofs.Ytbhhbjgdkcfagaa
open Go.RowKit Go.Shelf Go.ChangeShapes Go.WideShapes Go.Deep
set_option linter.unusedVariables false

theorem isInts_cap {k : IntKind} {w : World} {a : Option Addr} {len cap : Nat} {zs : List Int} (h : IsInts k w a len cap zs) : len ≤ cap := by
  rcases h with ⟨_, rfl, rfl, _⟩ | ⟨_, _, hl, _⟩
  · exact Nat.le_refl _
  · exact hl

/-- A field of a struct that reads. -/
theorem trod_field {H : Type} {enc : TypeId × Value → H} {P : Program} {W : World} {base : Nat} {sp : Nat → Bool} {held : Bool} {n : Nat} {cs : List Value} {fs : Array Field} {xs : List (DataW H × List MemPlace)}
    (hf : ∀ (i : Nat) (f : Field), fs[i]? = some f → DataW.trod enc P W base sp held n f.type ((cs.drop f.offset).take (P.cellsOf f.type)) = xs[i]?) (i off k : Nat) (T : TypeId) (hi : (fs[i]?).map (fun f => (f.type, f.offset)) = some (T, off)) (hk : P.cellsOf T = k) :
    DataW.trod enc P W base sp held n T ((cs.drop off).take k) = xs[i]? := by
  cases h : fs[i]? with
  | none => rw [h] at hi; cases hi
  | some f =>
    rw [h] at hi
    simp only [Option.map_some, Option.some.injEq, Prod.mk.injEq] at hi
    obtain ⟨rfl, rfl⟩ := hi
    rw [← hk]
    exact hf i f h

/-- A slice whose elements are rows of sz cells, each of which reads as something of α. -/
theorem open_rows {H : Type} {enc : TypeId × Value → H} {P : Program} {W : World} {t e : TypeId} {a : Option Addr} {len cap : Nat} {d : DataW H} {ps : List MemPlace} {α : Type} (cells : α → List Value) (good : α → Prop) (sz : Nat) (hsz : 0 < sz) (ht : P.underlying t = some (.slice e)) (hC : P.cellsOf e = sz)
    (hcl : ∀ x, (cells x).length = sz)
    (hel : ∀ (n : Nat) (cs : List Value) (x : DataW H × List MemPlace), cs.length = sz → DataW.trod enc P W 0 (fun _ => true) true n e cs = some x → ∃ f : α, cells f = cs ∧ good f)
    (h : DataW.Trod enc P W 0 (fun _ => true) true t (.slice a len cap) d ps) : ∃ l : List α, l.length = len ∧ len ≤ cap ∧ RowV W a len sz ((l.map cells).flatten) ∧ ∀ f ∈ l, good f := by
  obtain ⟨fuel, hf⟩ := h
  rcases open_slice ht hf with ⟨hcs, _⟩ | ⟨ad, len', cap', m, n, D, Pl, hcs, hb, hl, hm, hmm, hx, hi⟩
  · simp [Value.cells] at hcs
    obtain ⟨rfl, rfl, rfl⟩ := hcs
    exact ⟨[], rfl, Nat.le_refl _, by simpa using RowV.nil W sz none, by simp⟩
  · simp [Value.cells] at hcs
    obtain ⟨rfl, rfl, rfl⟩ := hcs
    rw [if_pos rfl] at hmm
    have key : ∀ i : Fin len, ∃ f : α, good f ∧ ∀ j, j < sz → W.cell? ((ad.add (i.val * sz)).add j) = (cells f)[j]? := fun i => by
      obtain ⟨cs', hc, htr⟩ := hi i.val (by have := i.isLt; omega)
      rw [hC] at hc
      obtain ⟨_, hcl', hat⟩ := World.cells?_some hc
      obtain ⟨f, rfl, hg⟩ := hel n cs' _ hcl' htr
      exact ⟨f, hg, hat⟩
    let l : List α := List.ofFn fun i : Fin len => Classical.choose (key i)
    have hll : l.length = len := by simp [l]
    have hlg : ∀ (i : Nat) (h : i < l.length), good l[i] ∧ ∀ j, j < sz → W.cell? ((ad.add (i * sz)).add j) = (cells l[i])[j]? := fun i h => by
      have hi' : i < len := by rw [hll] at h; exact h
      have := Classical.choose_spec (key ⟨i, hi'⟩)
      simpa [l] using this
    refine ⟨l, hll, hl, ⟨by rw [flat_len cells sz hcl, hll], by omega, fun h0 => ?_⟩, fun f hf => ?_⟩
    · obtain ⟨b, off, spot⟩ := ad
      have h1 := (hlg 0 (by omega)).2 0 hsz
      have hcz : 0 < (cells l[0]).length := by rw [hcl]; exact hsz
      rw [List.getElem?_eq_getElem hcz] at h1
      simp only [Nat.zero_mul] at h1
      have hsp : spot = none := by simpa [Addr.add] using World.cell?_spot h1
      subst hsp
      refine ⟨b, off, rfl, block_of_cell (by simpa [Addr.add] using h1), fun j hj => ?_⟩
      have hfl := flat_len cells sz hcl l
      have hk : j / sz < l.length := by rw [hfl] at hj; exact Nat.div_lt_of_lt_mul (by rw [Nat.mul_comm]; exact hj)
      have hr : j % sz < sz := Nat.mod_lt _ hsz
      have hjj : j / sz * sz + j % sz = j := by rw [Nat.mul_comm]; exact Nat.div_add_mod j sz
      have h2 := (hlg _ hk).2 _ hr
      rw [add_off, add_off, Nat.add_assoc, hjj] at h2
      rw [h2, ← flat_at cells sz hcl l _ _ hk hr, hjj, List.getElem?_eq_getElem hj]
    · obtain ⟨i, hi', rfl⟩ := List.getElem_of_mem hf
      exact (hlg i hi').1

end Go.Proofs.Ytbhhbjgdkcfagaa

/- A part, an entry, a slice of entries that came in. -/
namespace Go.Proofs.Ytbhhbjgdkcfagaa
open Go.RowKit Go.Shelf Go.ChangeShapes Go.WideShapes Go.Deep
open Go.ChangeMaps (open_string)
set_option linter.unusedVariables false

def in64 (n : Int) : Prop := -9223372036854775808 ≤ n ∧ n < 9223372036854775808
def goodEntry (e : EntryC) : Prop := in64 e.i ∧ in64 e.t ∧ e.d.size ≤ maxLen
def goodPart (p : PartC) : Prop := (p.a = none → p.cap = 0) ∧ in64 p.g ∧ in64 p.k ∧ in64 p.ht ∧ in64 p.hv ∧ in64 p.hc ∧ in64 p.i ∧ in64 p.t

theorem entry_cells {H : Type} {enc : TypeId × Value → H} {W : World} {n : Nat} {cs : List Value} {x : DataW H × List MemPlace} (hl : cs.length = 3) (hx : DataW.trod enc Try.prog W 0 (fun _ => true) true n 37 cs = some x) :
    ∃ f : EntryC, f.cells = cs ∧ goodEntry f := by
  have k1 : Try.prog.cellsOf 3 = 1 := by kernel_rfl
  have k2 : Try.prog.cellsOf 9 = 1 := by kernel_rfl
  match cs, hl with
  | [c0, c1, c2], _ =>
    obtain ⟨xs, n', _, _, _, hxl, hf⟩ := DataW.trod_struct Try.underlying37 hx
    match xs, hxl with
    | [y0, y1, y2], _ =>
      obtain ⟨z0, e0, _, w0⟩ := DataW.trod_int Try.underlying3 (trod_field hf 0 0 1 3 rfl k1)
      obtain ⟨z1, e1, _, w1⟩ := DataW.trod_int Try.underlying3 (trod_field hf 1 1 1 3 rfl k1)
      obtain ⟨s2, e2, _, w2⟩ := DataW.trod_string Try.underlying9 (trod_field hf 2 2 1 9 rfl k2)
      simp at e0 e1 e2
      subst e0 e1 e2
      exact ⟨⟨z0, z1, s2⟩, rfl, bounds_i64 w0, bounds_i64 w1, w2⟩
theorem open_entries {H : Type} {enc : TypeId × Value → H} {W : World} {a : Option Addr} {len cap : Nat} {d : DataW H} {ps : List MemPlace}
    (h : DataW.Trod enc Try.prog W 0 (fun _ => true) true 26 (.slice a len cap) d ps) : ∃ l : List EntryC, l.length = len ∧ len ≤ cap ∧ RowV W a len 3 (entryCells l) ∧ ∀ f ∈ l, goodEntry f :=
  open_rows EntryC.cells goodEntry 3 (by decide) Try.underlying26 (by kernel_rfl) EntryC.len (fun n cs x hl hx => entry_cells hl hx) h

theorem part_cells {H : Type} {enc : TypeId × Value → H} {W : World} {n : Nat} {cs : List Value} {x : DataW H × List MemPlace} (hl : cs.length = 10) (hx : DataW.trod enc Try.prog W 0 (fun _ => true) true n 30 cs = some x) :
    ∃ p : PartC, p.arr.toList = cs ∧ goodPart p ∧ ∃ l : List EntryC, l.length = p.len ∧ RowV W p.a p.len 3 (entryCells l) ∧ ∀ e ∈ l, goodEntry e := by
  have k1 : Try.prog.cellsOf 3 = 1 := by kernel_rfl
  have kb : Try.prog.cellsOf 4 = 1 := by kernel_rfl
  have ks : Try.prog.cellsOf 26 = 1 := by kernel_rfl
  have kh : Try.prog.cellsOf 28 = 3 := by kernel_rfl
  match cs, hl with
  | [c0, c1, c2, c3, c4, c5, c6, c7, c8, c9], _ =>
    obtain ⟨xs, n', _, _, _, hxl, hf⟩ := DataW.trod_struct Try.underlying30 hx
    match xs, hxl with
    | [y0, y1, y2, y3, y4, y5, y6, y7], _ =>
      obtain ⟨z0, e0, _, w0⟩ := DataW.trod_int Try.underlying3 (trod_field hf 0 0 1 3 rfl k1)
      obtain ⟨z1, e1, _, w1⟩ := DataW.trod_int Try.underlying3 (trod_field hf 1 1 1 3 rfl k1)
      have hen := trod_field hf 2 2 1 26 rfl ks
      obtain ⟨xs2, n2, _, _, _, hxl2, hf2⟩ := DataW.trod_struct Try.underlying28 (trod_field hf 3 3 3 28 rfl kh)
      match xs2, hxl2 with
      | [u0, u1, u2], _ =>
        obtain ⟨z3, e3, _, w3⟩ := DataW.trod_int Try.underlying3 (trod_field hf2 0 0 1 3 rfl k1)
        obtain ⟨z4, e4, _, w4⟩ := DataW.trod_int Try.underlying3 (trod_field hf2 1 1 1 3 rfl k1)
        obtain ⟨z5, e5, _, w5⟩ := DataW.trod_int Try.underlying3 (trod_field hf2 2 2 1 3 rfl k1)
        obtain ⟨z6, e6, _, w6⟩ := DataW.trod_int Try.underlying3 (trod_field hf 4 6 1 3 rfl k1)
        obtain ⟨z7, e7, _, w7⟩ := DataW.trod_int Try.underlying3 (trod_field hf 5 7 1 3 rfl k1)
        obtain ⟨b8, e8, _⟩ := DataW.trod_bool Try.underlying4 (trod_field hf 6 8 1 4 rfl kb)
        obtain ⟨b9, e9, _⟩ := DataW.trod_bool Try.underlying4 (trod_field hf 7 9 1 4 rfl kb)
        simp at e0 e1 e3 e4 e5 e6 e7 e8 e9
        subst e0 e1 e3 e4 e5 e6 e7 e8 e9
        have hsl : ∃ (a : Option Addr) (len cap : Nat), c2 = .slice a len cap ∧ (a = none → cap = 0) := by
          rcases open_slice Try.underlying26 hen with ⟨hcs, _⟩ | ⟨ad, len', cap', _, _, _, _, hcs, _⟩
          · simp at hcs; exact ⟨_, _, _, hcs, fun _ => rfl⟩
          · simp at hcs; exact ⟨_, _, _, hcs, fun h => by cases h⟩
        obtain ⟨a, len, cap, rfl, hcap⟩ := hsl
        obtain ⟨l, h1, h2, h3, h4⟩ := open_entries (enc := enc) (W := W) (a := a) (len := len) (cap := cap) (d := y2.1) (ps := y2.2) ⟨n', hen⟩
        exact ⟨⟨z0, z1, a, len, cap, z3, z4, z5, z6, z7, b8, b9⟩, rfl, ⟨hcap, bounds_i64 w0, bounds_i64 w1, bounds_i64 w3, bounds_i64 w4, bounds_i64 w5, bounds_i64 w6, bounds_i64 w7⟩, l, h1, h3, h4⟩
set_option maxRecDepth 100000 in
theorem open_part {H : Type} {enc : TypeId × Value → H} {W : World} {r : Reach} {b0 : Nat} {v : Value} {d : DataW H} {ps : List MemPlace} (hv : Value.okWide Try.prog W r b0 30 v)
    (h : DataW.Trod enc Try.prog W 0 (fun _ => true) true 30 v d ps) : ∃ p : PartC, v = p.val ∧ goodPart p ∧ ∃ l : List EntryC, l.length = p.len ∧ RowV W p.a p.len 3 (entryCells l) ∧ ∀ e ∈ l, goodEntry e := by
  obtain ⟨cs, rfl, hsz⟩ := okWide_struct Try.underlying30 hv
  obtain ⟨fuel, hf⟩ := h
  have h10 : cs.size = 10 := hsz.trans (show Try.prog.cellsOf 30 = 10 by kernel_rfl)
  obtain ⟨p, hp, hg, hl⟩ := part_cells (by simpa [Value.cells] using h10) hf
  refine ⟨p, ?_, hg, hl⟩
  show _ = Value.agg p.arr
  congr 1
  exact (Array.toList_inj.mp hp).symm
set_option maxRecDepth 100000 in
theorem open_entry {H : Type} {enc : TypeId × Value → H} {W : World} {r : Reach} {b0 : Nat} {v : Value} {d : DataW H} {ps : List MemPlace} (hv : Value.okWide Try.prog W r b0 37 v)
    (h : DataW.Trod enc Try.prog W 0 (fun _ => true) true 37 v d ps) : ∃ e : EntryC, v = e.val ∧ goodEntry e := by
  obtain ⟨cs, rfl, hsz⟩ := okWide_struct Try.underlying37 hv
  obtain ⟨fuel, hf⟩ := h
  have h10 : cs.size = 3 := hsz.trans (show Try.prog.cellsOf 37 = 3 by kernel_rfl)
  obtain ⟨p, hp, hg⟩ := entry_cells (by simpa [Value.cells] using h10) hf
  refine ⟨p, ?_, hg⟩
  obtain ⟨i, t, d⟩ := p
  show _ = Value.agg #[.int .i64 i, .int .i64 t, .string d]
  congr 1
  exact (Array.toList_inj.mp hp).symm

end Go.Proofs.Ytbhhbjgdkcfagaa

/- A slice of parts that came in, each with its entries; rows of parts. -/
namespace Go.Proofs.Ytbhhbjgdkcfagaa
open Go.RowKit Go.Shelf Go.ChangeShapes Go.WideShapes Go.Deep
open Go.ChangeMaps (open_string)
set_option linter.unusedVariables false

/-- A part with its entries. -/
abbrev PL := PartC × List EntryC
def partCells (L : List PL) : List Value := (L.map (fun x => x.1.arr.toList)).flatten
def GoodP (W : World) (x : PL) : Prop := goodPart x.1 ∧ x.2.length = x.1.len ∧ RowV W x.1.a x.1.len 3 (entryCells x.2) ∧ ∀ e ∈ x.2, goodEntry e
theorem open_parts {H : Type} {enc : TypeId × Value → H} {W : World} {a : Option Addr} {len cap : Nat} {d : DataW H} {ps : List MemPlace}
    (h : DataW.Trod enc Try.prog W 0 (fun _ => true) true 22 (.slice a len cap) d ps) : ∃ L : List PL, L.length = len ∧ len ≤ cap ∧ RowV W a len 10 (partCells L) ∧ ∀ x ∈ L, GoodP W x :=
  open_rows (α := PL) (fun x => x.1.arr.toList) (GoodP W) 10 (by decide) Try.underlying22 (by kernel_rfl) (fun _ => rfl) (fun n cs x hl hx => by
    obtain ⟨p, hp, hg, l, h1, h2, h3⟩ := part_cells hl hx
    exact ⟨(p, l), hp, hg, h1, h2, h3⟩) h
theorem partCells_snoc (L : List PL) (x : PL) : partCells (L ++ [x]) = partCells L ++ x.1.arr.toList := by simp [partCells]
theorem part_at {w W : World} {b off : Nat} {L : List PL} (hb : b < w.heap.size) (hB : Below w.heap.size w W) (hc : ∀ j (h : j < (partCells L).length), w.cell? ⟨b, off + j, none⟩ = some (partCells L)[j]) {k : Nat} (hk : k < L.length) :
    ∀ j v, j < 10 → L[k].1.arr.toList[j]? = some v → W.cell? ⟨b, off + k * 10 + j, none⟩ = some v := fun j v hj hv => by
  rw [Nat.add_assoc]
  exact (hB.cell (p := ⟨b, off + (k * 10 + j), none⟩) hb).trans (RowV.at_ (len := L.length) (sz := 10) hc (by rw [partCells, flat_at (fun x : PL => x.1.arr.toList) 10 (fun _ => rfl) L k j hk hj]; exact hv))
theorem part_at10 {w W : World} {b off : Nat} {L : List PL} (hb : b < w.heap.size) (hB : Below w.heap.size w W) (hc : ∀ j (h : j < (partCells L).length), w.cell? ⟨b, off + j, none⟩ = some (partCells L)[j]) {k : Nat} (hk : k < L.length) :
    W.cell? ⟨b, off + k * 10, none⟩ = some (.int .i64 L[k].1.g) ∧ W.cell? ⟨b, off + k * 10 + 1, none⟩ = some (.int .i64 L[k].1.k) ∧ W.cell? ⟨b, off + k * 10 + 2, none⟩ = some (.slice L[k].1.a L[k].1.len L[k].1.cap) ∧
    W.cell? ⟨b, off + k * 10 + 3, none⟩ = some (.int .i64 L[k].1.ht) ∧ W.cell? ⟨b, off + k * 10 + 4, none⟩ = some (.int .i64 L[k].1.hv) ∧ W.cell? ⟨b, off + k * 10 + 5, none⟩ = some (.int .i64 L[k].1.hc) ∧
    W.cell? ⟨b, off + k * 10 + 6, none⟩ = some (.int .i64 L[k].1.i) ∧ W.cell? ⟨b, off + k * 10 + 7, none⟩ = some (.int .i64 L[k].1.t) ∧ W.cell? ⟨b, off + k * 10 + 8, none⟩ = some (.bool L[k].1.m) ∧ W.cell? ⟨b, off + k * 10 + 9, none⟩ = some (.bool L[k].1.h) :=
  ⟨part_at hb hB hc hk 0 _ (by decide) rfl, part_at hb hB hc hk 1 _ (by decide) rfl, part_at hb hB hc hk 2 _ (by decide) rfl, part_at hb hB hc hk 3 _ (by decide) rfl, part_at hb hB hc hk 4 _ (by decide) rfl, part_at hb hB hc hk 5 _ (by decide) rfl, part_at hb hB hc hk 6 _ (by decide) rfl, part_at hb hB hc hk 7 _ (by decide) rfl, part_at hb hB hc hk 8 _ (by decide) rfl, part_at hb hB hc hk 9 _ (by decide) rfl⟩

end Go.Proofs.Ytbhhbjgdkcfagaa

/- A record, a slice of records that came in. -/
namespace Go.Proofs.Ytbhhbjgdkcfagaa
open Go.RowKit Go.Shelf Go.ChangeShapes Go.WideShapes Go.Deep
open Go.ChangeMaps (open_string)
set_option linter.unusedVariables false

/-- A record as a flat value. -/
structure RecC where
  s : Int
  a : Option Addr
  len : Nat
  cap : Nat
abbrev RecC.val (r : RecC) : Value := .agg #[.int .i64 r.s, .slice r.a r.len r.cap]
abbrev RecC.cells (r : RecC) : List Value := [.int .i64 r.s, .slice r.a r.len r.cap]
/-- A record with its parts, that came in. -/
def GoodR (W : World) (r : RecC) (L : List PL) : Prop := in64 r.s ∧ L.length = r.len ∧ r.len ≤ r.cap ∧ RowV W r.a r.len 10 (partCells L) ∧ ∀ x ∈ L, GoodP W x
theorem rec_cells {H : Type} {enc : TypeId × Value → H} {W : World} {n : Nat} {cs : List Value} {x : DataW H × List MemPlace} (hl : cs.length = 2) (hx : DataW.trod enc Try.prog W 0 (fun _ => true) true n 32 cs = some x) :
    ∃ (r : RecC) (L : List PL), r.cells = cs ∧ GoodR W r L := by
  have k1 : Try.prog.cellsOf 3 = 1 := by kernel_rfl
  have ks : Try.prog.cellsOf 22 = 1 := by kernel_rfl
  match cs, hl with
  | [c0, c1], _ =>
    obtain ⟨xs, n', _, _, _, hxl, hf⟩ := DataW.trod_struct Try.underlying32 hx
    match xs, hxl with
    | [y0, y1], _ =>
      obtain ⟨z0, e0, _, w0⟩ := DataW.trod_int Try.underlying3 (trod_field hf 0 0 1 3 rfl k1)
      have hen := trod_field hf 1 1 1 22 rfl ks
      simp at e0 hen
      subst e0
      have hsl : ∃ (a : Option Addr) (len cap : Nat), c1 = .slice a len cap := by
        rcases open_slice Try.underlying22 hen with ⟨hcs, _⟩ | ⟨ad, len', cap', _, _, _, _, hcs, _⟩
        · simp at hcs; exact ⟨_, _, _, hcs⟩
        · simp at hcs; exact ⟨_, _, _, hcs⟩
      obtain ⟨a, len, cap, rfl⟩ := hsl
      obtain ⟨L, h1, h2, h3, h4⟩ := open_parts (enc := enc) (W := W) (a := a) (len := len) (cap := cap) (d := y1.1) (ps := y1.2) ⟨n', hen⟩
      exact ⟨⟨z0, a, len, cap⟩, L, rfl, bounds_i64 w0, h1, h2, h3, h4⟩
set_option maxRecDepth 100000 in
theorem open_record {H : Type} {enc : TypeId × Value → H} {W : World} {r : Reach} {b0 : Nat} {v : Value} {d : DataW H} {ps : List MemPlace} (hv : Value.okWide Try.prog W r b0 32 v)
    (h : DataW.Trod enc Try.prog W 0 (fun _ => true) true 32 v d ps) : ∃ (q : RecC) (L : List PL), v = q.val ∧ GoodR W q L := by
  obtain ⟨cs, rfl, hsz⟩ := okWide_struct Try.underlying32 hv
  obtain ⟨fuel, hf⟩ := h
  have h2 : cs.size = 2 := hsz.trans (show Try.prog.cellsOf 32 = 2 by kernel_rfl)
  obtain ⟨q, L, hq, hg⟩ := rec_cells (by simpa [Value.cells] using h2) hf
  refine ⟨q, L, ?_, hg⟩
  show _ = Value.agg #[.int .i64 q.s, .slice q.a q.len q.cap]
  congr 1
  exact (Array.toList_inj.mp hq).symm
/-- A record with its parts. -/
abbrev RL := RecC × List PL
def recCells (L : List RL) : List Value := (L.map (fun x => x.1.cells)).flatten
theorem rec_at {w W : World} {b off : Nat} {L : List RL} (hb : b < w.heap.size) (hB : Below w.heap.size w W) (hc : ∀ j (h : j < (recCells L).length), w.cell? ⟨b, off + j, none⟩ = some (recCells L)[j]) {k : Nat} (hk : k < L.length) :
    W.cell? ⟨b, off + k * 2, none⟩ = some (.int .i64 L[k].1.s) ∧ W.cell? ⟨b, off + k * 2 + 1, none⟩ = some (.slice L[k].1.a L[k].1.len L[k].1.cap) := by
  have cell : ∀ i v, i < 2 → (L[k].1.cells)[i]? = some v → W.cell? ⟨b, off + (k * 2 + i), none⟩ = some v := fun i v hi hv =>
    (hB.cell (p := ⟨b, off + (k * 2 + i), none⟩) hb).trans (RowV.at_ (len := L.length) (sz := 2) hc (by rw [recCells, flat_at (fun x : RL => x.1.cells) 2 (fun _ => rfl) L k i hk hi]; exact hv))
  exact ⟨cell 0 _ (by decide) rfl, cell 1 _ (by decide) rfl⟩

end Go.Proofs.Ytbhhbjgdkcfagaa
