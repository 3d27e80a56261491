/- Few entries: the copy that layer 13 has; steps that came in. -/
import Derived.Test.YtloojgbkohpcfaaPartSame
import Derived.Test.YtloojgbkohpcfaaPart
namespace Go.Proofs.Ytloojgbkohpcfaa
open Go.RowKit Go.Shelf Go.ChangeShapes Go.WideShapes Go.Deep
set_option linter.unusedVariables false
open Go.ChangeMaps (open_string)
attribute [local go_sem] Oper.semAt_some wide_fn wide_round_fn

def few13B (l : List EntryC) : Bool := l.all (fun e => decide (e.d.size ≤ 60)) && decide (l.length ≤ 8)
theorem GoodP.has13 {w : World} {x : PL} (h : GoodP w x) (hf : few13B x.2 = true) : HasE w x.1 x.2 := by
  simp only [few13B, Bool.and_eq_true, decide_eq_true_eq] at hf
  exact ⟨h.2.1, by have := h.2.1; omega, h.2.2.1⟩
set_option maxRecDepth 100000 in
set_option maxHeartbeats 1000000 in
theorem few13_any (p : PartC) (l : List EntryC) (w : World) (hl : l.length = p.len) (hrow : RowV w p.a p.len 3 (entryCells l)) (hg : ∀ e ∈ l, e.d.size ≤ maxLen) : Gives Try.prog 11 #[p.val] w (.bool (few13B l)) := by
  obtain ⟨g, k, a, len, cap, ht, hv, hc, i, t, mk, hd⟩ := p
  dsimp only [PartC.val] at *
  unfold Gives
  have hm := hrow.2.1
  unfold maxLen at hm
  have hcs := hrow.2.2
  have c2 : (w.alloc (.cells #[.int .i64 g, .int .i64 k, .slice a len cap, .int .i64 ht, .int .i64 hv, .int .i64 hc, .int .i64 i, .int .i64 t, .bool mk, .bool hd] 39)).cell? ⟨w.heap.size, 2, none⟩ = some (.slice a len cap) := cell_of_row _ _ 2 _ _ _ (World.alloc_heap_new w _)
  have hA := bel_alloc (Below.refl w.heap.size w) (.cells #[.int .i64 g, .int .i64 k, .slice a len cap, .int .i64 ht, .int .i64 hv, .int .i64 hc, .int .i64 i, .int .i64 t, .bool mk, .bool hd] 39)
  clear hrow
  go_enter Try.func11, Try.ntmps11
  go_wp2
  go_loop [3] (fun q => ∃ n : Nat, n ≤ len ∧ q = .int .i64 n ∧ (l.take n).all (fun e => decide (e.d.size ≤ 60)) = true) (fun q => len - (intOf q).toNat)
  case atStart => exact ⟨0, by omega, rfl, rfl⟩
  case round =>
    obtain ⟨n, hn, rfl, ha⟩ := hrel
    have HA := Lib.hid ha
    clear ha
    by_cases hlt : n < len
    · obtain ⟨b, off, rfl, hb, hx⟩ := hcs (by omega)
      have hkl : n < l.length := by omega
      obtain ⟨d0, d1, d2⟩ := entry_at hb hA hx hkl
      have hsz := hg l[n] (List.getElem_mem _)
      unfold maxLen at hsz
      have HT := Lib.hid (show l[n].d.size ≤ 60 → (l.take (n + 1)).all (fun e => decide (e.d.size ≤ 60)) = true from fun h => by rw [List.take_succ_eq_append_getElem hkl, List.all_append, HA.out]; simp [h])
      have HF := Lib.hid (show 60 < l[n].d.size → few13B l = false from fun h => by
        have : l.all (fun e => decide (e.d.size ≤ 60)) = false := by
          rw [List.all_eq_false]; exact ⟨l[n], List.getElem_mem _, by simp; omega⟩
        unfold few13B; rw [this]; rfl)
      clear hx hcs
      generalize l[n] = x at *
      by_cases h6 : x.d.size ≤ 60
      · go_wp2
        go_round
        case rel => exact ⟨n + 1, by omega, by go_num, HT.out h6⟩
        case measure => simp [intOf]; omega
      · have h6' : 60 < x.d.size := by omega
        go_wp2
        go_ret
        exact ⟨by rw [HF.out h6']; rfl, hA⟩
    · obtain rfl : n = len := by omega
      rw [List.take_of_length_le (by omega)] at HA
      have HV := Lib.hid (show few13B l = decide ((n : Int) ≤ 8) by unfold few13B; rw [HA.out, hl, Bool.true_and]; exact decide_eq_decide.2 (by omega))
      go_wp2
      go_ret
      exact ⟨by rw [HV.out]; rfl, hA⟩



theorem part_len_le {H : Type} {enc : TypeId × Value → H} {W : World} {n : Nat} {x : DataW H × List MemPlace} {p : PartC} (hf : DataW.trod enc Try.prog W 0 (fun _ => true) true n 39 p.arr.toList = some x) : p.len ≤ p.cap := by
  obtain ⟨pg, pk, pa, plen, pcap, pht, phv, phc, pi, pt, pm, ph⟩ := p
  have ks : Try.prog.cellsOf 29 = 1 := by kernel_rfl
  obtain ⟨xs, n', _, _, _, hxl, hf⟩ := DataW.trod_struct Try.underlying39 hf
  match xs, hxl with
  | [y0, y1, y2, y3, y4, y5, y6, y7], _ =>
    have hen := trod_field hf 2 2 1 29 rfl ks
    rcases open_slice Try.underlying29 hen with ⟨hcs, _⟩ | ⟨ad, len', cap', _, _, _, _, hcs, _, hl, _⟩
    · simp at hcs; simp [hcs]
    · simp at hcs; obtain ⟨-, rfl, rfl⟩ := hcs; exact hl
/-- A step: a part, a place, whether a copy goes on. -/
structure StC where
  p : PartC
  l : List EntryC
  s : Int
  t : Int
  c : Bool
def StC.cells (x : StC) : List Value := x.p.arr.toList ++ [.int .i64 x.s, .int .i64 x.t, .bool x.c]
theorem StC.len (x : StC) : x.cells.length = 13 := rfl
def pstCells (L : List StC) : List Value := (L.map StC.cells).flatten
def GoodSt (W : World) (x : StC) : Prop := GoodP W (x.p, x.l) ∧ x.p.len ≤ x.p.cap ∧ in64 x.s ∧ in64 x.t
set_option maxRecDepth 100000 in
theorem pstep_cells {H : Type} {enc : TypeId × Value → H} {W : World} {n : Nat} {cs : List Value} {x : DataW H × List MemPlace} (hl : cs.length = 13) (hx : DataW.trod enc Try.prog W 0 (fun _ => true) true n 43 cs = some x) :
    ∃ y : StC, y.cells = cs ∧ GoodSt W y := by
  have k1 : Try.prog.cellsOf 3 = 1 := by kernel_rfl
  have kb : Try.prog.cellsOf 4 = 1 := by kernel_rfl
  have kr : Try.prog.cellsOf 39 = 10 := by kernel_rfl
  have kp : Try.prog.cellsOf 41 = 2 := by kernel_rfl
  match cs, hl with
  | [c0, c1, c2, c3, c4, c5, c6, c7, c8, c9, c10, c11, c12], _ =>
    obtain ⟨xs, n', _, _, _, hxl, hf⟩ := DataW.trod_struct Try.underlying43 hx
    match xs, hxl with
    | [y0, y1, y2], _ =>
      have hP := trod_field hf 0 0 10 39 rfl kr
      obtain ⟨p, hp, hg, l, h1, h2, h3⟩ := part_cells (by rfl) hP
      have hle := part_len_le (p := p) (by rw [hp]; exact hP)
      obtain ⟨xs2, n2, _, _, _, hxl2, hf2⟩ := DataW.trod_struct Try.underlying41 (trod_field hf 1 10 2 41 rfl kp)
      match xs2, hxl2 with
      | [u0, u1], _ =>
        obtain ⟨z3, e3, _, w3⟩ := DataW.trod_int Try.underlying3 (trod_field hf2 0 0 1 3 rfl k1)
        obtain ⟨z4, e4, _, w4⟩ := DataW.trod_int Try.underlying3 (trod_field hf2 1 1 1 3 rfl k1)
        obtain ⟨b5, e5, _⟩ := DataW.trod_bool Try.underlying4 (trod_field hf 2 12 1 4 rfl kb)
        simp at e3 e4 e5
        subst e3 e4 e5
        exact ⟨⟨p, l, z3, z4, b5⟩, (congrArg (fun q => q ++ [Value.int .i64 z3, Value.int .i64 z4, Value.bool b5]) hp : _), ⟨hg, h1, h2, h3⟩, hle, bounds_i64 w3, bounds_i64 w4⟩
theorem open_psteps {H : Type} {enc : TypeId × Value → H} {W : World} {a : Option Addr} {len cap : Nat} {d : DataW H} {ps : List MemPlace}
    (h : DataW.Trod enc Try.prog W 0 (fun _ => true) true 22 (.slice a len cap) d ps) : ∃ L : List StC, L.length = len ∧ len ≤ cap ∧ RowV W a len 13 (pstCells L) ∧ ∀ x ∈ L, GoodSt W x :=
  open_rows (α := StC) StC.cells (fun y => GoodSt W y) 13 (by decide) Try.underlying22 (by kernel_rfl) StC.len (fun n cs x hl hx => pstep_cells hl hx) h
/-- The cells of the k-th step. -/
theorem step_at {w W : World} {b off : Nat} {L : List StC} (hb : b < w.heap.size) (hB : Below w.heap.size w W) (hc : ∀ j (h : j < (pstCells L).length), w.cell? ⟨b, off + j, none⟩ = some (pstCells L)[j]) {k : Nat} (hk : k < L.length) :
    ∀ j v, j < 13 → L[k].cells[j]? = some v → W.cell? ⟨b, off + k * 13 + j, none⟩ = some v := fun j v hj hv => by
  rw [Nat.add_assoc]
  exact (hB.cell (p := ⟨b, off + (k * 13 + j), none⟩) hb).trans (RowV.at_ (len := L.length) (sz := 13) hc (by rw [pstCells, flat_at StC.cells 13 StC.len L k j hk hj]; exact hv))
theorem step_at13 {w W : World} {b off : Nat} {L : List StC} (hb : b < w.heap.size) (hB : Below w.heap.size w W) (hc : ∀ j (h : j < (pstCells L).length), w.cell? ⟨b, off + j, none⟩ = some (pstCells L)[j]) {k : Nat} (hk : k < L.length) :
    W.cell? ⟨b, off + k * 13, none⟩ = some (.int .i64 L[k].p.g) ∧ W.cell? ⟨b, off + k * 13 + 1, none⟩ = some (.int .i64 L[k].p.k) ∧ W.cell? ⟨b, off + k * 13 + 2, none⟩ = some (.slice L[k].p.a L[k].p.len L[k].p.cap) ∧ W.cell? ⟨b, off + k * 13 + 3, none⟩ = some (.int .i64 L[k].p.ht) ∧ W.cell? ⟨b, off + k * 13 + 4, none⟩ = some (.int .i64 L[k].p.hv) ∧ W.cell? ⟨b, off + k * 13 + 5, none⟩ = some (.int .i64 L[k].p.hc) ∧ W.cell? ⟨b, off + k * 13 + 6, none⟩ = some (.int .i64 L[k].p.i) ∧ W.cell? ⟨b, off + k * 13 + 7, none⟩ = some (.int .i64 L[k].p.t) ∧ W.cell? ⟨b, off + k * 13 + 8, none⟩ = some (.bool L[k].p.m) ∧ W.cell? ⟨b, off + k * 13 + 9, none⟩ = some (.bool L[k].p.h) ∧ W.cell? ⟨b, off + k * 13 + 10, none⟩ = some (.int .i64 L[k].s) ∧ W.cell? ⟨b, off + k * 13 + 11, none⟩ = some (.int .i64 L[k].t) ∧ W.cell? ⟨b, off + k * 13 + 12, none⟩ = some (.bool L[k].c) :=
  ⟨step_at hb hB hc hk 0 _ (by decide) rfl, step_at hb hB hc hk 1 _ (by decide) rfl, step_at hb hB hc hk 2 _ (by decide) rfl, step_at hb hB hc hk 3 _ (by decide) rfl, step_at hb hB hc hk 4 _ (by decide) rfl, step_at hb hB hc hk 5 _ (by decide) rfl, step_at hb hB hc hk 6 _ (by decide) rfl, step_at hb hB hc hk 7 _ (by decide) rfl, step_at hb hB hc hk 8 _ (by decide) rfl, step_at hb hB hc hk 9 _ (by decide) rfl, step_at hb hB hc hk 10 _ (by decide) rfl, step_at hb hB hc hk 11 _ (by decide) rfl, step_at hb hB hc hk 12 _ (by decide) rfl⟩

end Go.Proofs.Ytloojgbkohpcfaa
