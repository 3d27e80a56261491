/- Few parts, few steps: the copies that layer 14 has; such steps that came in. -/
import Derived.Test.YtloojgbkohpcfaaFew13
import Derived.Test.YtloojgbkohpcfaaRec
namespace Go.Proofs.Ytloojgbkohpcfaa
open Go.RowKit Go.Shelf Go.ChangeShapes Go.WideShapes Go.Deep
set_option linter.unusedVariables false
open Go.ChangeMaps (open_string)
attribute [local go_sem] Oper.semAt_some wide_fn wide_round_fn

def few14B (l : List EntryC) : Bool := l.all (fun e => decide (e.d.size ≤ 60)) && decide (l.length ≤ 8)
def few14P (L : List PL) : Bool := L.all (fun x => few14B x.2) && decide (L.length ≤ 6)
theorem GoodP.has14 {w : World} {x : PL} (h : GoodP w x) (hf : few14B x.2 = true) : HasE w x.1 x.2 := by
  simp only [few14B, Bool.and_eq_true, decide_eq_true_eq] at hf
  exact ⟨h.2.1, by have := h.2.1; omega, h.2.2.1⟩
set_option maxRecDepth 100000 in
set_option maxHeartbeats 1000000 in
theorem few14_any (p : PartC) (l : List EntryC) (w : World) (hl : l.length = p.len) (hrow : RowV w p.a p.len 3 (entryCells l)) (hg : ∀ e ∈ l, e.d.size ≤ maxLen) : Gives Try.prog 88 #[p.val] w (.bool (few14B l)) := by
  obtain ⟨g, k, a, len, cap, ht, hv, hc, i, t, mk, hd⟩ := p
  dsimp only [PartC.val] at *
  unfold Gives
  have hm := hrow.2.1
  unfold maxLen at hm
  have hcs := hrow.2.2
  have c2 : (w.alloc (.cells #[.int .i64 g, .int .i64 k, .slice a len cap, .int .i64 ht, .int .i64 hv, .int .i64 hc, .int .i64 i, .int .i64 t, .bool mk, .bool hd] 39)).cell? ⟨w.heap.size, 2, none⟩ = some (.slice a len cap) := cell_of_row _ _ 2 _ _ _ (World.alloc_heap_new w _)
  have hA := bel_alloc (Below.refl w.heap.size w) (.cells #[.int .i64 g, .int .i64 k, .slice a len cap, .int .i64 ht, .int .i64 hv, .int .i64 hc, .int .i64 i, .int .i64 t, .bool mk, .bool hd] 39)
  clear hrow
  go_enter Try.func88, Try.ntmps88
  go_wp2
  go_loop [3] (fun q => ∃ n : Nat, n ≤ len ∧ q = .int .i64 n ∧ (l.take n).all (fun e => decide (e.d.size ≤ 60)) = true) (fun q => len - (intOf q).toNat)
  case atStart => exact ⟨0, by omega, rfl, rfl⟩
  case round =>
    obtain ⟨n, hn, rfl, ha⟩ := hrel
    have HA := Lib.hid ha
    clear ha
    by_cases hlt : n < len
    · obtain ⟨b, off, rfl, hb, hx⟩ := hcs (by omega)
      have hkl : n < l.length := by omega
      obtain ⟨d0, d1, d2⟩ := entry_at hb hA hx hkl
      have hsz := hg l[n] (List.getElem_mem _)
      unfold maxLen at hsz
      have HT := Lib.hid (show l[n].d.size ≤ 60 → (l.take (n + 1)).all (fun e => decide (e.d.size ≤ 60)) = true from fun h => by rw [List.take_succ_eq_append_getElem hkl, List.all_append, HA.out]; simp [h])
      have HF := Lib.hid (show 60 < l[n].d.size → few14B l = false from fun h => by
        have : l.all (fun e => decide (e.d.size ≤ 60)) = false := by
          rw [List.all_eq_false]; exact ⟨l[n], List.getElem_mem _, by simp; omega⟩
        unfold few14B; rw [this]; rfl)
      clear hx hcs
      generalize l[n] = x at *
      by_cases h6 : x.d.size ≤ 60
      · go_wp2
        go_round
        case rel => exact ⟨n + 1, by omega, by go_num, HT.out h6⟩
        case measure => simp [intOf]; omega
      · have h6' : 60 < x.d.size := by omega
        go_wp2
        go_ret
        exact ⟨by rw [HF.out h6']; rfl, hA⟩
    · obtain rfl : n = len := by omega
      rw [List.take_of_length_le (by omega)] at HA
      have HV := Lib.hid (show few14B l = decide ((n : Int) ≤ 8) by unfold few14B; rw [HA.out, hl, Bool.true_and]; exact decide_eq_decide.2 (by omega))
      go_wp2
      go_ret
      exact ⟨by rw [HV.out]; rfl, hA⟩


set_option maxRecDepth 100000 in
set_option maxHeartbeats 2000000 in
theorem fewPs14_any (a : Option Addr) (len cap : Nat) (L : List PL) (w : World) (hL : L.length = len) (hrow : RowV w a len 10 (partCells L)) (hg : ∀ x ∈ L, GoodP w x) : Gives Try.prog 47 #[.slice a len cap] w (.bool (few14P L)) := by
  have hm := hrow.2.1
  unfold maxLen at hm
  have hcs := hrow.2.2
  have HG := Lib.hid hg
  have HL := Lib.hid hL
  clear hrow hg hL
  unfold Gives
  go_enter Try.func47, Try.ntmps47
  go_wp2
  go_loopw [3] (fun q wr => ∃ n : Nat, n ≤ len ∧ q = .int .i64 n ∧ (L.take n).all (fun x => few14B x.2) = true ∧ Below w.heap.size w wr) (fun q _ => len - (intOf q).toNat)
  case atStart => exact ⟨0, by omega, rfl, rfl, Below.refl _ _⟩
  case round =>
    obtain ⟨n, hn, rfl, ha, hB⟩ := hrel
    have HA := Lib.hid ha
    clear ha
    by_cases hlt : n < len
    · obtain ⟨b, off, rfl, hb, hx⟩ := hcs (by omega)
      have hkl : n < L.length := by rw [HL.out]; exact hlt
      obtain ⟨c0, c1, c2, c3, c4, c5, c6, c7, c8, c9⟩ := part_at10 hb hB hx hkl
      obtain ⟨_, g1, g2, g3⟩ := HG.out L[n] (List.getElem_mem hkl)
      have HT := Lib.hid (show few14B L[n].2 = true → (L.take (n + 1)).all (fun x => few14B x.2) = true from fun h => by rw [List.take_succ_eq_append_getElem hkl, List.all_append, HA.out]; simp [h])
      have HF := Lib.hid (show few14B L[n].2 = false → few14P L = false from fun h => by
        have : L.all (fun x => few14B x.2) = false := by
          rw [List.all_eq_false]; exact ⟨L[n], List.getElem_mem _, by simp [h]⟩
        unfold few14P; rw [this]; rfl)
      clear hx hcs HG HL HA
      generalize L[n] = x at *
      obtain ⟨p, l⟩ := x
      dsimp only at *
      have GF := Lib.hid (fun W (hW : Below w.heap.size w W) => few14_any p l W g1 (g2.below hW) (fun e he => (g3 e he).2.2))
      obtain ⟨pg, pk, pa, plen, pcap, pht, phv, phc, pi, pt, pm, ph⟩ := p
      dsimp only [PartC.val] at *
      clear g1 g2 g3
      cases hf : few14B l
      · rw [hf] at GF
        have HF2 := Lib.hid (HF.out hf)
        clear hf
        go_wp2_with (go_at_call 88; ((with_reducible refine (GF.out _ hB).mono ?_); rintro e w1 ⟨rfl, hB1⟩))
        go_ret
        exact ⟨by rw [HF2.out]; rfl, bel2 hB hB1⟩
      · rw [hf] at GF
        have HT2 := Lib.hid (HT.out hf)
        clear hf
        go_wp2_with (go_at_call 88; ((with_reducible refine (GF.out _ hB).mono ?_); rintro e w1 ⟨rfl, hB1⟩))
        go_roundw
        case rel => exact ⟨n + 1, by omega, by go_num, HT2.out, bel2 hB hB1⟩
        case measure => simp [intOf]; omega
    · obtain rfl : n = len := by omega
      have HV := Lib.hid (show few14P L = decide ((n : Int) ≤ 6) by
        have h1 := HA.out
        have h2 := HL.out
        rw [List.take_of_length_le (by omega)] at h1
        unfold few14P; rw [h1, h2, Bool.true_and]; exact decide_eq_decide.2 (by omega))
      go_wp2
      go_ret
      exact ⟨by rw [HV.out]; rfl, hB⟩



/-- A part that came in: its entries are no more than its slice's capacity. -/
def GoodQ (W : World) (x : PL) : Prop := GoodP W x ∧ x.1.len ≤ x.1.cap
theorem open_partsQ {H : Type} {enc : TypeId × Value → H} {W : World} {a : Option Addr} {len cap : Nat} {d : DataW H} {ps : List MemPlace}
    (h : DataW.Trod enc Try.prog W 0 (fun _ => true) true 67 (.slice a len cap) d ps) : ∃ L : List PL, L.length = len ∧ len ≤ cap ∧ RowV W a len 10 (partCells L) ∧ ∀ x ∈ L, GoodQ W x :=
  open_rows (α := PL) (fun x => x.1.arr.toList) (GoodQ W) 10 (by decide) Try.underlying67 (by kernel_rfl) (fun _ => rfl) (fun n cs x hl hx => by
    obtain ⟨p, hp, hg, l, h1, h2, h3⟩ := part_cells hl hx
    exact ⟨(p, l), hp, ⟨hg, h1, h2, h3⟩, part_len_le (p := p) (by rw [hp]; exact hx)⟩) h
/-- A step: parts at a place. -/
structure S14 where
  a : Option Addr
  len : Nat
  cap : Nat
  L : List PL
  s : Int
  t : Int
abbrev S14.cells (x : S14) : List Value := [.slice x.a x.len x.cap, .int .i64 x.s, .int .i64 x.t]
def s14Cells (L : List S14) : List Value := (L.map S14.cells).flatten
def GoodS (W : World) (x : S14) : Prop := (in64 x.s ∧ in64 x.t) ∧ x.L.length = x.len ∧ x.len ≤ x.cap ∧ RowV W x.a x.len 10 (partCells x.L) ∧ ∀ y ∈ x.L, GoodQ W y
set_option maxRecDepth 100000 in
theorem s14_cells {H : Type} {enc : TypeId × Value → H} {W : World} {n : Nat} {cs : List Value} {x : DataW H × List MemPlace} (hl : cs.length = 3) (hx : DataW.trod enc Try.prog W 0 (fun _ => true) true n 69 cs = some x) :
    ∃ y : S14, y.cells = cs ∧ GoodS W y := by
  have k1 : Try.prog.cellsOf 3 = 1 := by kernel_rfl
  have ks : Try.prog.cellsOf 67 = 1 := by kernel_rfl
  have kp : Try.prog.cellsOf 41 = 2 := by kernel_rfl
  match cs, hl with
  | [c0, c1, c2], _ =>
    obtain ⟨xs, n', _, _, _, hxl, hf⟩ := DataW.trod_struct Try.underlying69 hx
    match xs, hxl with
    | [y0, y1], _ =>
      have hen := trod_field hf 0 0 1 67 rfl ks
      obtain ⟨xs2, n2, _, _, _, hxl2, hf2⟩ := DataW.trod_struct Try.underlying41 (trod_field hf 1 1 2 41 rfl kp)
      match xs2, hxl2 with
      | [u0, u1], _ =>
        obtain ⟨z3, e3, _, w3⟩ := DataW.trod_int Try.underlying3 (trod_field hf2 0 0 1 3 rfl k1)
        obtain ⟨z4, e4, _, w4⟩ := DataW.trod_int Try.underlying3 (trod_field hf2 1 1 1 3 rfl k1)
        simp at e3 e4 hen
        subst e3 e4
        have hsl : ∃ (a : Option Addr) (len cap : Nat), c0 = .slice a len cap := by
          rcases open_slice Try.underlying67 hen with ⟨hcs, _⟩ | ⟨ad, len', cap', _, _, _, _, hcs, _⟩
          · simp at hcs; exact ⟨_, _, _, hcs⟩
          · simp at hcs; exact ⟨_, _, _, hcs⟩
        obtain ⟨a, len, cap, rfl⟩ := hsl
        obtain ⟨L, h1, h2, h3, h4⟩ := open_partsQ (enc := enc) (W := W) (a := a) (len := len) (cap := cap) (d := y0.1) (ps := y0.2) ⟨n', hen⟩
        exact ⟨⟨a, len, cap, L, z3, z4⟩, rfl, ⟨bounds_i64 w3, bounds_i64 w4⟩, h1, h2, h3, h4⟩
theorem open_lsteps {H : Type} {enc : TypeId × Value → H} {W : World} {a : Option Addr} {len cap : Nat} {d : DataW H} {ps : List MemPlace}
    (h : DataW.Trod enc Try.prog W 0 (fun _ => true) true 62 (.slice a len cap) d ps) : ∃ L : List S14, L.length = len ∧ len ≤ cap ∧ RowV W a len 3 (s14Cells L) ∧ ∀ x ∈ L, GoodS W x := by
  have := open_rows (α := S14) S14.cells (fun y => GoodS W y) 3 (by decide) Try.underlying62 (by kernel_rfl) (fun _ => rfl) (fun n cs x hl hx => s14_cells hl hx) h
  simpa only [s14Cells, List.flatMap_def] using this
def fewSs (L : List S14) : Bool := L.all (fun x => few14P x.L) && decide (L.length ≤ 40)
theorem GoodS.has {w : World} {x : S14} (h : GoodS w x) (hf : few14P x.L = true) : HasP w x.a x.len x.L ∧ (∀ y ∈ x.L, y.2.length ≤ 8 ∧ y.2.length ≤ y.1.cap) ∧ x.len ≤ 6 := by
  simp only [few14P, Bool.and_eq_true, decide_eq_true_eq, List.all_eq_true] at hf
  have h6 : x.len ≤ 6 := by have := h.2.1; omega
  refine ⟨⟨h.2.1, by omega, h.2.2.2.1, fun y hy => (h.2.2.2.2 y hy).1.has14 (hf.1 y hy)⟩, fun y hy => ?_, h6⟩
  have h1 := hf.1 y hy
  simp only [few14B, Bool.and_eq_true, decide_eq_true_eq] at h1
  have h2 := (h.2.2.2.2 y hy).1.2.1
  have h3 := (h.2.2.2.2 y hy).2
  exact ⟨h1.2, by omega⟩
theorem s14_at {w W : World} {b off : Nat} {L : List S14} (hb : b < w.heap.size) (hB : Below w.heap.size w W) (hc : ∀ j (h : j < (s14Cells L).length), w.cell? ⟨b, off + j, none⟩ = some (s14Cells L)[j]) {k : Nat} (hk : k < L.length) :
    W.cell? ⟨b, off + k * 3, none⟩ = some (.slice L[k].a L[k].len L[k].cap) ∧ W.cell? ⟨b, off + k * 3 + 1, none⟩ = some (.int .i64 L[k].s) ∧ W.cell? ⟨b, off + k * 3 + 2, none⟩ = some (.int .i64 L[k].t) := by
  have cell : ∀ i v, i < 3 → (L[k].cells)[i]? = some v → W.cell? ⟨b, off + (k * 3 + i), none⟩ = some v := fun i v hi hv =>
    (hB.cell (p := ⟨b, off + (k * 3 + i), none⟩) hb).trans (RowV.at_ (len := L.length) (sz := 3) hc (by rw [s14Cells, flat_at S14.cells 3 (fun _ => rfl) L k i hk hi]; exact hv))
  exact ⟨cell 0 _ (by decide) rfl, cell 1 _ (by decide) rfl, cell 2 _ (by decide) rfl⟩
set_option maxRecDepth 100000 in
set_option maxHeartbeats 2000000 in
theorem fewSs_any (a : Option Addr) (len cap : Nat) (L : List S14) (w : World) (hL : L.length = len) (hrow : RowV w a len 3 (s14Cells L)) (hg : ∀ x ∈ L, GoodS w x) : Gives Try.prog 22 #[.slice a len cap] w (.bool (fewSs L)) := by
  have hm := hrow.2.1
  unfold maxLen at hm
  have hcs := hrow.2.2
  have HG := Lib.hid hg
  have HL := Lib.hid hL
  clear hrow hg hL
  unfold Gives
  go_enter Try.func22, Try.ntmps22
  go_wp2
  go_loopw [3] (fun q wr => ∃ n : Nat, n ≤ len ∧ q = .int .i64 n ∧ (L.take n).all (fun x => few14P x.L) = true ∧ Below w.heap.size w wr) (fun q _ => len - (intOf q).toNat)
  case atStart => exact ⟨0, by omega, rfl, rfl, Below.refl _ _⟩
  case round =>
    obtain ⟨n, hn, rfl, ha, hB⟩ := hrel
    have HA := Lib.hid ha
    clear ha
    by_cases hlt : n < len
    · obtain ⟨b, off, rfl, hb, hx⟩ := hcs (by omega)
      have hkl : n < L.length := by rw [HL.out]; exact hlt
      obtain ⟨c0, c1, c2⟩ := s14_at hb hB hx hkl
      obtain ⟨_, g1, _, g2, g3⟩ := HG.out L[n] (List.getElem_mem hkl)
      have HT := Lib.hid (show few14P L[n].L = true → (L.take (n + 1)).all (fun x => few14P x.L) = true from fun h => by rw [List.take_succ_eq_append_getElem hkl, List.all_append, HA.out]; simp [h])
      have HF := Lib.hid (show few14P L[n].L = false → fewSs L = false from fun h => by
        have : L.all (fun x => few14P x.L) = false := by
          rw [List.all_eq_false]; exact ⟨L[n], List.getElem_mem _, by simp [h]⟩
        unfold fewSs; rw [this]; rfl)
      clear hx hcs HG HL HA
      generalize L[n] = x at *
      have GF := Lib.hid (fun W (hW : Below w.heap.size w W) => fewPs14_any x.a x.len x.cap x.L W g1 (g2.below hW) (fun e he => ⟨(g3 e he).1.1, (g3 e he).1.2.1, (g3 e he).1.2.2.1.below hW, (g3 e he).1.2.2.2⟩))
      obtain ⟨xa, xlen, xcap, xL, xs, xt⟩ := x
      dsimp only at *
      clear g1 g2 g3
      cases hf : few14P xL
      · rw [hf] at GF
        have HF2 := Lib.hid (HF.out hf)
        clear hf
        go_wp2_with (go_at_call 47; ((with_reducible refine (GF.out _ hB).mono ?_); rintro e w1 ⟨rfl, hB1⟩))
        go_ret
        exact ⟨by rw [HF2.out]; rfl, bel2 hB hB1⟩
      · rw [hf] at GF
        have HT2 := Lib.hid (HT.out hf)
        clear hf
        go_wp2_with (go_at_call 47; ((with_reducible refine (GF.out _ hB).mono ?_); rintro e w1 ⟨rfl, hB1⟩))
        go_roundw
        case rel => exact ⟨n + 1, by omega, by go_num, HT2.out, bel2 hB hB1⟩
        case measure => simp [intOf]; omega
    · obtain rfl : n = len := by omega
      have HV := Lib.hid (show fewSs L = decide ((n : Int) ≤ 40) by
        have h1 := HA.out
        have h2 := HL.out
        rw [List.take_of_length_le (by omega)] at h1
        unfold fewSs; rw [h1, h2, Bool.true_and]; exact decide_eq_decide.2 (by omega))
      go_wp2
      go_ret
      exact ⟨by rw [HV.out]; rfl, hB⟩

end Go.Proofs.Ytloojgbkohpcfaa
