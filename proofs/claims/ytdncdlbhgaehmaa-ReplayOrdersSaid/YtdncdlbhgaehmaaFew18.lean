/- OpenRec, Few18, Few19: in one text. -/
import Derived.Test.YtdncdlbhgaehmaaPartSame
import Derived.Test.YtdncdlbhgaehmaaShd
/- A record, a slice of records that came in. -/
namespace Go.Proofs.Ytdncdlbhgaehmaa
open Go.RowKit Go.Shelf Go.ChangeShapes Go.WideShapes Go.Deep
open Go.ChangeMaps (open_string)
set_option linter.unusedVariables false

/-- A record as a flat value. -/
structure RecC where
  s : Int
  a : Option Addr
  len : Nat
  cap : Nat
abbrev RecC.val (r : RecC) : Value := .agg #[.int .i64 r.s, .slice r.a r.len r.cap]
abbrev RecC.cells (r : RecC) : List Value := [.int .i64 r.s, .slice r.a r.len r.cap]
/-- A record with its parts, that came in. -/
def GoodR (W : World) (r : RecC) (L : List PL) : Prop := in64 r.s ∧ L.length = r.len ∧ r.len ≤ r.cap ∧ RowV W r.a r.len 10 (partCells L) ∧ ∀ x ∈ L, GoodP W x
theorem rec_cells {H : Type} {enc : TypeId × Value → H} {W : World} {n : Nat} {cs : List Value} {x : DataW H × List MemPlace} (hl : cs.length = 2) (hx : DataW.trod enc Try.prog W 0 (fun _ => true) true n 32 cs = some x) :
    ∃ (r : RecC) (L : List PL), r.cells = cs ∧ GoodR W r L := by
  have k1 : Try.prog.cellsOf 3 = 1 := by kernel_rfl
  have ks : Try.prog.cellsOf 30 = 1 := by kernel_rfl
  match cs, hl with
  | [c0, c1], _ =>
    obtain ⟨xs, n', _, _, _, hxl, hf⟩ := DataW.trod_struct Try.underlying32 hx
    match xs, hxl with
    | [y0, y1], _ =>
      obtain ⟨z0, e0, _, w0⟩ := DataW.trod_int Try.underlying3 (trod_field hf 0 0 1 3 rfl k1)
      have hen := trod_field hf 1 1 1 30 rfl ks
      simp at e0 hen
      subst e0
      have hsl : ∃ (a : Option Addr) (len cap : Nat), c1 = .slice a len cap := by
        rcases open_slice Try.underlying30 hen with ⟨hcs, _⟩ | ⟨ad, len', cap', _, _, _, _, hcs, _⟩
        · simp at hcs; exact ⟨_, _, _, hcs⟩
        · simp at hcs; exact ⟨_, _, _, hcs⟩
      obtain ⟨a, len, cap, rfl⟩ := hsl
      obtain ⟨L, h1, h2, h3, h4⟩ := open_parts (enc := enc) (W := W) (a := a) (len := len) (cap := cap) (d := y1.1) (ps := y1.2) ⟨n', hen⟩
      exact ⟨⟨z0, a, len, cap⟩, L, rfl, bounds_i64 w0, h1, h2, h3, h4⟩
set_option maxRecDepth 100000 in
theorem open_record {H : Type} {enc : TypeId × Value → H} {W : World} {r : Reach} {b0 : Nat} {v : Value} {d : DataW H} {ps : List MemPlace} (hv : Value.okWide Try.prog W r b0 32 v)
    (h : DataW.Trod enc Try.prog W 0 (fun _ => true) true 32 v d ps) : ∃ (q : RecC) (L : List PL), v = q.val ∧ GoodR W q L := by
  obtain ⟨cs, rfl, hsz⟩ := okWide_struct Try.underlying32 hv
  obtain ⟨fuel, hf⟩ := h
  have h2 : cs.size = 2 := hsz.trans (show Try.prog.cellsOf 32 = 2 by kernel_rfl)
  obtain ⟨q, L, hq, hg⟩ := rec_cells (by simpa [Value.cells] using h2) hf
  refine ⟨q, L, ?_, hg⟩
  show _ = Value.agg #[.int .i64 q.s, .slice q.a q.len q.cap]
  congr 1
  exact (Array.toList_inj.mp hq).symm
/-- A record with its parts. -/
abbrev RL := RecC × List PL
def recCells (L : List RL) : List Value := (L.map (fun x => x.1.cells)).flatten
theorem rec_at {w W : World} {b off : Nat} {L : List RL} (hb : b < w.heap.size) (hB : Below w.heap.size w W) (hc : ∀ j (h : j < (recCells L).length), w.cell? ⟨b, off + j, none⟩ = some (recCells L)[j]) {k : Nat} (hk : k < L.length) :
    W.cell? ⟨b, off + k * 2, none⟩ = some (.int .i64 L[k].1.s) ∧ W.cell? ⟨b, off + k * 2 + 1, none⟩ = some (.slice L[k].1.a L[k].1.len L[k].1.cap) := by
  have cell : ∀ i v, i < 2 → (L[k].1.cells)[i]? = some v → W.cell? ⟨b, off + (k * 2 + i), none⟩ = some v := fun i v hi hv =>
    (hB.cell (p := ⟨b, off + (k * 2 + i), none⟩) hb).trans (RowV.at_ (len := L.length) (sz := 2) hc (by rw [recCells, flat_at (fun x : RL => x.1.cells) 2 (fun _ => rfl) L k i hk hi]; exact hv))
  exact ⟨cell 0 _ (by decide) rfl, cell 1 _ (by decide) rfl⟩

end Go.Proofs.Ytdncdlbhgaehmaa

/- Few parts, few records that were found: the copies that layer 18 has; such records that came in. -/
namespace Go.Proofs.Ytdncdlbhgaehmaa
open Go.RowKit Go.Shelf Go.ChangeShapes Go.WideShapes Go.Deep
set_option linter.unusedVariables false
open Go.ChangeMaps (open_string)
attribute [local go_sem] Oper.semAt_some wide_fn wide_round_fn

def few18B (l : List EntryC) : Bool := l.all (fun e => decide (e.d.size ≤ 60)) && decide (l.length ≤ 8)
def few18P (L : List PL) : Bool := L.all (fun x => few18B x.2) && decide (L.length ≤ 6)
theorem GoodP.has18 {w : World} {x : PL} (h : GoodP w x) (hf : few18B x.2 = true) : HasE w x.1 x.2 := by
  simp only [few18B, Bool.and_eq_true, decide_eq_true_eq] at hf
  exact ⟨h.2.1, by have := h.2.1; omega, h.2.2.1⟩
set_option maxRecDepth 100000 in
set_option maxHeartbeats 1000000 in
theorem few18_any (p : PartC) (l : List EntryC) (w : World) (hl : l.length = p.len) (hrow : RowV w p.a p.len 3 (entryCells l)) (hg : ∀ e ∈ l, e.d.size ≤ maxLen) : Gives Try.prog 55 #[p.val] w (.bool (few18B l)) := by
  obtain ⟨g, k, a, len, cap, ht, hv, hc, i, t, mk, hd⟩ := p
  dsimp only [PartC.val] at *
  unfold Gives
  have hm := hrow.2.1
  unfold maxLen at hm
  have hcs := hrow.2.2
  have c2 : (w.alloc (.cells #[.int .i64 g, .int .i64 k, .slice a len cap, .int .i64 ht, .int .i64 hv, .int .i64 hc, .int .i64 i, .int .i64 t, .bool mk, .bool hd] 41)).cell? ⟨w.heap.size, 2, none⟩ = some (.slice a len cap) := cell_of_row _ _ 2 _ _ _ (World.alloc_heap_new w _)
  have hA := bel_alloc (Below.refl w.heap.size w) (.cells #[.int .i64 g, .int .i64 k, .slice a len cap, .int .i64 ht, .int .i64 hv, .int .i64 hc, .int .i64 i, .int .i64 t, .bool mk, .bool hd] 41)
  clear hrow
  go_enter Try.func55, Try.ntmps55
  go_wp2
  go_loop [3] (fun q => ∃ n : Nat, n ≤ len ∧ q = .int .i64 n ∧ (l.take n).all (fun e => decide (e.d.size ≤ 60)) = true) (fun q => len - (intOf q).toNat)
  case atStart => exact ⟨0, by omega, rfl, rfl⟩
  case round =>
    obtain ⟨n, hn, rfl, ha⟩ := hrel
    have HA := Lib.hid ha
    clear ha
    by_cases hlt : n < len
    · obtain ⟨b, off, rfl, hb, hx⟩ := hcs (by omega)
      have hkl : n < l.length := by omega
      obtain ⟨d0, d1, d2⟩ := entry_at hb hA hx hkl
      have hsz := hg l[n] (List.getElem_mem _)
      unfold maxLen at hsz
      have HT := Lib.hid (show l[n].d.size ≤ 60 → (l.take (n + 1)).all (fun e => decide (e.d.size ≤ 60)) = true from fun h => by rw [List.take_succ_eq_append_getElem hkl, List.all_append, HA.out]; simp [h])
      have HF := Lib.hid (show 60 < l[n].d.size → few18B l = false from fun h => by
        have : l.all (fun e => decide (e.d.size ≤ 60)) = false := by
          rw [List.all_eq_false]; exact ⟨l[n], List.getElem_mem _, by simp; omega⟩
        unfold few18B; rw [this]; rfl)
      clear hx hcs
      generalize l[n] = x at *
      by_cases h6 : x.d.size ≤ 60
      · go_wp2
        go_round
        case rel => exact ⟨n + 1, by omega, by go_num, HT.out h6⟩
        case measure => simp [intOf]; omega
      · have h6' : 60 < x.d.size := by omega
        go_wp2
        go_ret
        exact ⟨by rw [HF.out h6']; rfl, hA⟩
    · obtain rfl : n = len := by omega
      rw [List.take_of_length_le (by omega)] at HA
      have HV := Lib.hid (show few18B l = decide ((n : Int) ≤ 8) by unfold few18B; rw [HA.out, hl, Bool.true_and]; exact decide_eq_decide.2 (by omega))
      go_wp2
      go_ret
      exact ⟨by rw [HV.out]; rfl, hA⟩


set_option maxRecDepth 100000 in
set_option maxHeartbeats 2000000 in
theorem fewPs18_any (a : Option Addr) (len cap : Nat) (L : List PL) (w : World) (hL : L.length = len) (hrow : RowV w a len 10 (partCells L)) (hg : ∀ x ∈ L, GoodP w x) : Gives Try.prog 33 #[.slice a len cap] w (.bool (few18P L)) := by
  have hm := hrow.2.1
  unfold maxLen at hm
  have hcs := hrow.2.2
  have HG := Lib.hid hg
  have HL := Lib.hid hL
  clear hrow hg hL
  unfold Gives
  go_enter Try.func33, Try.ntmps33
  go_wp2
  go_loopw [3] (fun q wr => ∃ n : Nat, n ≤ len ∧ q = .int .i64 n ∧ (L.take n).all (fun x => few18B x.2) = true ∧ Below w.heap.size w wr) (fun q _ => len - (intOf q).toNat)
  case atStart => exact ⟨0, by omega, rfl, rfl, Below.refl _ _⟩
  case round =>
    obtain ⟨n, hn, rfl, ha, hB⟩ := hrel
    have HA := Lib.hid ha
    clear ha
    by_cases hlt : n < len
    · obtain ⟨b, off, rfl, hb, hx⟩ := hcs (by omega)
      have hkl : n < L.length := by rw [HL.out]; exact hlt
      obtain ⟨c0, c1, c2, c3, c4, c5, c6, c7, c8, c9⟩ := part_at10 hb hB hx hkl
      obtain ⟨_, g1, g2, g3⟩ := HG.out L[n] (List.getElem_mem hkl)
      have HT := Lib.hid (show few18B L[n].2 = true → (L.take (n + 1)).all (fun x => few18B x.2) = true from fun h => by rw [List.take_succ_eq_append_getElem hkl, List.all_append, HA.out]; simp [h])
      have HF := Lib.hid (show few18B L[n].2 = false → few18P L = false from fun h => by
        have : L.all (fun x => few18B x.2) = false := by
          rw [List.all_eq_false]; exact ⟨L[n], List.getElem_mem _, by simp [h]⟩
        unfold few18P; rw [this]; rfl)
      clear hx hcs HG HL HA
      generalize L[n] = x at *
      obtain ⟨p, l⟩ := x
      dsimp only at *
      have GF := Lib.hid (fun W (hW : Below w.heap.size w W) => few18_any p l W g1 (g2.below hW) (fun e he => (g3 e he).2.2))
      obtain ⟨pg, pk, pa, plen, pcap, pht, phv, phc, pi, pt, pm, ph⟩ := p
      dsimp only [PartC.val] at *
      clear g1 g2 g3
      cases hf : few18B l
      · rw [hf] at GF
        have HF2 := Lib.hid (HF.out hf)
        clear hf
        go_wp2_with (go_at_call 55; ((with_reducible refine (GF.out _ hB).mono ?_); rintro e w1 ⟨rfl, hB1⟩))
        go_ret
        exact ⟨by rw [HF2.out]; rfl, bel2 hB hB1⟩
      · rw [hf] at GF
        have HT2 := Lib.hid (HT.out hf)
        clear hf
        go_wp2_with (go_at_call 55; ((with_reducible refine (GF.out _ hB).mono ?_); rintro e w1 ⟨rfl, hB1⟩))
        go_roundw
        case rel => exact ⟨n + 1, by omega, by go_num, HT2.out, bel2 hB hB1⟩
        case measure => simp [intOf]; omega
    · obtain rfl : n = len := by omega
      have HV := Lib.hid (show few18P L = decide ((n : Int) ≤ 6) by
        have h1 := HA.out
        have h2 := HL.out
        rw [List.take_of_length_le (by omega)] at h1
        unfold few18P; rw [h1, h2, Bool.true_and]; exact decide_eq_decide.2 (by omega))
      go_wp2
      go_ret
      exact ⟨by rw [HV.out]; rfl, hB⟩


/-- A record that was found, that came in. -/
def GoodF (W : World) (x : FV) : Prop := (in64 x.q ∧ in64 x.s ∧ in64 x.t) ∧ x.L.length = x.len ∧ x.len ≤ x.cap ∧ RowV W x.a x.len 10 (partCells x.L) ∧ ∀ y ∈ x.L, GoodP W y
set_option maxRecDepth 100000 in
theorem found_cells {H : Type} {enc : TypeId × Value → H} {W : World} {n : Nat} {cs : List Value} {x : DataW H × List MemPlace} (hl : cs.length = 4) (hx : DataW.trod enc Try.prog W 0 (fun _ => true) true n 36 cs = some x) :
    ∃ y : FV, y.arr.toList = cs ∧ GoodF W y := by
  have k1 : Try.prog.cellsOf 3 = 1 := by kernel_rfl
  have kr : Try.prog.cellsOf 32 = 2 := by kernel_rfl
  have kp : Try.prog.cellsOf 34 = 2 := by kernel_rfl
  match cs, hl with
  | [c0, c1, c2, c3], _ =>
    obtain ⟨xs, n', _, _, _, hxl, hf⟩ := DataW.trod_struct Try.underlying36 hx
    match xs, hxl with
    | [y0, y1], _ =>
      obtain ⟨r, L, hr, hg⟩ := rec_cells (by rfl) (trod_field hf 0 0 2 32 rfl kr)
      obtain ⟨xs2, n2, _, _, _, hxl2, hf2⟩ := DataW.trod_struct Try.underlying34 (trod_field hf 1 2 2 34 rfl kp)
      match xs2, hxl2 with
      | [u0, u1], _ =>
        obtain ⟨z3, e3, _, w3⟩ := DataW.trod_int Try.underlying3 (trod_field hf2 0 0 1 3 rfl k1)
        obtain ⟨z4, e4, _, w4⟩ := DataW.trod_int Try.underlying3 (trod_field hf2 1 1 1 3 rfl k1)
        simp at e3 e4 hr
        obtain ⟨rfl, rfl⟩ := hr
        subst e3 e4
        exact ⟨⟨r.s, r.a, r.len, r.cap, L, z3, z4⟩, rfl, ⟨hg.1, bounds_i64 w3, bounds_i64 w4⟩, hg.2⟩
theorem open_founds {H : Type} {enc : TypeId × Value → H} {W : World} {a : Option Addr} {len cap : Nat} {d : DataW H} {ps : List MemPlace}
    (h : DataW.Trod enc Try.prog W 0 (fun _ => true) true 22 (.slice a len cap) d ps) : ∃ L : List FV, L.length = len ∧ len ≤ cap ∧ RowV W a len 4 (fvCells L) ∧ ∀ x ∈ L, GoodF W x := by
  have := open_rows (α := FV) (fun x => x.arr.toList) (fun y => GoodF W y) 4 (by decide) Try.underlying22 (by kernel_rfl) (fun _ => rfl) (fun n cs x hl hx => found_cells hl hx) h
  simpa only [fvCells, List.flatMap_def] using this
def fewFs (L : List FV) : Bool := L.all (fun x => few18P x.L) && decide (L.length ≤ 30)
theorem GoodF.has {w : World} {x : FV} (h : GoodF w x) (hf : few18P x.L = true) : HasP w x.a x.len x.L ∧ (∀ y ∈ x.L, -9223372036854775808 ≤ y.1.g ∧ y.1.g < 9223372036854775808) ∧ x.len ≤ 6 := by
  simp only [few18P, Bool.and_eq_true, decide_eq_true_eq, List.all_eq_true] at hf
  have h6 : x.len ≤ 6 := by have := h.2.1; omega
  exact ⟨⟨h.2.1, by omega, h.2.2.2.1, fun y hy => (h.2.2.2.2 y hy).has18 (hf.1 y hy)⟩, fun y hy => (h.2.2.2.2 y hy).1.2.1, h6⟩
theorem founds_at {w : World} {a : Option Addr} {len : Nat} {L : List FV} (hL : L.length = len) (hr : RowV w a len 4 (fvCells L)) (hg : ∀ x ∈ L, GoodF w x) (hf : fewFs L = true) : FoundsAt w a len L ∧ len ≤ 30 := by
  simp only [fewFs, Bool.and_eq_true, decide_eq_true_eq, List.all_eq_true] at hf
  exact ⟨⟨hL, by omega, hr, fun x hx => ⟨((hg x hx).has (hf.1 x hx)).1, ((hg x hx).has (hf.1 x hx)).2.1⟩⟩, by omega⟩
set_option maxRecDepth 100000 in
set_option maxHeartbeats 2000000 in
theorem fewFs18_any (a : Option Addr) (len cap : Nat) (L : List FV) (w : World) (hL : L.length = len) (hrow : RowV w a len 4 (fvCells L)) (hg : ∀ x ∈ L, GoodF w x) : Gives Try.prog 11 #[.slice a len cap] w (.bool (fewFs L)) := by
  have hm := hrow.2.1
  unfold maxLen at hm
  have hcs := hrow.2.2
  have HG := Lib.hid hg
  have HL := Lib.hid hL
  clear hrow hg hL
  unfold Gives
  go_enter Try.func11, Try.ntmps11
  go_wp2
  go_loopw [3] (fun q wr => ∃ n : Nat, n ≤ len ∧ q = .int .i64 n ∧ (L.take n).all (fun x => few18P x.L) = true ∧ Below w.heap.size w wr) (fun q _ => len - (intOf q).toNat)
  case atStart => exact ⟨0, by omega, rfl, rfl, Below.refl _ _⟩
  case round =>
    obtain ⟨n, hn, rfl, ha, hB⟩ := hrel
    have HA := Lib.hid ha
    clear ha
    by_cases hlt : n < len
    · obtain ⟨b, off, rfl, hb, hx⟩ := hcs (by omega)
      have hkl : n < L.length := by rw [HL.out]; exact hlt
      obtain ⟨c0, c1, c2, c3⟩ := fv_at4 hb hB hx hkl
      obtain ⟨_, g1, _, g2, g3⟩ := HG.out L[n] (List.getElem_mem hkl)
      have HT := Lib.hid (show few18P L[n].L = true → (L.take (n + 1)).all (fun x => few18P x.L) = true from fun h => by rw [List.take_succ_eq_append_getElem hkl, List.all_append, HA.out]; simp [h])
      have HF := Lib.hid (show few18P L[n].L = false → fewFs L = false from fun h => by
        have : L.all (fun x => few18P x.L) = false := by
          rw [List.all_eq_false]; exact ⟨L[n], List.getElem_mem _, by simp [h]⟩
        unfold fewFs; rw [this]; rfl)
      clear hx hcs HG HL HA
      generalize L[n] = x at *
      have GF := Lib.hid (fun W (hW : Below w.heap.size w W) => fewPs18_any x.a x.len x.cap x.L W g1 (g2.below hW) (fun e he => ⟨(g3 e he).1, (g3 e he).2.1, (g3 e he).2.2.1.below hW, (g3 e he).2.2.2⟩))
      obtain ⟨xq, xa, xlen, xcap, xL, xs, xt⟩ := x
      dsimp only at *
      clear g1 g2 g3
      cases hf : few18P xL
      · rw [hf] at GF
        have HF2 := Lib.hid (HF.out hf)
        clear hf
        go_wp2_with (go_at_call 33; ((with_reducible refine (GF.out _ hB).mono ?_); rintro e w1 ⟨rfl, hB1⟩))
        go_ret
        exact ⟨by rw [HF2.out]; rfl, bel2 hB hB1⟩
      · rw [hf] at GF
        have HT2 := Lib.hid (HT.out hf)
        clear hf
        go_wp2_with (go_at_call 33; ((with_reducible refine (GF.out _ hB).mono ?_); rintro e w1 ⟨rfl, hB1⟩))
        go_roundw
        case rel => exact ⟨n + 1, by omega, by go_num, HT2.out, bel2 hB hB1⟩
        case measure => simp [intOf]; omega
    · obtain rfl : n = len := by omega
      have HV := Lib.hid (show fewFs L = decide ((n : Int) ≤ 30) by
        have h1 := HA.out
        have h2 := HL.out
        rw [List.take_of_length_le (by omega)] at h1
        unfold fewFs; rw [h1, h2, Bool.true_and]; exact decide_eq_decide.2 (by omega))
      go_wp2
      go_ret
      exact ⟨by rw [HV.out]; rfl, hB⟩

end Go.Proofs.Ytdncdlbhgaehmaa

/- Few parts, few records that were found: the copies that layer 19 has. Printed by gen_few19.py. -/
namespace Go.Proofs.Ytdncdlbhgaehmaa
open Go.RowKit Go.Shelf Go.ChangeShapes Go.WideShapes Go.Deep
set_option linter.unusedVariables false
attribute [local go_sem] Oper.semAt_some wide_fn wide_round_fn

set_option maxRecDepth 100000 in
set_option maxHeartbeats 1000000 in
theorem few19_any (p : PartC) (l : List EntryC) (w : World) (hl : l.length = p.len) (hrow : RowV w p.a p.len 3 (entryCells l)) (hg : ∀ e ∈ l, e.d.size ≤ maxLen) : Gives Try.prog 59 #[p.val] w (.bool (few18B l)) := by
  obtain ⟨g, k, a, len, cap, ht, hv, hc, i, t, mk, hd⟩ := p
  dsimp only [PartC.val] at *
  unfold Gives
  have hm := hrow.2.1
  unfold maxLen at hm
  have hcs := hrow.2.2
  have c2 : (w.alloc (.cells #[.int .i64 g, .int .i64 k, .slice a len cap, .int .i64 ht, .int .i64 hv, .int .i64 hc, .int .i64 i, .int .i64 t, .bool mk, .bool hd] 41)).cell? ⟨w.heap.size, 2, none⟩ = some (.slice a len cap) := cell_of_row _ _ 2 _ _ _ (World.alloc_heap_new w _)
  have hA := bel_alloc (Below.refl w.heap.size w) (.cells #[.int .i64 g, .int .i64 k, .slice a len cap, .int .i64 ht, .int .i64 hv, .int .i64 hc, .int .i64 i, .int .i64 t, .bool mk, .bool hd] 41)
  clear hrow
  go_enter Try.func59, Try.ntmps59
  go_wp2
  go_loop [3] (fun q => ∃ n : Nat, n ≤ len ∧ q = .int .i64 n ∧ (l.take n).all (fun e => decide (e.d.size ≤ 60)) = true) (fun q => len - (intOf q).toNat)
  case atStart => exact ⟨0, by omega, rfl, rfl⟩
  case round =>
    obtain ⟨n, hn, rfl, ha⟩ := hrel
    have HA := Lib.hid ha
    clear ha
    by_cases hlt : n < len
    · obtain ⟨b, off, rfl, hb, hx⟩ := hcs (by omega)
      have hkl : n < l.length := by omega
      obtain ⟨d0, d1, d2⟩ := entry_at hb hA hx hkl
      have hsz := hg l[n] (List.getElem_mem _)
      unfold maxLen at hsz
      have HT := Lib.hid (show l[n].d.size ≤ 60 → (l.take (n + 1)).all (fun e => decide (e.d.size ≤ 60)) = true from fun h => by rw [List.take_succ_eq_append_getElem hkl, List.all_append, HA.out]; simp [h])
      have HF := Lib.hid (show 60 < l[n].d.size → few18B l = false from fun h => by
        have : l.all (fun e => decide (e.d.size ≤ 60)) = false := by
          rw [List.all_eq_false]; exact ⟨l[n], List.getElem_mem _, by simp; omega⟩
        unfold few18B; rw [this]; rfl)
      clear hx hcs
      generalize l[n] = x at *
      by_cases h6 : x.d.size ≤ 60
      · go_wp2
        go_round
        case rel => exact ⟨n + 1, by omega, by go_num, HT.out h6⟩
        case measure => simp [intOf]; omega
      · have h6' : 60 < x.d.size := by omega
        go_wp2
        go_ret
        exact ⟨by rw [HF.out h6']; rfl, hA⟩
    · obtain rfl : n = len := by omega
      rw [List.take_of_length_le (by omega)] at HA
      have HV := Lib.hid (show few18B l = decide ((n : Int) ≤ 8) by unfold few18B; rw [HA.out, hl, Bool.true_and]; exact decide_eq_decide.2 (by omega))
      go_wp2
      go_ret
      exact ⟨by rw [HV.out]; rfl, hA⟩
set_option maxRecDepth 100000 in
set_option maxHeartbeats 2000000 in
theorem fewPs19_any (a : Option Addr) (len cap : Nat) (L : List PL) (w : World) (hL : L.length = len) (hrow : RowV w a len 10 (partCells L)) (hg : ∀ x ∈ L, GoodP w x) : Gives Try.prog 38 #[.slice a len cap] w (.bool (few18P L)) := by
  have hm := hrow.2.1
  unfold maxLen at hm
  have hcs := hrow.2.2
  have HG := Lib.hid hg
  have HL := Lib.hid hL
  clear hrow hg hL
  unfold Gives
  go_enter Try.func38, Try.ntmps38
  go_wp2
  go_loopw [3] (fun q wr => ∃ n : Nat, n ≤ len ∧ q = .int .i64 n ∧ (L.take n).all (fun x => few18B x.2) = true ∧ Below w.heap.size w wr) (fun q _ => len - (intOf q).toNat)
  case atStart => exact ⟨0, by omega, rfl, rfl, Below.refl _ _⟩
  case round =>
    obtain ⟨n, hn, rfl, ha, hB⟩ := hrel
    have HA := Lib.hid ha
    clear ha
    by_cases hlt : n < len
    · obtain ⟨b, off, rfl, hb, hx⟩ := hcs (by omega)
      have hkl : n < L.length := by rw [HL.out]; exact hlt
      obtain ⟨c0, c1, c2, c3, c4, c5, c6, c7, c8, c9⟩ := part_at10 hb hB hx hkl
      obtain ⟨_, g1, g2, g3⟩ := HG.out L[n] (List.getElem_mem hkl)
      have HT := Lib.hid (show few18B L[n].2 = true → (L.take (n + 1)).all (fun x => few18B x.2) = true from fun h => by rw [List.take_succ_eq_append_getElem hkl, List.all_append, HA.out]; simp [h])
      have HF := Lib.hid (show few18B L[n].2 = false → few18P L = false from fun h => by
        have : L.all (fun x => few18B x.2) = false := by
          rw [List.all_eq_false]; exact ⟨L[n], List.getElem_mem _, by simp [h]⟩
        unfold few18P; rw [this]; rfl)
      clear hx hcs HG HL HA
      generalize L[n] = x at *
      obtain ⟨p, l⟩ := x
      dsimp only at *
      have GF := Lib.hid (fun W (hW : Below w.heap.size w W) => few19_any p l W g1 (g2.below hW) (fun e he => (g3 e he).2.2))
      obtain ⟨pg, pk, pa, plen, pcap, pht, phv, phc, pi, pt, pm, ph⟩ := p
      dsimp only [PartC.val] at *
      clear g1 g2 g3
      cases hf : few18B l
      · rw [hf] at GF
        have HF2 := Lib.hid (HF.out hf)
        clear hf
        go_wp2_with (go_at_call 59; ((with_reducible refine (GF.out _ hB).mono ?_); rintro e w1 ⟨rfl, hB1⟩))
        go_ret
        exact ⟨by rw [HF2.out]; rfl, bel2 hB hB1⟩
      · rw [hf] at GF
        have HT2 := Lib.hid (HT.out hf)
        clear hf
        go_wp2_with (go_at_call 59; ((with_reducible refine (GF.out _ hB).mono ?_); rintro e w1 ⟨rfl, hB1⟩))
        go_roundw
        case rel => exact ⟨n + 1, by omega, by go_num, HT2.out, bel2 hB hB1⟩
        case measure => simp [intOf]; omega
    · obtain rfl : n = len := by omega
      have HV := Lib.hid (show few18P L = decide ((n : Int) ≤ 6) by
        have h1 := HA.out
        have h2 := HL.out
        rw [List.take_of_length_le (by omega)] at h1
        unfold few18P; rw [h1, h2, Bool.true_and]; exact decide_eq_decide.2 (by omega))
      go_wp2
      go_ret
      exact ⟨by rw [HV.out]; rfl, hB⟩
set_option maxRecDepth 100000 in
set_option maxHeartbeats 2000000 in
theorem fewFs19_any (a : Option Addr) (len cap : Nat) (L : List FV) (w : World) (hL : L.length = len) (hrow : RowV w a len 4 (fvCells L)) (hg : ∀ x ∈ L, GoodF w x) : Gives Try.prog 18 #[.slice a len cap] w (.bool (fewFs L)) := by
  have hm := hrow.2.1
  unfold maxLen at hm
  have hcs := hrow.2.2
  have HG := Lib.hid hg
  have HL := Lib.hid hL
  clear hrow hg hL
  unfold Gives
  go_enter Try.func18, Try.ntmps18
  go_wp2
  go_loopw [3] (fun q wr => ∃ n : Nat, n ≤ len ∧ q = .int .i64 n ∧ (L.take n).all (fun x => few18P x.L) = true ∧ Below w.heap.size w wr) (fun q _ => len - (intOf q).toNat)
  case atStart => exact ⟨0, by omega, rfl, rfl, Below.refl _ _⟩
  case round =>
    obtain ⟨n, hn, rfl, ha, hB⟩ := hrel
    have HA := Lib.hid ha
    clear ha
    by_cases hlt : n < len
    · obtain ⟨b, off, rfl, hb, hx⟩ := hcs (by omega)
      have hkl : n < L.length := by rw [HL.out]; exact hlt
      obtain ⟨c0, c1, c2, c3⟩ := fv_at4 hb hB hx hkl
      obtain ⟨_, g1, _, g2, g3⟩ := HG.out L[n] (List.getElem_mem hkl)
      have HT := Lib.hid (show few18P L[n].L = true → (L.take (n + 1)).all (fun x => few18P x.L) = true from fun h => by rw [List.take_succ_eq_append_getElem hkl, List.all_append, HA.out]; simp [h])
      have HF := Lib.hid (show few18P L[n].L = false → fewFs L = false from fun h => by
        have : L.all (fun x => few18P x.L) = false := by
          rw [List.all_eq_false]; exact ⟨L[n], List.getElem_mem _, by simp [h]⟩
        unfold fewFs; rw [this]; rfl)
      clear hx hcs HG HL HA
      generalize L[n] = x at *
      have GF := Lib.hid (fun W (hW : Below w.heap.size w W) => fewPs19_any x.a x.len x.cap x.L W g1 (g2.below hW) (fun e he => ⟨(g3 e he).1, (g3 e he).2.1, (g3 e he).2.2.1.below hW, (g3 e he).2.2.2⟩))
      obtain ⟨xq, xa, xlen, xcap, xL, xs, xt⟩ := x
      dsimp only at *
      clear g1 g2 g3
      cases hf : few18P xL
      · rw [hf] at GF
        have HF2 := Lib.hid (HF.out hf)
        clear hf
        go_wp2_with (go_at_call 38; ((with_reducible refine (GF.out _ hB).mono ?_); rintro e w1 ⟨rfl, hB1⟩))
        go_ret
        exact ⟨by rw [HF2.out]; rfl, bel2 hB hB1⟩
      · rw [hf] at GF
        have HT2 := Lib.hid (HT.out hf)
        clear hf
        go_wp2_with (go_at_call 38; ((with_reducible refine (GF.out _ hB).mono ?_); rintro e w1 ⟨rfl, hB1⟩))
        go_roundw
        case rel => exact ⟨n + 1, by omega, by go_num, HT2.out, bel2 hB hB1⟩
        case measure => simp [intOf]; omega
    · obtain rfl : n = len := by omega
      have HV := Lib.hid (show fewFs L = decide ((n : Int) ≤ 30) by
        have h1 := HA.out
        have h2 := HL.out
        rw [List.take_of_length_le (by omega)] at h1
        unfold fewFs; rw [h1, h2, Bool.true_and]; exact decide_eq_decide.2 (by omega))
      go_wp2
      go_ret
      exact ⟨by rw [HV.out]; rfl, hB⟩

end Go.Proofs.Ytdncdlbhgaehmaa
