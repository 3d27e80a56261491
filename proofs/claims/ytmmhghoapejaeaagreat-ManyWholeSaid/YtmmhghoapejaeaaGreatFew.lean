/- Known6, Few6, Few7, Few7L: in one text. -/
import Derived.Test.YtmmhghoapejaeaaGreatGrpDo
import Derived.Test.YtmmhghoapejaeaaGreatPartSame
/- What the sixth layer's laws hold by themselves: the examples. -/
namespace Go.Proofs.YtmmhghoapejaeaaGreat
open Go.RowKit Go.Shelf
set_option linter.unusedVariables false
attribute [local go_sem] Oper.semAt_some wide_fn wide_round_fn

theorem alloc3 (w : World) (A B C : Array Value) (S T U : TypeId) : (((w.alloc (.cells A S)).alloc (.cells B T)).alloc (.cells C U)).heap[w.heap.size]? = some (.cells A S (0, 0)) ∧ (((w.alloc (.cells A S)).alloc (.cells B T)).alloc (.cells C U)).heap[w.heap.size + 1]? = some (.cells B T (0, 0)) ∧ (((w.alloc (.cells A S)).alloc (.cells B T)).alloc (.cells C U)).heap[w.heap.size + 1 + 1]? = some (.cells C U (0, 0)) ∧ Below w.heap.size w (((w.alloc (.cells A S)).alloc (.cells B T)).alloc (.cells C U)) := by
  have h1 := two_a w A B S T
  have h2 := two_b w A B S T
  have h3 := World.alloc_heap_new ((w.alloc (.cells A S)).alloc (.cells B T)) (.cells C U)
  rw [World.size_alloc, World.size_alloc] at h3
  have hB := bel_alloc (Below.refl _ ((w.alloc (.cells A S)).alloc (.cells B T))) (.cells C U)
  exact ⟨(hB.block _ (heap_lt h1)).trans h1, (hB.block _ (heap_lt h2)).trans h2, h3, bel2 (gp_bel _ _ _ _ _) hB⟩
theorem hasG_nil (W : World) (a : Option Addr) (id fi te ht hv hc : Int) : HasG W a ⟨id, fi, te, ht, hv, hc, []⟩ := ⟨(by decide : 0 < 1000000), RowV.nil _ _ _⟩
theorem cells10a {W : World} {b : Nat} {T : TypeId} {v0 v1 v2 v3 v4 v5 v6 v7 v8 v9 : Value} (h : W.heap[b]? = some (.cells #[v0, v1, v2, v3, v4, v5, v6, v7, v8, v9] T (0, 0))) :
    W.cell? ⟨b, 0, none⟩ = some v0 ∧ W.cell? ⟨b, 1, none⟩ = some v1 ∧ W.cell? ⟨b, 2, none⟩ = some v2 ∧ W.cell? ⟨b, 3, none⟩ = some v3 ∧ W.cell? ⟨b, 4, none⟩ = some v4 ∧ W.cell? ⟨b, 5, none⟩ = some v5 ∧ W.cell? ⟨b, 6, none⟩ = some v6 ∧ W.cell? ⟨b, 7, none⟩ = some v7 ∧ W.cell? ⟨b, 8, none⟩ = some v8 ∧ W.cell? ⟨b, 9, none⟩ = some v9 :=
  ⟨cell_of_row _ _ 0 _ _ _ h, cell_of_row _ _ 1 _ _ _ h, cell_of_row _ _ 2 _ _ _ h, cell_of_row _ _ 3 _ _ _ h, cell_of_row _ _ 4 _ _ _ h, cell_of_row _ _ 5 _ _ _ h, cell_of_row _ _ 6 _ _ _ h, cell_of_row _ _ 7 _ _ _ h, cell_of_row _ _ 8 _ _ _ h, cell_of_row _ _ 9 _ _ _ h⟩
theorem kn1 (X : Nat) : chkG ⟨7, 1, 0, 0, 0, 0, []⟩ ⟨7, 1, (some ⟨X, 0, none⟩), 2, 2, 0, 0, 0, 0, 0, false, false⟩ [⟨1, 2, ⟨#[97]⟩⟩, ⟨2, 2, ⟨#[]⟩⟩] = 0 ∧ doG ⟨7, 1, 0, 0, 0, 0, []⟩ ⟨7, 1, (some ⟨X, 0, none⟩), 2, 2, 0, 0, 0, 0, 0, false, false⟩ [⟨1, 2, ⟨#[97]⟩⟩, ⟨2, 2, ⟨#[]⟩⟩] = ⟨7, 1, 0, 0, 0, 0, [⟨1, 2, ⟨#[97]⟩⟩, ⟨2, 2, ⟨#[]⟩⟩]⟩ := ⟨by kernel_rfl, by kernel_rfl⟩
theorem kn2 (X : Nat) : chkG ⟨7, 1, 0, 0, 0, 0, []⟩ ⟨7, 1, (some ⟨X, 0, none⟩), 1, 1, 0, 0, 0, 0, 0, false, false⟩ [⟨2, 2, ⟨#[]⟩⟩] = 14 ∧ doG ⟨7, 1, 0, 0, 0, 0, []⟩ ⟨7, 1, (some ⟨X, 0, none⟩), 1, 1, 0, 0, 0, 0, 0, false, false⟩ [⟨2, 2, ⟨#[]⟩⟩] = ⟨7, 1, 0, 0, 0, 0, []⟩ := ⟨by kernel_rfl, by kernel_rfl⟩
theorem kn3 : chkG ⟨7, 1, 0, 0, 0, 0, [⟨1, 2, ⟨#[97]⟩⟩, ⟨2, 2, ⟨#[]⟩⟩]⟩ ⟨7, 3, none, 0, 0, 0, 0, 0, 1, 0, false, false⟩ [] = 0 ∧ doG ⟨7, 1, 0, 0, 0, 0, [⟨1, 2, ⟨#[97]⟩⟩, ⟨2, 2, ⟨#[]⟩⟩]⟩ ⟨7, 3, none, 0, 0, 0, 0, 0, 1, 0, false, false⟩ [] = ⟨7, 2, 2, 0, 0, 0, [⟨2, 2, ⟨#[]⟩⟩]⟩ := ⟨by kernel_rfl, by kernel_rfl⟩
theorem kn4 (X : Nat) : chkG ⟨7, 2, 2, 0, 0, 0, [⟨2, 2, ⟨#[]⟩⟩]⟩ ⟨7, 1, (some ⟨X, 0, none⟩), 2, 2, 0, 0, 0, 0, 0, false, false⟩ [⟨1, 2, ⟨#[97]⟩⟩, ⟨2, 2, ⟨#[]⟩⟩] = 15 := by kernel_rfl
theorem kn5 : termG ⟨7, 2, 2, 0, 0, 0, [⟨2, 2, ⟨#[]⟩⟩]⟩ 1 = (2, 0) ∧ termG ⟨7, 2, 2, 0, 0, 0, [⟨2, 2, ⟨#[]⟩⟩]⟩ 0 = (0, 15) ∧ entsG ⟨7, 2, 2, 0, 0, 0, [⟨2, 2, ⟨#[]⟩⟩]⟩ 2 3 = ([⟨2, 2, ⟨#[]⟩⟩], 0) := ⟨by kernel_rfl, by kernel_rfl, by kernel_rfl⟩
theorem kn6 : isG ⟨7, 1, 0, 0, 0, 0, []⟩ = true ∧ isG ⟨7, 1, 0, 0, 0, 0, [⟨1, 2, ⟨#[97]⟩⟩, ⟨2, 2, ⟨#[]⟩⟩]⟩ = true ∧ isG ⟨7, 2, 2, 0, 0, 0, [⟨2, 2, ⟨#[]⟩⟩]⟩ = true := ⟨by kernel_rfl, by kernel_rfl, by kernel_rfl⟩
theorem es1_has {W : World} {X : Nat} (h : W.heap[X]? = some (.cells #[.int .i64 1, .int .i64 2, .string ⟨#[97]⟩, .int .i64 2, .int .i64 2, .string ⟨#[]⟩] 59 (0, 0))) : HasE W ⟨7, 1, (some ⟨X, 0, none⟩), 2, 2, 0, 0, 0, 0, 0, false, false⟩ [⟨1, 2, ⟨#[97]⟩⟩, ⟨2, 2, ⟨#[]⟩⟩] :=
  ⟨rfl, (by decide : 2 < 1000000), by exact rowV_block (cs := #[.int .i64 1, .int .i64 2, .string ⟨#[97]⟩, .int .i64 2, .int .i64 2, .string ⟨#[]⟩]) (n := 2) (sz := 3) h rfl (by decide)⟩
theorem es2_has {W : World} {X : Nat} (h : W.heap[X]? = some (.cells #[.int .i64 2, .int .i64 2, .string ⟨#[]⟩] 59 (0, 0))) : HasE W ⟨7, 1, (some ⟨X, 0, none⟩), 1, 1, 0, 0, 0, 0, 0, false, false⟩ [⟨2, 2, ⟨#[]⟩⟩] :=
  ⟨rfl, (by decide : 1 < 1000000), by exact rowV_block (cs := #[.int .i64 2, .int .i64 2, .string ⟨#[]⟩]) (n := 1) (sz := 3) h rfl (by decide)⟩

end Go.Proofs.YtmmhghoapejaeaaGreat

/- What is few at the sixth layer; a group that came in. -/
namespace Go.Proofs.YtmmhghoapejaeaaGreat
open Go.RowKit Go.Shelf Go.ChangeShapes Go.WideShapes Go.Deep
set_option linter.unusedVariables false
open Go.ChangeMaps (open_string)
attribute [local go_sem] Oper.semAt_some wide_fn wide_round_fn

def few6B (l : List EntryC) : Bool := l.all (fun e => decide (e.d.size ≤ 60)) && decide (l.length ≤ 8)
/-- A row of parts is few. -/
def fewPs6 (L : List PL) : Bool := L.all (fun x => few6B x.2) && decide (L.length ≤ 6)
def fewGB (l : List EntryC) : Bool := l.all (fun e => decide (e.d.size ≤ 60)) && decide (l.length ≤ 30)
/-- A group that came in. -/
def GoodG (W : World) (g : GM) (a : Option Addr) : Prop := (in64 g.id ∧ in64 g.fi ∧ in64 g.te ∧ in64 g.ht ∧ in64 g.hv ∧ in64 g.hc) ∧ RowV W a g.l.length 3 (entryCells g.l) ∧ ∀ e ∈ g.l, goodEntry e
theorem GoodG.below {w W : World} {g : GM} {a : Option Addr} (h : GoodG w g a) (hB : Below w.heap.size w W) : GoodG W g a := ⟨h.1, h.2.1.below hB, h.2.2⟩
theorem GoodG.has {w : World} {g : GM} {a : Option Addr} (h : GoodG w g a) (hf : fewGB g.l = true) : HasG w a g ∧ g.l.length ≤ 30 := by
  simp only [fewGB, Bool.and_eq_true, decide_eq_true_eq] at hf
  exact ⟨⟨by omega, h.2.1⟩, hf.2⟩
theorem GoodP.has {w : World} {x : PL} (h : GoodP w x) (hf : few6B x.2 = true) : HasE w x.1 x.2 := by
  simp only [few6B, Bool.and_eq_true, decide_eq_true_eq] at hf
  exact ⟨h.2.1, by have := h.2.1; omega, h.2.2.1⟩
set_option maxRecDepth 100000 in
theorem open_group {H : Type} {enc : TypeId × Value → H} {W : World} {r : Reach} {b0 : Nat} {v : Value} {d : DataW H} {ps : List MemPlace} (hv : Value.okWide Tryz.prog W r b0 31 v)
    (h : DataW.Trod enc Tryz.prog W 0 (fun _ => true) true 31 v d ps) : ∃ (g : GM) (a : Option Addr) (cap : Nat), v = g.val a cap ∧ GoodG W g a := by
  obtain ⟨cs, rfl, hsz⟩ := okWide_struct Tryz.underlying31 hv
  obtain ⟨fuel, hf⟩ := h
  have h7 : cs.size = 7 := hsz.trans (show Tryz.prog.cellsOf 31 = 7 by kernel_rfl)
  have k1 : Tryz.prog.cellsOf 3 = 1 := by kernel_rfl
  have ks : Tryz.prog.cellsOf 29 = 1 := by kernel_rfl
  have kh : Tryz.prog.cellsOf 28 = 3 := by kernel_rfl
  obtain ⟨l7⟩ := cs
  simp only [Value.cells] at hf
  match l7, h7 with
  | [c0, c1, c2, c3, c4, c5, c6], _ =>
    obtain ⟨xs, n', _, _, _, hxl, hf⟩ := DataW.trod_struct Tryz.underlying31 hf
    match xs, hxl with
    | [y0, y1, y2, y3, y4], _ =>
      obtain ⟨z0, e0, _, w0⟩ := DataW.trod_int Tryz.underlying3 (trod_field hf 0 0 1 3 rfl k1)
      obtain ⟨z1, e1, _, w1⟩ := DataW.trod_int Tryz.underlying3 (trod_field hf 1 1 1 3 rfl k1)
      obtain ⟨z2, e2, _, w2⟩ := DataW.trod_int Tryz.underlying3 (trod_field hf 2 2 1 3 rfl k1)
      obtain ⟨xs2, n2, _, _, _, hxl2, hf2⟩ := DataW.trod_struct Tryz.underlying28 (trod_field hf 3 3 3 28 rfl kh)
      have hen := trod_field hf 4 6 1 29 rfl ks
      match xs2, hxl2 with
      | [u0, u1, u2], _ =>
        obtain ⟨z3, e3, _, w3⟩ := DataW.trod_int Tryz.underlying3 (trod_field hf2 0 0 1 3 rfl k1)
        obtain ⟨z4, e4, _, w4⟩ := DataW.trod_int Tryz.underlying3 (trod_field hf2 1 1 1 3 rfl k1)
        obtain ⟨z5, e5, _, w5⟩ := DataW.trod_int Tryz.underlying3 (trod_field hf2 2 2 1 3 rfl k1)
        simp at e0 e1 e2 e3 e4 e5
        subst e0 e1 e2 e3 e4 e5
        have hsl : ∃ (a : Option Addr) (len cap : Nat), c6 = .slice a len cap := by
          rcases open_slice Tryz.underlying29 hen with ⟨hcs, _⟩ | ⟨ad, len', cap', _, _, _, _, hcs, _⟩
          · simp at hcs; exact ⟨_, _, _, hcs⟩
          · simp at hcs; exact ⟨_, _, _, hcs⟩
        obtain ⟨a, len, cap, rfl⟩ := hsl
        obtain ⟨l, h1, h2, h3, h4⟩ := open_entries (enc := enc) (W := W) (a := a) (len := len) (cap := cap) (d := y4.1) (ps := y4.2) ⟨n', hen⟩
        subst h1
        exact ⟨⟨z0, z1, z2, z3, z4, z5, l⟩, a, cap, rfl, ⟨bounds_i64 w0, bounds_i64 w1, bounds_i64 w2, bounds_i64 w3, bounds_i64 w4, bounds_i64 w5⟩, h3, h4⟩

end Go.Proofs.YtmmhghoapejaeaaGreat

/- Few entries, few parts, few groups: the copies that layer 7 has. -/
namespace Go.Proofs.YtmmhghoapejaeaaGreat
open Go.RowKit Go.Shelf Go.ChangeShapes Go.WideShapes Go.Deep
set_option linter.unusedVariables false
open Go.ChangeMaps (open_string)
attribute [local go_sem] Oper.semAt_some wide_fn wide_round_fn

set_option maxRecDepth 100000 in
set_option maxHeartbeats 1000000 in
theorem few7_any (p : PartC) (l : List EntryC) (w : World) (hl : l.length = p.len) (hrow : RowV w p.a p.len 3 (entryCells l)) (hg : ∀ e ∈ l, e.d.size ≤ maxLen) : Gives Tryz.prog 45 #[p.val] w (.bool (few6B l)) := by
  obtain ⟨g, k, a, len, cap, ht, hv, hc, i, t, mk, hd⟩ := p
  dsimp only [PartC.val] at *
  unfold Gives
  have hm := hrow.2.1
  unfold maxLen at hm
  have hcs := hrow.2.2
  have c2 : (w.alloc (.cells #[.int .i64 g, .int .i64 k, .slice a len cap, .int .i64 ht, .int .i64 hv, .int .i64 hc, .int .i64 i, .int .i64 t, .bool mk, .bool hd] 44)).cell? ⟨w.heap.size, 2, none⟩ = some (.slice a len cap) := cell_of_row _ _ 2 _ _ _ (World.alloc_heap_new w _)
  have hA := bel_alloc (Below.refl w.heap.size w) (.cells #[.int .i64 g, .int .i64 k, .slice a len cap, .int .i64 ht, .int .i64 hv, .int .i64 hc, .int .i64 i, .int .i64 t, .bool mk, .bool hd] 44)
  clear hrow
  go_enter Tryz.func45, Tryz.ntmps45
  go_wp2
  go_loop [3] (fun q => ∃ n : Nat, n ≤ len ∧ q = .int .i64 n ∧ (l.take n).all (fun e => decide (e.d.size ≤ 60)) = true) (fun q => len - (intOf q).toNat)
  case atStart => exact ⟨0, by omega, rfl, rfl⟩
  case round =>
    obtain ⟨n, hn, rfl, ha⟩ := hrel
    have HA := Lib.hid ha
    clear ha
    by_cases hlt : n < len
    · obtain ⟨b, off, rfl, hb, hx⟩ := hcs (by omega)
      have hkl : n < l.length := by omega
      obtain ⟨d0, d1, d2⟩ := entry_at hb hA hx hkl
      have hsz := hg l[n] (List.getElem_mem _)
      unfold maxLen at hsz
      have HT := Lib.hid (show l[n].d.size ≤ 60 → (l.take (n + 1)).all (fun e => decide (e.d.size ≤ 60)) = true from fun h => by rw [List.take_succ_eq_append_getElem hkl, List.all_append, HA.out]; simp [h])
      have HF := Lib.hid (show 60 < l[n].d.size → few6B l = false from fun h => by
        have : l.all (fun e => decide (e.d.size ≤ 60)) = false := by
          rw [List.all_eq_false]; exact ⟨l[n], List.getElem_mem _, by simp; omega⟩
        unfold few6B; rw [this]; rfl)
      clear hx hcs
      generalize l[n] = x at *
      by_cases h6 : x.d.size ≤ 60
      · go_wp2
        go_round
        case rel => exact ⟨n + 1, by omega, by go_num, HT.out h6⟩
        case measure => simp [intOf]; omega
      · have h6' : 60 < x.d.size := by omega
        go_wp2
        go_ret
        exact ⟨by rw [HF.out h6']; rfl, hA⟩
    · obtain rfl : n = len := by omega
      rw [List.take_of_length_le (by omega)] at HA
      have HV := Lib.hid (show few6B l = decide ((n : Int) ≤ 8) by unfold few6B; rw [HA.out, hl, Bool.true_and]; exact decide_eq_decide.2 (by omega))
      go_wp2
      go_ret
      exact ⟨by rw [HV.out]; rfl, hA⟩


set_option maxRecDepth 100000 in
set_option maxHeartbeats 2000000 in
theorem fewPs7_any (a : Option Addr) (len cap : Nat) (L : List PL) (w : World) (hL : L.length = len) (hrow : RowV w a len 10 (partCells L)) (hg : ∀ x ∈ L, GoodP w x) : Gives Tryz.prog 27 #[.slice a len cap] w (.bool (fewPs6 L)) := by
  have hm := hrow.2.1
  unfold maxLen at hm
  have hcs := hrow.2.2
  have HG := Lib.hid hg
  have HL := Lib.hid hL
  clear hrow hg hL
  unfold Gives
  go_enter Tryz.func27, Tryz.ntmps27
  go_wp2
  go_loopw [3] (fun q wr => ∃ n : Nat, n ≤ len ∧ q = .int .i64 n ∧ (L.take n).all (fun x => few6B x.2) = true ∧ Below w.heap.size w wr) (fun q _ => len - (intOf q).toNat)
  case atStart => exact ⟨0, by omega, rfl, rfl, Below.refl _ _⟩
  case round =>
    obtain ⟨n, hn, rfl, ha, hB⟩ := hrel
    have HA := Lib.hid ha
    clear ha
    by_cases hlt : n < len
    · obtain ⟨b, off, rfl, hb, hx⟩ := hcs (by omega)
      have hkl : n < L.length := by rw [HL.out]; exact hlt
      obtain ⟨c0, c1, c2, c3, c4, c5, c6, c7, c8, c9⟩ := part_at10 hb hB hx hkl
      obtain ⟨_, g1, g2, g3⟩ := HG.out L[n] (List.getElem_mem hkl)
      have HT := Lib.hid (show few6B L[n].2 = true → (L.take (n + 1)).all (fun x => few6B x.2) = true from fun h => by rw [List.take_succ_eq_append_getElem hkl, List.all_append, HA.out]; simp [h])
      have HF := Lib.hid (show few6B L[n].2 = false → fewPs6 L = false from fun h => by
        have : L.all (fun x => few6B x.2) = false := by
          rw [List.all_eq_false]; exact ⟨L[n], List.getElem_mem _, by simp [h]⟩
        unfold fewPs6; rw [this]; rfl)
      clear hx hcs HG HL HA
      generalize L[n] = x at *
      obtain ⟨p, l⟩ := x
      dsimp only at *
      have GF := Lib.hid (fun W (hW : Below w.heap.size w W) => few7_any p l W g1 (g2.below hW) (fun e he => (g3 e he).2.2))
      obtain ⟨pg, pk, pa, plen, pcap, pht, phv, phc, pi, pt, pm, ph⟩ := p
      dsimp only [PartC.val] at *
      clear g1 g2 g3
      cases hf : few6B l
      · rw [hf] at GF
        have HF2 := Lib.hid (HF.out hf)
        clear hf
        go_wp2_with (go_at_call 45; ((with_reducible refine (GF.out _ hB).mono ?_); rintro e w1 ⟨rfl, hB1⟩))
        go_ret
        exact ⟨by rw [HF2.out]; rfl, bel2 hB hB1⟩
      · rw [hf] at GF
        have HT2 := Lib.hid (HT.out hf)
        clear hf
        go_wp2_with (go_at_call 45; ((with_reducible refine (GF.out _ hB).mono ?_); rintro e w1 ⟨rfl, hB1⟩))
        go_roundw
        case rel => exact ⟨n + 1, by omega, by go_num, HT2.out, bel2 hB hB1⟩
        case measure => simp [intOf]; omega
    · obtain rfl : n = len := by omega
      have HV := Lib.hid (show fewPs6 L = decide ((n : Int) ≤ 6) by
        have h1 := HA.out
        have h2 := HL.out
        rw [List.take_of_length_le (by omega)] at h1
        unfold fewPs6; rw [h1, h2, Bool.true_and]; exact decide_eq_decide.2 (by omega))
      go_wp2
      go_ret
      exact ⟨by rw [HV.out]; rfl, hB⟩

set_option maxRecDepth 100000 in
set_option maxHeartbeats 1000000 in
theorem fewG7_any (id fi te ht hv hc : Int) (l : List EntryC) (a : Option Addr) (cap : Nat) (w : World) (hrow : RowV w a l.length 3 (entryCells l)) (hg : ∀ e ∈ l, e.d.size ≤ maxLen) : Gives Tryz.prog 11 #[.agg #[.int .i64 id, .int .i64 fi, .int .i64 te, .int .i64 ht, .int .i64 hv, .int .i64 hc, .slice a l.length cap]] w (.bool (fewGB l)) := by
  unfold Gives
  have hm := hrow.2.1
  unfold maxLen at hm
  have hcs := hrow.2.2
  have c2 : (w.alloc (.cells #[.int .i64 id, .int .i64 fi, .int .i64 te, .int .i64 ht, .int .i64 hv, .int .i64 hc, .slice a l.length cap] 31)).cell? ⟨w.heap.size, 6, none⟩ = some (.slice a l.length cap) := cell_of_row _ _ 6 _ _ _ (World.alloc_heap_new w _)
  have hA := bel_alloc (Below.refl w.heap.size w) (.cells #[.int .i64 id, .int .i64 fi, .int .i64 te, .int .i64 ht, .int .i64 hv, .int .i64 hc, .slice a l.length cap] 31)
  clear hrow
  go_enter Tryz.func11, Tryz.ntmps11
  go_wp2
  go_loop [3] (fun q => ∃ n : Nat, n ≤ l.length ∧ q = .int .i64 n ∧ (l.take n).all (fun e => decide (e.d.size ≤ 60)) = true) (fun q => l.length - (intOf q).toNat)
  case atStart => exact ⟨0, by omega, rfl, rfl⟩
  case round =>
    obtain ⟨n, hn, rfl, ha⟩ := hrel
    have HA := Lib.hid ha
    clear ha
    by_cases hlt : n < l.length
    · obtain ⟨b, off, rfl, hb, hx⟩ := hcs (by omega)
      have hkl : n < l.length := hlt
      obtain ⟨d0, d1, d2⟩ := entry_at hb hA hx hkl
      have hsz := hg l[n] (List.getElem_mem _)
      unfold maxLen at hsz
      have HT := Lib.hid (show l[n].d.size ≤ 60 → (l.take (n + 1)).all (fun e => decide (e.d.size ≤ 60)) = true from fun h => by rw [List.take_succ_eq_append_getElem hkl, List.all_append, HA.out]; simp [h])
      have HF := Lib.hid (show 60 < l[n].d.size → fewGB l = false from fun h => by
        have : l.all (fun e => decide (e.d.size ≤ 60)) = false := by
          rw [List.all_eq_false]; exact ⟨l[n], List.getElem_mem _, by simp; omega⟩
        unfold fewGB; rw [this]; rfl)
      clear hx hcs
      generalize l[n] = x at *
      by_cases h6 : x.d.size ≤ 60
      · go_wp2
        go_round
        case rel => exact ⟨n + 1, by omega, by go_num, HT.out h6⟩
        case measure => simp [intOf]; omega
      · have h6' : 60 < x.d.size := by omega
        go_wp2
        go_ret
        exact ⟨by rw [HF.out h6']; rfl, hA⟩
    · obtain rfl : n = l.length := by omega
      rw [List.take_of_length_le (by omega)] at HA
      have HV := Lib.hid (show fewGB l = decide ((l.length : Int) ≤ 30) by unfold fewGB; rw [HA.out, Bool.true_and]; exact decide_eq_decide.2 (by omega))
      go_wp2
      go_ret
      exact ⟨by rw [HV.out]; rfl, hA⟩




/-- A part that came in is no longer than there is room. -/
theorem part_le {H : Type} {enc : TypeId × Value → H} {W : World} {d : DataW H} {ps : List MemPlace} {p : PartC}
    (h : DataW.Trod enc Tryz.prog W 0 (fun _ => true) true 44 p.val d ps) : p.len ≤ p.cap := by
  obtain ⟨pg, pk, pa, plen, pcap, pht, phv, phc, pi, pt, pm, ph⟩ := p
  replace h : DataW.Trod enc Tryz.prog W 0 (fun _ => true) true 44 (.agg #[.int .i64 pg, .int .i64 pk, .slice pa plen pcap, .int .i64 pht, .int .i64 phv, .int .i64 phc, .int .i64 pi, .int .i64 pt, .bool pm, .bool ph]) d ps := h
  obtain ⟨fuel, hf⟩ := h
  have ks : Tryz.prog.cellsOf 29 = 1 := by kernel_rfl
  simp only [Value.cells] at hf
  obtain ⟨xs, n', _, _, _, hxl, hf⟩ := DataW.trod_struct Tryz.underlying44 hf
  match xs, hxl with
  | [y0, y1, y2, y3, y4, y5, y6, y7], _ =>
    have hen := trod_field hf 2 2 1 29 rfl ks
    rcases open_slice Tryz.underlying29 hen with ⟨hcs, _⟩ | ⟨ad, len', cap', _, _, _, _, hcs, _, hl, _⟩
    · simp at hcs; simp [hcs]
    · simp at hcs; obtain ⟨-, rfl, rfl⟩ := hcs; exact hl

end Go.Proofs.YtmmhghoapejaeaaGreat

/- A slice of slices of parts that came in; few lists of parts. -/
namespace Go.Proofs.YtmmhghoapejaeaaGreat
open Go.RowKit Go.Shelf Go.ChangeShapes Go.WideShapes Go.Deep
set_option linter.unusedVariables false
attribute [local go_sem] Oper.semAt_some wide_fn wide_round_fn

/-- A slice of parts: where it lies, its length, its capacity, its parts. -/
structure LP where
  a : Option Addr
  len : Nat
  cap : Nat
  L : List PL
def LP.arr (x : LP) : List Value := [.slice x.a x.len x.cap]
def listCells (M : List LP) : List Value := (M.map LP.arr).flatten
def GoodL (W : World) (x : LP) : Prop := x.L.length = x.len ∧ x.len ≤ x.cap ∧ RowV W x.a x.len 10 (partCells x.L) ∧ ∀ y ∈ x.L, GoodP W y
theorem open_lists {H : Type} {enc : TypeId × Value → H} {W : World} {a : Option Addr} {len cap : Nat} {d : DataW H} {ps : List MemPlace}
    (h : DataW.Trod enc Tryz.prog W 0 (fun _ => true) true 23 (.slice a len cap) d ps) : ∃ M : List LP, M.length = len ∧ len ≤ cap ∧ RowV W a len 1 (listCells M) ∧ ∀ x ∈ M, GoodL W x :=
  open_rows (α := LP) LP.arr (GoodL W) 1 (by decide) Tryz.underlying23 (by kernel_rfl) (fun _ => rfl) (fun n cs x hl hx => by
    obtain ⟨d', ps'⟩ := x
    rcases open_slice Tryz.underlying37 hx with ⟨hcs, _⟩ | ⟨ad, len', cap', _, _, _, _, hcs, _⟩
    · subst hcs
      obtain ⟨L, h1, h2, h3, h4⟩ := open_parts (a := none) (len := 0) (cap := 0) ⟨n, hx⟩
      exact ⟨⟨none, 0, 0, L⟩, rfl, h1, h2, h3, h4⟩
    · subst hcs
      obtain ⟨L, h1, h2, h3, h4⟩ := open_parts (a := some ad) (len := len') (cap := cap') ⟨n, hx⟩
      exact ⟨⟨some ad, len', cap', L⟩, rfl, h1, h2, h3, h4⟩) h
theorem list_at {w W : World} {b off : Nat} {M : List LP} (hb : b < w.heap.size) (hB : Below w.heap.size w W) (hc : ∀ j (h : j < (listCells M).length), w.cell? ⟨b, off + j, none⟩ = some (listCells M)[j]) {k : Nat} (hk : k < M.length) :
    W.cell? ⟨b, off + k, none⟩ = some (.slice M[k].a M[k].len M[k].cap) := by
  have := (hB.cell (p := ⟨b, off + (k * 1 + 0), none⟩) hb).trans (RowV.at_ (len := M.length) (sz := 1) hc (v := .slice M[k].a M[k].len M[k].cap) (by rw [listCells, flat_at LP.arr 1 (fun _ => rfl) M k 0 hk (by decide)]; rfl))
  simpa using this
theorem GoodL.below {w W : World} {x : LP} (h : GoodL w x) (hB : Below w.heap.size w W) : GoodL W x :=
  ⟨h.1, h.2.1, h.2.2.1.below hB, fun y hy => ⟨(h.2.2.2 y hy).1, (h.2.2.2 y hy).2.1, (h.2.2.2 y hy).2.2.1.below hB, (h.2.2.2 y hy).2.2.2⟩⟩
def fewLs7 (M : List LP) : Bool := M.all (fun x => fewPs6 x.L) && decide (M.length ≤ 40)
set_option maxRecDepth 100000 in
set_option maxHeartbeats 2000000 in
theorem fewLs7_any (a : Option Addr) (len cap : Nat) (M : List LP) (w : World) (hM : M.length = len) (hrow : RowV w a len 1 (listCells M)) (hg : ∀ x ∈ M, GoodL w x) : Gives Tryz.prog 10 #[.slice a len cap] w (.bool (fewLs7 M)) := by
  have hm := hrow.2.1
  unfold maxLen at hm
  have hcs := hrow.2.2
  have HG := Lib.hid hg
  have HL := Lib.hid hM
  clear hrow hg hM
  unfold Gives
  go_enter Tryz.func10, Tryz.ntmps10
  go_wp2
  go_loopw [3] (fun q wr => ∃ n : Nat, n ≤ len ∧ q = .int .i64 n ∧ (M.take n).all (fun x => fewPs6 x.L) = true ∧ Below w.heap.size w wr) (fun q _ => len - (intOf q).toNat)
  case atStart => exact ⟨0, by omega, rfl, rfl, Below.refl _ _⟩
  case round =>
    obtain ⟨n, hn, rfl, ha, hB⟩ := hrel
    have HA := Lib.hid ha
    clear ha
    by_cases hlt : n < len
    · obtain ⟨b, off, rfl, hb, hx⟩ := hcs (by omega)
      have hkl : n < M.length := by rw [HL.out]; exact hlt
      have c0 := list_at hb hB hx hkl
      have GX := HG.out M[n] (List.getElem_mem hkl)
      have HT := Lib.hid (show fewPs6 M[n].L = true → (M.take (n + 1)).all (fun x => fewPs6 x.L) = true from fun h => by rw [List.take_succ_eq_append_getElem hkl, List.all_append, HA.out]; simp [h])
      have HF := Lib.hid (show fewPs6 M[n].L = false → fewLs7 M = false from fun h => by
        have : M.all (fun x => fewPs6 x.L) = false := by
          rw [List.all_eq_false]; exact ⟨M[n], List.getElem_mem _, by simp [h]⟩
        unfold fewLs7; rw [this]; rfl)
      clear hx hcs HG HL HA
      generalize M[n] = x at *
      obtain ⟨xa, xlen, xcap, xL⟩ := x
      dsimp only at *
      have GF := Lib.hid (fun W (hW : Below w.heap.size w W) => fewPs7_any xa xlen xcap xL W (GX.below hW).1 (GX.below hW).2.2.1 (GX.below hW).2.2.2)
      clear GX
      cases hf : fewPs6 xL
      · rw [hf] at GF
        have HF2 := Lib.hid (HF.out hf)
        clear hf
        go_wp2_with (go_at_call 27; ((with_reducible refine (GF.out _ hB).mono ?_); rintro e w1 ⟨rfl, hB1⟩))
        go_ret
        exact ⟨by rw [HF2.out]; rfl, bel2 hB hB1⟩
      · rw [hf] at GF
        have HT2 := Lib.hid (HT.out hf)
        clear hf
        go_wp2_with (go_at_call 27; ((with_reducible refine (GF.out _ hB).mono ?_); rintro e w1 ⟨rfl, hB1⟩))
        go_roundw
        case rel => exact ⟨n + 1, by omega, by go_num, HT2.out, bel2 hB hB1⟩
        case measure => simp [intOf]; omega
    · obtain rfl : n = len := by omega
      have HV := Lib.hid (show fewLs7 M = decide ((n : Int) ≤ 40) by
        have h1 := HA.out
        have h2 := HL.out
        rw [List.take_of_length_le (by omega)] at h1
        unfold fewLs7; rw [h1, h2, Bool.true_and]; exact decide_eq_decide.2 (by omega))
      go_wp2
      go_ret
      exact ⟨by rw [HV.out]; rfl, hB⟩

end Go.Proofs.YtmmhghoapejaeaaGreat
