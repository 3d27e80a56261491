/- The contract of the document's fill. -/
import Derived.Test.YtfbibpnkfmgkaaaRef6f
import Derived.Deep.RegionHeld3
import Derived.Deep.AppendLies
import Derived.Laws.AppendOwnNone
import Derived.StillTactics
import Derived.Deep.Cut
namespace Go.Proofs.Ytfbibpnkfmgkaaa
open Go.RowKit Go.Shelf
set_option linter.unusedVariables false
attribute [local go_sem] Oper.semAt_some wide_fn wide_round_fn

attribute [local irreducible] wpQuiet
theorem RDoW.set7 {w W : World} {G P X : Array Value} (h : RDoW w G P X W) (v0 v1 v2 v3 v4 v5 v6 : Value) (hz : ∃ z0 z1 z2 z3 z4 z5 z6, X = #[z0, z1, z2, z3, z4, z5, z6]) : RDoW w G P #[v0, v1, v2, v3, v4, v5, v6] (st7 W (w.heap.size + 1 + 1 + 1) v0 v1 v2 v3 v4 v5 v6) := by
  obtain ⟨z0, z1, z2, z3, z4, z5, z6, rfl⟩ := hz
  have := ((((((h.set 0 v0).set 1 v1).set 2 v2).set 3 v3).set 4 v4).set 5 v5).set 6 v6
  simpa only [List.setIfInBounds_toArray, List.set_cons_succ, List.set_cons_zero] using this
theorem cells3f {W : World} {b : Nat} {T : TypeId} {v0 v1 v2 : Value} (h : W.heap[b]? = some (.cells #[v0, v1, v2] T (0, 0))) :
    W.cell? ⟨b, 0, none⟩ = some v0 ∧ W.cell? ⟨b, 1, none⟩ = some v1 ∧ W.cell? ⟨b, 2, none⟩ = some v2 ∧ True := ⟨cell_of_row _ _ 0 _ _ _ h, cell_of_row _ _ 1 _ _ _ h, cell_of_row _ _ 2 _ _ _ h, trivial⟩
theorem entry_one (l : List EntryC) : ∀ u ∈ entryCells l, u.oneCell' = true := by
  intro u hu
  simp only [entryCells, List.mem_flatten, List.mem_map] at hu
  obtain ⟨_, ⟨e, _, rfl⟩, hu⟩ := hu
  simp only [EntryC.cells, List.mem_cons, List.not_mem_nil, or_false] at hu
  rcases hu with rfl | rfl | rfl <;> rfl
theorem entry_three (l : List EntryC) : (entryCells l).length = l.length * 3 := by
  induction l with
  | nil => rfl
  | cons e r ih => simp [entryCells] at ih ⊢; simp [EntryC.cells]; omega
/-- What fill makes. -/
def fillD (D : GM) (pl : List EntryC) : GM := ⟨D.id, D.fi, D.te, D.ht, D.hv, D.hc, fillL D.fi D.l pl⟩
def fillM (g : GM) (p : PartC) (pl : List EntryC) : GM := fillD (if p.h = true then hrdG (if p.m = true then cmpM g p.i p.t else g) p else if p.m = true then cmpM g p.i p.t else g) pl

set_option maxRecDepth 100000 in
set_option maxHeartbeats 4000000 in
theorem refFrom_none (l : List EntryC) (a : Option Addr) (cap : Nat) (i : Int) (w : World) (hm : l.length < 1000000) (hr : RowV w a l.length 3 (entryCells l)) (hn : froL l i = []) : Gives Try.prog 34 #[.slice a l.length cap, .int .i64 i] w (.slice none 0 0) := by
  have HN := Lib.hid (fun k (h : k < l.length) => (show l[k].i < i from by
    have := List.filter_eq_nil_iff.1 hn l[k] (List.getElem_mem h)
    simpa using this))
  have hcs := hr.2.2
  clear hr hn
  unfold Gives
  go_enter Try.func34, Try.ntmps34
  go_wp2
  go_loopw [5, 6] (fun v q wr => ∃ k : Nat, k ≤ l.length ∧ q = .int .i64 k ∧ v = .slice none 0 0 ∧ Below w.heap.size w wr) (fun _ q _ => l.length - (intOf q).toNat)
  case atStart => exact ⟨0, by omega, rfl, rfl, Below.refl _ _⟩
  case round =>
    obtain ⟨k, hk, rfl, rfl, hB⟩ := hrel
    by_cases hlt : k < l.length
    · obtain ⟨b, off, rfl, hb, hx⟩ := hcs (by omega)
      obtain ⟨d0, d1, d2⟩ := entry_at hb hB hx hlt
      have hk0 : (0 : Int) ≤ (k : Int) := by omega
      have hkl : (k : Int) < (l.length : Int) := by omega
      have hc := HN.out k hlt
      clear hx hcs
      generalize l[k] = x at *
      obtain ⟨xi, xt, xd⟩ := x
      dsimp only at *
      go_wp2
      go_roundw
      case rel => exact ⟨k + 1, by omega, by go_num, rfl, hB⟩
      case measure => simp [intOf]; omega
    · obtain rfl : k = l.length := by omega
      go_wp2
      go_ret
      exact ⟨rfl, hB⟩

set_option maxRecDepth 100000 in
set_option maxHeartbeats 4000000 in
theorem refFill_00 (id fi te ht hv hc : Int) (l : List EntryC) (a : Option Addr) (cap : Nat) (pg pk : Int) (pa : Option Addr) (pcap : Nat) (pht phv phc pi pt : Int) (pl : List EntryC) (w : World) (hg : HasG w a ⟨id, fi, te, ht, hv, hc, l⟩) (hr : Ris l) (hp : HasE w ⟨pg, pk, pa, pl.length, pcap, pht, phv, phc, pi, pt, false, false⟩ pl) (hpl9 : pl.length ≤ 100) (h30 : l.length ≤ 100000) : Calls Try.prog 36 #[.agg #[.int .i64 id, .int .i64 fi, .int .i64 te, .int .i64 ht, .int .i64 hv, .int .i64 hc, .slice a l.length cap], .agg #[.int .i64 pg, .int .i64 pk, .slice pa pl.length pcap, .int .i64 pht, .int .i64 phv, .int .i64 phc, .int .i64 pi, .int .i64 pt, .bool false, .bool false]] w (RDoPost w a l.length (fillD ⟨id, fi, te, ht, hv, hc, l⟩ pl)) := by
  obtain ⟨i9, hi9, hz0, hz1, hz2⟩ := info_parts infoEntry
  have hplen := hp.1
  have hpcs := hp.2.2.2.2
  have hgr := hg.2
  have hal := fun k hk => inBlkE_lt (k := k) hg.2 hk
  dsimp only at hplen hpcs hgr hal
  have HG := Lib.hid (fun W (hB : Below w.heap.size w W) => hg.below hB)
  have HS := Lib.hid (RDoW.start w #[.int .i64 id, .int .i64 fi, .int .i64 te, .int .i64 ht, .int .i64 hv, .int .i64 hc, .slice a l.length cap] #[.int .i64 pg, .int .i64 pk, .slice pa pl.length pcap, .int .i64 pht, .int .i64 phv, .int .i64 phc, .int .i64 pi, .int .i64 pt, .bool false, .bool false] #[.int .i64 id, .int .i64 fi, .int .i64 te, .int .i64 ht, .int .i64 hv, .int .i64 hc, .slice a l.length cap])
  simp only [fillD]
  clear hg hr hp
  go_enter Try.func36, Try.ntmps36
  go_upto_region 2 with (fail)
  have hD := HS.out
  generalize ((((w.alloc (.cells #[.int .i64 id, .int .i64 fi, .int .i64 te, .int .i64 ht, .int .i64 hv, .int .i64 hc, .slice a l.length cap] 26)).alloc (.cells #[.int .i64 pg, .int .i64 pk, .slice pa pl.length pcap, .int .i64 pht, .int .i64 phv, .int .i64 phc, .int .i64 pi, .int .i64 pt, .bool false, .bool false] 28)).alloc (.cells GZ 26)).alloc (.cells #[.int .i64 id, .int .i64 fi, .int .i64 te, .int .i64 ht, .int .i64 hv, .int .i64 hc, .slice a l.length cap] 26)) = wq at *
  obtain ⟨g0, g1, g2, g3, g4, g5, g6, -⟩ := cells7 hD.d.gb
  obtain ⟨p1, p2, p3, p4, p5, p6, p7⟩ := cells10 hD.d.pb
  have p8 := cell_of_row _ _ 8 _ _ _ hD.d.pb
  have p9 := cell_of_row _ _ 9 _ _ _ hD.d.pb
  obtain ⟨x0, x1, x2, x3, x4, x5, x6, fx⟩ := cells7 hD.xb
  go_upto_region 4 with (fail)
  have hD2 := hD
  have hCH2 : RowV wq a l.length 3 (entryCells l) := (HG.out _ hD.d.bel).2
  have hNb : ∀ k, inBlkE a l.length k → inBlkE a l.length k ∨ w.heap.size + 4 ≤ k := fun k hk => .inl hk
  have hLm : l.length ≤ 100000 := h30
  obtain ⟨wr, rfl⟩ : ∃ wr, wr = wq := ⟨_, rfl⟩
  go_upto_region 6 with (fail)
  have hD3 := hD2
  have hCH3 := hCH2
  obtain ⟨ws, rfl⟩ : ∃ ws, ws = wr := ⟨_, rfl⟩
  go_wp2
  go_loopw [6] (fun i wr => ∃ (k : Nat) (a2 : Option Addr) (c2 : Nat), k ≤ pl.length ∧ i = .int .i64 k ∧ RDoW w #[.int .i64 id, .int .i64 fi, .int .i64 te, .int .i64 ht, .int .i64 hv, .int .i64 hc, .slice a l.length cap] #[.int .i64 pg, .int .i64 pk, .slice pa pl.length pcap, .int .i64 pht, .int .i64 phv, .int .i64 phc, .int .i64 pi, .int .i64 pt, .bool false, .bool false] #[.int .i64 id, .int .i64 fi, .int .i64 te, .int .i64 ht, .int .i64 hv, .int .i64 hc, .slice a2 (fillL fi l (pl.take k)).length c2] wr ∧ RowV wr a2 (fillL fi l (pl.take k)).length 3 (entryCells (fillL fi l (pl.take k))) ∧ ∀ b, inBlkE a2 (fillL fi l (pl.take k)).length b → inBlkE a l.length b ∨ w.heap.size + 4 ≤ b) (fun i _ => pl.length - (intOf i).toNat)
  case atStart => exact ⟨0, a, cap, by omega, rfl, hD3, hCH3, hNb⟩
  case round =>
  clear g0 g1 g2 g3 g4 g5 g6 p1 p2 p3 p4 p5 p6 p7 p8 p9 x0 x1 x2 x3 x4 x5 x6 fx hD3 hCH3 hNb
  obtain ⟨k, a2, c2, hk, rfl, hD, hRW, hNb⟩ := hrel
  have hLk := fillL_len fi l pl k
  obtain ⟨g0, g1, g2, g3, g4, g5, g6, -⟩ := cells7 hD.d.gb
  obtain ⟨p1, p2, p3, p4, p5, p6, p7⟩ := cells10 hD.d.pb
  have p8 := cell_of_row _ _ 8 _ _ _ hD.d.pb
  have p9 := cell_of_row _ _ 9 _ _ _ hD.d.pb
  obtain ⟨x0, x1, x2, x3, x4, x5, x6, fx⟩ := cells7 hD.xb
  by_cases hlt : k < pl.length
  · obtain ⟨pb, po, rfl, hpb, hpx⟩ := hpcs (by omega)
    obtain ⟨d0, d1, d2⟩ := entry_at hpb hD.d.bel hpx hlt
    have HT := Lib.hid (fillL_take fi l pl k hlt)
    have hk0 : (0 : Int) ≤ (k : Int) := by omega
    have hkl : (k : Int) < (pl.length : Int) := by omega
    generalize (fillL fi l (pl.take k)) = L at *
    generalize pl[k] = e at *
    obtain ⟨ei, et, ed⟩ := e
    dsimp only at d0 d1 d2
    clear hpx hpcs
    go_upto_region 10 with (fail)
    have hBx := bel_alloc (Below.refl wr.heap.size wr) (.cells #[.int .i64 ei, .int .i64 et, .string ed] 38)
    have hE := World.alloc_heap_new wr (.cells #[.int .i64 ei, .int .i64 et, .string ed] 38)
    obtain ⟨E, hEe⟩ : ∃ E, E = wr.heap.size := ⟨_, rfl⟩
    have hEw : w.heap.size + 4 ≤ E := by have := hD.lt; omega
    have hD5 := hD.after hBx
    have hRW5 := hRW.below hBx
    rw [← hEe] at hE
    rw [← hEe]
    clear g0 g1 g2 g3 g4 g5 g6 p1 p2 p3 p4 p5 p6 p7 p8 p9 x0 x1 x2 x3 x4 x5 x6 fx d0 d1 d2 hEe hBx hD hRW
    generalize (wr.alloc (.cells #[.int .i64 ei, .int .i64 et, .string ed] 38)) = w5 at *
    obtain ⟨g0, g1, g2, g3, g4, g5, g6, -⟩ := cells7 hD5.d.gb
    obtain ⟨p1, p2, p3, p4, p5, p6, p7⟩ := cells10 hD5.d.pb
    have p8 := cell_of_row _ _ 8 _ _ _ hD5.d.pb
    have p9 := cell_of_row _ _ 9 _ _ _ hD5.d.pb
    obtain ⟨x0, x1, x2, x3, x4, x5, x6, fx⟩ := cells7 hD5.xb
    obtain ⟨s0, s1, s2, -⟩ := cells3f hE
    by_cases hlo : ei < fi
    · have HT2 := Lib.hid (show (fillL fi l (pl.take (k + 1))) = L by rw [HT.out]; exact if_pos (.inl hlo))
      go_wp2
      go_roundw
      case rel => exact ⟨k + 1, a2, c2, by omega, by go_num, by rw [HT2.out]; exact hD5, by rw [HT2.out]; exact hRW5, by rw [HT2.out]; exact hNb⟩
      case measure => simp [intOf]; omega
    · have GA := Lib.hid (fun W (h : HasG W a2 ⟨id, fi, te, ht, hv, hc, L⟩) => refAt_any id fi te ht hv hc L a2 c2 ei W h)
      have hHas : HasG w5 a2 ⟨id, fi, te, ht, hv, hc, L⟩ := ⟨by show L.length < 1000000; omega, hRW5⟩
      by_cases hat : 0 ≤ atM L ei
      · have HT2 := Lib.hid (show (fillL fi l (pl.take (k + 1))) = L by rw [HT.out]; exact if_pos (.inr hat))
        generalize atM L ei = at9 at *
        go_wp2_with (go_at_call 20; ((with_reducible refine (GA.out _ hHas).mono ?_); rintro e w6 ⟨rfl, hB6⟩))
        go_roundw
        case rel => exact ⟨k + 1, a2, c2, by omega, by go_num, by rw [HT2.out]; exact hD5.after hB6, by rw [HT2.out]; exact hRW5.below hB6, by rw [HT2.out]; exact hNb⟩
        case measure => simp [intOf]; omega
      · have HT2 := Lib.hid (show (fillL fi l (pl.take (k + 1))) = belL L ei ++ [⟨ei, et, ed⟩] ++ froL L ei by rw [HT.out]; exact if_neg (by show ¬ (ei < fi ∨ 0 ≤ atM L ei); omega))
        have hat2 : atM L ei < 0 := by omega
        have HBL := Lib.hid (bel_fro_len L ei)
        have hbl := belL_le L ei
        have hfnl := froL_le L ei
        generalize atM L ei = at9 at *
        go_upto_region 11 with (go_at_call 20; ((with_reducible refine (GA.out _ hHas).mono ?_); rintro e w6 ⟨rfl, hB6⟩; have hD6 := hD5.after hB6; have hE6 := (hB6.block _ (heap_lt hE)).trans hE; have hRW6 := hRW5.below hB6; clear g0 g1 g2 g3 g4 g5 g6 p1 p2 p3 p4 p5 p6 p7 p8 p9 x0 x1 x2 x3 x4 x5 x6 fx s0 s1 s2; obtain ⟨g0, g1, g2, g3, g4, g5, g6, -⟩ := cells7 hD6.d.gb; obtain ⟨p1, p2, p3, p4, p5, p6, p7⟩ := cells10 hD6.d.pb; have p8 := cell_of_row _ _ 8 _ _ _ hD6.d.pb; have p9 := cell_of_row _ _ 9 _ _ _ hD6.d.pb; obtain ⟨x0, x1, x2, x3, x4, x5, x6, fx⟩ := cells7 hD6.xb; obtain ⟨s0, s1, s2, -⟩ := cells3f hE6))
        have GB := Lib.hid (fun W (hR : RowV W a2 L.length 3 (entryCells L)) => refBelow_any L a2 c2 ei W (by omega) hR)
        have GFn := Lib.hid (fun W (hR : RowV W a2 L.length 3 (entryCells L)) (h0 : froL L ei = []) => refFrom_none L a2 c2 ei W (by omega) hR h0)
        have GF := Lib.hid (fun W (hR : RowV W a2 L.length 3 (entryCells L)) => refFrom_any L a2 c2 ei W (by omega) hR)
        have HFB := Lib.hid (entryCells_app (belL L ei ++ [⟨ei, et, ed⟩]) (froL L ei))
        have HFC := Lib.hid (entryCells_snoc (belL L ei) ⟨ei, et, ed⟩)
        generalize belL L ei = BL at *
        generalize froL L ei = FN at *
        have hlw6 := hD6.lt
        have hnX : ∀ k, inBlkE a2 L.length k → k < w6.heap.size := fun k hk => inBlkE_lt hRW6 hk
        go_region_held3 (fun W' => W'.cell? ⟨w.heap.size + 1 + 1 + 1, 6, none⟩ = some (.slice a2 L.length c2) ∧ W'.cell? ⟨E, 0, none⟩ = some (.int .i64 ei) ∧ W'.cell? ⟨E, 1, none⟩ = some (.int .i64 et) ∧ W'.cell? ⟨E, 2, none⟩ = some (.string ed)) (go_keep) (first
          | (go_at_call 33; ((with_reducible refine (GB.out _ ?hr).mono ?_); (case hr => first | exact hRW6 | exact hRW6.below (Below.refl _ _).drew | exact hRW6.below (bel_alloc (Below.refl _ _).drew _)); rintro e w7 ⟨va, vc, rfl, hown7, hB7⟩; have hX7 : Below w6.heap.size w6 w7 := (by first | exact bel2 (Below.refl _ _).drew hB7 | exact bel2 (bel_alloc (Below.refl _ _).drew _) hB7); (try (have hN7 : w7.heap[w6.heap.size]? = some (.cells [.int .i64 ei, .int .i64 et, .string ed].toArray 38 (0, 0)) := (hB7.block _ (by simp)).trans (World.alloc_heap_new w6.drew _))); have hD7 := hD6.after hX7; have hE7 := (hX7.block _ (heap_lt hE6)).trans hE6; clear g0 g1 g2 g3 g4 g5 g6 p1 p2 p3 p4 p5 p6 p7 p8 p9 x0 x1 x2 x3 x4 x5 x6 fx s0 s1 s2; obtain ⟨g0, g1, g2, g3, g4, g5, g6, -⟩ := cells7 hD7.d.gb; obtain ⟨p1, p2, p3, p4, p5, p6, p7⟩ := cells10 hD7.d.pb; have p8 := cell_of_row _ _ 8 _ _ _ hD7.d.pb; have p9 := cell_of_row _ _ 9 _ _ _ hD7.d.pb; obtain ⟨x0, x1, x2, x3, x4, x5, x6, fx⟩ := cells7 hD7.xb; obtain ⟨s0, s1, s2, -⟩ := cells3f hE7))
          | ((refine step_append_lies _ (by rfl) _ _ _ (by rfl) w6.heap.size 38 i9 (.agg #[.int .i64 0, .int .i64 0, .string ⟨#[]⟩]) 3 32 Try.underlying24 hi9 hz0 hz1 hz2 rfl (by omega) (.slice va BL.length vc) BL.length (entryCells BL) (by rfl) (hown7.alloc _) ⟨w7.heap.size, 0, none⟩ 1 1 [.int .i64 ei, .int .i64 et, .string ed] (by rfl) (by rfl) (World.news_of_block (cs := [.int .i64 ei, .int .i64 et, .string ed].toArray) (World.alloc_heap_new w7 _)) (by simp [Value.oneCell']) (by omega) (by unfold maxLen; omega) (by omega) (by have := hX7.size; simp; omega) _ rfl ?_; intro gq cq w8 hown8 hgrow8 hat8 hlt8; have hX8 : Below w6.heap.size w6 w8 := Below.grown (bel_alloc hX7 _) hgrow8 (by have := hX7.size; simp; omega) (fun k hk => ownBlock_ge hown7 hk); have hBz : w6.heap.size ≤ w6.heap.size := Nat.le_refl _; have hBz2 : w6.heap.size ≤ w8.heap.size := hX8.size; have hD8 := hD6.after hX8; have hE8 := (hX8.block _ (heap_lt hE6)).trans hE6; clear g0 g1 g2 g3 g4 g5 g6 p1 p2 p3 p4 p5 p6 p7 p8 p9 x0 x1 x2 x3 x4 x5 x6 fx s0 s1 s2; obtain ⟨g0, g1, g2, g3, g4, g5, g6, -⟩ := cells7 hD8.d.gb; obtain ⟨p1, p2, p3, p4, p5, p6, p7⟩ := cells10 hD8.d.pb; have p8 := cell_of_row _ _ 8 _ _ _ hD8.d.pb; have p9 := cell_of_row _ _ 9 _ _ _ hD8.d.pb; obtain ⟨x0, x1, x2, x3, x4, x5, x6, fx⟩ := cells7 hD8.xb; obtain ⟨s0, s1, s2, -⟩ := cells3f hE8))
          | ((refine step_append_lies _ (by rfl) _ _ _ (by rfl) (w6.heap.size + 1) 38 i9 (.agg #[.int .i64 0, .int .i64 0, .string ⟨#[]⟩]) 3 32 Try.underlying24 hi9 hz0 hz1 hz2 rfl (by omega) (.slice va BL.length vc) BL.length (entryCells BL) (by rfl) (by simpa using hown7) ⟨w6.heap.size, 0, none⟩ 1 1 [.int .i64 ei, .int .i64 et, .string ed] (by rfl) (by rfl) (World.news_of_block (cs := [.int .i64 ei, .int .i64 et, .string ed].toArray) hN7) (by simp [Value.oneCell']) (by omega) (by unfold maxLen; omega) (by omega) (by have := hB7.size; simp at this; omega) _ rfl ?_; intro gq cq w8 hown8 hgrow8 hat8 hlt8; have hX8 : Below w6.heap.size w6 w8 := Below.grown hX7 hgrow8 hX7.size (fun k hk => by have := ownBlock_ge hown7 hk; simp at this; omega); have hBz : w6.heap.size ≤ w6.heap.size + 1 := Nat.le_succ _; have hBz2 : w6.heap.size + 1 ≤ w8.heap.size := (by have h1 := hB7.size; have h2 := hgrow8.size; simp at h1; omega); have hD8 := hD6.after hX8; have hE8 := (hX8.block _ (heap_lt hE6)).trans hE6; clear g0 g1 g2 g3 g4 g5 g6 p1 p2 p3 p4 p5 p6 p7 p8 p9 x0 x1 x2 x3 x4 x5 x6 fx s0 s1 s2; obtain ⟨g0, g1, g2, g3, g4, g5, g6, -⟩ := cells7 hD8.d.gb; obtain ⟨p1, p2, p3, p4, p5, p6, p7⟩ := cells10 hD8.d.pb; have p8 := cell_of_row _ _ 8 _ _ _ hD8.d.pb; have p9 := cell_of_row _ _ 9 _ _ _ hD8.d.pb; obtain ⟨x0, x1, x2, x3, x4, x5, x6, fx⟩ := cells7 hD8.xb; obtain ⟨s0, s1, s2, -⟩ := cells3f hE8)))
        all_goals
          obtain ⟨Bz, hown8, hBz, hBz2⟩ : ∃ Bz, w8.ownsRow Bz 38 3 (.slice (some ⟨gq, 0, none⟩) (BL.length + 1) cq) (BL.length + 1) (entryCells BL ++ [.int .i64 ei, .int .i64 et, .string ed]) ∧ w6.heap.size ≤ Bz ∧ Bz ≤ w8.heap.size := ⟨_, hown8, hBz, hBz2⟩
          have hRW8 := hRW6.below hX8
          have hB8s := hX8.size
          clear hgrow8 hat8 hown7 hX7 hD7 hE7 hB7
          by_cases h0 : FN = []
          · subst h0
            go_wp2_with (first
              | (go_at_call 34; ((with_reducible refine (GFn.out _ hRW8 rfl).mono ?_); rintro e w9 ⟨rfl, hB9⟩; have hD9 := hD8.after hB9; have hown9 := ownsRow_below (n := 0) hown8 hB9; clear g0 g1 g2 g3 g4 g5 g6 p1 p2 p3 p4 p5 p6 p7 p8 p9 x0 x1 x2 x3 x4 x5 x6 fx s0 s1 s2; obtain ⟨g0, g1, g2, g3, g4, g5, g6, -⟩ := cells7 hD9.d.gb; obtain ⟨p1, p2, p3, p4, p5, p6, p7⟩ := cells10 hD9.d.pb; have p8 := cell_of_row _ _ 8 _ _ _ hD9.d.pb; have p9 := cell_of_row _ _ 9 _ _ _ hD9.d.pb; obtain ⟨x0, x1, x2, x3, x4, x5, x6, fx⟩ := cells7 hD9.xb))
              | (at_builtin; refine wpList_append_own_none rfl _ _ 24 rfl Bz 38 i9 3 Try.underlying24 hi9 _ _ _ rfl hown9 rfl ?_))
            have hD10 := hD9.set 6 (.slice (some ⟨gq, 0, none⟩) (BL.length + 1) cq)
            simp only [List.setIfInBounds_toArray, List.set_cons_succ, List.set_cons_zero] at hD10
            obtain ⟨na, nc, hna, -, hnr⟩ := rowV_own (own_frame hown9 (FrameT.setCell w9 (w.heap.size + 1 + 1 + 1) 6 (.slice (some ⟨gq, 0, none⟩) (BL.length + 1) cq)) (fun k hk h => by omega))
            cases hna
            have hLe : (BL ++ [(⟨ei, et, ed⟩ : EntryC)] ++ ([] : List EntryC)).length = BL.length + 1 := by simp
            go_roundw
            case rel => exact ⟨k + 1, some ⟨gq, 0, none⟩, cq, by omega, by go_num, by rw [HT2.out, hLe]; exact hD10, by rw [HT2.out, hLe, List.append_nil, HFC.out]; exact hnr, fun b hb => .inr (by rw [HT2.out, hLe] at hb; have := own_new hown9 b hb; omega)⟩
            case measure => simp [intOf]; omega
          · have hFl : 0 < FN.length := List.length_pos_iff.2 h0
            have HF3 := Lib.hid (entry_three FN)
            have HF1 := Lib.hid (entry_one FN)
            clear h0
            go_wp2_with (first
              | (go_at_call 34; ((with_reducible refine (GF.out _ hRW8).mono ?_); rintro e w9 ⟨fa, fc, rfl, hownF, hB9⟩; have hD9 := hD8.after hB9; have hown9 := ownsRow_below (n := 0) hown8 hB9; obtain ⟨fa', fc', hfa, hfc, hfr⟩ := rowV_own hownF; cases hfa; obtain ⟨fb, fo, rfl, hfb, hfx⟩ := hfr.2.2 hFl; have HNW := Lib.hid (show ∀ j u, (entryCells FN)[j]? = some u → w9.cell? ((⟨fb, fo, none⟩ : Addr).add j) = some u from fun j u hu => by (obtain ⟨hj, rfl⟩ := List.getElem?_eq_some_iff.1 hu; rw [add_off]; exact hfx j hj)); clear g0 g1 g2 g3 g4 g5 g6 p1 p2 p3 p4 p5 p6 p7 p8 p9 x0 x1 x2 x3 x4 x5 x6 fx s0 s1 s2 hfx hfr hownF; obtain ⟨g0, g1, g2, g3, g4, g5, g6, -⟩ := cells7 hD9.d.gb; obtain ⟨p1, p2, p3, p4, p5, p6, p7⟩ := cells10 hD9.d.pb; have p8 := cell_of_row _ _ 8 _ _ _ hD9.d.pb; have p9 := cell_of_row _ _ 9 _ _ _ hD9.d.pb; obtain ⟨x0, x1, x2, x3, x4, x5, x6, fx⟩ := cells7 hD9.xb))
              | (at_builtin; refine wpList_append_own _ rfl _ _ 24 rfl Bz 38 i9 (.agg #[.int .i64 0, .int .i64 0, .string ⟨#[]⟩]) 3 32 Try.underlying24 hi9 hz0 hz1 hz2 rfl (by decide) _ _ _ rfl hown9 ⟨fb, fo, none⟩ FN.length fc (entryCells FN) rfl HF3.out HNW.out HF1.out (by unfold maxLen; omega) (by omega) (by have := hB9.size; omega) ?_; intro v' w10 hown10 hgrow10 _; obtain ⟨na, nc, rfl, hnc, hnr⟩ := rowV_own hown10; have hD10 := RDoW.grown hD9 hgrow10 (fun k hk => by have := ownBlock_ge hown9 hk; omega); clear g0 g1 g2 g3 g4 g5 g6 p1 p2 p3 p4 p5 p6 p7 p8 p9 x0 x1 x2 x3 x4 x5 x6 fx; obtain ⟨g0, g1, g2, g3, g4, g5, g6, -⟩ := cells7 hD10.d.gb; obtain ⟨p1, p2, p3, p4, p5, p6, p7⟩ := cells10 hD10.d.pb; have p8 := cell_of_row _ _ 8 _ _ _ hD10.d.pb; have p9 := cell_of_row _ _ 9 _ _ _ hD10.d.pb; obtain ⟨x0, x1, x2, x3, x4, x5, x6, fx⟩ := cells7 hD10.xb))
            have hD11 := hD10.set 6 (.slice na (BL.length + 1 + FN.length) nc)
            simp only [List.setIfInBounds_toArray, List.set_cons_succ, List.set_cons_zero] at hD11
            obtain ⟨na', nc', hna, -, hnr2⟩ := rowV_own (own_frame hown10 (FrameT.setCell w10 (w.heap.size + 1 + 1 + 1) 6 (.slice na (BL.length + 1 + FN.length) nc)) (fun k hk h => by omega))
            cases hna
            have hLe : (BL ++ [(⟨ei, et, ed⟩ : EntryC)] ++ FN).length = BL.length + 1 + FN.length := by simp; omega
            go_roundw
            case rel => exact ⟨k + 1, na, nc, by omega, by go_num, by rw [HT2.out, hLe]; exact hD11, by rw [HT2.out, hLe, HFB.out, HFC.out]; exact hnr2, fun b hb => .inr (by rw [HT2.out, hLe] at hb; have := own_new hown10 b hb; omega)⟩
            case measure => simp [intOf]; omega
  obtain rfl : k = pl.length := by omega
  rw [List.take_length] at hD hRW hNb
  rw [List.take_length] at hLk
  have HL := Lib.hid hLk
  have hHR := Lib.hid hRW
  have hNb2 := Lib.hid hNb
  clear hRW hNb hLk
  obtain ⟨r0, r1, r2, r3, r4, r5, r6, fr⟩ := cells7 hD.d.rb
  go_wp2
  obtain ⟨hb7, hbel, hF7⟩ := hD.fin
  obtain ⟨e0, e1, e2, e3, e4, e5, e6, -⟩ := cells7 hb7
  refine bodyPost_ret (v := .agg #[.int .i64 id, .int .i64 fi, .int .i64 te, .int .i64 ht, .int .i64 hv, .int .i64 hc, .slice a2 (fillL fi l pl).length c2]) (by simp [results, Try.results36, go_sem, e0, e1, e2, e3, e4, e5, e6]) rfl ?_
  exact ⟨a2, c2, rfl, ⟨by show (fillL fi l pl).length < 1000000; have := HL.out; omega, rowV_frame hHR.out hF7 (fun k hk h => by have := (hNb2.out k hk).imp (hal k) (fun x => x); omega)⟩, hbel, fun k hk => (hNb2.out k hk).imp (fun x => x) (fun x => by omega)⟩

set_option maxRecDepth 100000 in
set_option maxHeartbeats 4000000 in
theorem refFill_01 (id fi te ht hv hc : Int) (l : List EntryC) (a : Option Addr) (cap : Nat) (pg pk : Int) (pa : Option Addr) (pcap : Nat) (pht phv phc pi pt : Int) (pl : List EntryC) (w : World) (hg : HasG w a ⟨id, fi, te, ht, hv, hc, l⟩) (hr : Ris l) (hp : HasE w ⟨pg, pk, pa, pl.length, pcap, pht, phv, phc, pi, pt, false, true⟩ pl) (hpl9 : pl.length ≤ 100) (h30 : l.length ≤ 100000) : Calls Try.prog 36 #[.agg #[.int .i64 id, .int .i64 fi, .int .i64 te, .int .i64 ht, .int .i64 hv, .int .i64 hc, .slice a l.length cap], .agg #[.int .i64 pg, .int .i64 pk, .slice pa pl.length pcap, .int .i64 pht, .int .i64 phv, .int .i64 phc, .int .i64 pi, .int .i64 pt, .bool false, .bool true]] w (RDoPost w a l.length (fillD (hrdG ⟨id, fi, te, ht, hv, hc, l⟩ ⟨pg, pk, pa, pl.length, pcap, pht, phv, phc, pi, pt, false, true⟩) pl)) := by
  obtain ⟨i9, hi9, hz0, hz1, hz2⟩ := info_parts infoEntry
  have hplen := hp.1
  have hpcs := hp.2.2.2.2
  have hgr := hg.2
  have hal := fun k hk => inBlkE_lt (k := k) hg.2 hk
  dsimp only at hplen hpcs hgr hal
  have HG := Lib.hid (fun W (hB : Below w.heap.size w W) => hg.below hB)
  have HS := Lib.hid (RDoW.start w #[.int .i64 id, .int .i64 fi, .int .i64 te, .int .i64 ht, .int .i64 hv, .int .i64 hc, .slice a l.length cap] #[.int .i64 pg, .int .i64 pk, .slice pa pl.length pcap, .int .i64 pht, .int .i64 phv, .int .i64 phc, .int .i64 pi, .int .i64 pt, .bool false, .bool true] #[.int .i64 id, .int .i64 fi, .int .i64 te, .int .i64 ht, .int .i64 hv, .int .i64 hc, .slice a l.length cap])
  simp only [fillD, hrdG]
  clear hg hr hp
  go_enter Try.func36, Try.ntmps36
  go_upto_region 2 with (fail)
  have hD := HS.out
  generalize ((((w.alloc (.cells #[.int .i64 id, .int .i64 fi, .int .i64 te, .int .i64 ht, .int .i64 hv, .int .i64 hc, .slice a l.length cap] 26)).alloc (.cells #[.int .i64 pg, .int .i64 pk, .slice pa pl.length pcap, .int .i64 pht, .int .i64 phv, .int .i64 phc, .int .i64 pi, .int .i64 pt, .bool false, .bool true] 28)).alloc (.cells GZ 26)).alloc (.cells #[.int .i64 id, .int .i64 fi, .int .i64 te, .int .i64 ht, .int .i64 hv, .int .i64 hc, .slice a l.length cap] 26)) = wq at *
  obtain ⟨g0, g1, g2, g3, g4, g5, g6, -⟩ := cells7 hD.d.gb
  obtain ⟨p1, p2, p3, p4, p5, p6, p7⟩ := cells10 hD.d.pb
  have p8 := cell_of_row _ _ 8 _ _ _ hD.d.pb
  have p9 := cell_of_row _ _ 9 _ _ _ hD.d.pb
  obtain ⟨x0, x1, x2, x3, x4, x5, x6, fx⟩ := cells7 hD.xb
  go_upto_region 4 with (fail)
  have hD2 := hD
  have hCH2 : RowV wq a l.length 3 (entryCells l) := (HG.out _ hD.d.bel).2
  have hNb : ∀ k, inBlkE a l.length k → inBlkE a l.length k ∨ w.heap.size + 4 ≤ k := fun k hk => .inl hk
  have hLm : l.length ≤ 100000 := h30
  obtain ⟨wr, rfl⟩ : ∃ wr, wr = wq := ⟨_, rfl⟩
  go_upto_region 6 with (fail)
  have hD3 := ((hD2.set 3 (.int .i64 pht)).set 4 (.int .i64 phv)).set 5 (.int .i64 phc)
  simp only [List.setIfInBounds_toArray, List.set_cons_succ, List.set_cons_zero] at hD3
  have hCH3 := rowV_frame (rowV_frame (rowV_frame hCH2 (FrameT.setCell wr (w.heap.size + 1 + 1 + 1) 3 (.int .i64 pht)) (fun k hk h => by have := (hNb k hk).imp (hal k) (fun x => x); omega)) (FrameT.setCell _ (w.heap.size + 1 + 1 + 1) 4 (.int .i64 phv)) (fun k hk h => by have := (hNb k hk).imp (hal k) (fun x => x); omega)) (FrameT.setCell _ (w.heap.size + 1 + 1 + 1) 5 (.int .i64 phc)) (fun k hk h => by have := (hNb k hk).imp (hal k) (fun x => x); omega)
  clear g0 g1 g2 g3 g4 g5 g6 p1 p2 p3 p4 p5 p6 p7 p8 p9 x0 x1 x2 x3 x4 x5 x6 fx hD2 hCH2
  generalize (((wr.setCell ⟨w.heap.size + 1 + 1 + 1, 3, none⟩ (.int .i64 pht)).setCell ⟨w.heap.size + 1 + 1 + 1, 4, none⟩ (.int .i64 phv)).setCell ⟨w.heap.size + 1 + 1 + 1, 5, none⟩ (.int .i64 phc)) = ws at *
  obtain ⟨g0, g1, g2, g3, g4, g5, g6, -⟩ := cells7 hD3.d.gb
  obtain ⟨p1, p2, p3, p4, p5, p6, p7⟩ := cells10 hD3.d.pb
  have p8 := cell_of_row _ _ 8 _ _ _ hD3.d.pb
  have p9 := cell_of_row _ _ 9 _ _ _ hD3.d.pb
  obtain ⟨x0, x1, x2, x3, x4, x5, x6, fx⟩ := cells7 hD3.xb
  go_wp2
  go_loopw [6] (fun i wr => ∃ (k : Nat) (a2 : Option Addr) (c2 : Nat), k ≤ pl.length ∧ i = .int .i64 k ∧ RDoW w #[.int .i64 id, .int .i64 fi, .int .i64 te, .int .i64 ht, .int .i64 hv, .int .i64 hc, .slice a l.length cap] #[.int .i64 pg, .int .i64 pk, .slice pa pl.length pcap, .int .i64 pht, .int .i64 phv, .int .i64 phc, .int .i64 pi, .int .i64 pt, .bool false, .bool true] #[.int .i64 id, .int .i64 fi, .int .i64 te, .int .i64 pht, .int .i64 phv, .int .i64 phc, .slice a2 (fillL fi l (pl.take k)).length c2] wr ∧ RowV wr a2 (fillL fi l (pl.take k)).length 3 (entryCells (fillL fi l (pl.take k))) ∧ ∀ b, inBlkE a2 (fillL fi l (pl.take k)).length b → inBlkE a l.length b ∨ w.heap.size + 4 ≤ b) (fun i _ => pl.length - (intOf i).toNat)
  case atStart => exact ⟨0, a, cap, by omega, rfl, hD3, hCH3, hNb⟩
  case round =>
  clear g0 g1 g2 g3 g4 g5 g6 p1 p2 p3 p4 p5 p6 p7 p8 p9 x0 x1 x2 x3 x4 x5 x6 fx hD3 hCH3 hNb
  obtain ⟨k, a2, c2, hk, rfl, hD, hRW, hNb⟩ := hrel
  have hLk := fillL_len fi l pl k
  obtain ⟨g0, g1, g2, g3, g4, g5, g6, -⟩ := cells7 hD.d.gb
  obtain ⟨p1, p2, p3, p4, p5, p6, p7⟩ := cells10 hD.d.pb
  have p8 := cell_of_row _ _ 8 _ _ _ hD.d.pb
  have p9 := cell_of_row _ _ 9 _ _ _ hD.d.pb
  obtain ⟨x0, x1, x2, x3, x4, x5, x6, fx⟩ := cells7 hD.xb
  by_cases hlt : k < pl.length
  · obtain ⟨pb, po, rfl, hpb, hpx⟩ := hpcs (by omega)
    obtain ⟨d0, d1, d2⟩ := entry_at hpb hD.d.bel hpx hlt
    have HT := Lib.hid (fillL_take fi l pl k hlt)
    have hk0 : (0 : Int) ≤ (k : Int) := by omega
    have hkl : (k : Int) < (pl.length : Int) := by omega
    generalize (fillL fi l (pl.take k)) = L at *
    generalize pl[k] = e at *
    obtain ⟨ei, et, ed⟩ := e
    dsimp only at d0 d1 d2
    clear hpx hpcs
    go_upto_region 10 with (fail)
    have hBx := bel_alloc (Below.refl wr.heap.size wr) (.cells #[.int .i64 ei, .int .i64 et, .string ed] 38)
    have hE := World.alloc_heap_new wr (.cells #[.int .i64 ei, .int .i64 et, .string ed] 38)
    obtain ⟨E, hEe⟩ : ∃ E, E = wr.heap.size := ⟨_, rfl⟩
    have hEw : w.heap.size + 4 ≤ E := by have := hD.lt; omega
    have hD5 := hD.after hBx
    have hRW5 := hRW.below hBx
    rw [← hEe] at hE
    rw [← hEe]
    clear g0 g1 g2 g3 g4 g5 g6 p1 p2 p3 p4 p5 p6 p7 p8 p9 x0 x1 x2 x3 x4 x5 x6 fx d0 d1 d2 hEe hBx hD hRW
    generalize (wr.alloc (.cells #[.int .i64 ei, .int .i64 et, .string ed] 38)) = w5 at *
    obtain ⟨g0, g1, g2, g3, g4, g5, g6, -⟩ := cells7 hD5.d.gb
    obtain ⟨p1, p2, p3, p4, p5, p6, p7⟩ := cells10 hD5.d.pb
    have p8 := cell_of_row _ _ 8 _ _ _ hD5.d.pb
    have p9 := cell_of_row _ _ 9 _ _ _ hD5.d.pb
    obtain ⟨x0, x1, x2, x3, x4, x5, x6, fx⟩ := cells7 hD5.xb
    obtain ⟨s0, s1, s2, -⟩ := cells3f hE
    by_cases hlo : ei < fi
    · have HT2 := Lib.hid (show (fillL fi l (pl.take (k + 1))) = L by rw [HT.out]; exact if_pos (.inl hlo))
      go_wp2
      go_roundw
      case rel => exact ⟨k + 1, a2, c2, by omega, by go_num, by rw [HT2.out]; exact hD5, by rw [HT2.out]; exact hRW5, by rw [HT2.out]; exact hNb⟩
      case measure => simp [intOf]; omega
    · have GA := Lib.hid (fun W (h : HasG W a2 ⟨id, fi, te, pht, phv, phc, L⟩) => refAt_any id fi te pht phv phc L a2 c2 ei W h)
      have hHas : HasG w5 a2 ⟨id, fi, te, pht, phv, phc, L⟩ := ⟨by show L.length < 1000000; omega, hRW5⟩
      by_cases hat : 0 ≤ atM L ei
      · have HT2 := Lib.hid (show (fillL fi l (pl.take (k + 1))) = L by rw [HT.out]; exact if_pos (.inr hat))
        generalize atM L ei = at9 at *
        go_wp2_with (go_at_call 20; ((with_reducible refine (GA.out _ hHas).mono ?_); rintro e w6 ⟨rfl, hB6⟩))
        go_roundw
        case rel => exact ⟨k + 1, a2, c2, by omega, by go_num, by rw [HT2.out]; exact hD5.after hB6, by rw [HT2.out]; exact hRW5.below hB6, by rw [HT2.out]; exact hNb⟩
        case measure => simp [intOf]; omega
      · have HT2 := Lib.hid (show (fillL fi l (pl.take (k + 1))) = belL L ei ++ [⟨ei, et, ed⟩] ++ froL L ei by rw [HT.out]; exact if_neg (by show ¬ (ei < fi ∨ 0 ≤ atM L ei); omega))
        have hat2 : atM L ei < 0 := by omega
        have HBL := Lib.hid (bel_fro_len L ei)
        have hbl := belL_le L ei
        have hfnl := froL_le L ei
        generalize atM L ei = at9 at *
        go_upto_region 11 with (go_at_call 20; ((with_reducible refine (GA.out _ hHas).mono ?_); rintro e w6 ⟨rfl, hB6⟩; have hD6 := hD5.after hB6; have hE6 := (hB6.block _ (heap_lt hE)).trans hE; have hRW6 := hRW5.below hB6; clear g0 g1 g2 g3 g4 g5 g6 p1 p2 p3 p4 p5 p6 p7 p8 p9 x0 x1 x2 x3 x4 x5 x6 fx s0 s1 s2; obtain ⟨g0, g1, g2, g3, g4, g5, g6, -⟩ := cells7 hD6.d.gb; obtain ⟨p1, p2, p3, p4, p5, p6, p7⟩ := cells10 hD6.d.pb; have p8 := cell_of_row _ _ 8 _ _ _ hD6.d.pb; have p9 := cell_of_row _ _ 9 _ _ _ hD6.d.pb; obtain ⟨x0, x1, x2, x3, x4, x5, x6, fx⟩ := cells7 hD6.xb; obtain ⟨s0, s1, s2, -⟩ := cells3f hE6))
        have GB := Lib.hid (fun W (hR : RowV W a2 L.length 3 (entryCells L)) => refBelow_any L a2 c2 ei W (by omega) hR)
        have GFn := Lib.hid (fun W (hR : RowV W a2 L.length 3 (entryCells L)) (h0 : froL L ei = []) => refFrom_none L a2 c2 ei W (by omega) hR h0)
        have GF := Lib.hid (fun W (hR : RowV W a2 L.length 3 (entryCells L)) => refFrom_any L a2 c2 ei W (by omega) hR)
        have HFB := Lib.hid (entryCells_app (belL L ei ++ [⟨ei, et, ed⟩]) (froL L ei))
        have HFC := Lib.hid (entryCells_snoc (belL L ei) ⟨ei, et, ed⟩)
        generalize belL L ei = BL at *
        generalize froL L ei = FN at *
        have hlw6 := hD6.lt
        have hnX : ∀ k, inBlkE a2 L.length k → k < w6.heap.size := fun k hk => inBlkE_lt hRW6 hk
        go_region_held3 (fun W' => W'.cell? ⟨w.heap.size + 1 + 1 + 1, 6, none⟩ = some (.slice a2 L.length c2) ∧ W'.cell? ⟨E, 0, none⟩ = some (.int .i64 ei) ∧ W'.cell? ⟨E, 1, none⟩ = some (.int .i64 et) ∧ W'.cell? ⟨E, 2, none⟩ = some (.string ed)) (go_keep) (first
          | (go_at_call 33; ((with_reducible refine (GB.out _ ?hr).mono ?_); (case hr => first | exact hRW6 | exact hRW6.below (Below.refl _ _).drew | exact hRW6.below (bel_alloc (Below.refl _ _).drew _)); rintro e w7 ⟨va, vc, rfl, hown7, hB7⟩; have hX7 : Below w6.heap.size w6 w7 := (by first | exact bel2 (Below.refl _ _).drew hB7 | exact bel2 (bel_alloc (Below.refl _ _).drew _) hB7); (try (have hN7 : w7.heap[w6.heap.size]? = some (.cells [.int .i64 ei, .int .i64 et, .string ed].toArray 38 (0, 0)) := (hB7.block _ (by simp)).trans (World.alloc_heap_new w6.drew _))); have hD7 := hD6.after hX7; have hE7 := (hX7.block _ (heap_lt hE6)).trans hE6; clear g0 g1 g2 g3 g4 g5 g6 p1 p2 p3 p4 p5 p6 p7 p8 p9 x0 x1 x2 x3 x4 x5 x6 fx s0 s1 s2; obtain ⟨g0, g1, g2, g3, g4, g5, g6, -⟩ := cells7 hD7.d.gb; obtain ⟨p1, p2, p3, p4, p5, p6, p7⟩ := cells10 hD7.d.pb; have p8 := cell_of_row _ _ 8 _ _ _ hD7.d.pb; have p9 := cell_of_row _ _ 9 _ _ _ hD7.d.pb; obtain ⟨x0, x1, x2, x3, x4, x5, x6, fx⟩ := cells7 hD7.xb; obtain ⟨s0, s1, s2, -⟩ := cells3f hE7))
          | ((refine step_append_lies _ (by rfl) _ _ _ (by rfl) w6.heap.size 38 i9 (.agg #[.int .i64 0, .int .i64 0, .string ⟨#[]⟩]) 3 32 Try.underlying24 hi9 hz0 hz1 hz2 rfl (by omega) (.slice va BL.length vc) BL.length (entryCells BL) (by rfl) (hown7.alloc _) ⟨w7.heap.size, 0, none⟩ 1 1 [.int .i64 ei, .int .i64 et, .string ed] (by rfl) (by rfl) (World.news_of_block (cs := [.int .i64 ei, .int .i64 et, .string ed].toArray) (World.alloc_heap_new w7 _)) (by simp [Value.oneCell']) (by omega) (by unfold maxLen; omega) (by omega) (by have := hX7.size; simp; omega) _ rfl ?_; intro gq cq w8 hown8 hgrow8 hat8 hlt8; have hX8 : Below w6.heap.size w6 w8 := Below.grown (bel_alloc hX7 _) hgrow8 (by have := hX7.size; simp; omega) (fun k hk => ownBlock_ge hown7 hk); have hBz : w6.heap.size ≤ w6.heap.size := Nat.le_refl _; have hBz2 : w6.heap.size ≤ w8.heap.size := hX8.size; have hD8 := hD6.after hX8; have hE8 := (hX8.block _ (heap_lt hE6)).trans hE6; clear g0 g1 g2 g3 g4 g5 g6 p1 p2 p3 p4 p5 p6 p7 p8 p9 x0 x1 x2 x3 x4 x5 x6 fx s0 s1 s2; obtain ⟨g0, g1, g2, g3, g4, g5, g6, -⟩ := cells7 hD8.d.gb; obtain ⟨p1, p2, p3, p4, p5, p6, p7⟩ := cells10 hD8.d.pb; have p8 := cell_of_row _ _ 8 _ _ _ hD8.d.pb; have p9 := cell_of_row _ _ 9 _ _ _ hD8.d.pb; obtain ⟨x0, x1, x2, x3, x4, x5, x6, fx⟩ := cells7 hD8.xb; obtain ⟨s0, s1, s2, -⟩ := cells3f hE8))
          | ((refine step_append_lies _ (by rfl) _ _ _ (by rfl) (w6.heap.size + 1) 38 i9 (.agg #[.int .i64 0, .int .i64 0, .string ⟨#[]⟩]) 3 32 Try.underlying24 hi9 hz0 hz1 hz2 rfl (by omega) (.slice va BL.length vc) BL.length (entryCells BL) (by rfl) (by simpa using hown7) ⟨w6.heap.size, 0, none⟩ 1 1 [.int .i64 ei, .int .i64 et, .string ed] (by rfl) (by rfl) (World.news_of_block (cs := [.int .i64 ei, .int .i64 et, .string ed].toArray) hN7) (by simp [Value.oneCell']) (by omega) (by unfold maxLen; omega) (by omega) (by have := hB7.size; simp at this; omega) _ rfl ?_; intro gq cq w8 hown8 hgrow8 hat8 hlt8; have hX8 : Below w6.heap.size w6 w8 := Below.grown hX7 hgrow8 hX7.size (fun k hk => by have := ownBlock_ge hown7 hk; simp at this; omega); have hBz : w6.heap.size ≤ w6.heap.size + 1 := Nat.le_succ _; have hBz2 : w6.heap.size + 1 ≤ w8.heap.size := (by have h1 := hB7.size; have h2 := hgrow8.size; simp at h1; omega); have hD8 := hD6.after hX8; have hE8 := (hX8.block _ (heap_lt hE6)).trans hE6; clear g0 g1 g2 g3 g4 g5 g6 p1 p2 p3 p4 p5 p6 p7 p8 p9 x0 x1 x2 x3 x4 x5 x6 fx s0 s1 s2; obtain ⟨g0, g1, g2, g3, g4, g5, g6, -⟩ := cells7 hD8.d.gb; obtain ⟨p1, p2, p3, p4, p5, p6, p7⟩ := cells10 hD8.d.pb; have p8 := cell_of_row _ _ 8 _ _ _ hD8.d.pb; have p9 := cell_of_row _ _ 9 _ _ _ hD8.d.pb; obtain ⟨x0, x1, x2, x3, x4, x5, x6, fx⟩ := cells7 hD8.xb; obtain ⟨s0, s1, s2, -⟩ := cells3f hE8)))
        all_goals
          obtain ⟨Bz, hown8, hBz, hBz2⟩ : ∃ Bz, w8.ownsRow Bz 38 3 (.slice (some ⟨gq, 0, none⟩) (BL.length + 1) cq) (BL.length + 1) (entryCells BL ++ [.int .i64 ei, .int .i64 et, .string ed]) ∧ w6.heap.size ≤ Bz ∧ Bz ≤ w8.heap.size := ⟨_, hown8, hBz, hBz2⟩
          have hRW8 := hRW6.below hX8
          have hB8s := hX8.size
          clear hgrow8 hat8 hown7 hX7 hD7 hE7 hB7
          by_cases h0 : FN = []
          · subst h0
            go_wp2_with (first
              | (go_at_call 34; ((with_reducible refine (GFn.out _ hRW8 rfl).mono ?_); rintro e w9 ⟨rfl, hB9⟩; have hD9 := hD8.after hB9; have hown9 := ownsRow_below (n := 0) hown8 hB9; clear g0 g1 g2 g3 g4 g5 g6 p1 p2 p3 p4 p5 p6 p7 p8 p9 x0 x1 x2 x3 x4 x5 x6 fx s0 s1 s2; obtain ⟨g0, g1, g2, g3, g4, g5, g6, -⟩ := cells7 hD9.d.gb; obtain ⟨p1, p2, p3, p4, p5, p6, p7⟩ := cells10 hD9.d.pb; have p8 := cell_of_row _ _ 8 _ _ _ hD9.d.pb; have p9 := cell_of_row _ _ 9 _ _ _ hD9.d.pb; obtain ⟨x0, x1, x2, x3, x4, x5, x6, fx⟩ := cells7 hD9.xb))
              | (at_builtin; refine wpList_append_own_none rfl _ _ 24 rfl Bz 38 i9 3 Try.underlying24 hi9 _ _ _ rfl hown9 rfl ?_))
            have hD10 := hD9.set 6 (.slice (some ⟨gq, 0, none⟩) (BL.length + 1) cq)
            simp only [List.setIfInBounds_toArray, List.set_cons_succ, List.set_cons_zero] at hD10
            obtain ⟨na, nc, hna, -, hnr⟩ := rowV_own (own_frame hown9 (FrameT.setCell w9 (w.heap.size + 1 + 1 + 1) 6 (.slice (some ⟨gq, 0, none⟩) (BL.length + 1) cq)) (fun k hk h => by omega))
            cases hna
            have hLe : (BL ++ [(⟨ei, et, ed⟩ : EntryC)] ++ ([] : List EntryC)).length = BL.length + 1 := by simp
            go_roundw
            case rel => exact ⟨k + 1, some ⟨gq, 0, none⟩, cq, by omega, by go_num, by rw [HT2.out, hLe]; exact hD10, by rw [HT2.out, hLe, List.append_nil, HFC.out]; exact hnr, fun b hb => .inr (by rw [HT2.out, hLe] at hb; have := own_new hown9 b hb; omega)⟩
            case measure => simp [intOf]; omega
          · have hFl : 0 < FN.length := List.length_pos_iff.2 h0
            have HF3 := Lib.hid (entry_three FN)
            have HF1 := Lib.hid (entry_one FN)
            clear h0
            go_wp2_with (first
              | (go_at_call 34; ((with_reducible refine (GF.out _ hRW8).mono ?_); rintro e w9 ⟨fa, fc, rfl, hownF, hB9⟩; have hD9 := hD8.after hB9; have hown9 := ownsRow_below (n := 0) hown8 hB9; obtain ⟨fa', fc', hfa, hfc, hfr⟩ := rowV_own hownF; cases hfa; obtain ⟨fb, fo, rfl, hfb, hfx⟩ := hfr.2.2 hFl; have HNW := Lib.hid (show ∀ j u, (entryCells FN)[j]? = some u → w9.cell? ((⟨fb, fo, none⟩ : Addr).add j) = some u from fun j u hu => by (obtain ⟨hj, rfl⟩ := List.getElem?_eq_some_iff.1 hu; rw [add_off]; exact hfx j hj)); clear g0 g1 g2 g3 g4 g5 g6 p1 p2 p3 p4 p5 p6 p7 p8 p9 x0 x1 x2 x3 x4 x5 x6 fx s0 s1 s2 hfx hfr hownF; obtain ⟨g0, g1, g2, g3, g4, g5, g6, -⟩ := cells7 hD9.d.gb; obtain ⟨p1, p2, p3, p4, p5, p6, p7⟩ := cells10 hD9.d.pb; have p8 := cell_of_row _ _ 8 _ _ _ hD9.d.pb; have p9 := cell_of_row _ _ 9 _ _ _ hD9.d.pb; obtain ⟨x0, x1, x2, x3, x4, x5, x6, fx⟩ := cells7 hD9.xb))
              | (at_builtin; refine wpList_append_own _ rfl _ _ 24 rfl Bz 38 i9 (.agg #[.int .i64 0, .int .i64 0, .string ⟨#[]⟩]) 3 32 Try.underlying24 hi9 hz0 hz1 hz2 rfl (by decide) _ _ _ rfl hown9 ⟨fb, fo, none⟩ FN.length fc (entryCells FN) rfl HF3.out HNW.out HF1.out (by unfold maxLen; omega) (by omega) (by have := hB9.size; omega) ?_; intro v' w10 hown10 hgrow10 _; obtain ⟨na, nc, rfl, hnc, hnr⟩ := rowV_own hown10; have hD10 := RDoW.grown hD9 hgrow10 (fun k hk => by have := ownBlock_ge hown9 hk; omega); clear g0 g1 g2 g3 g4 g5 g6 p1 p2 p3 p4 p5 p6 p7 p8 p9 x0 x1 x2 x3 x4 x5 x6 fx; obtain ⟨g0, g1, g2, g3, g4, g5, g6, -⟩ := cells7 hD10.d.gb; obtain ⟨p1, p2, p3, p4, p5, p6, p7⟩ := cells10 hD10.d.pb; have p8 := cell_of_row _ _ 8 _ _ _ hD10.d.pb; have p9 := cell_of_row _ _ 9 _ _ _ hD10.d.pb; obtain ⟨x0, x1, x2, x3, x4, x5, x6, fx⟩ := cells7 hD10.xb))
            have hD11 := hD10.set 6 (.slice na (BL.length + 1 + FN.length) nc)
            simp only [List.setIfInBounds_toArray, List.set_cons_succ, List.set_cons_zero] at hD11
            obtain ⟨na', nc', hna, -, hnr2⟩ := rowV_own (own_frame hown10 (FrameT.setCell w10 (w.heap.size + 1 + 1 + 1) 6 (.slice na (BL.length + 1 + FN.length) nc)) (fun k hk h => by omega))
            cases hna
            have hLe : (BL ++ [(⟨ei, et, ed⟩ : EntryC)] ++ FN).length = BL.length + 1 + FN.length := by simp; omega
            go_roundw
            case rel => exact ⟨k + 1, na, nc, by omega, by go_num, by rw [HT2.out, hLe]; exact hD11, by rw [HT2.out, hLe, HFB.out, HFC.out]; exact hnr2, fun b hb => .inr (by rw [HT2.out, hLe] at hb; have := own_new hown10 b hb; omega)⟩
            case measure => simp [intOf]; omega
  obtain rfl : k = pl.length := by omega
  rw [List.take_length] at hD hRW hNb
  rw [List.take_length] at hLk
  have HL := Lib.hid hLk
  have hHR := Lib.hid hRW
  have hNb2 := Lib.hid hNb
  clear hRW hNb hLk
  obtain ⟨r0, r1, r2, r3, r4, r5, r6, fr⟩ := cells7 hD.d.rb
  go_wp2
  obtain ⟨hb7, hbel, hF7⟩ := hD.fin
  obtain ⟨e0, e1, e2, e3, e4, e5, e6, -⟩ := cells7 hb7
  refine bodyPost_ret (v := .agg #[.int .i64 id, .int .i64 fi, .int .i64 te, .int .i64 pht, .int .i64 phv, .int .i64 phc, .slice a2 (fillL fi l pl).length c2]) (by simp [results, Try.results36, go_sem, e0, e1, e2, e3, e4, e5, e6]) rfl ?_
  exact ⟨a2, c2, rfl, ⟨by show (fillL fi l pl).length < 1000000; have := HL.out; omega, rowV_frame hHR.out hF7 (fun k hk h => by have := (hNb2.out k hk).imp (hal k) (fun x => x); omega)⟩, hbel, fun k hk => (hNb2.out k hk).imp (fun x => x) (fun x => by omega)⟩

set_option maxRecDepth 100000 in
set_option maxHeartbeats 4000000 in
theorem refFill_10 (id fi te ht hv hc : Int) (l : List EntryC) (a : Option Addr) (cap : Nat) (pg pk : Int) (pa : Option Addr) (pcap : Nat) (pht phv phc pi pt : Int) (pl : List EntryC) (w : World) (hg : HasG w a ⟨id, fi, te, ht, hv, hc, l⟩) (hr : Ris l) (hp : HasE w ⟨pg, pk, pa, pl.length, pcap, pht, phv, phc, pi, pt, true, false⟩ pl) (hpl9 : pl.length ≤ 100) (h30 : l.length ≤ 100000) (hpi : 1 ≤ pi ∧ pi ≤ 1099511627776) : Calls Try.prog 36 #[.agg #[.int .i64 id, .int .i64 fi, .int .i64 te, .int .i64 ht, .int .i64 hv, .int .i64 hc, .slice a l.length cap], .agg #[.int .i64 pg, .int .i64 pk, .slice pa pl.length pcap, .int .i64 pht, .int .i64 phv, .int .i64 phc, .int .i64 pi, .int .i64 pt, .bool true, .bool false]] w (RDoPost w a l.length (fillD (cmpM ⟨id, fi, te, ht, hv, hc, l⟩ pi pt) pl)) := by
  obtain ⟨i9, hi9, hz0, hz1, hz2⟩ := info_parts infoEntry
  have hplen := hp.1
  have hpcs := hp.2.2.2.2
  have hgr := hg.2
  have hal := fun k hk => inBlkE_lt (k := k) hg.2 hk
  dsimp only at hplen hpcs hgr hal
  have HG := Lib.hid (fun W (hB : Below w.heap.size w W) => hg.below hB)
  have HS := Lib.hid (RDoW.start w #[.int .i64 id, .int .i64 fi, .int .i64 te, .int .i64 ht, .int .i64 hv, .int .i64 hc, .slice a l.length cap] #[.int .i64 pg, .int .i64 pk, .slice pa pl.length pcap, .int .i64 pht, .int .i64 phv, .int .i64 phc, .int .i64 pi, .int .i64 pt, .bool true, .bool false] #[.int .i64 id, .int .i64 fi, .int .i64 te, .int .i64 ht, .int .i64 hv, .int .i64 hc, .slice a l.length cap])
  have GC := Lib.hid (fun W (hB : Below w.heap.size w W) => refCmp_any id fi te ht hv hc l a cap pi pt W (hg.below hB) hr hpi)
  have hcl : (cmpM ⟨id, fi, te, ht, hv, hc, l⟩ pi pt).l.length ≤ l.length := by
    unfold cmpM
    split
    · exact Nat.le_refl _
    · exact froL_le _ _
  generalize cmpM ⟨id, fi, te, ht, hv, hc, l⟩ pi pt = D at *
  obtain ⟨did, dfi, dte, dht, dhv, dhc, dl⟩ := D
  unfold RDoPost at GC
  dsimp only at GC hcl
  simp only [fillD]
  clear hg hr hp
  go_enter Try.func36, Try.ntmps36
  go_upto_region 2 with (fail)
  have hD := HS.out
  generalize ((((w.alloc (.cells #[.int .i64 id, .int .i64 fi, .int .i64 te, .int .i64 ht, .int .i64 hv, .int .i64 hc, .slice a l.length cap] 26)).alloc (.cells #[.int .i64 pg, .int .i64 pk, .slice pa pl.length pcap, .int .i64 pht, .int .i64 phv, .int .i64 phc, .int .i64 pi, .int .i64 pt, .bool true, .bool false] 28)).alloc (.cells GZ 26)).alloc (.cells #[.int .i64 id, .int .i64 fi, .int .i64 te, .int .i64 ht, .int .i64 hv, .int .i64 hc, .slice a l.length cap] 26)) = wq at *
  obtain ⟨g0, g1, g2, g3, g4, g5, g6, -⟩ := cells7 hD.d.gb
  obtain ⟨p1, p2, p3, p4, p5, p6, p7⟩ := cells10 hD.d.pb
  have p8 := cell_of_row _ _ 8 _ _ _ hD.d.pb
  have p9 := cell_of_row _ _ 9 _ _ _ hD.d.pb
  obtain ⟨x0, x1, x2, x3, x4, x5, x6, fx⟩ := cells7 hD.xb
  go_upto_region 4 with (go_at_call 35; ((with_reducible refine (GC.out _ hD.d.bel).mono ?_); rintro e w1 ⟨ca, cc, rfl, hCH, hB1, hcn⟩; have hD1 := hD.after hB1; clear g0 g1 g2 g3 g4 g5 g6 p1 p2 p3 p4 p5 p6 p7 p8 p9 x0 x1 x2 x3 x4 x5 x6 fx; obtain ⟨g0, g1, g2, g3, g4, g5, g6, -⟩ := cells7 hD1.d.gb; obtain ⟨p1, p2, p3, p4, p5, p6, p7⟩ := cells10 hD1.d.pb; have p8 := cell_of_row _ _ 8 _ _ _ hD1.d.pb; have p9 := cell_of_row _ _ 9 _ _ _ hD1.d.pb; obtain ⟨x0, x1, x2, x3, x4, x5, x6, fx⟩ := cells7 hD1.xb))
  have hlw := hD.lt
  have hD2 := hD1.set7 (.int .i64 did) (.int .i64 dfi) (.int .i64 dte) (.int .i64 dht) (.int .i64 dhv) (.int .i64 dhc) (.slice ca dl.length cc) ⟨_, _, _, _, _, _, _, rfl⟩
  have hF2 := st7_frame w1 (w.heap.size + 1 + 1 + 1) (.int .i64 did) (.int .i64 dfi) (.int .i64 dte) (.int .i64 dht) (.int .i64 dhv) (.int .i64 dhc) (.slice ca dl.length cc)
  have hCH2 : RowV (st7 w1 (w.heap.size + 1 + 1 + 1) (.int .i64 did) (.int .i64 dfi) (.int .i64 dte) (.int .i64 dht) (.int .i64 dhv) (.int .i64 dhc) (.slice ca dl.length cc)) ca dl.length 3 (entryCells dl) := rowV_frame hCH.2 hF2 (fun k hk h => by
    rcases hcn k hk with h1 | h1
    · have := hal k h1; omega
    · omega)
  have hNb : ∀ k, inBlkE ca dl.length k → inBlkE a l.length k ∨ w.heap.size + 4 ≤ k := fun k hk => by
    rcases hcn k hk with h1 | h1
    · exact .inl h1
    · exact .inr (by have := hB1.size; omega)
  have hLm : dl.length ≤ 100000 := by omega
  simp only [st7] at hD2 hCH2
  clear g0 g1 g2 g3 g4 g5 g6 p1 p2 p3 p4 p5 p6 p7 p8 p9 x0 x1 x2 x3 x4 x5 x6 fx hF2 hCH hcn hD hD1 hB1
  generalize (((((((w1.setCell ⟨w.heap.size + 1 + 1 + 1, 0, none⟩ (.int .i64 did)).setCell ⟨w.heap.size + 1 + 1 + 1, 1, none⟩ (.int .i64 dfi)).setCell ⟨w.heap.size + 1 + 1 + 1, 2, none⟩ (.int .i64 dte)).setCell ⟨w.heap.size + 1 + 1 + 1, 3, none⟩ (.int .i64 dht)).setCell ⟨w.heap.size + 1 + 1 + 1, 4, none⟩ (.int .i64 dhv)).setCell ⟨w.heap.size + 1 + 1 + 1, 5, none⟩ (.int .i64 dhc)).setCell ⟨w.heap.size + 1 + 1 + 1, 6, none⟩ (.slice ca dl.length cc)) = wr at *
  obtain ⟨g0, g1, g2, g3, g4, g5, g6, -⟩ := cells7 hD2.d.gb
  obtain ⟨p1, p2, p3, p4, p5, p6, p7⟩ := cells10 hD2.d.pb
  have p8 := cell_of_row _ _ 8 _ _ _ hD2.d.pb
  have p9 := cell_of_row _ _ 9 _ _ _ hD2.d.pb
  obtain ⟨x0, x1, x2, x3, x4, x5, x6, fx⟩ := cells7 hD2.xb
  go_upto_region 6 with (fail)
  have hD3 := hD2
  have hCH3 := hCH2
  obtain ⟨ws, rfl⟩ : ∃ ws, ws = wr := ⟨_, rfl⟩
  go_wp2
  go_loopw [6] (fun i wr => ∃ (k : Nat) (a2 : Option Addr) (c2 : Nat), k ≤ pl.length ∧ i = .int .i64 k ∧ RDoW w #[.int .i64 id, .int .i64 fi, .int .i64 te, .int .i64 ht, .int .i64 hv, .int .i64 hc, .slice a l.length cap] #[.int .i64 pg, .int .i64 pk, .slice pa pl.length pcap, .int .i64 pht, .int .i64 phv, .int .i64 phc, .int .i64 pi, .int .i64 pt, .bool true, .bool false] #[.int .i64 did, .int .i64 dfi, .int .i64 dte, .int .i64 dht, .int .i64 dhv, .int .i64 dhc, .slice a2 (fillL dfi dl (pl.take k)).length c2] wr ∧ RowV wr a2 (fillL dfi dl (pl.take k)).length 3 (entryCells (fillL dfi dl (pl.take k))) ∧ ∀ b, inBlkE a2 (fillL dfi dl (pl.take k)).length b → inBlkE a l.length b ∨ w.heap.size + 4 ≤ b) (fun i _ => pl.length - (intOf i).toNat)
  case atStart => exact ⟨0, ca, cc, by omega, rfl, hD3, hCH3, hNb⟩
  case round =>
  clear g0 g1 g2 g3 g4 g5 g6 p1 p2 p3 p4 p5 p6 p7 p8 p9 x0 x1 x2 x3 x4 x5 x6 fx hD3 hCH3 hNb
  obtain ⟨k, a2, c2, hk, rfl, hD, hRW, hNb⟩ := hrel
  have hLk := fillL_len dfi dl pl k
  obtain ⟨g0, g1, g2, g3, g4, g5, g6, -⟩ := cells7 hD.d.gb
  obtain ⟨p1, p2, p3, p4, p5, p6, p7⟩ := cells10 hD.d.pb
  have p8 := cell_of_row _ _ 8 _ _ _ hD.d.pb
  have p9 := cell_of_row _ _ 9 _ _ _ hD.d.pb
  obtain ⟨x0, x1, x2, x3, x4, x5, x6, fx⟩ := cells7 hD.xb
  by_cases hlt : k < pl.length
  · obtain ⟨pb, po, rfl, hpb, hpx⟩ := hpcs (by omega)
    obtain ⟨d0, d1, d2⟩ := entry_at hpb hD.d.bel hpx hlt
    have HT := Lib.hid (fillL_take dfi dl pl k hlt)
    have hk0 : (0 : Int) ≤ (k : Int) := by omega
    have hkl : (k : Int) < (pl.length : Int) := by omega
    generalize (fillL dfi dl (pl.take k)) = L at *
    generalize pl[k] = e at *
    obtain ⟨ei, et, ed⟩ := e
    dsimp only at d0 d1 d2
    clear hpx hpcs
    go_upto_region 10 with (fail)
    have hBx := bel_alloc (Below.refl wr.heap.size wr) (.cells #[.int .i64 ei, .int .i64 et, .string ed] 38)
    have hE := World.alloc_heap_new wr (.cells #[.int .i64 ei, .int .i64 et, .string ed] 38)
    obtain ⟨E, hEe⟩ : ∃ E, E = wr.heap.size := ⟨_, rfl⟩
    have hEw : w.heap.size + 4 ≤ E := by have := hD.lt; omega
    have hD5 := hD.after hBx
    have hRW5 := hRW.below hBx
    rw [← hEe] at hE
    rw [← hEe]
    clear g0 g1 g2 g3 g4 g5 g6 p1 p2 p3 p4 p5 p6 p7 p8 p9 x0 x1 x2 x3 x4 x5 x6 fx d0 d1 d2 hEe hBx hD hRW
    generalize (wr.alloc (.cells #[.int .i64 ei, .int .i64 et, .string ed] 38)) = w5 at *
    obtain ⟨g0, g1, g2, g3, g4, g5, g6, -⟩ := cells7 hD5.d.gb
    obtain ⟨p1, p2, p3, p4, p5, p6, p7⟩ := cells10 hD5.d.pb
    have p8 := cell_of_row _ _ 8 _ _ _ hD5.d.pb
    have p9 := cell_of_row _ _ 9 _ _ _ hD5.d.pb
    obtain ⟨x0, x1, x2, x3, x4, x5, x6, fx⟩ := cells7 hD5.xb
    obtain ⟨s0, s1, s2, -⟩ := cells3f hE
    by_cases hlo : ei < dfi
    · have HT2 := Lib.hid (show (fillL dfi dl (pl.take (k + 1))) = L by rw [HT.out]; exact if_pos (.inl hlo))
      go_wp2
      go_roundw
      case rel => exact ⟨k + 1, a2, c2, by omega, by go_num, by rw [HT2.out]; exact hD5, by rw [HT2.out]; exact hRW5, by rw [HT2.out]; exact hNb⟩
      case measure => simp [intOf]; omega
    · have GA := Lib.hid (fun W (h : HasG W a2 ⟨did, dfi, dte, dht, dhv, dhc, L⟩) => refAt_any did dfi dte dht dhv dhc L a2 c2 ei W h)
      have hHas : HasG w5 a2 ⟨did, dfi, dte, dht, dhv, dhc, L⟩ := ⟨by show L.length < 1000000; omega, hRW5⟩
      by_cases hat : 0 ≤ atM L ei
      · have HT2 := Lib.hid (show (fillL dfi dl (pl.take (k + 1))) = L by rw [HT.out]; exact if_pos (.inr hat))
        generalize atM L ei = at9 at *
        go_wp2_with (go_at_call 20; ((with_reducible refine (GA.out _ hHas).mono ?_); rintro e w6 ⟨rfl, hB6⟩))
        go_roundw
        case rel => exact ⟨k + 1, a2, c2, by omega, by go_num, by rw [HT2.out]; exact hD5.after hB6, by rw [HT2.out]; exact hRW5.below hB6, by rw [HT2.out]; exact hNb⟩
        case measure => simp [intOf]; omega
      · have HT2 := Lib.hid (show (fillL dfi dl (pl.take (k + 1))) = belL L ei ++ [⟨ei, et, ed⟩] ++ froL L ei by rw [HT.out]; exact if_neg (by show ¬ (ei < dfi ∨ 0 ≤ atM L ei); omega))
        have hat2 : atM L ei < 0 := by omega
        have HBL := Lib.hid (bel_fro_len L ei)
        have hbl := belL_le L ei
        have hfnl := froL_le L ei
        generalize atM L ei = at9 at *
        go_upto_region 11 with (go_at_call 20; ((with_reducible refine (GA.out _ hHas).mono ?_); rintro e w6 ⟨rfl, hB6⟩; have hD6 := hD5.after hB6; have hE6 := (hB6.block _ (heap_lt hE)).trans hE; have hRW6 := hRW5.below hB6; clear g0 g1 g2 g3 g4 g5 g6 p1 p2 p3 p4 p5 p6 p7 p8 p9 x0 x1 x2 x3 x4 x5 x6 fx s0 s1 s2; obtain ⟨g0, g1, g2, g3, g4, g5, g6, -⟩ := cells7 hD6.d.gb; obtain ⟨p1, p2, p3, p4, p5, p6, p7⟩ := cells10 hD6.d.pb; have p8 := cell_of_row _ _ 8 _ _ _ hD6.d.pb; have p9 := cell_of_row _ _ 9 _ _ _ hD6.d.pb; obtain ⟨x0, x1, x2, x3, x4, x5, x6, fx⟩ := cells7 hD6.xb; obtain ⟨s0, s1, s2, -⟩ := cells3f hE6))
        have GB := Lib.hid (fun W (hR : RowV W a2 L.length 3 (entryCells L)) => refBelow_any L a2 c2 ei W (by omega) hR)
        have GFn := Lib.hid (fun W (hR : RowV W a2 L.length 3 (entryCells L)) (h0 : froL L ei = []) => refFrom_none L a2 c2 ei W (by omega) hR h0)
        have GF := Lib.hid (fun W (hR : RowV W a2 L.length 3 (entryCells L)) => refFrom_any L a2 c2 ei W (by omega) hR)
        have HFB := Lib.hid (entryCells_app (belL L ei ++ [⟨ei, et, ed⟩]) (froL L ei))
        have HFC := Lib.hid (entryCells_snoc (belL L ei) ⟨ei, et, ed⟩)
        generalize belL L ei = BL at *
        generalize froL L ei = FN at *
        have hlw6 := hD6.lt
        have hnX : ∀ k, inBlkE a2 L.length k → k < w6.heap.size := fun k hk => inBlkE_lt hRW6 hk
        go_region_held3 (fun W' => W'.cell? ⟨w.heap.size + 1 + 1 + 1, 6, none⟩ = some (.slice a2 L.length c2) ∧ W'.cell? ⟨E, 0, none⟩ = some (.int .i64 ei) ∧ W'.cell? ⟨E, 1, none⟩ = some (.int .i64 et) ∧ W'.cell? ⟨E, 2, none⟩ = some (.string ed)) (go_keep) (first
          | (go_at_call 33; ((with_reducible refine (GB.out _ ?hr).mono ?_); (case hr => first | exact hRW6 | exact hRW6.below (Below.refl _ _).drew | exact hRW6.below (bel_alloc (Below.refl _ _).drew _)); rintro e w7 ⟨va, vc, rfl, hown7, hB7⟩; have hX7 : Below w6.heap.size w6 w7 := (by first | exact bel2 (Below.refl _ _).drew hB7 | exact bel2 (bel_alloc (Below.refl _ _).drew _) hB7); (try (have hN7 : w7.heap[w6.heap.size]? = some (.cells [.int .i64 ei, .int .i64 et, .string ed].toArray 38 (0, 0)) := (hB7.block _ (by simp)).trans (World.alloc_heap_new w6.drew _))); have hD7 := hD6.after hX7; have hE7 := (hX7.block _ (heap_lt hE6)).trans hE6; clear g0 g1 g2 g3 g4 g5 g6 p1 p2 p3 p4 p5 p6 p7 p8 p9 x0 x1 x2 x3 x4 x5 x6 fx s0 s1 s2; obtain ⟨g0, g1, g2, g3, g4, g5, g6, -⟩ := cells7 hD7.d.gb; obtain ⟨p1, p2, p3, p4, p5, p6, p7⟩ := cells10 hD7.d.pb; have p8 := cell_of_row _ _ 8 _ _ _ hD7.d.pb; have p9 := cell_of_row _ _ 9 _ _ _ hD7.d.pb; obtain ⟨x0, x1, x2, x3, x4, x5, x6, fx⟩ := cells7 hD7.xb; obtain ⟨s0, s1, s2, -⟩ := cells3f hE7))
          | ((refine step_append_lies _ (by rfl) _ _ _ (by rfl) w6.heap.size 38 i9 (.agg #[.int .i64 0, .int .i64 0, .string ⟨#[]⟩]) 3 32 Try.underlying24 hi9 hz0 hz1 hz2 rfl (by omega) (.slice va BL.length vc) BL.length (entryCells BL) (by rfl) (hown7.alloc _) ⟨w7.heap.size, 0, none⟩ 1 1 [.int .i64 ei, .int .i64 et, .string ed] (by rfl) (by rfl) (World.news_of_block (cs := [.int .i64 ei, .int .i64 et, .string ed].toArray) (World.alloc_heap_new w7 _)) (by simp [Value.oneCell']) (by omega) (by unfold maxLen; omega) (by omega) (by have := hX7.size; simp; omega) _ rfl ?_; intro gq cq w8 hown8 hgrow8 hat8 hlt8; have hX8 : Below w6.heap.size w6 w8 := Below.grown (bel_alloc hX7 _) hgrow8 (by have := hX7.size; simp; omega) (fun k hk => ownBlock_ge hown7 hk); have hBz : w6.heap.size ≤ w6.heap.size := Nat.le_refl _; have hBz2 : w6.heap.size ≤ w8.heap.size := hX8.size; have hD8 := hD6.after hX8; have hE8 := (hX8.block _ (heap_lt hE6)).trans hE6; clear g0 g1 g2 g3 g4 g5 g6 p1 p2 p3 p4 p5 p6 p7 p8 p9 x0 x1 x2 x3 x4 x5 x6 fx s0 s1 s2; obtain ⟨g0, g1, g2, g3, g4, g5, g6, -⟩ := cells7 hD8.d.gb; obtain ⟨p1, p2, p3, p4, p5, p6, p7⟩ := cells10 hD8.d.pb; have p8 := cell_of_row _ _ 8 _ _ _ hD8.d.pb; have p9 := cell_of_row _ _ 9 _ _ _ hD8.d.pb; obtain ⟨x0, x1, x2, x3, x4, x5, x6, fx⟩ := cells7 hD8.xb; obtain ⟨s0, s1, s2, -⟩ := cells3f hE8))
          | ((refine step_append_lies _ (by rfl) _ _ _ (by rfl) (w6.heap.size + 1) 38 i9 (.agg #[.int .i64 0, .int .i64 0, .string ⟨#[]⟩]) 3 32 Try.underlying24 hi9 hz0 hz1 hz2 rfl (by omega) (.slice va BL.length vc) BL.length (entryCells BL) (by rfl) (by simpa using hown7) ⟨w6.heap.size, 0, none⟩ 1 1 [.int .i64 ei, .int .i64 et, .string ed] (by rfl) (by rfl) (World.news_of_block (cs := [.int .i64 ei, .int .i64 et, .string ed].toArray) hN7) (by simp [Value.oneCell']) (by omega) (by unfold maxLen; omega) (by omega) (by have := hB7.size; simp at this; omega) _ rfl ?_; intro gq cq w8 hown8 hgrow8 hat8 hlt8; have hX8 : Below w6.heap.size w6 w8 := Below.grown hX7 hgrow8 hX7.size (fun k hk => by have := ownBlock_ge hown7 hk; simp at this; omega); have hBz : w6.heap.size ≤ w6.heap.size + 1 := Nat.le_succ _; have hBz2 : w6.heap.size + 1 ≤ w8.heap.size := (by have h1 := hB7.size; have h2 := hgrow8.size; simp at h1; omega); have hD8 := hD6.after hX8; have hE8 := (hX8.block _ (heap_lt hE6)).trans hE6; clear g0 g1 g2 g3 g4 g5 g6 p1 p2 p3 p4 p5 p6 p7 p8 p9 x0 x1 x2 x3 x4 x5 x6 fx s0 s1 s2; obtain ⟨g0, g1, g2, g3, g4, g5, g6, -⟩ := cells7 hD8.d.gb; obtain ⟨p1, p2, p3, p4, p5, p6, p7⟩ := cells10 hD8.d.pb; have p8 := cell_of_row _ _ 8 _ _ _ hD8.d.pb; have p9 := cell_of_row _ _ 9 _ _ _ hD8.d.pb; obtain ⟨x0, x1, x2, x3, x4, x5, x6, fx⟩ := cells7 hD8.xb; obtain ⟨s0, s1, s2, -⟩ := cells3f hE8)))
        all_goals
          obtain ⟨Bz, hown8, hBz, hBz2⟩ : ∃ Bz, w8.ownsRow Bz 38 3 (.slice (some ⟨gq, 0, none⟩) (BL.length + 1) cq) (BL.length + 1) (entryCells BL ++ [.int .i64 ei, .int .i64 et, .string ed]) ∧ w6.heap.size ≤ Bz ∧ Bz ≤ w8.heap.size := ⟨_, hown8, hBz, hBz2⟩
          have hRW8 := hRW6.below hX8
          have hB8s := hX8.size
          clear hgrow8 hat8 hown7 hX7 hD7 hE7 hB7
          by_cases h0 : FN = []
          · subst h0
            go_wp2_with (first
              | (go_at_call 34; ((with_reducible refine (GFn.out _ hRW8 rfl).mono ?_); rintro e w9 ⟨rfl, hB9⟩; have hD9 := hD8.after hB9; have hown9 := ownsRow_below (n := 0) hown8 hB9; clear g0 g1 g2 g3 g4 g5 g6 p1 p2 p3 p4 p5 p6 p7 p8 p9 x0 x1 x2 x3 x4 x5 x6 fx s0 s1 s2; obtain ⟨g0, g1, g2, g3, g4, g5, g6, -⟩ := cells7 hD9.d.gb; obtain ⟨p1, p2, p3, p4, p5, p6, p7⟩ := cells10 hD9.d.pb; have p8 := cell_of_row _ _ 8 _ _ _ hD9.d.pb; have p9 := cell_of_row _ _ 9 _ _ _ hD9.d.pb; obtain ⟨x0, x1, x2, x3, x4, x5, x6, fx⟩ := cells7 hD9.xb))
              | (at_builtin; refine wpList_append_own_none rfl _ _ 24 rfl Bz 38 i9 3 Try.underlying24 hi9 _ _ _ rfl hown9 rfl ?_))
            have hD10 := hD9.set 6 (.slice (some ⟨gq, 0, none⟩) (BL.length + 1) cq)
            simp only [List.setIfInBounds_toArray, List.set_cons_succ, List.set_cons_zero] at hD10
            obtain ⟨na, nc, hna, -, hnr⟩ := rowV_own (own_frame hown9 (FrameT.setCell w9 (w.heap.size + 1 + 1 + 1) 6 (.slice (some ⟨gq, 0, none⟩) (BL.length + 1) cq)) (fun k hk h => by omega))
            cases hna
            have hLe : (BL ++ [(⟨ei, et, ed⟩ : EntryC)] ++ ([] : List EntryC)).length = BL.length + 1 := by simp
            go_roundw
            case rel => exact ⟨k + 1, some ⟨gq, 0, none⟩, cq, by omega, by go_num, by rw [HT2.out, hLe]; exact hD10, by rw [HT2.out, hLe, List.append_nil, HFC.out]; exact hnr, fun b hb => .inr (by rw [HT2.out, hLe] at hb; have := own_new hown9 b hb; omega)⟩
            case measure => simp [intOf]; omega
          · have hFl : 0 < FN.length := List.length_pos_iff.2 h0
            have HF3 := Lib.hid (entry_three FN)
            have HF1 := Lib.hid (entry_one FN)
            clear h0
            go_wp2_with (first
              | (go_at_call 34; ((with_reducible refine (GF.out _ hRW8).mono ?_); rintro e w9 ⟨fa, fc, rfl, hownF, hB9⟩; have hD9 := hD8.after hB9; have hown9 := ownsRow_below (n := 0) hown8 hB9; obtain ⟨fa', fc', hfa, hfc, hfr⟩ := rowV_own hownF; cases hfa; obtain ⟨fb, fo, rfl, hfb, hfx⟩ := hfr.2.2 hFl; have HNW := Lib.hid (show ∀ j u, (entryCells FN)[j]? = some u → w9.cell? ((⟨fb, fo, none⟩ : Addr).add j) = some u from fun j u hu => by (obtain ⟨hj, rfl⟩ := List.getElem?_eq_some_iff.1 hu; rw [add_off]; exact hfx j hj)); clear g0 g1 g2 g3 g4 g5 g6 p1 p2 p3 p4 p5 p6 p7 p8 p9 x0 x1 x2 x3 x4 x5 x6 fx s0 s1 s2 hfx hfr hownF; obtain ⟨g0, g1, g2, g3, g4, g5, g6, -⟩ := cells7 hD9.d.gb; obtain ⟨p1, p2, p3, p4, p5, p6, p7⟩ := cells10 hD9.d.pb; have p8 := cell_of_row _ _ 8 _ _ _ hD9.d.pb; have p9 := cell_of_row _ _ 9 _ _ _ hD9.d.pb; obtain ⟨x0, x1, x2, x3, x4, x5, x6, fx⟩ := cells7 hD9.xb))
              | (at_builtin; refine wpList_append_own _ rfl _ _ 24 rfl Bz 38 i9 (.agg #[.int .i64 0, .int .i64 0, .string ⟨#[]⟩]) 3 32 Try.underlying24 hi9 hz0 hz1 hz2 rfl (by decide) _ _ _ rfl hown9 ⟨fb, fo, none⟩ FN.length fc (entryCells FN) rfl HF3.out HNW.out HF1.out (by unfold maxLen; omega) (by omega) (by have := hB9.size; omega) ?_; intro v' w10 hown10 hgrow10 _; obtain ⟨na, nc, rfl, hnc, hnr⟩ := rowV_own hown10; have hD10 := RDoW.grown hD9 hgrow10 (fun k hk => by have := ownBlock_ge hown9 hk; omega); clear g0 g1 g2 g3 g4 g5 g6 p1 p2 p3 p4 p5 p6 p7 p8 p9 x0 x1 x2 x3 x4 x5 x6 fx; obtain ⟨g0, g1, g2, g3, g4, g5, g6, -⟩ := cells7 hD10.d.gb; obtain ⟨p1, p2, p3, p4, p5, p6, p7⟩ := cells10 hD10.d.pb; have p8 := cell_of_row _ _ 8 _ _ _ hD10.d.pb; have p9 := cell_of_row _ _ 9 _ _ _ hD10.d.pb; obtain ⟨x0, x1, x2, x3, x4, x5, x6, fx⟩ := cells7 hD10.xb))
            have hD11 := hD10.set 6 (.slice na (BL.length + 1 + FN.length) nc)
            simp only [List.setIfInBounds_toArray, List.set_cons_succ, List.set_cons_zero] at hD11
            obtain ⟨na', nc', hna, -, hnr2⟩ := rowV_own (own_frame hown10 (FrameT.setCell w10 (w.heap.size + 1 + 1 + 1) 6 (.slice na (BL.length + 1 + FN.length) nc)) (fun k hk h => by omega))
            cases hna
            have hLe : (BL ++ [(⟨ei, et, ed⟩ : EntryC)] ++ FN).length = BL.length + 1 + FN.length := by simp; omega
            go_roundw
            case rel => exact ⟨k + 1, na, nc, by omega, by go_num, by rw [HT2.out, hLe]; exact hD11, by rw [HT2.out, hLe, HFB.out, HFC.out]; exact hnr2, fun b hb => .inr (by rw [HT2.out, hLe] at hb; have := own_new hown10 b hb; omega)⟩
            case measure => simp [intOf]; omega
  obtain rfl : k = pl.length := by omega
  rw [List.take_length] at hD hRW hNb
  rw [List.take_length] at hLk
  have HL := Lib.hid hLk
  have hHR := Lib.hid hRW
  have hNb2 := Lib.hid hNb
  clear hRW hNb hLk
  obtain ⟨r0, r1, r2, r3, r4, r5, r6, fr⟩ := cells7 hD.d.rb
  go_wp2
  obtain ⟨hb7, hbel, hF7⟩ := hD.fin
  obtain ⟨e0, e1, e2, e3, e4, e5, e6, -⟩ := cells7 hb7
  refine bodyPost_ret (v := .agg #[.int .i64 did, .int .i64 dfi, .int .i64 dte, .int .i64 dht, .int .i64 dhv, .int .i64 dhc, .slice a2 (fillL dfi dl pl).length c2]) (by simp [results, Try.results36, go_sem, e0, e1, e2, e3, e4, e5, e6]) rfl ?_
  exact ⟨a2, c2, rfl, ⟨by show (fillL dfi dl pl).length < 1000000; have := HL.out; omega, rowV_frame hHR.out hF7 (fun k hk h => by have := (hNb2.out k hk).imp (hal k) (fun x => x); omega)⟩, hbel, fun k hk => (hNb2.out k hk).imp (fun x => x) (fun x => by omega)⟩

set_option maxRecDepth 100000 in
set_option maxHeartbeats 4000000 in
theorem refFill_11 (id fi te ht hv hc : Int) (l : List EntryC) (a : Option Addr) (cap : Nat) (pg pk : Int) (pa : Option Addr) (pcap : Nat) (pht phv phc pi pt : Int) (pl : List EntryC) (w : World) (hg : HasG w a ⟨id, fi, te, ht, hv, hc, l⟩) (hr : Ris l) (hp : HasE w ⟨pg, pk, pa, pl.length, pcap, pht, phv, phc, pi, pt, true, true⟩ pl) (hpl9 : pl.length ≤ 100) (h30 : l.length ≤ 100000) (hpi : 1 ≤ pi ∧ pi ≤ 1099511627776) : Calls Try.prog 36 #[.agg #[.int .i64 id, .int .i64 fi, .int .i64 te, .int .i64 ht, .int .i64 hv, .int .i64 hc, .slice a l.length cap], .agg #[.int .i64 pg, .int .i64 pk, .slice pa pl.length pcap, .int .i64 pht, .int .i64 phv, .int .i64 phc, .int .i64 pi, .int .i64 pt, .bool true, .bool true]] w (RDoPost w a l.length (fillD (hrdG (cmpM ⟨id, fi, te, ht, hv, hc, l⟩ pi pt) ⟨pg, pk, pa, pl.length, pcap, pht, phv, phc, pi, pt, true, true⟩) pl)) := by
  obtain ⟨i9, hi9, hz0, hz1, hz2⟩ := info_parts infoEntry
  have hplen := hp.1
  have hpcs := hp.2.2.2.2
  have hgr := hg.2
  have hal := fun k hk => inBlkE_lt (k := k) hg.2 hk
  dsimp only at hplen hpcs hgr hal
  have HG := Lib.hid (fun W (hB : Below w.heap.size w W) => hg.below hB)
  have HS := Lib.hid (RDoW.start w #[.int .i64 id, .int .i64 fi, .int .i64 te, .int .i64 ht, .int .i64 hv, .int .i64 hc, .slice a l.length cap] #[.int .i64 pg, .int .i64 pk, .slice pa pl.length pcap, .int .i64 pht, .int .i64 phv, .int .i64 phc, .int .i64 pi, .int .i64 pt, .bool true, .bool true] #[.int .i64 id, .int .i64 fi, .int .i64 te, .int .i64 ht, .int .i64 hv, .int .i64 hc, .slice a l.length cap])
  have GC := Lib.hid (fun W (hB : Below w.heap.size w W) => refCmp_any id fi te ht hv hc l a cap pi pt W (hg.below hB) hr hpi)
  have hcl : (cmpM ⟨id, fi, te, ht, hv, hc, l⟩ pi pt).l.length ≤ l.length := by
    unfold cmpM
    split
    · exact Nat.le_refl _
    · exact froL_le _ _
  generalize cmpM ⟨id, fi, te, ht, hv, hc, l⟩ pi pt = D at *
  obtain ⟨did, dfi, dte, dht, dhv, dhc, dl⟩ := D
  unfold RDoPost at GC
  dsimp only at GC hcl
  simp only [fillD, hrdG]
  clear hg hr hp
  go_enter Try.func36, Try.ntmps36
  go_upto_region 2 with (fail)
  have hD := HS.out
  generalize ((((w.alloc (.cells #[.int .i64 id, .int .i64 fi, .int .i64 te, .int .i64 ht, .int .i64 hv, .int .i64 hc, .slice a l.length cap] 26)).alloc (.cells #[.int .i64 pg, .int .i64 pk, .slice pa pl.length pcap, .int .i64 pht, .int .i64 phv, .int .i64 phc, .int .i64 pi, .int .i64 pt, .bool true, .bool true] 28)).alloc (.cells GZ 26)).alloc (.cells #[.int .i64 id, .int .i64 fi, .int .i64 te, .int .i64 ht, .int .i64 hv, .int .i64 hc, .slice a l.length cap] 26)) = wq at *
  obtain ⟨g0, g1, g2, g3, g4, g5, g6, -⟩ := cells7 hD.d.gb
  obtain ⟨p1, p2, p3, p4, p5, p6, p7⟩ := cells10 hD.d.pb
  have p8 := cell_of_row _ _ 8 _ _ _ hD.d.pb
  have p9 := cell_of_row _ _ 9 _ _ _ hD.d.pb
  obtain ⟨x0, x1, x2, x3, x4, x5, x6, fx⟩ := cells7 hD.xb
  go_upto_region 4 with (go_at_call 35; ((with_reducible refine (GC.out _ hD.d.bel).mono ?_); rintro e w1 ⟨ca, cc, rfl, hCH, hB1, hcn⟩; have hD1 := hD.after hB1; clear g0 g1 g2 g3 g4 g5 g6 p1 p2 p3 p4 p5 p6 p7 p8 p9 x0 x1 x2 x3 x4 x5 x6 fx; obtain ⟨g0, g1, g2, g3, g4, g5, g6, -⟩ := cells7 hD1.d.gb; obtain ⟨p1, p2, p3, p4, p5, p6, p7⟩ := cells10 hD1.d.pb; have p8 := cell_of_row _ _ 8 _ _ _ hD1.d.pb; have p9 := cell_of_row _ _ 9 _ _ _ hD1.d.pb; obtain ⟨x0, x1, x2, x3, x4, x5, x6, fx⟩ := cells7 hD1.xb))
  have hlw := hD.lt
  have hD2 := hD1.set7 (.int .i64 did) (.int .i64 dfi) (.int .i64 dte) (.int .i64 dht) (.int .i64 dhv) (.int .i64 dhc) (.slice ca dl.length cc) ⟨_, _, _, _, _, _, _, rfl⟩
  have hF2 := st7_frame w1 (w.heap.size + 1 + 1 + 1) (.int .i64 did) (.int .i64 dfi) (.int .i64 dte) (.int .i64 dht) (.int .i64 dhv) (.int .i64 dhc) (.slice ca dl.length cc)
  have hCH2 : RowV (st7 w1 (w.heap.size + 1 + 1 + 1) (.int .i64 did) (.int .i64 dfi) (.int .i64 dte) (.int .i64 dht) (.int .i64 dhv) (.int .i64 dhc) (.slice ca dl.length cc)) ca dl.length 3 (entryCells dl) := rowV_frame hCH.2 hF2 (fun k hk h => by
    rcases hcn k hk with h1 | h1
    · have := hal k h1; omega
    · omega)
  have hNb : ∀ k, inBlkE ca dl.length k → inBlkE a l.length k ∨ w.heap.size + 4 ≤ k := fun k hk => by
    rcases hcn k hk with h1 | h1
    · exact .inl h1
    · exact .inr (by have := hB1.size; omega)
  have hLm : dl.length ≤ 100000 := by omega
  simp only [st7] at hD2 hCH2
  clear g0 g1 g2 g3 g4 g5 g6 p1 p2 p3 p4 p5 p6 p7 p8 p9 x0 x1 x2 x3 x4 x5 x6 fx hF2 hCH hcn hD hD1 hB1
  generalize (((((((w1.setCell ⟨w.heap.size + 1 + 1 + 1, 0, none⟩ (.int .i64 did)).setCell ⟨w.heap.size + 1 + 1 + 1, 1, none⟩ (.int .i64 dfi)).setCell ⟨w.heap.size + 1 + 1 + 1, 2, none⟩ (.int .i64 dte)).setCell ⟨w.heap.size + 1 + 1 + 1, 3, none⟩ (.int .i64 dht)).setCell ⟨w.heap.size + 1 + 1 + 1, 4, none⟩ (.int .i64 dhv)).setCell ⟨w.heap.size + 1 + 1 + 1, 5, none⟩ (.int .i64 dhc)).setCell ⟨w.heap.size + 1 + 1 + 1, 6, none⟩ (.slice ca dl.length cc)) = wr at *
  obtain ⟨g0, g1, g2, g3, g4, g5, g6, -⟩ := cells7 hD2.d.gb
  obtain ⟨p1, p2, p3, p4, p5, p6, p7⟩ := cells10 hD2.d.pb
  have p8 := cell_of_row _ _ 8 _ _ _ hD2.d.pb
  have p9 := cell_of_row _ _ 9 _ _ _ hD2.d.pb
  obtain ⟨x0, x1, x2, x3, x4, x5, x6, fx⟩ := cells7 hD2.xb
  go_upto_region 6 with (fail)
  have hD3 := ((hD2.set 3 (.int .i64 pht)).set 4 (.int .i64 phv)).set 5 (.int .i64 phc)
  simp only [List.setIfInBounds_toArray, List.set_cons_succ, List.set_cons_zero] at hD3
  have hCH3 := rowV_frame (rowV_frame (rowV_frame hCH2 (FrameT.setCell wr (w.heap.size + 1 + 1 + 1) 3 (.int .i64 pht)) (fun k hk h => by have := (hNb k hk).imp (hal k) (fun x => x); omega)) (FrameT.setCell _ (w.heap.size + 1 + 1 + 1) 4 (.int .i64 phv)) (fun k hk h => by have := (hNb k hk).imp (hal k) (fun x => x); omega)) (FrameT.setCell _ (w.heap.size + 1 + 1 + 1) 5 (.int .i64 phc)) (fun k hk h => by have := (hNb k hk).imp (hal k) (fun x => x); omega)
  clear g0 g1 g2 g3 g4 g5 g6 p1 p2 p3 p4 p5 p6 p7 p8 p9 x0 x1 x2 x3 x4 x5 x6 fx hD2 hCH2
  generalize (((wr.setCell ⟨w.heap.size + 1 + 1 + 1, 3, none⟩ (.int .i64 pht)).setCell ⟨w.heap.size + 1 + 1 + 1, 4, none⟩ (.int .i64 phv)).setCell ⟨w.heap.size + 1 + 1 + 1, 5, none⟩ (.int .i64 phc)) = ws at *
  obtain ⟨g0, g1, g2, g3, g4, g5, g6, -⟩ := cells7 hD3.d.gb
  obtain ⟨p1, p2, p3, p4, p5, p6, p7⟩ := cells10 hD3.d.pb
  have p8 := cell_of_row _ _ 8 _ _ _ hD3.d.pb
  have p9 := cell_of_row _ _ 9 _ _ _ hD3.d.pb
  obtain ⟨x0, x1, x2, x3, x4, x5, x6, fx⟩ := cells7 hD3.xb
  go_wp2
  go_loopw [6] (fun i wr => ∃ (k : Nat) (a2 : Option Addr) (c2 : Nat), k ≤ pl.length ∧ i = .int .i64 k ∧ RDoW w #[.int .i64 id, .int .i64 fi, .int .i64 te, .int .i64 ht, .int .i64 hv, .int .i64 hc, .slice a l.length cap] #[.int .i64 pg, .int .i64 pk, .slice pa pl.length pcap, .int .i64 pht, .int .i64 phv, .int .i64 phc, .int .i64 pi, .int .i64 pt, .bool true, .bool true] #[.int .i64 did, .int .i64 dfi, .int .i64 dte, .int .i64 pht, .int .i64 phv, .int .i64 phc, .slice a2 (fillL dfi dl (pl.take k)).length c2] wr ∧ RowV wr a2 (fillL dfi dl (pl.take k)).length 3 (entryCells (fillL dfi dl (pl.take k))) ∧ ∀ b, inBlkE a2 (fillL dfi dl (pl.take k)).length b → inBlkE a l.length b ∨ w.heap.size + 4 ≤ b) (fun i _ => pl.length - (intOf i).toNat)
  case atStart => exact ⟨0, ca, cc, by omega, rfl, hD3, hCH3, hNb⟩
  case round =>
  clear g0 g1 g2 g3 g4 g5 g6 p1 p2 p3 p4 p5 p6 p7 p8 p9 x0 x1 x2 x3 x4 x5 x6 fx hD3 hCH3 hNb
  obtain ⟨k, a2, c2, hk, rfl, hD, hRW, hNb⟩ := hrel
  have hLk := fillL_len dfi dl pl k
  obtain ⟨g0, g1, g2, g3, g4, g5, g6, -⟩ := cells7 hD.d.gb
  obtain ⟨p1, p2, p3, p4, p5, p6, p7⟩ := cells10 hD.d.pb
  have p8 := cell_of_row _ _ 8 _ _ _ hD.d.pb
  have p9 := cell_of_row _ _ 9 _ _ _ hD.d.pb
  obtain ⟨x0, x1, x2, x3, x4, x5, x6, fx⟩ := cells7 hD.xb
  by_cases hlt : k < pl.length
  · obtain ⟨pb, po, rfl, hpb, hpx⟩ := hpcs (by omega)
    obtain ⟨d0, d1, d2⟩ := entry_at hpb hD.d.bel hpx hlt
    have HT := Lib.hid (fillL_take dfi dl pl k hlt)
    have hk0 : (0 : Int) ≤ (k : Int) := by omega
    have hkl : (k : Int) < (pl.length : Int) := by omega
    generalize (fillL dfi dl (pl.take k)) = L at *
    generalize pl[k] = e at *
    obtain ⟨ei, et, ed⟩ := e
    dsimp only at d0 d1 d2
    clear hpx hpcs
    go_upto_region 10 with (fail)
    have hBx := bel_alloc (Below.refl wr.heap.size wr) (.cells #[.int .i64 ei, .int .i64 et, .string ed] 38)
    have hE := World.alloc_heap_new wr (.cells #[.int .i64 ei, .int .i64 et, .string ed] 38)
    obtain ⟨E, hEe⟩ : ∃ E, E = wr.heap.size := ⟨_, rfl⟩
    have hEw : w.heap.size + 4 ≤ E := by have := hD.lt; omega
    have hD5 := hD.after hBx
    have hRW5 := hRW.below hBx
    rw [← hEe] at hE
    rw [← hEe]
    clear g0 g1 g2 g3 g4 g5 g6 p1 p2 p3 p4 p5 p6 p7 p8 p9 x0 x1 x2 x3 x4 x5 x6 fx d0 d1 d2 hEe hBx hD hRW
    generalize (wr.alloc (.cells #[.int .i64 ei, .int .i64 et, .string ed] 38)) = w5 at *
    obtain ⟨g0, g1, g2, g3, g4, g5, g6, -⟩ := cells7 hD5.d.gb
    obtain ⟨p1, p2, p3, p4, p5, p6, p7⟩ := cells10 hD5.d.pb
    have p8 := cell_of_row _ _ 8 _ _ _ hD5.d.pb
    have p9 := cell_of_row _ _ 9 _ _ _ hD5.d.pb
    obtain ⟨x0, x1, x2, x3, x4, x5, x6, fx⟩ := cells7 hD5.xb
    obtain ⟨s0, s1, s2, -⟩ := cells3f hE
    by_cases hlo : ei < dfi
    · have HT2 := Lib.hid (show (fillL dfi dl (pl.take (k + 1))) = L by rw [HT.out]; exact if_pos (.inl hlo))
      go_wp2
      go_roundw
      case rel => exact ⟨k + 1, a2, c2, by omega, by go_num, by rw [HT2.out]; exact hD5, by rw [HT2.out]; exact hRW5, by rw [HT2.out]; exact hNb⟩
      case measure => simp [intOf]; omega
    · have GA := Lib.hid (fun W (h : HasG W a2 ⟨did, dfi, dte, pht, phv, phc, L⟩) => refAt_any did dfi dte pht phv phc L a2 c2 ei W h)
      have hHas : HasG w5 a2 ⟨did, dfi, dte, pht, phv, phc, L⟩ := ⟨by show L.length < 1000000; omega, hRW5⟩
      by_cases hat : 0 ≤ atM L ei
      · have HT2 := Lib.hid (show (fillL dfi dl (pl.take (k + 1))) = L by rw [HT.out]; exact if_pos (.inr hat))
        generalize atM L ei = at9 at *
        go_wp2_with (go_at_call 20; ((with_reducible refine (GA.out _ hHas).mono ?_); rintro e w6 ⟨rfl, hB6⟩))
        go_roundw
        case rel => exact ⟨k + 1, a2, c2, by omega, by go_num, by rw [HT2.out]; exact hD5.after hB6, by rw [HT2.out]; exact hRW5.below hB6, by rw [HT2.out]; exact hNb⟩
        case measure => simp [intOf]; omega
      · have HT2 := Lib.hid (show (fillL dfi dl (pl.take (k + 1))) = belL L ei ++ [⟨ei, et, ed⟩] ++ froL L ei by rw [HT.out]; exact if_neg (by show ¬ (ei < dfi ∨ 0 ≤ atM L ei); omega))
        have hat2 : atM L ei < 0 := by omega
        have HBL := Lib.hid (bel_fro_len L ei)
        have hbl := belL_le L ei
        have hfnl := froL_le L ei
        generalize atM L ei = at9 at *
        go_upto_region 11 with (go_at_call 20; ((with_reducible refine (GA.out _ hHas).mono ?_); rintro e w6 ⟨rfl, hB6⟩; have hD6 := hD5.after hB6; have hE6 := (hB6.block _ (heap_lt hE)).trans hE; have hRW6 := hRW5.below hB6; clear g0 g1 g2 g3 g4 g5 g6 p1 p2 p3 p4 p5 p6 p7 p8 p9 x0 x1 x2 x3 x4 x5 x6 fx s0 s1 s2; obtain ⟨g0, g1, g2, g3, g4, g5, g6, -⟩ := cells7 hD6.d.gb; obtain ⟨p1, p2, p3, p4, p5, p6, p7⟩ := cells10 hD6.d.pb; have p8 := cell_of_row _ _ 8 _ _ _ hD6.d.pb; have p9 := cell_of_row _ _ 9 _ _ _ hD6.d.pb; obtain ⟨x0, x1, x2, x3, x4, x5, x6, fx⟩ := cells7 hD6.xb; obtain ⟨s0, s1, s2, -⟩ := cells3f hE6))
        have GB := Lib.hid (fun W (hR : RowV W a2 L.length 3 (entryCells L)) => refBelow_any L a2 c2 ei W (by omega) hR)
        have GFn := Lib.hid (fun W (hR : RowV W a2 L.length 3 (entryCells L)) (h0 : froL L ei = []) => refFrom_none L a2 c2 ei W (by omega) hR h0)
        have GF := Lib.hid (fun W (hR : RowV W a2 L.length 3 (entryCells L)) => refFrom_any L a2 c2 ei W (by omega) hR)
        have HFB := Lib.hid (entryCells_app (belL L ei ++ [⟨ei, et, ed⟩]) (froL L ei))
        have HFC := Lib.hid (entryCells_snoc (belL L ei) ⟨ei, et, ed⟩)
        generalize belL L ei = BL at *
        generalize froL L ei = FN at *
        have hlw6 := hD6.lt
        have hnX : ∀ k, inBlkE a2 L.length k → k < w6.heap.size := fun k hk => inBlkE_lt hRW6 hk
        go_region_held3 (fun W' => W'.cell? ⟨w.heap.size + 1 + 1 + 1, 6, none⟩ = some (.slice a2 L.length c2) ∧ W'.cell? ⟨E, 0, none⟩ = some (.int .i64 ei) ∧ W'.cell? ⟨E, 1, none⟩ = some (.int .i64 et) ∧ W'.cell? ⟨E, 2, none⟩ = some (.string ed)) (go_keep) (first
          | (go_at_call 33; ((with_reducible refine (GB.out _ ?hr).mono ?_); (case hr => first | exact hRW6 | exact hRW6.below (Below.refl _ _).drew | exact hRW6.below (bel_alloc (Below.refl _ _).drew _)); rintro e w7 ⟨va, vc, rfl, hown7, hB7⟩; have hX7 : Below w6.heap.size w6 w7 := (by first | exact bel2 (Below.refl _ _).drew hB7 | exact bel2 (bel_alloc (Below.refl _ _).drew _) hB7); (try (have hN7 : w7.heap[w6.heap.size]? = some (.cells [.int .i64 ei, .int .i64 et, .string ed].toArray 38 (0, 0)) := (hB7.block _ (by simp)).trans (World.alloc_heap_new w6.drew _))); have hD7 := hD6.after hX7; have hE7 := (hX7.block _ (heap_lt hE6)).trans hE6; clear g0 g1 g2 g3 g4 g5 g6 p1 p2 p3 p4 p5 p6 p7 p8 p9 x0 x1 x2 x3 x4 x5 x6 fx s0 s1 s2; obtain ⟨g0, g1, g2, g3, g4, g5, g6, -⟩ := cells7 hD7.d.gb; obtain ⟨p1, p2, p3, p4, p5, p6, p7⟩ := cells10 hD7.d.pb; have p8 := cell_of_row _ _ 8 _ _ _ hD7.d.pb; have p9 := cell_of_row _ _ 9 _ _ _ hD7.d.pb; obtain ⟨x0, x1, x2, x3, x4, x5, x6, fx⟩ := cells7 hD7.xb; obtain ⟨s0, s1, s2, -⟩ := cells3f hE7))
          | ((refine step_append_lies _ (by rfl) _ _ _ (by rfl) w6.heap.size 38 i9 (.agg #[.int .i64 0, .int .i64 0, .string ⟨#[]⟩]) 3 32 Try.underlying24 hi9 hz0 hz1 hz2 rfl (by omega) (.slice va BL.length vc) BL.length (entryCells BL) (by rfl) (hown7.alloc _) ⟨w7.heap.size, 0, none⟩ 1 1 [.int .i64 ei, .int .i64 et, .string ed] (by rfl) (by rfl) (World.news_of_block (cs := [.int .i64 ei, .int .i64 et, .string ed].toArray) (World.alloc_heap_new w7 _)) (by simp [Value.oneCell']) (by omega) (by unfold maxLen; omega) (by omega) (by have := hX7.size; simp; omega) _ rfl ?_; intro gq cq w8 hown8 hgrow8 hat8 hlt8; have hX8 : Below w6.heap.size w6 w8 := Below.grown (bel_alloc hX7 _) hgrow8 (by have := hX7.size; simp; omega) (fun k hk => ownBlock_ge hown7 hk); have hBz : w6.heap.size ≤ w6.heap.size := Nat.le_refl _; have hBz2 : w6.heap.size ≤ w8.heap.size := hX8.size; have hD8 := hD6.after hX8; have hE8 := (hX8.block _ (heap_lt hE6)).trans hE6; clear g0 g1 g2 g3 g4 g5 g6 p1 p2 p3 p4 p5 p6 p7 p8 p9 x0 x1 x2 x3 x4 x5 x6 fx s0 s1 s2; obtain ⟨g0, g1, g2, g3, g4, g5, g6, -⟩ := cells7 hD8.d.gb; obtain ⟨p1, p2, p3, p4, p5, p6, p7⟩ := cells10 hD8.d.pb; have p8 := cell_of_row _ _ 8 _ _ _ hD8.d.pb; have p9 := cell_of_row _ _ 9 _ _ _ hD8.d.pb; obtain ⟨x0, x1, x2, x3, x4, x5, x6, fx⟩ := cells7 hD8.xb; obtain ⟨s0, s1, s2, -⟩ := cells3f hE8))
          | ((refine step_append_lies _ (by rfl) _ _ _ (by rfl) (w6.heap.size + 1) 38 i9 (.agg #[.int .i64 0, .int .i64 0, .string ⟨#[]⟩]) 3 32 Try.underlying24 hi9 hz0 hz1 hz2 rfl (by omega) (.slice va BL.length vc) BL.length (entryCells BL) (by rfl) (by simpa using hown7) ⟨w6.heap.size, 0, none⟩ 1 1 [.int .i64 ei, .int .i64 et, .string ed] (by rfl) (by rfl) (World.news_of_block (cs := [.int .i64 ei, .int .i64 et, .string ed].toArray) hN7) (by simp [Value.oneCell']) (by omega) (by unfold maxLen; omega) (by omega) (by have := hB7.size; simp at this; omega) _ rfl ?_; intro gq cq w8 hown8 hgrow8 hat8 hlt8; have hX8 : Below w6.heap.size w6 w8 := Below.grown hX7 hgrow8 hX7.size (fun k hk => by have := ownBlock_ge hown7 hk; simp at this; omega); have hBz : w6.heap.size ≤ w6.heap.size + 1 := Nat.le_succ _; have hBz2 : w6.heap.size + 1 ≤ w8.heap.size := (by have h1 := hB7.size; have h2 := hgrow8.size; simp at h1; omega); have hD8 := hD6.after hX8; have hE8 := (hX8.block _ (heap_lt hE6)).trans hE6; clear g0 g1 g2 g3 g4 g5 g6 p1 p2 p3 p4 p5 p6 p7 p8 p9 x0 x1 x2 x3 x4 x5 x6 fx s0 s1 s2; obtain ⟨g0, g1, g2, g3, g4, g5, g6, -⟩ := cells7 hD8.d.gb; obtain ⟨p1, p2, p3, p4, p5, p6, p7⟩ := cells10 hD8.d.pb; have p8 := cell_of_row _ _ 8 _ _ _ hD8.d.pb; have p9 := cell_of_row _ _ 9 _ _ _ hD8.d.pb; obtain ⟨x0, x1, x2, x3, x4, x5, x6, fx⟩ := cells7 hD8.xb; obtain ⟨s0, s1, s2, -⟩ := cells3f hE8)))
        all_goals
          obtain ⟨Bz, hown8, hBz, hBz2⟩ : ∃ Bz, w8.ownsRow Bz 38 3 (.slice (some ⟨gq, 0, none⟩) (BL.length + 1) cq) (BL.length + 1) (entryCells BL ++ [.int .i64 ei, .int .i64 et, .string ed]) ∧ w6.heap.size ≤ Bz ∧ Bz ≤ w8.heap.size := ⟨_, hown8, hBz, hBz2⟩
          have hRW8 := hRW6.below hX8
          have hB8s := hX8.size
          clear hgrow8 hat8 hown7 hX7 hD7 hE7 hB7
          by_cases h0 : FN = []
          · subst h0
            go_wp2_with (first
              | (go_at_call 34; ((with_reducible refine (GFn.out _ hRW8 rfl).mono ?_); rintro e w9 ⟨rfl, hB9⟩; have hD9 := hD8.after hB9; have hown9 := ownsRow_below (n := 0) hown8 hB9; clear g0 g1 g2 g3 g4 g5 g6 p1 p2 p3 p4 p5 p6 p7 p8 p9 x0 x1 x2 x3 x4 x5 x6 fx s0 s1 s2; obtain ⟨g0, g1, g2, g3, g4, g5, g6, -⟩ := cells7 hD9.d.gb; obtain ⟨p1, p2, p3, p4, p5, p6, p7⟩ := cells10 hD9.d.pb; have p8 := cell_of_row _ _ 8 _ _ _ hD9.d.pb; have p9 := cell_of_row _ _ 9 _ _ _ hD9.d.pb; obtain ⟨x0, x1, x2, x3, x4, x5, x6, fx⟩ := cells7 hD9.xb))
              | (at_builtin; refine wpList_append_own_none rfl _ _ 24 rfl Bz 38 i9 3 Try.underlying24 hi9 _ _ _ rfl hown9 rfl ?_))
            have hD10 := hD9.set 6 (.slice (some ⟨gq, 0, none⟩) (BL.length + 1) cq)
            simp only [List.setIfInBounds_toArray, List.set_cons_succ, List.set_cons_zero] at hD10
            obtain ⟨na, nc, hna, -, hnr⟩ := rowV_own (own_frame hown9 (FrameT.setCell w9 (w.heap.size + 1 + 1 + 1) 6 (.slice (some ⟨gq, 0, none⟩) (BL.length + 1) cq)) (fun k hk h => by omega))
            cases hna
            have hLe : (BL ++ [(⟨ei, et, ed⟩ : EntryC)] ++ ([] : List EntryC)).length = BL.length + 1 := by simp
            go_roundw
            case rel => exact ⟨k + 1, some ⟨gq, 0, none⟩, cq, by omega, by go_num, by rw [HT2.out, hLe]; exact hD10, by rw [HT2.out, hLe, List.append_nil, HFC.out]; exact hnr, fun b hb => .inr (by rw [HT2.out, hLe] at hb; have := own_new hown9 b hb; omega)⟩
            case measure => simp [intOf]; omega
          · have hFl : 0 < FN.length := List.length_pos_iff.2 h0
            have HF3 := Lib.hid (entry_three FN)
            have HF1 := Lib.hid (entry_one FN)
            clear h0
            go_wp2_with (first
              | (go_at_call 34; ((with_reducible refine (GF.out _ hRW8).mono ?_); rintro e w9 ⟨fa, fc, rfl, hownF, hB9⟩; have hD9 := hD8.after hB9; have hown9 := ownsRow_below (n := 0) hown8 hB9; obtain ⟨fa', fc', hfa, hfc, hfr⟩ := rowV_own hownF; cases hfa; obtain ⟨fb, fo, rfl, hfb, hfx⟩ := hfr.2.2 hFl; have HNW := Lib.hid (show ∀ j u, (entryCells FN)[j]? = some u → w9.cell? ((⟨fb, fo, none⟩ : Addr).add j) = some u from fun j u hu => by (obtain ⟨hj, rfl⟩ := List.getElem?_eq_some_iff.1 hu; rw [add_off]; exact hfx j hj)); clear g0 g1 g2 g3 g4 g5 g6 p1 p2 p3 p4 p5 p6 p7 p8 p9 x0 x1 x2 x3 x4 x5 x6 fx s0 s1 s2 hfx hfr hownF; obtain ⟨g0, g1, g2, g3, g4, g5, g6, -⟩ := cells7 hD9.d.gb; obtain ⟨p1, p2, p3, p4, p5, p6, p7⟩ := cells10 hD9.d.pb; have p8 := cell_of_row _ _ 8 _ _ _ hD9.d.pb; have p9 := cell_of_row _ _ 9 _ _ _ hD9.d.pb; obtain ⟨x0, x1, x2, x3, x4, x5, x6, fx⟩ := cells7 hD9.xb))
              | (at_builtin; refine wpList_append_own _ rfl _ _ 24 rfl Bz 38 i9 (.agg #[.int .i64 0, .int .i64 0, .string ⟨#[]⟩]) 3 32 Try.underlying24 hi9 hz0 hz1 hz2 rfl (by decide) _ _ _ rfl hown9 ⟨fb, fo, none⟩ FN.length fc (entryCells FN) rfl HF3.out HNW.out HF1.out (by unfold maxLen; omega) (by omega) (by have := hB9.size; omega) ?_; intro v' w10 hown10 hgrow10 _; obtain ⟨na, nc, rfl, hnc, hnr⟩ := rowV_own hown10; have hD10 := RDoW.grown hD9 hgrow10 (fun k hk => by have := ownBlock_ge hown9 hk; omega); clear g0 g1 g2 g3 g4 g5 g6 p1 p2 p3 p4 p5 p6 p7 p8 p9 x0 x1 x2 x3 x4 x5 x6 fx; obtain ⟨g0, g1, g2, g3, g4, g5, g6, -⟩ := cells7 hD10.d.gb; obtain ⟨p1, p2, p3, p4, p5, p6, p7⟩ := cells10 hD10.d.pb; have p8 := cell_of_row _ _ 8 _ _ _ hD10.d.pb; have p9 := cell_of_row _ _ 9 _ _ _ hD10.d.pb; obtain ⟨x0, x1, x2, x3, x4, x5, x6, fx⟩ := cells7 hD10.xb))
            have hD11 := hD10.set 6 (.slice na (BL.length + 1 + FN.length) nc)
            simp only [List.setIfInBounds_toArray, List.set_cons_succ, List.set_cons_zero] at hD11
            obtain ⟨na', nc', hna, -, hnr2⟩ := rowV_own (own_frame hown10 (FrameT.setCell w10 (w.heap.size + 1 + 1 + 1) 6 (.slice na (BL.length + 1 + FN.length) nc)) (fun k hk h => by omega))
            cases hna
            have hLe : (BL ++ [(⟨ei, et, ed⟩ : EntryC)] ++ FN).length = BL.length + 1 + FN.length := by simp; omega
            go_roundw
            case rel => exact ⟨k + 1, na, nc, by omega, by go_num, by rw [HT2.out, hLe]; exact hD11, by rw [HT2.out, hLe, HFB.out, HFC.out]; exact hnr2, fun b hb => .inr (by rw [HT2.out, hLe] at hb; have := own_new hown10 b hb; omega)⟩
            case measure => simp [intOf]; omega
  obtain rfl : k = pl.length := by omega
  rw [List.take_length] at hD hRW hNb
  rw [List.take_length] at hLk
  have HL := Lib.hid hLk
  have hHR := Lib.hid hRW
  have hNb2 := Lib.hid hNb
  clear hRW hNb hLk
  obtain ⟨r0, r1, r2, r3, r4, r5, r6, fr⟩ := cells7 hD.d.rb
  go_wp2
  obtain ⟨hb7, hbel, hF7⟩ := hD.fin
  obtain ⟨e0, e1, e2, e3, e4, e5, e6, -⟩ := cells7 hb7
  refine bodyPost_ret (v := .agg #[.int .i64 did, .int .i64 dfi, .int .i64 dte, .int .i64 pht, .int .i64 phv, .int .i64 phc, .slice a2 (fillL dfi dl pl).length c2]) (by simp [results, Try.results36, go_sem, e0, e1, e2, e3, e4, e5, e6]) rfl ?_
  exact ⟨a2, c2, rfl, ⟨by show (fillL dfi dl pl).length < 1000000; have := HL.out; omega, rowV_frame hHR.out hF7 (fun k hk h => by have := (hNb2.out k hk).imp (hal k) (fun x => x); omega)⟩, hbel, fun k hk => (hNb2.out k hk).imp (fun x => x) (fun x => by omega)⟩

theorem refFill_any (id fi te ht hv hc : Int) (l : List EntryC) (a : Option Addr) (cap : Nat) (pg pk : Int) (pa : Option Addr) (plen pcap : Nat) (pht phv phc pi pt : Int) (pm ph : Bool) (pl : List EntryC) (w : World) (hg : HasG w a ⟨id, fi, te, ht, hv, hc, l⟩) (hr : Ris l) (hp : HasE w ⟨pg, pk, pa, plen, pcap, pht, phv, phc, pi, pt, pm, ph⟩ pl) (hpl9 : pl.length ≤ 100) (h30 : l.length ≤ 100000) (hpi : pm = true → 1 ≤ pi ∧ pi ≤ 1099511627776) : Calls Try.prog 36 #[.agg #[.int .i64 id, .int .i64 fi, .int .i64 te, .int .i64 ht, .int .i64 hv, .int .i64 hc, .slice a l.length cap], .agg #[.int .i64 pg, .int .i64 pk, .slice pa plen pcap, .int .i64 pht, .int .i64 phv, .int .i64 phc, .int .i64 pi, .int .i64 pt, .bool pm, .bool ph]] w (RDoPost w a l.length (fillM ⟨id, fi, te, ht, hv, hc, l⟩ ⟨pg, pk, pa, plen, pcap, pht, phv, phc, pi, pt, pm, ph⟩ pl)) := by
  obtain rfl : pl.length = plen := hp.1
  unfold fillM
  dsimp only
  cases pm
  · cases ph
    · rw [if_neg (by simp), if_neg (by simp)]; exact refFill_00 id fi te ht hv hc l a cap pg pk pa pcap pht phv phc pi pt pl w hg hr hp hpl9 h30
    · rw [if_pos rfl, if_neg (by simp)]; exact refFill_01 id fi te ht hv hc l a cap pg pk pa pcap pht phv phc pi pt pl w hg hr hp hpl9 h30
  · cases ph
    · rw [if_neg (by simp), if_pos rfl]; exact refFill_10 id fi te ht hv hc l a cap pg pk pa pcap pht phv phc pi pt pl w hg hr hp hpl9 h30 (hpi rfl)
    · rw [if_pos rfl, if_pos rfl]; exact refFill_11 id fi te ht hv hc l a cap pg pk pa pcap pht phv phc pi pt pl w hg hr hp hpl9 h30 (hpi rfl)

end Go.Proofs.Ytfbibpnkfmgkaaa
