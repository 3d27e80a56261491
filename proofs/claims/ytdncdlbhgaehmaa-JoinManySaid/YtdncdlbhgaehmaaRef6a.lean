/- Ref6a, Ref6b, Ref6c: in one text. -/
import Derived.Test.YtdncdlbhgaehmaaGrpTrm
import Derived.Test.YtdncdlbhgaehmaaRefPart
import Derived.Test.YtdncdlbhgaehmaaGrpMath
import Derived.Test.YtdncdlbhgaehmaaFew6
/- The contracts of the document's groups: Same, Is, Last, New. -/
namespace Go.Proofs.Ytdncdlbhgaehmaa
open Go.RowKit Go.Shelf
set_option linter.unusedVariables false
attribute [local go_sem] Oper.semAt_some wide_fn wide_round_fn

theorem neqHardG (a b c d e f : Int) (w : World) : (binOp .neq 39 (.agg #[.int .i64 a, .int .i64 b, .int .i64 c]) (.agg #[.int .i64 d, .int .i64 e, .int .i64 f])).run Try.prog w = .ok (.bool (!(decide (a = d ∧ b = e ∧ c = f)))) w := by
  rw [run_neq_struct, eqHard]; rfl

theorem cells7r {W : World} {b : Nat} {T : TypeId} {v0 v1 v2 v3 v4 v5 v6 : Value} (h : W.heap[b]? = some (.cells #[v0, v1, v2, v3, v4, v5, v6] T (0, 0))) :
    W.cell? ⟨b, 0, none⟩ = some v0 ∧ W.cell? ⟨b, 1, none⟩ = some v1 ∧ W.cell? ⟨b, 2, none⟩ = some v2 ∧ W.cell? ⟨b, 3, none⟩ = some v3 ∧ W.cell? ⟨b, 4, none⟩ = some v4 ∧ W.cell? ⟨b, 5, none⟩ = some v5 ∧ W.cell? ⟨b, 6, none⟩ = some v6 ∧ True :=
  ⟨cell_of_row _ _ 0 _ _ _ h, cell_of_row _ _ 1 _ _ _ h, cell_of_row _ _ 2 _ _ _ h, cell_of_row _ _ 3 _ _ _ h, cell_of_row _ _ 4 _ _ _ h, cell_of_row _ _ 5 _ _ _ h, cell_of_row _ _ 6 _ _ _ h, trivial⟩

set_option maxRecDepth 100000 in
set_option maxHeartbeats 4000000 in
theorem refIsBad_any (id fi te ht hv hc : Int) (l : List EntryC) (a : Option Addr) (cap : Nat) (w : World) (h : ¬ ((0 ≤ id ∧ id ≤ 999) ∧ (1 ≤ fi ∧ fi ≤ 1099511627777) ∧ (0 ≤ te ∧ te ≤ 1099511627776))) : Gives Try.prog 53 #[.agg #[.int .i64 id, .int .i64 fi, .int .i64 te, .int .i64 ht, .int .i64 hv, .int .i64 hc, .slice a l.length cap], .bool true] w (.bool false) := by
  have h2 : id < 0 ∨ (0 ≤ id ∧ 999 < id) ∨ ((0 ≤ id ∧ id ≤ 999) ∧ fi < 1) ∨ ((0 ≤ id ∧ id ≤ 999) ∧ 1 ≤ fi ∧ 1099511627777 < fi) ∨ ((0 ≤ id ∧ id ≤ 999) ∧ (1 ≤ fi ∧ fi ≤ 1099511627777) ∧ te < 0) ∨ ((0 ≤ id ∧ id ≤ 999) ∧ (1 ≤ fi ∧ fi ≤ 1099511627777) ∧ 0 ≤ te ∧ 1099511627776 < te) := by omega
  clear h
  unfold Gives
  rcases h2 with h | ⟨h0, h⟩ | ⟨⟨h0, h1⟩, h⟩ | ⟨⟨h0, h1⟩, h2, h⟩ | ⟨⟨h0, h1⟩, ⟨h2, h3⟩, h⟩ | ⟨⟨h0, h1⟩, ⟨h2, h3⟩, h4, h⟩
  all_goals
    go_enter Try.func53, Try.ntmps53
    go_wp2
    go_ret
    exact ⟨by simp, bel_alloc (Below.refl _ _) _⟩

set_option maxRecDepth 100000 in
set_option maxHeartbeats 4000000 in
theorem refIs_group (id fi te ht hv hc : Int) (l : List EntryC) (a : Option Addr) (cap : Nat) (w : World) (hg : HasG w a ⟨id, fi, te, ht, hv, hc, l⟩) : Gives Try.prog 53 #[.agg #[.int .i64 id, .int .i64 fi, .int .i64 te, .int .i64 ht, .int .i64 hv, .int .i64 hc, .slice a l.length cap], .bool true] w (.bool (isG ⟨id, fi, te, ht, hv, hc, l⟩)) := by
  by_cases hb : (0 ≤ id ∧ id ≤ 999) ∧ (1 ≤ fi ∧ fi ≤ 1099511627777) ∧ (0 ≤ te ∧ te ≤ 1099511627776)
  · have HV := Lib.hid (show isG ⟨id, fi, te, ht, hv, hc, l⟩ = (hardB ht hv hc && denseB l fi) by
      rw [Bool.eq_iff_iff, isG_iff]; simp only [hb, true_and, Bool.and_eq_true])
    rw [HV.out]
    obtain ⟨⟨h0, h1⟩, ⟨h2, h3⟩, h4, h5⟩ := hb
    have GH := Lib.hid (fun W => refIsHard_any ht hv hc W)
    rw [hardB_swap] at GH
    have hm := hg.1
    have hcs := hg.2.2.2
    dsimp only at hm hcs
    clear hg HV
    unfold Gives
    generalize hardB ht hv hc = bh at *
    cases bh
    · go_enter Try.func53, Try.ntmps53
      go_wp2_with (go_at_call 83; ((with_reducible refine (GH.out _).mono ?_); rintro e w1 ⟨rfl, hB1⟩))
      go_ret
      exact ⟨by simp, blk_below hB1⟩
    · simp only [Bool.true_and]
      go_enter Try.func53, Try.ntmps53
      go_wp2_with (go_at_call 83; ((with_reducible refine (GH.out _).mono ?_); rintro e w1 ⟨rfl, hB1⟩; obtain ⟨g0, g1, g2, g3, g4, g5, g6⟩ := gbox hB1))
      clear g0 g1 g2 g3 g4 g5 g6
      go_loopw [5, 6, 7] (fun qa q _ wr => ∃ k : Nat, k ≤ l.length ∧ q = .int .i64 k ∧ qa = .int .i64 (fi + k) ∧ denseB (l.take k) fi = true ∧ Below (w.alloc (.cells #[.int .i64 id, .int .i64 fi, .int .i64 te, .int .i64 ht, .int .i64 hv, .int .i64 hc, .slice a l.length cap] 65)).heap.size (w.alloc (.cells #[.int .i64 id, .int .i64 fi, .int .i64 te, .int .i64 ht, .int .i64 hv, .int .i64 hc, .slice a l.length cap] 65)) wr) (fun _ q _ _ => l.length - (intOf q).toNat)
      case atStart => exact ⟨0, by omega, rfl, by simp, rfl, hB1⟩
      case round =>
        obtain ⟨k, hk, rfl, rfl, hd, hB⟩ := hrel
        clear hB1
        have hBw := blk_below hB
        obtain ⟨-, -, -, -, -, -, g6⟩ := gbox hB
        by_cases hlt : k < l.length
        · obtain ⟨b, off, rfl, hb, hx⟩ := hcs (by omega)
          obtain ⟨d0, d1, d2⟩ := entry_at hb hBw hx hlt
          have HT := Lib.hid (denseB_take l fi k hlt)
          have HN := Lib.hid (fun h => denseB_no (f := fi) hlt h)
          have HD := Lib.hid hd
          have hk0 : (0 : Int) ≤ (k : Int) := by omega
          have hkl : (k : Int) < (l.length : Int) := by omega
          have hsum : fi + (k : Int) ≤ 9223372036854775800 := by omega
          have hgs : w.heap.size < wr.heap.size := by have := hB.size; simp at this; omega
          have HNX := Lib.hid (show fi + (k : Int) + 1 = fi + ((k + 1 : Nat) : Int) by push_cast; omega)
          clear hx hd
          generalize l[k] = x at *
          have GE := Lib.hid (refIsEntry_any x)
          obtain ⟨xi, xt, xd⟩ := x
          dsimp only [EntryC.val] at *
          cases he : entryB ⟨xi, xt, xd⟩
          · have HN2 := Lib.hid (HN.out (by rw [he]; rfl))
            rw [he] at GE
            clear HT HN he
            go_wp2_with (go_at_call 84; ((with_reducible refine (GE.out _).mono ?_); rintro e w2 ⟨rfl, hB2⟩))
            go_ret
            exact ⟨by simp [HN2.out], bel2 hBw (bel2 (bel_alloc (Below.refl _ _) _) hB2)⟩
          · rw [he] at GE
            by_cases hi : xi = fi + k
            · have HT2 := Lib.hid (show denseB (l.take (k + 1)) fi = true by rw [HT.out, HD.out, he, decide_eq_true hi]; rfl)
              have HXI := Lib.hid hi
              have ht0 : (xi == fi + (k : Int)) = true := by rw [beq_iff_eq]; exact hi
              have ht1 : (xi != fi + (k : Int)) = false := by rw [bne_eq_false_iff_eq]; exact hi
              have ht2 : decide (xi < fi + (k : Int)) = false := by rw [decide_eq_false_iff_not]; omega
              have hx9 : xi ≤ 9223372036854775800 := by omega
              have hx8 : 0 ≤ xi := by omega
              clear HT HN he hi
              go_wp2_with (go_at_call 84; ((with_reducible refine (GE.out _).mono ?_); rintro e w2 ⟨rfl, hB2⟩; have hA2 := bel2 (bel_alloc (Below.refl wr.heap.size wr) (.cells #[.int .i64 xi, .int .i64 xt, .string xd] 115)) hB2; have x0 : w2.cell? ⟨wr.heap.size, 0, none⟩ = some (.int .i64 xi) := blk_cell hB2 0))
              go_roundw
              case rel => exact ⟨k + 1, by omega, by go_num, by rw [HXI.out, HNX.out], HT2.out, bel2 hB hA2⟩
              case measure => simp [intOf]; omega
            · have HN2 := Lib.hid (HN.out (by rw [he, decide_eq_false hi]; rfl))
              have ht0 : (xi == fi + (k : Int)) = false := by rw [beq_eq_false_iff_ne]; exact hi
              have ht1 : (xi != fi + (k : Int)) = true := by rw [bne_iff_ne]; exact hi
              clear HT HN he hi
              rcases Bool.eq_false_or_eq_true (decide (xi < fi + (k : Int))) with ht2 | ht2
              all_goals
                go_wp2_with (go_at_call 84; ((with_reducible refine (GE.out _).mono ?_); rintro e w2 ⟨rfl, hB2⟩; have hA2 := bel2 (bel_alloc (Below.refl wr.heap.size wr) (.cells #[.int .i64 xi, .int .i64 xt, .string xd] 115)) hB2; have x0 : w2.cell? ⟨wr.heap.size, 0, none⟩ = some (.int .i64 xi) := blk_cell hB2 0))
                go_ret
                exact ⟨by simp [HN2.out], bel2 hBw hA2⟩
        · obtain rfl : k = l.length := by omega
          rw [List.take_length] at hd
          have HD := Lib.hid hd
          clear hd
          go_wp2
          go_ret
          exact ⟨by simp [HD.out], hBw⟩
  · have HV := Lib.hid (show isG ⟨id, fi, te, ht, hv, hc, l⟩ = false by
      rw [Bool.eq_false_iff]; intro h; exact hb (isG_iff.1 h).1)
    rw [HV.out]
    exact refIsBad_any id fi te ht hv hc l a cap w hb

theorem refIsG_any (id fi te ht hv hc : Int) (l : List EntryC) (a : Option Addr) (cap : Nat) (w : World) (hg : HasG w a ⟨id, fi, te, ht, hv, hc, l⟩) : Gives Try.prog 31 #[.agg #[.int .i64 id, .int .i64 fi, .int .i64 te, .int .i64 ht, .int .i64 hv, .int .i64 hc, .slice a l.length cap]] w (.bool (isG ⟨id, fi, te, ht, hv, hc, l⟩)) := by
  have GI := Lib.hid (fun W (hB : Below w.heap.size w W) => refIs_group id fi te ht hv hc l a cap W (hg.below hB))
  generalize isG ⟨id, fi, te, ht, hv, hc, l⟩ = b at *
  have HA := Lib.hid (bel_alloc (Below.refl w.heap.size w) (.cells #[.int .i64 id, .int .i64 fi, .int .i64 te, .int .i64 ht, .int .i64 hv, .int .i64 hc, .slice a l.length cap] 65))
  clear hg
  unfold Gives
  go_enter Try.func31, Try.ntmps31
  go_wp2_with (go_at_call 53; ((with_reducible refine (GI.out _ HA.out).mono ?_); rintro e w1 ⟨rfl, hB1⟩))
  go_ret
  exact ⟨rfl, bel2 HA.out hB1⟩

end Go.Proofs.Ytdncdlbhgaehmaa

/- The contracts of the document's groups: Term, Entries. -/
namespace Go.Proofs.Ytdncdlbhgaehmaa
open Go.RowKit Go.Shelf Go.Deep Go.ChangeShapes Go.WideShapes
set_option linter.unusedVariables false
attribute [local go_sem] Oper.semAt_some wide_fn wide_round_fn

theorem group_le {H : Type} {enc : TypeId × Value → H} {W : World} {d : DataW H} {ps : List MemPlace} {g : GM} {a : Option Addr} {cap : Nat}
    (h : DataW.Trod enc Try.prog W 0 (fun _ => true) true 65 (g.val a cap) d ps) : g.l.length ≤ cap := by
  obtain ⟨id, fi, te, ht, hv, hc, l⟩ := g
  replace h : DataW.Trod enc Try.prog W 0 (fun _ => true) true 65 (.agg #[.int .i64 id, .int .i64 fi, .int .i64 te, .int .i64 ht, .int .i64 hv, .int .i64 hc, .slice a l.length cap]) d ps := h
  obtain ⟨fuel, hf⟩ := h
  have ks : Try.prog.cellsOf 37 = 1 := by kernel_rfl
  simp only [Value.cells] at hf
  obtain ⟨xs, n', _, _, _, hxl, hf⟩ := DataW.trod_struct Try.underlying65 hf
  match xs, hxl with
  | [y0, y1, y2, y3, y4], _ =>
    have hen := trod_field hf 4 6 1 37 rfl ks
    rcases open_slice Try.underlying37 hen with ⟨hcs, _⟩ | ⟨ad, len', cap', _, _, _, _, hcs, _, hl, _⟩
    · simp at hcs; simp [hcs]
    · simp at hcs; obtain ⟨-, rfl, rfl⟩ := hcs; exact hl

/-- A part of a row. -/
theorem row_part {w : World} {b off : Nat} {l : List EntryC} (hb : b < w.heap.size) (hc : ∀ j (h : j < (entryCells l).length), w.cell? ⟨b, off + j, none⟩ = some (entryCells l)[j]) {k m : Nat} (hkm : k < m) (hm : m ≤ l.length) (hl : l.length < 1000000) :
    RowV w (some ⟨b, off + k * 3, none⟩) ((l.take m).drop k).length 3 (entryCells ((l.take m).drop k)) := by
  have hlen : ∀ x : List EntryC, (entryCells x).length = x.length * 3 := fun x => by
    induction x with
    | nil => rfl
    | cons e r ih => simp [entryCells] at ih ⊢; simp [EntryC.cells]; omega
  have hd : ((l.take m).drop k).length = m - k := by simp; omega
  refine ⟨by rw [hlen], by rw [hd]; simp [maxLen]; omega, fun _ => ⟨b, off + k * 3, rfl, hb, fun j hj => ?_⟩⟩
  have hsp : entryCells l = entryCells (l.take k) ++ (entryCells ((l.take m).drop k) ++ entryCells (l.drop m)) := by
    unfold entryCells
    rw [← List.flatten_append, ← List.map_append, ← List.flatten_append, ← List.map_append]
    congr 1
    have e1 : l.take m = l.take k ++ (l.take m).drop k := by
      conv => lhs; rw [← List.take_append_drop k (l.take m)]
      rw [List.take_take, Nat.min_eq_left (by omega)]
    rw [← List.append_assoc, ← e1, List.take_append_drop]
  have h9 : (entryCells (l.take k)).length = k * 3 := by rw [hlen]; simp; omega
  have hj2 : k * 3 + j < (entryCells l).length := by rw [hsp]; simp only [List.length_append]; omega
  have := hc (k * 3 + j) hj2
  rw [show off + k * 3 + j = off + (k * 3 + j) by omega, this]
  congr 1
  rw [List.getElem_of_eq hsp, List.getElem_append_right (by omega), List.getElem_append_left (by rw [h9]; omega)]
  congr 1
  omega

end Go.Proofs.Ytdncdlbhgaehmaa

/- The contracts of the document's groups: below, from, At. -/
namespace Go.Proofs.Ytdncdlbhgaehmaa
open Go.RowKit Go.Shelf Go.ChangeShapes Go.WideShapes Go.ChangeAt
set_option linter.unusedVariables false
attribute [local go_sem] Oper.semAt_some wide_fn wide_round_fn

def belL (l : List EntryC) (i : Int) : List EntryC := l.filter fun e => decide (e.i < i)
def froL (l : List EntryC) (i : Int) : List EntryC := l.filter fun e => decide (i ≤ e.i)
theorem belL_take (l : List EntryC) (i : Int) (k : Nat) (h : k < l.length) : belL (l.take (k + 1)) i = belL (l.take k) i ++ if l[k].i < i then [l[k]] else [] := by
  unfold belL
  rw [List.take_succ_eq_append_getElem h, List.filter_append]
  congr 1
  by_cases hc : l[k].i < i <;> simp [hc]
theorem froL_take (l : List EntryC) (i : Int) (k : Nat) (h : k < l.length) : froL (l.take (k + 1)) i = froL (l.take k) i ++ if i ≤ l[k].i then [l[k]] else [] := by
  unfold froL
  rw [List.take_succ_eq_append_getElem h, List.filter_append]
  congr 1
  by_cases hc : i ≤ l[k].i <;> simp [hc]
theorem belL_le (l : List EntryC) (i : Int) : (belL l i).length ≤ l.length := List.length_filter_le _ _
theorem froL_le (l : List EntryC) (i : Int) : (froL l i).length ≤ l.length := List.length_filter_le _ _
/-- Where the first entry of an index stands; -1. -/
def atM (l : List EntryC) (i : Int) : Int := if l.findIdx (fun e => e.i == i) < l.length then (l.findIdx (fun e => e.i == i) : Int) else -1
theorem atM_at {l : List EntryC} {i : Int} {k : Nat} (hk : k < l.length) (h : l[k].i = i) (hn : ∀ j (hj : j < k), (l[j]'(by omega)).i ≠ i) : atM l i = k := by
  have : l.findIdx (fun e => e.i == i) = k := (List.findIdx_eq hk).2 ⟨by simp [h], fun j hj => by simpa using hn j hj⟩
  unfold atM; rw [this, if_pos hk]
theorem atM_no {l : List EntryC} {i : Int} (hn : ∀ j (hj : j < l.length), l[j].i ≠ i) : atM l i = -1 := by
  unfold atM
  rw [if_neg]
  intro h
  have := List.findIdx_getElem (w := h)
  exact hn _ h (by simpa using this)
theorem atM_dense {l : List EntryC} {f : Int} (h : denseB l f = true) (i : Int) : atM l i = if f ≤ i ∧ i < f + l.length then i - f else -1 := by
  by_cases hc : f ≤ i ∧ i < f + l.length
  · rw [if_pos hc, atM_at (k := (i - f).toNat) (by omega) (by rw [(denseB_at h (by omega)).1]; omega) (fun j hj => by rw [(denseB_at h (by omega)).1]; omega)]
    omega
  · rw [if_neg hc]
    exact atM_no fun j hj => by rw [(denseB_at h hj).1]; omega
theorem belL_dense {l : List EntryC} {f : Int} (h : denseB l f = true) (hf : 1 ≤ f ∧ f ≤ 1099511627777) (i : Int) : belL l i = btw l minI (i - 1) := by
  unfold belL btw
  refine List.filter_congr fun e he => ?_
  obtain ⟨k, hk, rfl⟩ := List.getElem_of_mem he
  have := (denseB_at h hk).1
  have h0 : minI ≤ l[k].i := by unfold minI; omega
  simp [h0]; omega
theorem froL_dense {l : List EntryC} {f : Int} (h : denseB l f = true) (hf : 1 ≤ f ∧ f ≤ 1099511627777) (hl : l.length ≤ 100000) (i : Int) : froL l i = btw l i maxI := by
  unfold froL btw
  refine List.filter_congr fun e he => ?_
  obtain ⟨k, hk, rfl⟩ := List.getElem_of_mem he
  have := (denseB_at h hk).1
  have h0 : l[k].i ≤ maxI := by unfold maxI; omega
  simp [h0]

end Go.Proofs.Ytdncdlbhgaehmaa
