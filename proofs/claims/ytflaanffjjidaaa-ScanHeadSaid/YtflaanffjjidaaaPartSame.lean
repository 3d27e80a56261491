/- The contracts of slices.Equal at entries, and of package part's Same. -/
import Derived.Test.YtflaanffjjidaaaPart
import Derived.Laws.Strings
namespace Go.Proofs.Ytflaanffjjidaaa
open Go.RowKit Go.Shelf
set_option linter.unusedVariables false
attribute [local go_sem] Oper.semAt_some wide_fn wide_round_fn

theorem entry_at {w W : World} {b off : Nat} {l : List EntryC} (hb : b < w.heap.size) (hB : Below w.heap.size w W) (hc : ∀ j (h : j < (entryCells l).length), w.cell? ⟨b, off + j, none⟩ = some (entryCells l)[j]) {k : Nat} (hk : k < l.length) :
    W.cell? ⟨b, off + k * 3, none⟩ = some (.int .i64 l[k].i) ∧ W.cell? ⟨b, off + k * 3 + 1, none⟩ = some (.int .i64 l[k].t) ∧ W.cell? ⟨b, off + k * 3 + 2, none⟩ = some (.string l[k].d) := by
  have cell : ∀ i v, i < 3 → (l[k].cells)[i]? = some v → W.cell? ⟨b, off + (k * 3 + i), none⟩ = some v := fun i v hi hv =>
    (hB.cell (p := ⟨b, off + (k * 3 + i), none⟩) hb).trans (RowV.at_ (len := l.length) (sz := 3) hc (by rw [entryCells, flat_at EntryC.cells 3 EntryC.len l k i hk hi]; exact hv))
  exact ⟨cell 0 _ (by decide) rfl, cell 1 _ (by decide) rfl, cell 2 _ (by decide) rfl⟩

theorem listEq (a b : ByteArray) : a.toList = b.toList ↔ a = b := by
  rw [ByteArray.toList_eq, ByteArray.toList_eq]
  exact ⟨fun h => ByteArray.ext (Array.toList_inj.mp h), fun h => by rw [h]⟩
theorem eqEntry (x y : EntryC) (w : World) : (Op.equalIn 10000 67 x.val y.val).run Try.prog w = .ok (decide (x = y)) w := by
  have hS : Try.prog.underlying 67 = some (.struct (Try.prog.fieldsOf 67)) := by kernel_rfl
  obtain ⟨a, b, c⟩ := x
  obtain ⟨d, e, f⟩ := y
  dsimp only [EntryC.val]
  rw [show (10000 : Nat) = 9999 + 1 from rfl, run_equalIn_agg w 9999 67 _ _ hS (by kernel_rfl)]
  simp only [Program.fieldsOf, Try.underlying67]
  go_simp
  by_cases h1 : a = d <;> by_cases h2 : b = e <;> by_cases h3 : c = f <;> simp [h1, h2, h3, listEq]
theorem neqEntry (x y : EntryC) (w : World) : (binOp .neq 67 (.agg #[.int .i64 x.i, .int .i64 x.t, .string x.d]) (.agg #[.int .i64 y.i, .int .i64 y.t, .string y.d])).run Try.prog w = .ok (.bool (!(decide (x = y)))) w := by
  rw [run_neq_struct]
  have := eqEntry x y w
  dsimp only [EntryC.val] at this
  rw [this]; rfl

set_option maxRecDepth 100000 in
set_option maxHeartbeats 1000000 in
theorem equal_any (a b : Option Addr) (n1 n2 c1 c2 : Nat) (l m : List EntryC) (hl : l.length = n1) (hm : m.length = n2) (hn1 : n1 < 1000000) (hn2 : n2 < 1000000) (w : World) (h1 : RowV w a n1 3 (entryCells l)) (h2 : RowV w b n2 3 (entryCells m)) :
    Gives Try.prog 125 #[.slice a n1 c1, .slice b n2 c2] w (.bool (decide (l = m))) := by
  have hc1 := h1.2.2
  have hc2 := h2.2.2
  clear h1 h2
  unfold Gives
  by_cases hne : n1 = n2
  · subst hne
    go_enter Try.func125, Try.ntmps125
    go_wp2
    go_loopw [13] (fun i wr => ∃ k : Nat, k ≤ n1 ∧ i = .int .i64 k ∧ l.take k = m.take k ∧ Below w.heap.size w wr) (fun i _ => n1 - (intOf i).toNat)
    case atStart => exact ⟨0, by omega, rfl, rfl, Below.refl _ _⟩
    case round =>
      obtain ⟨k, hk, rfl, ht, hB⟩ := hrel
      have HT := Lib.hid ht
      clear ht
      by_cases hlt : k < n1
      · obtain ⟨b1, o1, rfl, hb1, hx1⟩ := hc1 (by omega)
        obtain ⟨b2, o2, rfl, hb2, hx2⟩ := hc2 (by omega)
        have hkl : k < l.length := by omega
        have hkm : k < m.length := by omega
        obtain ⟨d0, d1, d2⟩ := entry_at hb1 hB hx1 hkl
        obtain ⟨f0, f1, f2⟩ := entry_at hb2 hB hx2 hkm
        have HS := Lib.hid (show l[k] = m[k] → l.take (k + 1) = m.take (k + 1) by intro h; rw [List.take_succ_eq_append_getElem hkl, List.take_succ_eq_append_getElem hkm, HT.out, h])
        have HN := Lib.hid (show l[k] ≠ m[k] → decide (l = m) = false by intro h; simp; rintro rfl; exact h rfl)
        clear hx1 hx2
        generalize l[k] = x at *
        generalize m[k] = y at *
        have hne := fun w => neqEntry x y w
        by_cases hxy : x = y
        · rw [decide_eq_true hxy] at hne
          have HS' := Lib.hid (HS.out hxy)
          clear HS HN
          subst hxy
          go_wp2
          go_quiet (fail)
          go_wp2
          go_roundw
          case rel => exact ⟨k + 1, by omega, by go_num, HS'.out, below_drewN hB _⟩
          case measure => simp [intOf]; omega
        · rw [decide_eq_false hxy] at hne
          have HN' := Lib.hid (HN.out hxy)
          clear HS HN hxy
          go_wp2
          go_quiet (fail)
          go_wp2
          go_ret
          exact ⟨by rw [HN'.out]; rfl, below_drewN hB _⟩
      · obtain rfl : k = n1 := by omega
        have HV := Lib.hid (show decide (l = m) = true by
          have := HT.out
          rw [List.take_of_length_le (by omega), List.take_of_length_le (by omega)] at this
          simp [this])
        go_wp2
        go_ret
        exact ⟨by rw [HV.out]; rfl, hB⟩
  · have HV := Lib.hid (show decide (l = m) = false by simp; rintro rfl; omega)
    go_enter Try.func125, Try.ntmps125
    go_wp2
    go_ret
    exact ⟨by rw [HV.out]; rfl, Below.refl _ _⟩

/-- A part. -/
structure PartC where
  g : Int
  k : Int
  a : Option Addr
  len : Nat
  cap : Nat
  ht : Int
  hv : Int
  hc : Int
  i : Int
  t : Int
  m : Bool
  h : Bool
abbrev PartC.val (p : PartC) : Value := .agg #[.int .i64 p.g, .int .i64 p.k, .slice p.a p.len p.cap, .int .i64 p.ht, .int .i64 p.hv, .int .i64 p.hc, .int .i64 p.i, .int .i64 p.t, .bool p.m, .bool p.h]
abbrev PartC.arr (p : PartC) : Array Value := #[.int .i64 p.g, .int .i64 p.k, .slice p.a p.len p.cap, .int .i64 p.ht, .int .i64 p.hv, .int .i64 p.hc, .int .i64 p.i, .int .i64 p.t, .bool p.m, .bool p.h]
/-- What is in a part's entries. -/
def HasE (w : World) (p : PartC) (l : List EntryC) : Prop := l.length = p.len ∧ p.len < 1000000 ∧ RowV w p.a p.len 3 (entryCells l)
theorem HasE.below {w W : World} {p : PartC} {l : List EntryC} (h : HasE w p l) (hB : Below w.heap.size w W) : HasE W p l := ⟨h.1, h.2.1, h.2.2.below hB⟩
def sameB (p q : PartC) (l m : List EntryC) : Bool :=
  decide (p.g = q.g) && (decide (p.k = q.k) && (decide (l = m) && (decide (p.ht = q.ht ∧ p.hv = q.hv ∧ p.hc = q.hc) && (decide (p.i = q.i) && (decide (p.t = q.t) && (decide (p.m = q.m) && decide (p.h = q.h)))))))

theorem eqHard (a b c d e f : Int) (w : World) : (Op.equalIn 10000 55 (.agg #[.int .i64 a, .int .i64 b, .int .i64 c]) (.agg #[.int .i64 d, .int .i64 e, .int .i64 f])).run Try.prog w = .ok (decide (a = d ∧ b = e ∧ c = f)) w := by
  have hS : Try.prog.underlying 55 = some (.struct (Try.prog.fieldsOf 55)) := by kernel_rfl
  rw [show (10000 : Nat) = 9999 + 1 from rfl, run_equalIn_agg w 9999 55 _ _ hS (by kernel_rfl)]
  simp only [Program.fieldsOf, Try.underlying55]
  go_simp
  by_cases h1 : a = d <;> by_cases h2 : b = e <;> by_cases h3 : c = f <;> simp [h1, h2, h3]
theorem beqHard (a b c d e f : Int) (w : World) : (binOp .eql 55 (.agg #[.int .i64 a, .int .i64 b, .int .i64 c]) (.agg #[.int .i64 d, .int .i64 e, .int .i64 f])).run Try.prog w = .ok (.bool (decide (a = d ∧ b = e ∧ c = f))) w := by
  rw [run_eql_struct, eqHard]; rfl

theorem blk2_cell {w W : World} {cs ds : Array Value} {T U : TypeId} (h : Below ((w.alloc (.cells cs T)).alloc (.cells ds U)).heap.size ((w.alloc (.cells cs T)).alloc (.cells ds U)) W) (j : Nat) :
    W.cell? ⟨w.heap.size, j, none⟩ = cs[j]? ∧ W.cell? ⟨w.heap.size + 1, j, none⟩ = ds[j]? := by
  refine ⟨blk_cell (w := w) (T := T) (bel2 (bel_alloc (Below.refl _ _) _) h) j, ?_⟩
  have := blk_cell (w := w.alloc (.cells cs T)) (T := U) h j
  rwa [World.size_alloc] at this

set_option maxRecDepth 100000 in
set_option maxHeartbeats 2000000 in
theorem same_any (p q : PartC) (l m : List EntryC) (w : World) (h1 : HasE w p l) (h2 : HasE w q m) : Gives Try.prog 112 #[p.val, q.val] w (.bool (sameB p q l m)) := by
  have G := Lib.hid (fun W (hB : Below w.heap.size w W) => equal_any p.a q.a p.len q.len p.cap q.cap l m h1.1 h2.1 h1.2.1 h2.2.1 W (h1.2.2.below hB) (h2.2.2.below hB))
  have hH := fun w => beqHard p.ht p.hv p.hc q.ht q.hv q.hc w
  clear h1 h2
  obtain ⟨g, k, a, len, cap, ht, hv, hc, i, t, mk, hd⟩ := p
  obtain ⟨g', k', a', len', cap', ht', hv', hc', i', t', mk', hd'⟩ := q
  dsimp only [PartC.val, sameB] at *
  generalize decide (l = m) = b3 at *
  generalize decide (ht = ht' ∧ hv = hv' ∧ hc = hc') = b4 at *
  unfold Gives
  have bA := bel_alloc (bel_alloc (Below.refl w.heap.size w) (.cells #[.int .i64 g, .int .i64 k, .slice a len cap, .int .i64 ht, .int .i64 hv, .int .i64 hc, .int .i64 i, .int .i64 t, .bool mk, .bool hd] 70)) (.cells #[.int .i64 g', .int .i64 k', .slice a' len' cap', .int .i64 ht', .int .i64 hv', .int .i64 hc', .int .i64 i', .int .i64 t', .bool mk', .bool hd'] 70)
  by_cases e1 : g = g'
  · subst e1
    by_cases e2 : k = k'
    · subst e2
      cases b3 with
      | false =>
        go_enter Try.func112, Try.ntmps112
        go_wp2_with (go_at_call 125; ((with_reducible refine (G.out _ bA).mono ?_); rintro e w1 ⟨rfl, hB1⟩))
        go_ret
        exact ⟨by simp , bA.trans (hB1.mono bA.size)⟩
      | true =>
        cases b4 with
        | false =>
          go_enter Try.func112, Try.ntmps112
          go_wp2_with (go_at_call 125; ((with_reducible refine (G.out _ bA).mono ?_); rintro e w1 ⟨rfl, hB1⟩; have c3 : w1.cell? ⟨w.heap.size, 3, none⟩ = some (.int .i64 ht) := (blk2_cell hB1 3).1; have d3 : w1.cell? ⟨w.heap.size + 1, 3, none⟩ = some (.int .i64 ht') := (blk2_cell hB1 3).2; have c4 : w1.cell? ⟨w.heap.size, 4, none⟩ = some (.int .i64 hv) := (blk2_cell hB1 4).1; have d4 : w1.cell? ⟨w.heap.size + 1, 4, none⟩ = some (.int .i64 hv') := (blk2_cell hB1 4).2; have c5 : w1.cell? ⟨w.heap.size, 5, none⟩ = some (.int .i64 hc) := (blk2_cell hB1 5).1; have d5 : w1.cell? ⟨w.heap.size + 1, 5, none⟩ = some (.int .i64 hc') := (blk2_cell hB1 5).2; have c6 : w1.cell? ⟨w.heap.size, 6, none⟩ = some (.int .i64 i) := (blk2_cell hB1 6).1; have d6 : w1.cell? ⟨w.heap.size + 1, 6, none⟩ = some (.int .i64 i') := (blk2_cell hB1 6).2; have c7 : w1.cell? ⟨w.heap.size, 7, none⟩ = some (.int .i64 t) := (blk2_cell hB1 7).1; have d7 : w1.cell? ⟨w.heap.size + 1, 7, none⟩ = some (.int .i64 t') := (blk2_cell hB1 7).2; have c8 : w1.cell? ⟨w.heap.size, 8, none⟩ = some (.bool mk) := (blk2_cell hB1 8).1; have d8 : w1.cell? ⟨w.heap.size + 1, 8, none⟩ = some (.bool mk') := (blk2_cell hB1 8).2; have c9 : w1.cell? ⟨w.heap.size, 9, none⟩ = some (.bool hd) := (blk2_cell hB1 9).1; have d9 : w1.cell? ⟨w.heap.size + 1, 9, none⟩ = some (.bool hd') := (blk2_cell hB1 9).2))
          go_ret
          exact ⟨by simp , bA.trans (hB1.mono bA.size)⟩
        | true =>
          by_cases e4 : i = i'
          · subst e4
            by_cases e5 : t = t'
            · subst e5
              by_cases e6 : mk = mk'
              · subst e6
                by_cases e7 : hd = hd'
                · subst e7
                  go_enter Try.func112, Try.ntmps112
                  go_wp2_with (go_at_call 125; ((with_reducible refine (G.out _ bA).mono ?_); rintro e w1 ⟨rfl, hB1⟩; have c3 : w1.cell? ⟨w.heap.size, 3, none⟩ = some (.int .i64 ht) := (blk2_cell hB1 3).1; have d3 : w1.cell? ⟨w.heap.size + 1, 3, none⟩ = some (.int .i64 ht') := (blk2_cell hB1 3).2; have c4 : w1.cell? ⟨w.heap.size, 4, none⟩ = some (.int .i64 hv) := (blk2_cell hB1 4).1; have d4 : w1.cell? ⟨w.heap.size + 1, 4, none⟩ = some (.int .i64 hv') := (blk2_cell hB1 4).2; have c5 : w1.cell? ⟨w.heap.size, 5, none⟩ = some (.int .i64 hc) := (blk2_cell hB1 5).1; have d5 : w1.cell? ⟨w.heap.size + 1, 5, none⟩ = some (.int .i64 hc') := (blk2_cell hB1 5).2; have c6 : w1.cell? ⟨w.heap.size, 6, none⟩ = some (.int .i64 i) := (blk2_cell hB1 6).1; have d6 : w1.cell? ⟨w.heap.size + 1, 6, none⟩ = some (.int .i64 i) := (blk2_cell hB1 6).2; have c7 : w1.cell? ⟨w.heap.size, 7, none⟩ = some (.int .i64 t) := (blk2_cell hB1 7).1; have d7 : w1.cell? ⟨w.heap.size + 1, 7, none⟩ = some (.int .i64 t) := (blk2_cell hB1 7).2; have c8 : w1.cell? ⟨w.heap.size, 8, none⟩ = some (.bool mk) := (blk2_cell hB1 8).1; have d8 : w1.cell? ⟨w.heap.size + 1, 8, none⟩ = some (.bool mk) := (blk2_cell hB1 8).2; have c9 : w1.cell? ⟨w.heap.size, 9, none⟩ = some (.bool hd) := (blk2_cell hB1 9).1; have d9 : w1.cell? ⟨w.heap.size + 1, 9, none⟩ = some (.bool hd) := (blk2_cell hB1 9).2))
                  go_ret
                  exact ⟨by simp , bA.trans (hB1.mono bA.size)⟩
                · go_enter Try.func112, Try.ntmps112
                  go_wp2_with (go_at_call 125; ((with_reducible refine (G.out _ bA).mono ?_); rintro e w1 ⟨rfl, hB1⟩; have c3 : w1.cell? ⟨w.heap.size, 3, none⟩ = some (.int .i64 ht) := (blk2_cell hB1 3).1; have d3 : w1.cell? ⟨w.heap.size + 1, 3, none⟩ = some (.int .i64 ht') := (blk2_cell hB1 3).2; have c4 : w1.cell? ⟨w.heap.size, 4, none⟩ = some (.int .i64 hv) := (blk2_cell hB1 4).1; have d4 : w1.cell? ⟨w.heap.size + 1, 4, none⟩ = some (.int .i64 hv') := (blk2_cell hB1 4).2; have c5 : w1.cell? ⟨w.heap.size, 5, none⟩ = some (.int .i64 hc) := (blk2_cell hB1 5).1; have d5 : w1.cell? ⟨w.heap.size + 1, 5, none⟩ = some (.int .i64 hc') := (blk2_cell hB1 5).2; have c6 : w1.cell? ⟨w.heap.size, 6, none⟩ = some (.int .i64 i) := (blk2_cell hB1 6).1; have d6 : w1.cell? ⟨w.heap.size + 1, 6, none⟩ = some (.int .i64 i) := (blk2_cell hB1 6).2; have c7 : w1.cell? ⟨w.heap.size, 7, none⟩ = some (.int .i64 t) := (blk2_cell hB1 7).1; have d7 : w1.cell? ⟨w.heap.size + 1, 7, none⟩ = some (.int .i64 t) := (blk2_cell hB1 7).2; have c8 : w1.cell? ⟨w.heap.size, 8, none⟩ = some (.bool mk) := (blk2_cell hB1 8).1; have d8 : w1.cell? ⟨w.heap.size + 1, 8, none⟩ = some (.bool mk) := (blk2_cell hB1 8).2; have c9 : w1.cell? ⟨w.heap.size, 9, none⟩ = some (.bool hd) := (blk2_cell hB1 9).1; have d9 : w1.cell? ⟨w.heap.size + 1, 9, none⟩ = some (.bool hd') := (blk2_cell hB1 9).2))
                  go_ret
                  exact ⟨by simp [e7], bA.trans (hB1.mono bA.size)⟩
              · go_enter Try.func112, Try.ntmps112
                go_wp2_with (go_at_call 125; ((with_reducible refine (G.out _ bA).mono ?_); rintro e w1 ⟨rfl, hB1⟩; have c3 : w1.cell? ⟨w.heap.size, 3, none⟩ = some (.int .i64 ht) := (blk2_cell hB1 3).1; have d3 : w1.cell? ⟨w.heap.size + 1, 3, none⟩ = some (.int .i64 ht') := (blk2_cell hB1 3).2; have c4 : w1.cell? ⟨w.heap.size, 4, none⟩ = some (.int .i64 hv) := (blk2_cell hB1 4).1; have d4 : w1.cell? ⟨w.heap.size + 1, 4, none⟩ = some (.int .i64 hv') := (blk2_cell hB1 4).2; have c5 : w1.cell? ⟨w.heap.size, 5, none⟩ = some (.int .i64 hc) := (blk2_cell hB1 5).1; have d5 : w1.cell? ⟨w.heap.size + 1, 5, none⟩ = some (.int .i64 hc') := (blk2_cell hB1 5).2; have c6 : w1.cell? ⟨w.heap.size, 6, none⟩ = some (.int .i64 i) := (blk2_cell hB1 6).1; have d6 : w1.cell? ⟨w.heap.size + 1, 6, none⟩ = some (.int .i64 i) := (blk2_cell hB1 6).2; have c7 : w1.cell? ⟨w.heap.size, 7, none⟩ = some (.int .i64 t) := (blk2_cell hB1 7).1; have d7 : w1.cell? ⟨w.heap.size + 1, 7, none⟩ = some (.int .i64 t) := (blk2_cell hB1 7).2; have c8 : w1.cell? ⟨w.heap.size, 8, none⟩ = some (.bool mk) := (blk2_cell hB1 8).1; have d8 : w1.cell? ⟨w.heap.size + 1, 8, none⟩ = some (.bool mk') := (blk2_cell hB1 8).2; have c9 : w1.cell? ⟨w.heap.size, 9, none⟩ = some (.bool hd) := (blk2_cell hB1 9).1; have d9 : w1.cell? ⟨w.heap.size + 1, 9, none⟩ = some (.bool hd') := (blk2_cell hB1 9).2))
                go_ret
                exact ⟨by simp [e6], bA.trans (hB1.mono bA.size)⟩
            · go_enter Try.func112, Try.ntmps112
              go_wp2_with (go_at_call 125; ((with_reducible refine (G.out _ bA).mono ?_); rintro e w1 ⟨rfl, hB1⟩; have c3 : w1.cell? ⟨w.heap.size, 3, none⟩ = some (.int .i64 ht) := (blk2_cell hB1 3).1; have d3 : w1.cell? ⟨w.heap.size + 1, 3, none⟩ = some (.int .i64 ht') := (blk2_cell hB1 3).2; have c4 : w1.cell? ⟨w.heap.size, 4, none⟩ = some (.int .i64 hv) := (blk2_cell hB1 4).1; have d4 : w1.cell? ⟨w.heap.size + 1, 4, none⟩ = some (.int .i64 hv') := (blk2_cell hB1 4).2; have c5 : w1.cell? ⟨w.heap.size, 5, none⟩ = some (.int .i64 hc) := (blk2_cell hB1 5).1; have d5 : w1.cell? ⟨w.heap.size + 1, 5, none⟩ = some (.int .i64 hc') := (blk2_cell hB1 5).2; have c6 : w1.cell? ⟨w.heap.size, 6, none⟩ = some (.int .i64 i) := (blk2_cell hB1 6).1; have d6 : w1.cell? ⟨w.heap.size + 1, 6, none⟩ = some (.int .i64 i) := (blk2_cell hB1 6).2; have c7 : w1.cell? ⟨w.heap.size, 7, none⟩ = some (.int .i64 t) := (blk2_cell hB1 7).1; have d7 : w1.cell? ⟨w.heap.size + 1, 7, none⟩ = some (.int .i64 t') := (blk2_cell hB1 7).2; have c8 : w1.cell? ⟨w.heap.size, 8, none⟩ = some (.bool mk) := (blk2_cell hB1 8).1; have d8 : w1.cell? ⟨w.heap.size + 1, 8, none⟩ = some (.bool mk') := (blk2_cell hB1 8).2; have c9 : w1.cell? ⟨w.heap.size, 9, none⟩ = some (.bool hd) := (blk2_cell hB1 9).1; have d9 : w1.cell? ⟨w.heap.size + 1, 9, none⟩ = some (.bool hd') := (blk2_cell hB1 9).2))
              go_ret
              exact ⟨by simp [e5], bA.trans (hB1.mono bA.size)⟩
          · go_enter Try.func112, Try.ntmps112
            go_wp2_with (go_at_call 125; ((with_reducible refine (G.out _ bA).mono ?_); rintro e w1 ⟨rfl, hB1⟩; have c3 : w1.cell? ⟨w.heap.size, 3, none⟩ = some (.int .i64 ht) := (blk2_cell hB1 3).1; have d3 : w1.cell? ⟨w.heap.size + 1, 3, none⟩ = some (.int .i64 ht') := (blk2_cell hB1 3).2; have c4 : w1.cell? ⟨w.heap.size, 4, none⟩ = some (.int .i64 hv) := (blk2_cell hB1 4).1; have d4 : w1.cell? ⟨w.heap.size + 1, 4, none⟩ = some (.int .i64 hv') := (blk2_cell hB1 4).2; have c5 : w1.cell? ⟨w.heap.size, 5, none⟩ = some (.int .i64 hc) := (blk2_cell hB1 5).1; have d5 : w1.cell? ⟨w.heap.size + 1, 5, none⟩ = some (.int .i64 hc') := (blk2_cell hB1 5).2; have c6 : w1.cell? ⟨w.heap.size, 6, none⟩ = some (.int .i64 i) := (blk2_cell hB1 6).1; have d6 : w1.cell? ⟨w.heap.size + 1, 6, none⟩ = some (.int .i64 i') := (blk2_cell hB1 6).2; have c7 : w1.cell? ⟨w.heap.size, 7, none⟩ = some (.int .i64 t) := (blk2_cell hB1 7).1; have d7 : w1.cell? ⟨w.heap.size + 1, 7, none⟩ = some (.int .i64 t') := (blk2_cell hB1 7).2; have c8 : w1.cell? ⟨w.heap.size, 8, none⟩ = some (.bool mk) := (blk2_cell hB1 8).1; have d8 : w1.cell? ⟨w.heap.size + 1, 8, none⟩ = some (.bool mk') := (blk2_cell hB1 8).2; have c9 : w1.cell? ⟨w.heap.size, 9, none⟩ = some (.bool hd) := (blk2_cell hB1 9).1; have d9 : w1.cell? ⟨w.heap.size + 1, 9, none⟩ = some (.bool hd') := (blk2_cell hB1 9).2))
            go_ret
            exact ⟨by simp [e4], bA.trans (hB1.mono bA.size)⟩
    · go_enter Try.func112, Try.ntmps112
      go_wp2
      go_ret
      exact ⟨by simp [e2], bA⟩
  · go_enter Try.func112, Try.ntmps112
    go_wp2
    go_ret
    exact ⟨by simp [e1], bA⟩

end Go.Proofs.Ytflaanffjjidaaa
