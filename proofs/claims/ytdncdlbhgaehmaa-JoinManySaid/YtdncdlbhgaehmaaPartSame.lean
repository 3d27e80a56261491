/- PartSame, OpenPart, OpenParts: in one text. -/
import Derived.Test.YtdncdlbhgaehmaaPart
import Derived.Laws.Strings
import Derived.Test.YtdncdlbhgaehmaaRowV
/- The contracts of slices.Equal at entries, and of package part's Same. -/
namespace Go.Proofs.Ytdncdlbhgaehmaa
open Go.RowKit Go.Shelf
set_option linter.unusedVariables false
attribute [local go_sem] Oper.semAt_some wide_fn wide_round_fn

theorem entry_at {w W : World} {b off : Nat} {l : List EntryC} (hb : b < w.heap.size) (hB : Below w.heap.size w W) (hc : ∀ j (h : j < (entryCells l).length), w.cell? ⟨b, off + j, none⟩ = some (entryCells l)[j]) {k : Nat} (hk : k < l.length) :
    W.cell? ⟨b, off + k * 3, none⟩ = some (.int .i64 l[k].i) ∧ W.cell? ⟨b, off + k * 3 + 1, none⟩ = some (.int .i64 l[k].t) ∧ W.cell? ⟨b, off + k * 3 + 2, none⟩ = some (.string l[k].d) := by
  have cell : ∀ i v, i < 3 → (l[k].cells)[i]? = some v → W.cell? ⟨b, off + (k * 3 + i), none⟩ = some v := fun i v hi hv =>
    (hB.cell (p := ⟨b, off + (k * 3 + i), none⟩) hb).trans (RowV.at_ (len := l.length) (sz := 3) hc (by rw [entryCells, flat_at EntryC.cells 3 EntryC.len l k i hk hi]; exact hv))
  exact ⟨cell 0 _ (by decide) rfl, cell 1 _ (by decide) rfl, cell 2 _ (by decide) rfl⟩

theorem listEq (a b : ByteArray) : a.toList = b.toList ↔ a = b := by
  rw [ByteArray.toList_eq, ByteArray.toList_eq]
  exact ⟨fun h => ByteArray.ext (Array.toList_inj.mp h), fun h => by rw [h]⟩
theorem eqEntry (x y : EntryC) (w : World) : (Op.equalIn 10000 115 x.val y.val).run Try.prog w = .ok (decide (x = y)) w := by
  have hS : Try.prog.underlying 115 = some (.struct (Try.prog.fieldsOf 115)) := by kernel_rfl
  obtain ⟨a, b, c⟩ := x
  obtain ⟨d, e, f⟩ := y
  dsimp only [EntryC.val]
  rw [show (10000 : Nat) = 9999 + 1 from rfl, run_equalIn_agg w 9999 115 _ _ hS (by kernel_rfl)]
  simp only [Program.fieldsOf, Try.underlying115]
  go_simp
  by_cases h1 : a = d <;> by_cases h2 : b = e <;> by_cases h3 : c = f <;> simp [h1, h2, h3, listEq]
theorem neqEntry (x y : EntryC) (w : World) : (binOp .neq 115 (.agg #[.int .i64 x.i, .int .i64 x.t, .string x.d]) (.agg #[.int .i64 y.i, .int .i64 y.t, .string y.d])).run Try.prog w = .ok (.bool (!(decide (x = y)))) w := by
  rw [run_neq_struct]
  have := eqEntry x y w
  dsimp only [EntryC.val] at this
  rw [this]; rfl

set_option maxRecDepth 100000 in
set_option maxHeartbeats 1000000 in
theorem equal_any (a b : Option Addr) (n1 n2 c1 c2 : Nat) (l m : List EntryC) (hl : l.length = n1) (hm : m.length = n2) (hn1 : n1 < 1000000) (hn2 : n2 < 1000000) (w : World) (h1 : RowV w a n1 3 (entryCells l)) (h2 : RowV w b n2 3 (entryCells m)) :
    Gives Try.prog 61 #[.slice a n1 c1, .slice b n2 c2] w (.bool (decide (l = m))) := by
  have hc1 := h1.2.2
  have hc2 := h2.2.2
  clear h1 h2
  unfold Gives
  by_cases hne : n1 = n2
  · subst hne
    go_enter Try.func61, Try.ntmps61
    go_wp2
    go_loopw [13] (fun i wr => ∃ k : Nat, k ≤ n1 ∧ i = .int .i64 k ∧ l.take k = m.take k ∧ Below w.heap.size w wr) (fun i _ => n1 - (intOf i).toNat)
    case atStart => exact ⟨0, by omega, rfl, rfl, Below.refl _ _⟩
    case round =>
      obtain ⟨k, hk, rfl, ht, hB⟩ := hrel
      have HT := Lib.hid ht
      clear ht
      by_cases hlt : k < n1
      · obtain ⟨b1, o1, rfl, hb1, hx1⟩ := hc1 (by omega)
        obtain ⟨b2, o2, rfl, hb2, hx2⟩ := hc2 (by omega)
        have hkl : k < l.length := by omega
        have hkm : k < m.length := by omega
        obtain ⟨d0, d1, d2⟩ := entry_at hb1 hB hx1 hkl
        obtain ⟨f0, f1, f2⟩ := entry_at hb2 hB hx2 hkm
        have HS := Lib.hid (show l[k] = m[k] → l.take (k + 1) = m.take (k + 1) by intro h; rw [List.take_succ_eq_append_getElem hkl, List.take_succ_eq_append_getElem hkm, HT.out, h])
        have HN := Lib.hid (show l[k] ≠ m[k] → decide (l = m) = false by intro h; simp; rintro rfl; exact h rfl)
        clear hx1 hx2
        generalize l[k] = x at *
        generalize m[k] = y at *
        have hne := fun w => neqEntry x y w
        by_cases hxy : x = y
        · rw [decide_eq_true hxy] at hne
          have HS' := Lib.hid (HS.out hxy)
          clear HS HN
          subst hxy
          go_wp2
          go_quiet (fail)
          go_wp2
          go_roundw
          case rel => exact ⟨k + 1, by omega, by go_num, HS'.out, below_drewN hB _⟩
          case measure => simp [intOf]; omega
        · rw [decide_eq_false hxy] at hne
          have HN' := Lib.hid (HN.out hxy)
          clear HS HN hxy
          go_wp2
          go_quiet (fail)
          go_wp2
          go_ret
          exact ⟨by rw [HN'.out]; rfl, below_drewN hB _⟩
      · obtain rfl : k = n1 := by omega
        have HV := Lib.hid (show decide (l = m) = true by
          have := HT.out
          rw [List.take_of_length_le (by omega), List.take_of_length_le (by omega)] at this
          simp [this])
        go_wp2
        go_ret
        exact ⟨by rw [HV.out]; rfl, hB⟩
  · have HV := Lib.hid (show decide (l = m) = false by simp; rintro rfl; omega)
    go_enter Try.func61, Try.ntmps61
    go_wp2
    go_ret
    exact ⟨by rw [HV.out]; rfl, Below.refl _ _⟩

/-- A part. -/
structure PartC where
  g : Int
  k : Int
  a : Option Addr
  len : Nat
  cap : Nat
  ht : Int
  hv : Int
  hc : Int
  i : Int
  t : Int
  m : Bool
  h : Bool
abbrev PartC.val (p : PartC) : Value := .agg #[.int .i64 p.g, .int .i64 p.k, .slice p.a p.len p.cap, .int .i64 p.ht, .int .i64 p.hv, .int .i64 p.hc, .int .i64 p.i, .int .i64 p.t, .bool p.m, .bool p.h]
abbrev PartC.arr (p : PartC) : Array Value := #[.int .i64 p.g, .int .i64 p.k, .slice p.a p.len p.cap, .int .i64 p.ht, .int .i64 p.hv, .int .i64 p.hc, .int .i64 p.i, .int .i64 p.t, .bool p.m, .bool p.h]
/-- What is in a part's entries. -/
def HasE (w : World) (p : PartC) (l : List EntryC) : Prop := l.length = p.len ∧ p.len < 1000000 ∧ RowV w p.a p.len 3 (entryCells l)
theorem HasE.below {w W : World} {p : PartC} {l : List EntryC} (h : HasE w p l) (hB : Below w.heap.size w W) : HasE W p l := ⟨h.1, h.2.1, h.2.2.below hB⟩
def sameB (p q : PartC) (l m : List EntryC) : Bool :=
  decide (p.g = q.g) && (decide (p.k = q.k) && (decide (l = m) && (decide (p.ht = q.ht ∧ p.hv = q.hv ∧ p.hc = q.hc) && (decide (p.i = q.i) && (decide (p.t = q.t) && (decide (p.m = q.m) && decide (p.h = q.h)))))))

theorem eqHard (a b c d e f : Int) (w : World) : (Op.equalIn 10000 39 (.agg #[.int .i64 a, .int .i64 b, .int .i64 c]) (.agg #[.int .i64 d, .int .i64 e, .int .i64 f])).run Try.prog w = .ok (decide (a = d ∧ b = e ∧ c = f)) w := by
  have hS : Try.prog.underlying 39 = some (.struct (Try.prog.fieldsOf 39)) := by kernel_rfl
  rw [show (10000 : Nat) = 9999 + 1 from rfl, run_equalIn_agg w 9999 39 _ _ hS (by kernel_rfl)]
  simp only [Program.fieldsOf, Try.underlying39]
  go_simp
  by_cases h1 : a = d <;> by_cases h2 : b = e <;> by_cases h3 : c = f <;> simp [h1, h2, h3]
theorem beqHard (a b c d e f : Int) (w : World) : (binOp .eql 39 (.agg #[.int .i64 a, .int .i64 b, .int .i64 c]) (.agg #[.int .i64 d, .int .i64 e, .int .i64 f])).run Try.prog w = .ok (.bool (decide (a = d ∧ b = e ∧ c = f))) w := by
  rw [run_eql_struct, eqHard]; rfl

theorem blk2_cell {w W : World} {cs ds : Array Value} {T U : TypeId} (h : Below ((w.alloc (.cells cs T)).alloc (.cells ds U)).heap.size ((w.alloc (.cells cs T)).alloc (.cells ds U)) W) (j : Nat) :
    W.cell? ⟨w.heap.size, j, none⟩ = cs[j]? ∧ W.cell? ⟨w.heap.size + 1, j, none⟩ = ds[j]? := by
  refine ⟨blk_cell (w := w) (T := T) (bel2 (bel_alloc (Below.refl _ _) _) h) j, ?_⟩
  have := blk_cell (w := w.alloc (.cells cs T)) (T := U) h j
  rwa [World.size_alloc] at this

set_option maxRecDepth 100000 in
set_option maxHeartbeats 2000000 in
theorem same_any (p q : PartC) (l m : List EntryC) (w : World) (h1 : HasE w p l) (h2 : HasE w q m) : Gives Try.prog 69 #[p.val, q.val] w (.bool (sameB p q l m)) := by
  have G := Lib.hid (fun W (hB : Below w.heap.size w W) => equal_any p.a q.a p.len q.len p.cap q.cap l m h1.1 h2.1 h1.2.1 h2.2.1 W (h1.2.2.below hB) (h2.2.2.below hB))
  have hH := fun w => beqHard p.ht p.hv p.hc q.ht q.hv q.hc w
  clear h1 h2
  obtain ⟨g, k, a, len, cap, ht, hv, hc, i, t, mk, hd⟩ := p
  obtain ⟨g', k', a', len', cap', ht', hv', hc', i', t', mk', hd'⟩ := q
  dsimp only [PartC.val, sameB] at *
  generalize decide (l = m) = b3 at *
  generalize decide (ht = ht' ∧ hv = hv' ∧ hc = hc') = b4 at *
  unfold Gives
  have bA := bel_alloc (bel_alloc (Below.refl w.heap.size w) (.cells #[.int .i64 g, .int .i64 k, .slice a len cap, .int .i64 ht, .int .i64 hv, .int .i64 hc, .int .i64 i, .int .i64 t, .bool mk, .bool hd] 41)) (.cells #[.int .i64 g', .int .i64 k', .slice a' len' cap', .int .i64 ht', .int .i64 hv', .int .i64 hc', .int .i64 i', .int .i64 t', .bool mk', .bool hd'] 41)
  by_cases e1 : g = g'
  · subst e1
    by_cases e2 : k = k'
    · subst e2
      cases b3 with
      | false =>
        go_enter Try.func69, Try.ntmps69
        go_wp2_with (go_at_call 61; ((with_reducible refine (G.out _ bA).mono ?_); rintro e w1 ⟨rfl, hB1⟩))
        go_ret
        exact ⟨by simp , bA.trans (hB1.mono bA.size)⟩
      | true =>
        cases b4 with
        | false =>
          go_enter Try.func69, Try.ntmps69
          go_wp2_with (go_at_call 61; ((with_reducible refine (G.out _ bA).mono ?_); rintro e w1 ⟨rfl, hB1⟩; have c3 : w1.cell? ⟨w.heap.size, 3, none⟩ = some (.int .i64 ht) := (blk2_cell hB1 3).1; have d3 : w1.cell? ⟨w.heap.size + 1, 3, none⟩ = some (.int .i64 ht') := (blk2_cell hB1 3).2; have c4 : w1.cell? ⟨w.heap.size, 4, none⟩ = some (.int .i64 hv) := (blk2_cell hB1 4).1; have d4 : w1.cell? ⟨w.heap.size + 1, 4, none⟩ = some (.int .i64 hv') := (blk2_cell hB1 4).2; have c5 : w1.cell? ⟨w.heap.size, 5, none⟩ = some (.int .i64 hc) := (blk2_cell hB1 5).1; have d5 : w1.cell? ⟨w.heap.size + 1, 5, none⟩ = some (.int .i64 hc') := (blk2_cell hB1 5).2; have c6 : w1.cell? ⟨w.heap.size, 6, none⟩ = some (.int .i64 i) := (blk2_cell hB1 6).1; have d6 : w1.cell? ⟨w.heap.size + 1, 6, none⟩ = some (.int .i64 i') := (blk2_cell hB1 6).2; have c7 : w1.cell? ⟨w.heap.size, 7, none⟩ = some (.int .i64 t) := (blk2_cell hB1 7).1; have d7 : w1.cell? ⟨w.heap.size + 1, 7, none⟩ = some (.int .i64 t') := (blk2_cell hB1 7).2; have c8 : w1.cell? ⟨w.heap.size, 8, none⟩ = some (.bool mk) := (blk2_cell hB1 8).1; have d8 : w1.cell? ⟨w.heap.size + 1, 8, none⟩ = some (.bool mk') := (blk2_cell hB1 8).2; have c9 : w1.cell? ⟨w.heap.size, 9, none⟩ = some (.bool hd) := (blk2_cell hB1 9).1; have d9 : w1.cell? ⟨w.heap.size + 1, 9, none⟩ = some (.bool hd') := (blk2_cell hB1 9).2))
          go_ret
          exact ⟨by simp , bA.trans (hB1.mono bA.size)⟩
        | true =>
          by_cases e4 : i = i'
          · subst e4
            by_cases e5 : t = t'
            · subst e5
              by_cases e6 : mk = mk'
              · subst e6
                by_cases e7 : hd = hd'
                · subst e7
                  go_enter Try.func69, Try.ntmps69
                  go_wp2_with (go_at_call 61; ((with_reducible refine (G.out _ bA).mono ?_); rintro e w1 ⟨rfl, hB1⟩; have c3 : w1.cell? ⟨w.heap.size, 3, none⟩ = some (.int .i64 ht) := (blk2_cell hB1 3).1; have d3 : w1.cell? ⟨w.heap.size + 1, 3, none⟩ = some (.int .i64 ht') := (blk2_cell hB1 3).2; have c4 : w1.cell? ⟨w.heap.size, 4, none⟩ = some (.int .i64 hv) := (blk2_cell hB1 4).1; have d4 : w1.cell? ⟨w.heap.size + 1, 4, none⟩ = some (.int .i64 hv') := (blk2_cell hB1 4).2; have c5 : w1.cell? ⟨w.heap.size, 5, none⟩ = some (.int .i64 hc) := (blk2_cell hB1 5).1; have d5 : w1.cell? ⟨w.heap.size + 1, 5, none⟩ = some (.int .i64 hc') := (blk2_cell hB1 5).2; have c6 : w1.cell? ⟨w.heap.size, 6, none⟩ = some (.int .i64 i) := (blk2_cell hB1 6).1; have d6 : w1.cell? ⟨w.heap.size + 1, 6, none⟩ = some (.int .i64 i) := (blk2_cell hB1 6).2; have c7 : w1.cell? ⟨w.heap.size, 7, none⟩ = some (.int .i64 t) := (blk2_cell hB1 7).1; have d7 : w1.cell? ⟨w.heap.size + 1, 7, none⟩ = some (.int .i64 t) := (blk2_cell hB1 7).2; have c8 : w1.cell? ⟨w.heap.size, 8, none⟩ = some (.bool mk) := (blk2_cell hB1 8).1; have d8 : w1.cell? ⟨w.heap.size + 1, 8, none⟩ = some (.bool mk) := (blk2_cell hB1 8).2; have c9 : w1.cell? ⟨w.heap.size, 9, none⟩ = some (.bool hd) := (blk2_cell hB1 9).1; have d9 : w1.cell? ⟨w.heap.size + 1, 9, none⟩ = some (.bool hd) := (blk2_cell hB1 9).2))
                  go_ret
                  exact ⟨by simp , bA.trans (hB1.mono bA.size)⟩
                · go_enter Try.func69, Try.ntmps69
                  go_wp2_with (go_at_call 61; ((with_reducible refine (G.out _ bA).mono ?_); rintro e w1 ⟨rfl, hB1⟩; have c3 : w1.cell? ⟨w.heap.size, 3, none⟩ = some (.int .i64 ht) := (blk2_cell hB1 3).1; have d3 : w1.cell? ⟨w.heap.size + 1, 3, none⟩ = some (.int .i64 ht') := (blk2_cell hB1 3).2; have c4 : w1.cell? ⟨w.heap.size, 4, none⟩ = some (.int .i64 hv) := (blk2_cell hB1 4).1; have d4 : w1.cell? ⟨w.heap.size + 1, 4, none⟩ = some (.int .i64 hv') := (blk2_cell hB1 4).2; have c5 : w1.cell? ⟨w.heap.size, 5, none⟩ = some (.int .i64 hc) := (blk2_cell hB1 5).1; have d5 : w1.cell? ⟨w.heap.size + 1, 5, none⟩ = some (.int .i64 hc') := (blk2_cell hB1 5).2; have c6 : w1.cell? ⟨w.heap.size, 6, none⟩ = some (.int .i64 i) := (blk2_cell hB1 6).1; have d6 : w1.cell? ⟨w.heap.size + 1, 6, none⟩ = some (.int .i64 i) := (blk2_cell hB1 6).2; have c7 : w1.cell? ⟨w.heap.size, 7, none⟩ = some (.int .i64 t) := (blk2_cell hB1 7).1; have d7 : w1.cell? ⟨w.heap.size + 1, 7, none⟩ = some (.int .i64 t) := (blk2_cell hB1 7).2; have c8 : w1.cell? ⟨w.heap.size, 8, none⟩ = some (.bool mk) := (blk2_cell hB1 8).1; have d8 : w1.cell? ⟨w.heap.size + 1, 8, none⟩ = some (.bool mk) := (blk2_cell hB1 8).2; have c9 : w1.cell? ⟨w.heap.size, 9, none⟩ = some (.bool hd) := (blk2_cell hB1 9).1; have d9 : w1.cell? ⟨w.heap.size + 1, 9, none⟩ = some (.bool hd') := (blk2_cell hB1 9).2))
                  go_ret
                  exact ⟨by simp [e7], bA.trans (hB1.mono bA.size)⟩
              · go_enter Try.func69, Try.ntmps69
                go_wp2_with (go_at_call 61; ((with_reducible refine (G.out _ bA).mono ?_); rintro e w1 ⟨rfl, hB1⟩; have c3 : w1.cell? ⟨w.heap.size, 3, none⟩ = some (.int .i64 ht) := (blk2_cell hB1 3).1; have d3 : w1.cell? ⟨w.heap.size + 1, 3, none⟩ = some (.int .i64 ht') := (blk2_cell hB1 3).2; have c4 : w1.cell? ⟨w.heap.size, 4, none⟩ = some (.int .i64 hv) := (blk2_cell hB1 4).1; have d4 : w1.cell? ⟨w.heap.size + 1, 4, none⟩ = some (.int .i64 hv') := (blk2_cell hB1 4).2; have c5 : w1.cell? ⟨w.heap.size, 5, none⟩ = some (.int .i64 hc) := (blk2_cell hB1 5).1; have d5 : w1.cell? ⟨w.heap.size + 1, 5, none⟩ = some (.int .i64 hc') := (blk2_cell hB1 5).2; have c6 : w1.cell? ⟨w.heap.size, 6, none⟩ = some (.int .i64 i) := (blk2_cell hB1 6).1; have d6 : w1.cell? ⟨w.heap.size + 1, 6, none⟩ = some (.int .i64 i) := (blk2_cell hB1 6).2; have c7 : w1.cell? ⟨w.heap.size, 7, none⟩ = some (.int .i64 t) := (blk2_cell hB1 7).1; have d7 : w1.cell? ⟨w.heap.size + 1, 7, none⟩ = some (.int .i64 t) := (blk2_cell hB1 7).2; have c8 : w1.cell? ⟨w.heap.size, 8, none⟩ = some (.bool mk) := (blk2_cell hB1 8).1; have d8 : w1.cell? ⟨w.heap.size + 1, 8, none⟩ = some (.bool mk') := (blk2_cell hB1 8).2; have c9 : w1.cell? ⟨w.heap.size, 9, none⟩ = some (.bool hd) := (blk2_cell hB1 9).1; have d9 : w1.cell? ⟨w.heap.size + 1, 9, none⟩ = some (.bool hd') := (blk2_cell hB1 9).2))
                go_ret
                exact ⟨by simp [e6], bA.trans (hB1.mono bA.size)⟩
            · go_enter Try.func69, Try.ntmps69
              go_wp2_with (go_at_call 61; ((with_reducible refine (G.out _ bA).mono ?_); rintro e w1 ⟨rfl, hB1⟩; have c3 : w1.cell? ⟨w.heap.size, 3, none⟩ = some (.int .i64 ht) := (blk2_cell hB1 3).1; have d3 : w1.cell? ⟨w.heap.size + 1, 3, none⟩ = some (.int .i64 ht') := (blk2_cell hB1 3).2; have c4 : w1.cell? ⟨w.heap.size, 4, none⟩ = some (.int .i64 hv) := (blk2_cell hB1 4).1; have d4 : w1.cell? ⟨w.heap.size + 1, 4, none⟩ = some (.int .i64 hv') := (blk2_cell hB1 4).2; have c5 : w1.cell? ⟨w.heap.size, 5, none⟩ = some (.int .i64 hc) := (blk2_cell hB1 5).1; have d5 : w1.cell? ⟨w.heap.size + 1, 5, none⟩ = some (.int .i64 hc') := (blk2_cell hB1 5).2; have c6 : w1.cell? ⟨w.heap.size, 6, none⟩ = some (.int .i64 i) := (blk2_cell hB1 6).1; have d6 : w1.cell? ⟨w.heap.size + 1, 6, none⟩ = some (.int .i64 i) := (blk2_cell hB1 6).2; have c7 : w1.cell? ⟨w.heap.size, 7, none⟩ = some (.int .i64 t) := (blk2_cell hB1 7).1; have d7 : w1.cell? ⟨w.heap.size + 1, 7, none⟩ = some (.int .i64 t') := (blk2_cell hB1 7).2; have c8 : w1.cell? ⟨w.heap.size, 8, none⟩ = some (.bool mk) := (blk2_cell hB1 8).1; have d8 : w1.cell? ⟨w.heap.size + 1, 8, none⟩ = some (.bool mk') := (blk2_cell hB1 8).2; have c9 : w1.cell? ⟨w.heap.size, 9, none⟩ = some (.bool hd) := (blk2_cell hB1 9).1; have d9 : w1.cell? ⟨w.heap.size + 1, 9, none⟩ = some (.bool hd') := (blk2_cell hB1 9).2))
              go_ret
              exact ⟨by simp [e5], bA.trans (hB1.mono bA.size)⟩
          · go_enter Try.func69, Try.ntmps69
            go_wp2_with (go_at_call 61; ((with_reducible refine (G.out _ bA).mono ?_); rintro e w1 ⟨rfl, hB1⟩; have c3 : w1.cell? ⟨w.heap.size, 3, none⟩ = some (.int .i64 ht) := (blk2_cell hB1 3).1; have d3 : w1.cell? ⟨w.heap.size + 1, 3, none⟩ = some (.int .i64 ht') := (blk2_cell hB1 3).2; have c4 : w1.cell? ⟨w.heap.size, 4, none⟩ = some (.int .i64 hv) := (blk2_cell hB1 4).1; have d4 : w1.cell? ⟨w.heap.size + 1, 4, none⟩ = some (.int .i64 hv') := (blk2_cell hB1 4).2; have c5 : w1.cell? ⟨w.heap.size, 5, none⟩ = some (.int .i64 hc) := (blk2_cell hB1 5).1; have d5 : w1.cell? ⟨w.heap.size + 1, 5, none⟩ = some (.int .i64 hc') := (blk2_cell hB1 5).2; have c6 : w1.cell? ⟨w.heap.size, 6, none⟩ = some (.int .i64 i) := (blk2_cell hB1 6).1; have d6 : w1.cell? ⟨w.heap.size + 1, 6, none⟩ = some (.int .i64 i') := (blk2_cell hB1 6).2; have c7 : w1.cell? ⟨w.heap.size, 7, none⟩ = some (.int .i64 t) := (blk2_cell hB1 7).1; have d7 : w1.cell? ⟨w.heap.size + 1, 7, none⟩ = some (.int .i64 t') := (blk2_cell hB1 7).2; have c8 : w1.cell? ⟨w.heap.size, 8, none⟩ = some (.bool mk) := (blk2_cell hB1 8).1; have d8 : w1.cell? ⟨w.heap.size + 1, 8, none⟩ = some (.bool mk') := (blk2_cell hB1 8).2; have c9 : w1.cell? ⟨w.heap.size, 9, none⟩ = some (.bool hd) := (blk2_cell hB1 9).1; have d9 : w1.cell? ⟨w.heap.size + 1, 9, none⟩ = some (.bool hd') := (blk2_cell hB1 9).2))
            go_ret
            exact ⟨by simp [e4], bA.trans (hB1.mono bA.size)⟩
    · go_enter Try.func69, Try.ntmps69
      go_wp2
      go_ret
      exact ⟨by simp [e2], bA⟩
  · go_enter Try.func69, Try.ntmps69
    go_wp2
    go_ret
    exact ⟨by simp [e1], bA⟩

end Go.Proofs.Ytdncdlbhgaehmaa

/- A part, an entry, a slice of entries that came in. -/
namespace Go.Proofs.Ytdncdlbhgaehmaa
open Go.RowKit Go.Shelf Go.ChangeShapes Go.WideShapes Go.Deep
open Go.ChangeMaps (open_string)
set_option linter.unusedVariables false

def in64 (n : Int) : Prop := -9223372036854775808 ≤ n ∧ n < 9223372036854775808
def goodEntry (e : EntryC) : Prop := in64 e.i ∧ in64 e.t ∧ e.d.size ≤ maxLen
def goodPart (p : PartC) : Prop := (p.a = none → p.cap = 0) ∧ in64 p.g ∧ in64 p.k ∧ in64 p.ht ∧ in64 p.hv ∧ in64 p.hc ∧ in64 p.i ∧ in64 p.t

theorem entry_cells {H : Type} {enc : TypeId × Value → H} {W : World} {n : Nat} {cs : List Value} {x : DataW H × List MemPlace} (hl : cs.length = 3) (hx : DataW.trod enc Try.prog W 0 (fun _ => true) true n 115 cs = some x) :
    ∃ f : EntryC, f.cells = cs ∧ goodEntry f := by
  have k1 : Try.prog.cellsOf 3 = 1 := by kernel_rfl
  have k2 : Try.prog.cellsOf 9 = 1 := by kernel_rfl
  match cs, hl with
  | [c0, c1, c2], _ =>
    obtain ⟨xs, n', _, _, _, hxl, hf⟩ := DataW.trod_struct Try.underlying115 hx
    match xs, hxl with
    | [y0, y1, y2], _ =>
      obtain ⟨z0, e0, _, w0⟩ := DataW.trod_int Try.underlying3 (trod_field hf 0 0 1 3 rfl k1)
      obtain ⟨z1, e1, _, w1⟩ := DataW.trod_int Try.underlying3 (trod_field hf 1 1 1 3 rfl k1)
      obtain ⟨s2, e2, _, w2⟩ := DataW.trod_string Try.underlying9 (trod_field hf 2 2 1 9 rfl k2)
      simp at e0 e1 e2
      subst e0 e1 e2
      exact ⟨⟨z0, z1, s2⟩, rfl, bounds_i64 w0, bounds_i64 w1, w2⟩
theorem open_entries {H : Type} {enc : TypeId × Value → H} {W : World} {a : Option Addr} {len cap : Nat} {d : DataW H} {ps : List MemPlace}
    (h : DataW.Trod enc Try.prog W 0 (fun _ => true) true 37 (.slice a len cap) d ps) : ∃ l : List EntryC, l.length = len ∧ len ≤ cap ∧ RowV W a len 3 (entryCells l) ∧ ∀ f ∈ l, goodEntry f :=
  open_rows EntryC.cells goodEntry 3 (by decide) Try.underlying37 (by kernel_rfl) EntryC.len (fun n cs x hl hx => entry_cells hl hx) h

theorem part_cells {H : Type} {enc : TypeId × Value → H} {W : World} {n : Nat} {cs : List Value} {x : DataW H × List MemPlace} (hl : cs.length = 10) (hx : DataW.trod enc Try.prog W 0 (fun _ => true) true n 41 cs = some x) :
    ∃ p : PartC, p.arr.toList = cs ∧ goodPart p ∧ ∃ l : List EntryC, l.length = p.len ∧ RowV W p.a p.len 3 (entryCells l) ∧ ∀ e ∈ l, goodEntry e := by
  have k1 : Try.prog.cellsOf 3 = 1 := by kernel_rfl
  have kb : Try.prog.cellsOf 4 = 1 := by kernel_rfl
  have ks : Try.prog.cellsOf 37 = 1 := by kernel_rfl
  have kh : Try.prog.cellsOf 39 = 3 := by kernel_rfl
  match cs, hl with
  | [c0, c1, c2, c3, c4, c5, c6, c7, c8, c9], _ =>
    obtain ⟨xs, n', _, _, _, hxl, hf⟩ := DataW.trod_struct Try.underlying41 hx
    match xs, hxl with
    | [y0, y1, y2, y3, y4, y5, y6, y7], _ =>
      obtain ⟨z0, e0, _, w0⟩ := DataW.trod_int Try.underlying3 (trod_field hf 0 0 1 3 rfl k1)
      obtain ⟨z1, e1, _, w1⟩ := DataW.trod_int Try.underlying3 (trod_field hf 1 1 1 3 rfl k1)
      have hen := trod_field hf 2 2 1 37 rfl ks
      obtain ⟨xs2, n2, _, _, _, hxl2, hf2⟩ := DataW.trod_struct Try.underlying39 (trod_field hf 3 3 3 39 rfl kh)
      match xs2, hxl2 with
      | [u0, u1, u2], _ =>
        obtain ⟨z3, e3, _, w3⟩ := DataW.trod_int Try.underlying3 (trod_field hf2 0 0 1 3 rfl k1)
        obtain ⟨z4, e4, _, w4⟩ := DataW.trod_int Try.underlying3 (trod_field hf2 1 1 1 3 rfl k1)
        obtain ⟨z5, e5, _, w5⟩ := DataW.trod_int Try.underlying3 (trod_field hf2 2 2 1 3 rfl k1)
        obtain ⟨z6, e6, _, w6⟩ := DataW.trod_int Try.underlying3 (trod_field hf 4 6 1 3 rfl k1)
        obtain ⟨z7, e7, _, w7⟩ := DataW.trod_int Try.underlying3 (trod_field hf 5 7 1 3 rfl k1)
        obtain ⟨b8, e8, _⟩ := DataW.trod_bool Try.underlying4 (trod_field hf 6 8 1 4 rfl kb)
        obtain ⟨b9, e9, _⟩ := DataW.trod_bool Try.underlying4 (trod_field hf 7 9 1 4 rfl kb)
        simp at e0 e1 e3 e4 e5 e6 e7 e8 e9
        subst e0 e1 e3 e4 e5 e6 e7 e8 e9
        have hsl : ∃ (a : Option Addr) (len cap : Nat), c2 = .slice a len cap ∧ (a = none → cap = 0) := by
          rcases open_slice Try.underlying37 hen with ⟨hcs, _⟩ | ⟨ad, len', cap', _, _, _, _, hcs, _⟩
          · simp at hcs; exact ⟨_, _, _, hcs, fun _ => rfl⟩
          · simp at hcs; exact ⟨_, _, _, hcs, fun h => by cases h⟩
        obtain ⟨a, len, cap, rfl, hcap⟩ := hsl
        obtain ⟨l, h1, h2, h3, h4⟩ := open_entries (enc := enc) (W := W) (a := a) (len := len) (cap := cap) (d := y2.1) (ps := y2.2) ⟨n', hen⟩
        exact ⟨⟨z0, z1, a, len, cap, z3, z4, z5, z6, z7, b8, b9⟩, rfl, ⟨hcap, bounds_i64 w0, bounds_i64 w1, bounds_i64 w3, bounds_i64 w4, bounds_i64 w5, bounds_i64 w6, bounds_i64 w7⟩, l, h1, h3, h4⟩
set_option maxRecDepth 100000 in
theorem open_part {H : Type} {enc : TypeId × Value → H} {W : World} {r : Reach} {b0 : Nat} {v : Value} {d : DataW H} {ps : List MemPlace} (hv : Value.okWide Try.prog W r b0 41 v)
    (h : DataW.Trod enc Try.prog W 0 (fun _ => true) true 41 v d ps) : ∃ p : PartC, v = p.val ∧ goodPart p ∧ ∃ l : List EntryC, l.length = p.len ∧ RowV W p.a p.len 3 (entryCells l) ∧ ∀ e ∈ l, goodEntry e := by
  obtain ⟨cs, rfl, hsz⟩ := okWide_struct Try.underlying41 hv
  obtain ⟨fuel, hf⟩ := h
  have h10 : cs.size = 10 := hsz.trans (show Try.prog.cellsOf 41 = 10 by kernel_rfl)
  obtain ⟨p, hp, hg, hl⟩ := part_cells (by simpa [Value.cells] using h10) hf
  refine ⟨p, ?_, hg, hl⟩
  show _ = Value.agg p.arr
  congr 1
  exact (Array.toList_inj.mp hp).symm
set_option maxRecDepth 100000 in
theorem open_entry {H : Type} {enc : TypeId × Value → H} {W : World} {r : Reach} {b0 : Nat} {v : Value} {d : DataW H} {ps : List MemPlace} (hv : Value.okWide Try.prog W r b0 115 v)
    (h : DataW.Trod enc Try.prog W 0 (fun _ => true) true 115 v d ps) : ∃ e : EntryC, v = e.val ∧ goodEntry e := by
  obtain ⟨cs, rfl, hsz⟩ := okWide_struct Try.underlying115 hv
  obtain ⟨fuel, hf⟩ := h
  have h10 : cs.size = 3 := hsz.trans (show Try.prog.cellsOf 115 = 3 by kernel_rfl)
  obtain ⟨p, hp, hg⟩ := entry_cells (by simpa [Value.cells] using h10) hf
  refine ⟨p, ?_, hg⟩
  obtain ⟨i, t, d⟩ := p
  show _ = Value.agg #[.int .i64 i, .int .i64 t, .string d]
  congr 1
  exact (Array.toList_inj.mp hp).symm

end Go.Proofs.Ytdncdlbhgaehmaa

/- A slice of parts that came in, each with its entries; rows of parts. -/
namespace Go.Proofs.Ytdncdlbhgaehmaa
open Go.RowKit Go.Shelf Go.ChangeShapes Go.WideShapes Go.Deep
open Go.ChangeMaps (open_string)
set_option linter.unusedVariables false

/-- A part with its entries. -/
abbrev PL := PartC × List EntryC
def partCells (L : List PL) : List Value := (L.map (fun x => x.1.arr.toList)).flatten
def GoodP (W : World) (x : PL) : Prop := goodPart x.1 ∧ x.2.length = x.1.len ∧ RowV W x.1.a x.1.len 3 (entryCells x.2) ∧ ∀ e ∈ x.2, goodEntry e
theorem open_parts {H : Type} {enc : TypeId × Value → H} {W : World} {a : Option Addr} {len cap : Nat} {d : DataW H} {ps : List MemPlace}
    (h : DataW.Trod enc Try.prog W 0 (fun _ => true) true 30 (.slice a len cap) d ps) : ∃ L : List PL, L.length = len ∧ len ≤ cap ∧ RowV W a len 10 (partCells L) ∧ ∀ x ∈ L, GoodP W x :=
  open_rows (α := PL) (fun x => x.1.arr.toList) (GoodP W) 10 (by decide) Try.underlying30 (by kernel_rfl) (fun _ => rfl) (fun n cs x hl hx => by
    obtain ⟨p, hp, hg, l, h1, h2, h3⟩ := part_cells hl hx
    exact ⟨(p, l), hp, hg, h1, h2, h3⟩) h
theorem partCells_snoc (L : List PL) (x : PL) : partCells (L ++ [x]) = partCells L ++ x.1.arr.toList := by simp [partCells]
theorem part_at {w W : World} {b off : Nat} {L : List PL} (hb : b < w.heap.size) (hB : Below w.heap.size w W) (hc : ∀ j (h : j < (partCells L).length), w.cell? ⟨b, off + j, none⟩ = some (partCells L)[j]) {k : Nat} (hk : k < L.length) :
    ∀ j v, j < 10 → L[k].1.arr.toList[j]? = some v → W.cell? ⟨b, off + k * 10 + j, none⟩ = some v := fun j v hj hv => by
  rw [Nat.add_assoc]
  exact (hB.cell (p := ⟨b, off + (k * 10 + j), none⟩) hb).trans (RowV.at_ (len := L.length) (sz := 10) hc (by rw [partCells, flat_at (fun x : PL => x.1.arr.toList) 10 (fun _ => rfl) L k j hk hj]; exact hv))
theorem part_at10 {w W : World} {b off : Nat} {L : List PL} (hb : b < w.heap.size) (hB : Below w.heap.size w W) (hc : ∀ j (h : j < (partCells L).length), w.cell? ⟨b, off + j, none⟩ = some (partCells L)[j]) {k : Nat} (hk : k < L.length) :
    W.cell? ⟨b, off + k * 10, none⟩ = some (.int .i64 L[k].1.g) ∧ W.cell? ⟨b, off + k * 10 + 1, none⟩ = some (.int .i64 L[k].1.k) ∧ W.cell? ⟨b, off + k * 10 + 2, none⟩ = some (.slice L[k].1.a L[k].1.len L[k].1.cap) ∧
    W.cell? ⟨b, off + k * 10 + 3, none⟩ = some (.int .i64 L[k].1.ht) ∧ W.cell? ⟨b, off + k * 10 + 4, none⟩ = some (.int .i64 L[k].1.hv) ∧ W.cell? ⟨b, off + k * 10 + 5, none⟩ = some (.int .i64 L[k].1.hc) ∧
    W.cell? ⟨b, off + k * 10 + 6, none⟩ = some (.int .i64 L[k].1.i) ∧ W.cell? ⟨b, off + k * 10 + 7, none⟩ = some (.int .i64 L[k].1.t) ∧ W.cell? ⟨b, off + k * 10 + 8, none⟩ = some (.bool L[k].1.m) ∧ W.cell? ⟨b, off + k * 10 + 9, none⟩ = some (.bool L[k].1.h) :=
  ⟨part_at hb hB hc hk 0 _ (by decide) rfl, part_at hb hB hc hk 1 _ (by decide) rfl, part_at hb hB hc hk 2 _ (by decide) rfl, part_at hb hB hc hk 3 _ (by decide) rfl, part_at hb hB hc hk 4 _ (by decide) rfl, part_at hb hB hc hk 5 _ (by decide) rfl, part_at hb hB hc hk 6 _ (by decide) rfl, part_at hb hB hc hk 7 _ (by decide) rfl, part_at hb hB hc hk 8 _ (by decide) rfl, part_at hb hB hc hk 9 _ (by decide) rfl⟩

end Go.Proofs.Ytdncdlbhgaehmaa
