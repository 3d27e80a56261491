/- Part, PartSteps, PartAre: in one text. -/
import Derived.Test.YtdncdlbhgaehmaaRowV
import Derived.Test.YtdncdlbhgaehmaaCode
import Derived.Deep.QuietTactic
import Derived.BigQuiet
import Derived.RegionIn
/- The contracts of package part's functions on entries: within, isIndex, isTerm, IsEntry, isHard; what a part is. -/
namespace Go.Proofs.Ytdncdlbhgaehmaa
open Go.RowKit Go.Shelf
set_option linter.unusedVariables false
attribute [local go_sem] Oper.semAt_some wide_fn wide_round_fn

def wB (n lo hi : Int) : Bool := decide (lo ≤ n) && decide (n ≤ hi)
theorem wB_iff {n lo hi : Int} : wB n lo hi = true ↔ lo ≤ n ∧ n ≤ hi := by simp [wB]
/-- An entry. -/
structure EntryC where
  i : Int
  t : Int
  d : ByteArray
  deriving DecidableEq
def EntryC.cells (e : EntryC) : List Value := [.int .i64 e.i, .int .i64 e.t, .string e.d]
abbrev EntryC.val (e : EntryC) : Value := .agg #[.int .i64 e.i, .int .i64 e.t, .string e.d]
theorem EntryC.len (e : EntryC) : e.cells.length = 3 := rfl
def entryCells (l : List EntryC) : List Value := (l.map EntryC.cells).flatten
def entryB (e : EntryC) : Bool := wB e.i 1 1099511627776 && (wB e.t 1 1099511627776 && decide (e.d.size ≤ 40))
def hardB (t v c : Int) : Bool := wB t 0 1099511627776 && (wB v 0 1000 && wB c 0 1099511627776)

/-- The cells of a block that was laid, in later worlds. -/
theorem blk_cell {w W : World} {cs : Array Value} {T : TypeId} (h : Below (w.alloc (.cells cs T)).heap.size (w.alloc (.cells cs T)) W) (j : Nat) : W.cell? ⟨w.heap.size, j, none⟩ = cs[j]? :=
  cell_of_row _ _ j _ _ _ ((h.block w.heap.size (by simp)).trans (World.alloc_heap_new w _))
theorem blk_below {w W : World} {o : Obj} (h : Below (w.alloc o).heap.size (w.alloc o) W) : Below w.heap.size w W := bel2 (bel_alloc (Below.refl _ _) _) h

set_option maxRecDepth 100000 in
theorem within_any (n lo hi : Int) (w : World) : Gives Try.prog 68 #[.int .i64 n, .int .i64 lo, .int .i64 hi] w (.bool (wB n lo hi)) := by
  unfold Gives
  by_cases h1 : lo ≤ n
  · by_cases h2 : n ≤ hi
    · rw [wB_iff.2 ⟨h1, h2⟩]
      go_enter Try.func68, Try.ntmps68
      go_wp2
      go_ret
      exact ⟨rfl, Below.refl _ _⟩
    · rw [show wB n lo hi = false by simp [wB, h2]]
      have h2' : hi < n := by omega
      go_enter Try.func68, Try.ntmps68
      go_wp2
      go_ret
      exact ⟨by simp, Below.refl _ _⟩
  · rw [show wB n lo hi = false by simp [wB, h1]]
    have h1' : n < lo := by omega
    go_enter Try.func68, Try.ntmps68
    go_wp2
    go_ret
    exact ⟨by simp, Below.refl _ _⟩
theorem isIndex_any (n : Int) (w : World) : Gives Try.prog 64 #[.int .i64 n] w (.bool (wB n 1 1099511627776)) := by
  have G := Lib.hid (within_any n 1 1099511627776)
  unfold Gives
  go_enter Try.func64, Try.ntmps64
  go_wp2_with (go_at_call 68; ((with_reducible refine (G.out _).mono ?_); rintro e w1 ⟨rfl, hB1⟩))
  go_ret
  exact ⟨rfl, hB1⟩
theorem isTerm_any (n : Int) (w : World) : Gives Try.prog 65 #[.int .i64 n] w (.bool (wB n 1 1099511627776)) := by
  have G := Lib.hid (within_any n 1 1099511627776)
  unfold Gives
  go_enter Try.func65, Try.ntmps65
  go_wp2_with (go_at_call 68; ((with_reducible refine (G.out _).mono ?_); rintro e w1 ⟨rfl, hB1⟩))
  go_ret
  exact ⟨rfl, hB1⟩

set_option maxRecDepth 100000 in
set_option maxHeartbeats 1000000 in
theorem isEntry_any (x : EntryC) (w : World) : Gives Try.prog 88 #[x.val] w (.bool (entryB x)) := by
  have G1 := Lib.hid (isIndex_any x.i); have G2 := Lib.hid (isTerm_any x.t)
  unfold entryB
  generalize wB x.i 1 1099511627776 = b1 at *
  generalize wB x.t 1 1099511627776 = b2 at *
  unfold Gives
  obtain ⟨i, t, d⟩ := x
  dsimp only at *
  cases b1 with
  | false =>
    go_enter Try.func88, Try.ntmps88
    go_wp2_with (go_at_call 64; ((with_reducible refine (G1.out _).mono ?_); rintro e w1 ⟨rfl, hB1⟩))
    go_ret
    exact ⟨by simp, blk_below hB1⟩
  | true =>
    cases b2
    all_goals
      go_enter Try.func88, Try.ntmps88
      go_wp2_with (first
        | (go_at_call 64; ((with_reducible refine (G1.out _).mono ?_); rintro e w1 ⟨rfl, hB1⟩; have d1 : w1.cell? ⟨w.heap.size, 1, none⟩ = some (.int .i64 t) := blk_cell hB1 1))
        | (go_at_call 65; ((with_reducible refine (G2.out _).mono ?_); rintro e w2 ⟨rfl, hB2⟩; have d2 : w2.cell? ⟨w.heap.size, 2, none⟩ = some (.string d) := blk_cell (bel2 hB1 hB2) 2)))
      go_ret
      exact ⟨by simp <;> omega, blk_below (bel2 hB1 hB2)⟩

set_option maxRecDepth 100000 in
set_option maxHeartbeats 1000000 in
theorem isHard_any (t v c : Int) (w : World) : Gives Try.prog 63 #[.agg #[.int .i64 t, .int .i64 v, .int .i64 c]] w (.bool (hardB t v c)) := by
  have G1 := Lib.hid (within_any t 0 1099511627776); have G2 := Lib.hid (within_any v 0 1000); have G3 := Lib.hid (within_any c 0 1099511627776)
  unfold hardB
  generalize wB t 0 1099511627776 = b1 at *
  generalize wB v 0 1000 = b2 at *
  generalize wB c 0 1099511627776 = b3 at *
  unfold Gives
  cases b1 with
  | false =>
    go_enter Try.func63, Try.ntmps63
    go_wp2_with (go_at_call 68; ((with_reducible refine (G1.out _).mono ?_); rintro e w1 ⟨rfl, hB1⟩))
    go_ret
    exact ⟨by simp, blk_below hB1⟩
  | true =>
    cases b2 with
    | false =>
      go_enter Try.func63, Try.ntmps63
      go_wp2_with (first
        | (go_at_call 68; ((with_reducible refine (G1.out _).mono ?_); rintro e w1 ⟨rfl, hB1⟩; have d1 : w1.cell? ⟨w.heap.size, 1, none⟩ = some (.int .i64 v) := blk_cell hB1 1))
        | (go_at_call 68; ((with_reducible refine (G2.out _).mono ?_); rintro e w2 ⟨rfl, hB2⟩)))
      go_ret
      exact ⟨by simp, blk_below (bel2 hB1 hB2)⟩
    | true =>
      go_enter Try.func63, Try.ntmps63
      go_wp2_with (first
        | (go_at_call 68; ((with_reducible refine (G1.out _).mono ?_); rintro e w1 ⟨rfl, hB1⟩; have d1 : w1.cell? ⟨w.heap.size, 1, none⟩ = some (.int .i64 v) := blk_cell hB1 1))
        | (go_at_call 68; ((with_reducible refine (G2.out _).mono ?_); rintro e w2 ⟨rfl, hB2⟩; have d2 : w2.cell? ⟨w.heap.size, 2, none⟩ = some (.int .i64 c) := blk_cell (bel2 hB1 hB2) 2))
        | (go_at_call 68; ((with_reducible refine (G3.out _).mono ?_); rintro e w3 ⟨rfl, hB3⟩)))
      go_ret
      exact ⟨by simp, blk_below (bel2 (bel2 hB1 hB2) hB3)⟩

end Go.Proofs.Ytdncdlbhgaehmaa

/- The contracts of package part's steps and areEntries. -/
namespace Go.Proofs.Ytdncdlbhgaehmaa
open Go.RowKit Go.Shelf
set_option linter.unusedVariables false
attribute [local go_sem] Oper.semAt_some wide_fn wide_round_fn

def stepsOf : Option Int → List EntryC → List (EntryC × Int)
  | _, [] => []
  | p, e :: r => (e, match p with | none => 1 | some q => wrap64 (e.i - q)) :: stepsOf (some e.i) r
def prevOf (es : List EntryC) : Nat → Option Int
  | 0 => none
  | k + 1 => (es[k]?).map (·.i)
def stepEnc (p : EntryC × Int) : Array Value := #[.agg #[.int .i64 p.1.i, .int .i64 p.1.t, .string p.1.d], .int .i64 p.2]
/-- The blocks that a slice lies in. -/
def inBlkE (a : Option Addr) (len : Nat) (k : Nat) : Prop := ∃ b off, a = some ⟨b, off, none⟩ ∧ 0 < len ∧ k = b

set_option maxRecDepth 100000 in
set_option maxHeartbeats 1000000 in
theorem steps_iter (Bl : Nat) (a : Option Addr) (len cap : Nat) (l : List EntryC) (hl : l.length = len) (hm : len < 1000000) (S : Nat → Prop) (hS : S Bl) (hSb : ∀ k, inBlkE a len k → S k) (w0 : World)
    (hBl : w0.cell? ⟨Bl, 0, none⟩ = some (.slice a len cap)) (hrow : RowV w0 a len 3 (entryCells l)) :
    Iter Try.prog 111 #[.pointer (some ⟨Bl, 0, none⟩)] stepEnc (stepsOf none l) S (fun _ => False) w0 := by
  intro L J Jx W hW hJs _ hY h0
  have hcl0 := hW.cell hBl hS
  obtain ⟨hlen, hml, hcs⟩ := hrow
  refine callsIn_of_wp Try.func111 rfl trivial ?_ rfl
  simp only [Try.ntmps111, List.size_toArray, List.length_cons, List.length_nil, Nat.reduceAdd, Nat.reduceSub, Array.replicate_succ, Array.replicate_zero, List.push_toArray, List.append_toArray, List.nil_append, List.cons_append]
  gi_wp2
  gi_loopw [8] (fun q wr => ∃ (k : Nat) (pre : List (EntryC × Int)), k ≤ len ∧ q = .int .i64 k ∧ stepsOf none l = pre ++ stepsOf (prevOf l k) (l.drop k) ∧ J pre wr ∧ Rd W.heap.size S W wr) (fun q _ => len - (intOf q).toNat)
  case atStart => exact ⟨0, [], by omega, rfl, rfl, h0, Rd.refl _ _ _⟩
  case round =>
    obtain ⟨k, pre, hk, rfl, hX, hJ, hR⟩ := hrel
    have HX0 := Lib.hid hX
    clear hX
    by_cases hlt : k < len
    · obtain ⟨b, off, rfl, hb, hc⟩ := hcs (by omega)
      have hSbb := hSb b ⟨b, off, rfl, by omega, rfl⟩
      have hkl : k < l.length := by omega
      have cell : ∀ (W2 : World), Rd W.heap.size S W W2 → ∀ m (hm : m < l.length) i v, i < 3 → (l[m].cells)[i]? = some v → W2.cell? ⟨b, off + (m * 3 + i), none⟩ = some v := fun W2 h2 m hm i v hi hv =>
        h2.cell (hW.cell (RowV.at_ (len := len) (sz := 3) hc (by rw [entryCells, flat_at EntryC.cells 3 EntryC.len l m i hm hi]; exact hv)) hSbb) hSbb
      have c0 : wr.cell? ⟨b, off + k * 3, none⟩ = some (.int .i64 l[k].i) := cell wr hR k hkl 0 _ (by decide) rfl
      have c1 : wr.cell? ⟨b, off + k * 3 + 1, none⟩ = some (.int .i64 l[k].t) := cell wr hR k hkl 1 _ (by decide) rfl
      have c2 : wr.cell? ⟨b, off + k * 3 + 2, none⟩ = some (.string l[k].d) := cell wr hR k hkl 2 _ (by decide) rfl
      have HD := Lib.hid (List.drop_eq_getElem_cons hkl)
      have HPN := Lib.hid (show prevOf l (k + 1) = some l[k].i by simp [prevOf, List.getElem?_eq_getElem hkl])
      by_cases hz : k = 0
      · subst hz
        simp only [Nat.zero_mul, Nat.add_zero] at c0 c1 c2
        have HX := Lib.hid (show stepsOf none l = pre ++ ((l[0], 1) :: stepsOf (prevOf l 1) (l.drop 1)) by rw [HX0.out, HD.out, HPN.out]; rfl)
        clear cell hc
        generalize l[0] = x at *
        have hy0 := hY _ _ _ (wr.alloc (.cells #[.int .i64 x.i, .int .i64 x.t, .string x.d] 115)) HX.out (hJs _ _ _ hJ (Moves.alloc _ _))
        obtain ⟨fn, tmps, assign, body, hy, hR1⟩ := hy0
        dsimp only [stepEnc] at hy
        gi_wp2
        refine (roundIn_wide_n hR1).mono ?_
        rintro e W3 (⟨rfl, hJ3, hk3⟩ | ⟨rfl, hJx3⟩)
        · gi_wp2
          go_roundw
          case rel => exact ⟨1, _, by omega, rfl, by rw [HX.out]; simp, hJ3, (hR.alloc _).trans hk3⟩
          case measure => simp [intOf]; omega
        · gi_wp2
          refine bodyPost_ret (results_none rfl _ _ _) rfl ?_
          exact ⟨⟨_, rfl⟩, .inr ⟨_, _, _, HX.out, hJx3⟩⟩
      · obtain ⟨j, rfl⟩ : ∃ j, k = j + 1 := ⟨k - 1, by omega⟩
        have hjl : j < l.length := by omega
        have HX := Lib.hid (show stepsOf none l = pre ++ ((l[j + 1], wrap64 (l[j + 1].i - l[j].i)) :: stepsOf (prevOf l (j + 1 + 1)) (l.drop (j + 1 + 1))) by
          rw [HX0.out, HD.out, HPN.out]
          simp [stepsOf, prevOf, List.getElem?_eq_getElem hjl])
        have p0 : (wr.alloc (.cells #[.int .i64 l[j + 1].i, .int .i64 l[j + 1].t, .string l[j + 1].d] 115)).cell? ⟨b, off + j * 3, none⟩ = some (.int .i64 l[j].i) := cell _ (hR.alloc _) j hjl 0 _ (by decide) rfl
        have pL := (hR.alloc (.cells #[.int .i64 l[j + 1].i, .int .i64 l[j + 1].t, .string l[j + 1].d] 115)).cell hcl0 hS
        clear cell hc
        generalize l[j + 1] = x at *
        generalize l[j] = y at *
        have hy0 := hY _ _ _ ((wr.alloc (.cells #[.int .i64 x.i, .int .i64 x.t, .string x.d] 115)).drew) HX.out (hJs _ _ _ hJ (Moves.below ((bel_alloc (Below.refl _ _) _).drew)))
        obtain ⟨fn, tmps, assign, body, hy, hR1⟩ := hy0
        dsimp only [stepEnc] at hy
        gi_wp2
        gi_region
        all_goals
          gi_wp2
          refine (roundIn_wide_n hR1).mono ?_
          rintro e W3 (⟨rfl, hJ3, hk3⟩ | ⟨rfl, hJx3⟩)
          · gi_wp2
            go_roundw
            case rel => exact ⟨j + 1 + 1, _, by omega, rfl, by rw [HX.out]; simp, hJ3, (((hR.alloc _).drew)).trans hk3⟩
            case measure => simp [intOf]; omega
          · gi_wp2
            refine bodyPost_ret (results_none rfl _ _ _) rfl ?_
            exact ⟨⟨_, rfl⟩, .inr ⟨_, _, _, HX.out, hJx3⟩⟩
    · obtain rfl : k = len := by omega
      have HX := Lib.hid (show stepsOf none l = pre by rw [HX0.out, List.drop_of_length_le (by omega)]; cases (prevOf l k) <;> simp [stepsOf])
      gi_wp2
      refine bodyPost_end (results_none rfl _ _ _) rfl ?_
      exact ⟨⟨_, rfl⟩, .inl (by rw [HX.out]; exact hJ)⟩

end Go.Proofs.Ytdncdlbhgaehmaa

/- The contract of package part's areEntries. -/
namespace Go.Proofs.Ytdncdlbhgaehmaa
open Go.RowKit Go.Shelf
set_option linter.unusedVariables false
attribute [local go_sem] Oper.semAt_some wide_fn wide_round_fn

theorem inBlkE_lt {a : Option Addr} {len : Nat} {w : World} {sz : Nat} {xs : List Value} (h : RowV w a len sz xs) {k : Nat} (hk : inBlkE a len k) : k < w.heap.size := by
  obtain ⟨b, off, rfl, h0, rfl⟩ := hk
  obtain ⟨b', off', e, hb, _⟩ := h.2.2 h0
  cases e; exact hb

theorem steps_makes (a : Option Addr) (len cap : Nat) (l : List EntryC) (hl : l.length = len) (hm : len < 1000000) (w : World) (hrow : RowV w a len 3 (entryCells l)) :
    MakesOver Try.prog 87 #[.slice a len cap] w 111 stepEnc (stepsOf none l) (inBlkE a len) := by
  unfold MakesOver
  go_enter Try.func87, Try.ntmps87
  go_wp2
  go_ret
  have hB : Below w.heap.size w (w.alloc (.cells #[.slice a len cap] 37)) := bel_alloc (Below.refl _ _) _
  refine ⟨_, rfl, hB, ?_⟩
  exact steps_iter w.heap.size a len cap l hl hm _ (.inr ⟨Nat.le_refl _, by simp⟩) (fun k h => .inl h) _ ((Boxed.new w _ _).cell) (hrow.below hB)

def stepB (most : Int) (p : EntryC × Int) : Bool := entryB p.1 && wB p.2 1 most
def areB (most : Int) (l : List EntryC) : Bool := decide (l.length ≤ 6) && (stepsOf none l).all (stepB most)
abbrev areL (w : World) (most : Int) : List (Nat × TypeId × Value) := [(w.heap.size, 3, .int .i64 most), (w.heap.size + 1, 4, .bool false)]
theorem cnt_steps (l : List EntryC) : ∀ p, (stepsOf p l).length = l.length := by
  induction l with
  | nil => intro p; cases p <;> rfl
  | cons x r ih => intro p; cases p <;> simp [stepsOf, ih]

set_option maxRecDepth 100000 in
set_option maxHeartbeats 1000000 in
theorem areEntries_any (a : Option Addr) (len cap : Nat) (l : List EntryC) (hl : l.length = len) (hm : len < 1000000) (most : Int) (w : World) (hrow : RowV w a len 3 (entryCells l)) :
    Gives Try.prog 62 #[.slice a len cap, .int .i64 most] w (.bool (areB most l)) := by
  refine (callsIn_wide (n := 9)).1 ?_
  refine callsIn_of_wp_marks Try.func62 rfl trivial ?_ rfl
  simp only [Try.ntmps62, List.size_toArray, List.length_cons, List.length_nil, Nat.reduceAdd, Nat.reduceSub, Array.replicate_succ, Array.replicate_zero, List.push_toArray, List.append_toArray, List.nil_append, List.cons_append]
  have b0 := boxesI_alloc (boxesI_alloc (boxesI_nil w) 3 (.int .i64 most)) 4 (.bool false)
  simp only [World.size_alloc, List.nil_append, List.cons_append] at b0
  by_cases h6 : 6 < len
  · have hv := Lib.hid (show areB most l = false by simp [areB]; omega)
    have c0 := boxesI_cell b0 1 rfl
    have f0 := boxesI_frozen b0 1 rfl
    dsimp only at c0 f0
    gi_wp2
    exact ⟨.bool false, by simp [results, Try.results62, go_sem, c0], by rw [hv.out], b0.2⟩
  · have hlt : ∀ k, inBlkE a len k → k < w.heap.size := fun k hk => inBlkE_lt hrow hk
    have M := Lib.hid (steps_makes a len cap l hl hm _ (hrow.below b0.2))
    clear hrow
    gi_wp2_with (gi_at_call 87; refine (callsIn_wide.2 M.out).mono ?_; rintro e w1 ⟨lb, rfl, hB1, hI1⟩)
    have b1 := boxesI_below b0 hB1
    clear b0 hB1
    simp only [World.size_alloc] at hI1
    refine range_outer rfl (enters_of Try.func111 (by kernel_rfl) rfl) hI1 (fun _ => rfl) (fun k hk => hk.elim (fun h => Nat.lt_of_lt_of_le (hlt k h) b1.2.size) (fun h => h.2)) (fun _ h => h.elim)
      (fun pre W => pre.all (stepB most) = true ∧ boxesI w (areL w most) W) (fun c _ W => c = .ret ∧ areB most l = false ∧ boxesI w (areL w most) W) (fun _ => (Stab.pure _).and (boxesI_stab b1.2.size)) (fun _ _ => (Stab.pure _).and ((Stab.pure _).and (boxesI_stab b1.2.size))) ⟨by simp, b1⟩ ?hr ?hd ?hs
    case hr =>
      rintro L pre ⟨x, st⟩ suf W hx hl' hi1 hrec
      dsimp only [stepEnc]
      have HA := Lib.hid (show areB most l = (pre.all (stepB most) && (stepB most (x, st) && suf.all (stepB most))) by simp [areB, hx]; omega)
      have HN := Lib.hid (show (pre ++ [(x, st)]).all (stepB most) = (pre.all (stepB most) && stepB most (x, st)) by simp)
      have G1 := Lib.hid (isEntry_any x)
      have G2 := Lib.hid (within_any st 1 most)
      clear hx
      gi_wp2
      refine rdThen_mk (fun W' => (pre.all (stepB most) = true ∧ boxesI w (areL w most) W') ∧ W'.heap[W.heap.size]? = some (.cells #[.int .i64 x.i, .int .i64 x.t, .string x.d] 115 (0, 0)))
        (((Stab.pure _).and (boxesI_stab b1.2.size)).and (Stab.block id (.inr rfl))) ⟨⟨hi1.1, boxesI_stab b1.2.size _ _ hi1.2 (Moves.alloc _ _)⟩, World.alloc_heap_new W _⟩ ((Rd.refl _ _ _).alloc _) ?_
      obtain ⟨X, hX⟩ : ∃ X, X = W.heap.size := ⟨_, rfl⟩
      rw [← hX]
      clear hi1 hrec hX W
      rintro W ⟨⟨hp, hi⟩, hblk⟩ hrec
      have d0 : W.cell? ⟨X, 0, none⟩ = some (.int .i64 x.i) := cell_of_row W X 0 _ _ _ hblk
      have d1 : W.cell? ⟨X, 1, none⟩ = some (.int .i64 x.t) := cell_of_row W X 1 _ _ _ hblk
      have d2 : W.cell? ⟨X, 2, none⟩ = some (.string x.d) := cell_of_row W X 2 _ _ _ hblk
      have HP := Lib.hid hp
      clear hp hblk
      cases he : entryB x with
      | false =>
        have hv := Lib.hid (show areB most l = false by rw [HA.out]; simp [stepB, he])
        rw [he] at G1
        clear HA HN he
        gi_wp2_with (gi_at_call 88; refine (callsIn_wide.2 (G1.out _)).mono ?_; rintro e w2 ⟨rfl, hB2⟩; have hi2 := boxesI_below hi hB2; have f1 := boxesI_frozen hi2 1 rfl; have c1 := boxesI_cell hi2 1 rfl; dsimp only at f1 c1)
        exact ⟨((Rd.refl _ _ _).trans (.below hB2)).setBox (boxesI_at hi2 1 rfl) id _, rfl, hv.out, boxesI_put hi2 (by simp) 1 rfl (by simp) (.bool false)⟩
      | true =>
        rw [he] at G1
        cases hs : wB st 1 most with
        | false =>
          have hv := Lib.hid (show areB most l = false by rw [HA.out]; simp [stepB, hs])
          rw [hs] at G2
          clear HA HN he hs
          gi_wp2_with (first
            | (gi_at_call 88; refine (callsIn_wide.2 (G1.out _)).mono ?_; rintro e w2 ⟨rfl, hB2⟩; have hi2 := boxesI_below hi hB2; have c0 := boxesI_cell hi2 0 rfl; dsimp only at c0)
            | (gi_at_call 68; refine (callsIn_wide.2 (G2.out _)).mono ?_; rintro e w3 ⟨rfl, hB3⟩; have hi3 := boxesI_below hi2 hB3; have f1 := boxesI_frozen hi3 1 rfl; have c1 := boxesI_cell hi3 1 rfl; dsimp only at f1 c1))
          exact ⟨(((Rd.refl _ _ _).trans (.below hB2)).trans (.below hB3)).setBox (boxesI_at hi3 1 rfl) id _, rfl, hv.out, boxesI_put hi3 (by simp) 1 rfl (by simp) (.bool false)⟩
        | true =>
          have hv := Lib.hid (show (pre ++ [(x, st)]).all (stepB most) = true by rw [HN.out, HP.out]; simp [stepB, hs, he])
          rw [hs] at G2
          clear HA HN he hs
          gi_wp2_with (first
            | (gi_at_call 88; refine (callsIn_wide.2 (G1.out _)).mono ?_; rintro e w2 ⟨rfl, hB2⟩; have hi2 := boxesI_below hi hB2; have c0 := boxesI_cell hi2 0 rfl; dsimp only at c0)
            | (gi_at_call 68; refine (callsIn_wide.2 (G2.out _)).mono ?_; rintro e w3 ⟨rfl, hB3⟩; have hi3 := boxesI_below hi2 hB3; have f1 := boxesI_frozen hi3 1 rfl; have c1 := boxesI_cell hi3 1 rfl; dsimp only at f1 c1))
          exact ⟨((Rd.refl _ _ _).trans (.below hB2)).trans (.below hB3), hv.out, hi3⟩
    case hd =>
      rintro W ⟨hp, hi⟩ hD
      have hv := Lib.hid (show areB most l = true by simp [areB, hp]; omega)
      clear hp
      have c0 := boxesI_cell hi 1 rfl
      have f0 := boxesI_frozen hi 1 rfl
      dsimp only at c0 f0
      gi_wp2
      have r2 := boxesI_put hi (by simp) 1 rfl (by simp) (.bool true)
      have r1 : Rd w1.heap.size (fun _ => False) W _ := boxesI_rd hi (Rd.refl _ _ _) 1 rfl id (.bool true)
      have hD2 := r1.block _ _ hD (.inr ⟨Nat.le_refl _, rfl⟩)
      have c0 := cell_putObj (o' := .deferred none) (boxesI_cell r2 1 rfl) hD2 rfl
      dsimp only at c0
      exact leave_one hD2 (by simp [results, Try.results62, go_sem, c0, hv.out]) ⟨rfl, below_putObj r2.2 (Nat.le_refl _) b1.2.size _⟩
    case hs =>
      rintro c pre x suf W hx ⟨rfl, hv, hi⟩ hD
      gi_wp2
      have c0 := cell_putObj (o' := .deferred none) (boxesI_cell hi 1 rfl) hD rfl
      dsimp only at c0
      exact leave_one hD (by simp [results, Try.results62, go_sem, c0, hv]) ⟨rfl, below_putObj hi.2 (Nat.le_refl _) b1.2.size _⟩

end Go.Proofs.Ytdncdlbhgaehmaa
