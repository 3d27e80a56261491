/- Flips, Live, Victim, Turned, Bytes, RecBig, BigV: in one text. -/
import Derived.Test.YtbhhbjgdkcfagaaFrames
import Derived.Test.YtbhhbjgdkcfagaaKit
import Derived.Test.YtbhhbjgdkcfagaaRowV
import Derived.Test.YtbhhbjgdkcfagaaProg
import Derived.Maps.OwnOps
import Derived.Maps.Views
import Derived.Lib.SliceRun
import Derived.Test.YtbhhbjgdkcfagaaRecs
import Derived.Laws.IdiomStrings
import Derived.Laws.OwnMore
/- A bit that is flipped: in a row of bytes, in a byte; a bit of a number. -/
namespace Go.Proofs.Ytbhhbjgdkcfagaa
open Go.RowKit Go.Shelf
set_option linter.unusedVariables false

theorem bitB_flip (l : List UInt8) (n : Nat) (hn : n / 8 < l.length) (j : Nat) : bitB (l.set (n / 8) (UInt8.ofNat ((l[n / 8]).toNat ^^^ 2 ^ (n % 8)))) j = (bitB l j ^^ decide (j = n)) := by
  have hx : (l[n / 8]).toNat ^^^ 2 ^ (n % 8) < 256 := Nat.xor_lt_two_pow (n := 8) (l[n / 8]).toNat_lt (show 2 ^ (n % 8) < 2 ^ 8 from Nat.pow_lt_pow_right (by decide) (by omega))
  unfold bitB
  by_cases h : j / 8 = n / 8
  · rw [h, List.getD_eq_getElem?_getD, List.getElem?_set_self hn, List.getD_eq_getElem?_getD, List.getElem?_eq_getElem hn]
    simp only [Option.getD_some, UInt8.toNat_ofNat']
    rw [Nat.mod_eq_of_lt hx, Nat.testBit_xor, Nat.testBit_two_pow]
    congr 1
    exact decide_eq_decide.2 ⟨fun e => by omega, fun e => by omega⟩
  · rw [List.getD_eq_getElem?_getD, List.getElem?_set_ne (Ne.symm h), ← List.getD_eq_getElem?_getD, decide_eq_false (fun e => h (by rw [e])), Bool.xor_false]
theorem bit_at' (c k : Nat) (hc : c < 4294967296) : bits .and .u32 ((c : Int) / 2 ^ k) 1 = ((c.testBit k).toNat : Int) := by
  have h1 : (c : Int) / 2 ^ k = ((c / 2 ^ k : Nat) : Int) := by push_cast; rfl
  have h2 : c / 2 ^ k < 4294967296 := Nat.lt_of_le_of_lt (Nat.div_le_self _ _) (by omega)
  rw [h1, show (1 : Int) = ((1 : Nat) : Int) from rfl, u32_and_nat _ _ h2 (by decide), lsb_and]
  rw [Nat.testBit_zero, Nat.testBit_eq_decide_div_mod_eq]
theorem flip_val (c : UInt8) (q : Nat) (hq : q < 8) : bits .xor .u8 (c.toNat : Int) (2 ^ q % 256) = ((UInt8.ofNat (c.toNat ^^^ 2 ^ q)).toNat : Int) := by
  have hp : 2 ^ q < 2 ^ 8 := Nat.pow_lt_pow_right (by decide) hq
  have hx : c.toNat ^^^ 2 ^ q < 256 := Nat.xor_lt_two_pow (n := 8) c.toNat_lt hp
  have e : ((2 : Int) ^ q % 256) = ((2 ^ q : Nat) : Int) := by
    have h2 : ((2 ^ q : Nat) : Int) = (2 : Int) ^ q := by push_cast; rfl
    rw [← h2]
    generalize 2 ^ q = m at hp
    omega
  rw [e, UInt8.toNat_ofNat', Nat.mod_eq_of_lt hx]
  show IntKind.u8.wrap ((BitVec.ofInt 8 (c.toNat : Int) ^^^ BitVec.ofInt 8 ((2 ^ q : Nat) : Int)).toNat : Int) = _
  have h1 : (BitVec.ofInt 8 (c.toNat : Int)).toNat = c.toNat := by rw [BitVec.toNat_ofInt]; have := c.toNat_lt; omega
  have h2 : (BitVec.ofInt 8 ((2 ^ q : Nat) : Int)).toNat = 2 ^ q := by rw [BitVec.toNat_ofInt]; omega
  rw [BitVec.toNat_xor, h1, h2]
  simp [IntKind.wrap, IntKind.bits, IntKind.signed]; omega

end Go.Proofs.Ytbhhbjgdkcfagaa

/- The contracts of package live's functions that keep a map: Counts; what a row of spots is. -/
namespace Go.Proofs.Ytbhhbjgdkcfagaa
open Go.RowKit Go.Shelf
open Go.Maps (Keyed int_keyed keyOf_int_mk IsMap atKey_put_same atKey_put_other isMap_empty)
set_option linter.unusedVariables false
attribute [local go_sem] Oper.semAt_some wide_fn wide_round_fn

/-- A call that hands back a row of its own. -/
abbrev GivesRow (P : Program) (f : FuncId) (args : Array Value) (w : World) (e : TypeId) (sz n : Nat) (xs : List Value) : Prop :=
  Calls P f args w fun en w' => ∃ v, en = .returned v ∧ w'.ownsRow w.heap.size e sz v n xs ∧ Below w.heap.size w w'

/-- Something that counts: its group, its index, its segment, the place in it. -/
structure SpotC where
  g : Int
  i : Int
  s : Int
  p : Int
def SpotC.cells (f : SpotC) : List Value := [.int .i64 f.g, .int .i64 f.i, .int .i64 f.s, .int .i64 f.p]
theorem SpotC.len (f : SpotC) : f.cells.length = 4 := rfl
def spotCells (l : List SpotC) : List Value := (l.map SpotC.cells).flatten
theorem spotCells_snoc (l : List SpotC) (f : SpotC) : spotCells (l ++ [f]) = spotCells l ++ f.cells := by simp [spotCells]
def inL (l : List SpotC) (z : Int) : List SpotC := l.filter fun f => f.s == z
def cnt (l : List SpotC) (z : Int) : Nat := (inL l z).length
theorem cnt_le (l : List SpotC) (z : Int) : cnt l z ≤ l.length := List.length_filter_le _ _
theorem inL_take (l : List SpotC) (z : Int) (k : Nat) (h : k < l.length) : inL (l.take (k + 1)) z = inL (l.take k) z ++ (if l[k].s = z then [l[k]] else []) := by
  unfold inL
  rw [List.take_succ_eq_append_getElem h, List.filter_append]
  by_cases e : l[k].s = z
  · simp [e]
  · simp [e]
theorem cnt_take (l : List SpotC) (z : Int) (k : Nat) (h : k < l.length) : cnt (l.take (k + 1)) z = cnt (l.take k) z + (if l[k].s = z then 1 else 0) := by
  unfold cnt
  rw [inL_take l z k h, List.length_append]
  split <;> rfl
theorem wf_i64 {n : Int} (h : -9223372036854775808 ≤ n ∧ n < 9223372036854775808) : (Lit.int .i64 n).wf = true := by
  simp [Lit.wf, IntKind.min, IntKind.max, IntKind.signed, IntKind.bits]; omega
/-- The cells of the k-th spot of a slice. -/
theorem spot_at {w wr : World} {b off : Nat} {l : List SpotC} (hb : b < w.heap.size) (hB : Below w.heap.size w wr) (hc : ∀ j (h : j < (spotCells l).length), w.cell? ⟨b, off + j, none⟩ = some (spotCells l)[j]) {k : Nat} (hk : k < l.length) :
    wr.cell? ⟨b, off + k * 4, none⟩ = some (.int .i64 l[k].g) ∧ wr.cell? ⟨b, off + k * 4 + 1, none⟩ = some (.int .i64 l[k].i) ∧ wr.cell? ⟨b, off + k * 4 + 2, none⟩ = some (.int .i64 l[k].s) ∧ wr.cell? ⟨b, off + k * 4 + 3, none⟩ = some (.int .i64 l[k].p) := by
  have cell : ∀ i v, i < 4 → (l[k].cells)[i]? = some v → wr.cell? ⟨b, off + (k * 4 + i), none⟩ = some v := fun i v hi hv =>
    (hB.cell (p := ⟨b, off + (k * 4 + i), none⟩) hb).trans (RowV.at_ (len := l.length) (sz := 4) hc (by rw [spotCells, flat_at SpotC.cells 4 SpotC.len l k i hk hi]; exact hv))
  exact ⟨cell 0 _ (by decide) rfl, cell 1 _ (by decide) rfl, cell 2 _ (by decide) rfl, cell 3 _ (by decide) rfl⟩

theorem lawInt : Keyed Try.prog 3 := int_keyed Try.underlying3
theorem zeroInt (w : World) : (zeroValue 3).run Try.prog w = .ok (.int .i64 0) w := by kernel_rfl
theorem infoInt : (Try.prog.info? 3).map (fun i => (i.zero, i.size, i.bytes)) = some (some (.int .i64 0), 1, 8) := by kernel_rfl
/-- What a map of numbers holds, by its keys. -/
def Holds (D : DataW Unit) (f : Int → Nat) : Prop := IsMap D ∧ ∀ z : Int, D.atKey (.int .i64 z) (.lit (.int .i64 0)) = .lit (.int .i64 (f z))
theorem holds_nil : Holds (.map []) (fun _ => 0) := ⟨isMap_empty, fun _ => rfl⟩
theorem holds_put {D : DataW Unit} {f f' : Int → Nat} (h : Holds D f) (z : Int) (m : Nat) (h1 : f' z = m) (h2 : ∀ y, y ≠ z → f' y = f y) : Holds (D.put (.int .i64 z) (.lit (.int .i64 m))) f' :=
  ⟨h.1.put _ _, fun y => by
    by_cases e : y = z
    · subst e; rw [atKey_put_same h.1 (by simp [WideAt.IsKeyLit]), h1]
    · rw [atKey_put_other (by simpa using e), h2 y e]; exact h.2 y⟩
theorem holds_at {D : DataW Unit} {f : Int → Nat} (h : Holds D f) {z c : Int} (hc : D.atKey (.int .i64 z) (.lit (.int .i64 0)) = .lit (.int .i64 c)) : c = f z := by
  rw [h.2 z] at hc
  injection hc with hc
  injection hc with _ hc
  exact hc.symm

end Go.Proofs.Ytbhhbjgdkcfagaa

/- The contracts of package victim's functions: Sealed, Pick, Rounds; of slices.Clone at numbers. -/
namespace Go.Proofs.Ytbhhbjgdkcfagaa
open Go.RowKit Go.Shelf
set_option linter.unusedVariables false
attribute [local go_sem] Oper.semAt_some wide_fn wide_round_fn

abbrev intsV (zs : List Int) : List Value := zs.map (Value.int .i64)

/-- The first n elements of a longer slice of numbers. -/
theorem rowI_cut {w : World} {a : Option Addr} {len : Nat} {zs : List Int} (h : RowI .i64 w a len zs) (n : Nat) (hn : n ≤ len) : RowI .i64 w a n (zs.take n) := by
  obtain ⟨h1, h2, h3, h4⟩ := h
  refine ⟨by rw [List.length_take]; omega, by omega, fun y hy => h3 y (List.mem_of_mem_take hy), fun h0 => ?_⟩
  obtain ⟨b, off, e, hb, hc⟩ := h4 (by omega)
  exact ⟨b, off, e, hb, fun i hi => by rw [List.getElem_take]; exact hc i (by rw [List.length_take] at hi; omega)⟩
theorem rowI_below {w w' : World} {k : IntKind} {a : Option Addr} {len : Nat} {zs : List Int} (h : RowI k w a len zs) (hb : Below w.heap.size w w') : RowI k w' a len zs :=
  ⟨h.1, h.2.1, h.2.2.1, fun h0 => by
    obtain ⟨b, off, e, hlt, hc⟩ := h.2.2.2 h0
    exact ⟨b, off, e, Nat.lt_of_lt_of_le hlt hb.size, fun j hj => (hb.cell (p := ⟨b, off + j, none⟩) hlt).trans (hc j hj)⟩⟩
/-- A row of numbers that a call has made is such a slice. -/
theorem rowI_own {w : World} {base : Nat} {e : TypeId} {n : Nat} {v : Value} {zs : List Int} (h : w.ownsRow base e 1 v n (intsV zs)) (hw : ∀ z ∈ zs, (Lit.int .i64 z).wf = true) : ∃ a cap, v = .slice a n cap ∧ n ≤ cap ∧ RowI .i64 w a n zs := by
  obtain ⟨a, cap, e, hn, h1, h2, h3⟩ := rowV_own h
  have hl : zs.length = n := by simpa using h1
  refine ⟨a, cap, e, hn, hl, h2, hw, fun h0 => ?_⟩
  obtain ⟨b, off, e2, hb, hc⟩ := h3 h0
  exact ⟨b, off, e2, hb, fun i hi => by rw [hc i (by simpa using hi), List.getElem_map]⟩

/-- How many are left, from r on downwards, when what has none goes. -/
def back (f : Nat → Nat) : Nat → Nat
  | 0 => 0
  | r + 1 => if f r = 0 then back f r else r + 1
def roundsB (zs : List Int) (l : List SpotC) : Nat := back (fun i => cnt l (zs.getD i 0)) (zs.length - 1)

/-- Rows of unlike elements lie apart. -/
theorem rows_apart {w : World} {b1 b2 : Nat} {e1 e2 : TypeId} {s1 s2 n1 n2 : Nat} {v1 v2 : Value} {xs1 xs2 : List Value} (h1 : w.ownsRow b1 e1 s1 v1 n1 xs1) (h2 : w.ownsRow b2 e2 s2 v2 n2 xs2) (hne : e1 ≠ e2) :
    v1.ownBlock = none ∨ v1.ownBlock ≠ v2.ownBlock := by
  rcases h1.2 with ⟨rfl, _⟩ | ⟨g, cap, cur, rfl, _, hg, _⟩
  · exact .inl rfl
  · refine .inr fun he => ?_
    rcases h2.2 with ⟨rfl, _⟩ | ⟨g', cap', cur', rfl, _, hg', _⟩
    · cases he
    · cases he
      rw [hg] at hg'
      injection hg' with hg'
      injection hg' with _ ht
      exact hne ht

end Go.Proofs.Ytbhhbjgdkcfagaa

/- A record with one byte turned is bad: on lists of bytes alone. -/
namespace Go.Proofs.Ytbhhbjgdkcfagaa
open Go.RowKit Go.Shelf
set_option linter.unusedVariables false

theorem bitB_xor (l : List UInt8) (i : Nat) (y : UInt8) (hi : i < l.length) (j : Nat) : bitB (l.set i (l[i] ^^^ y)) j = (bitB l j ^^ (decide (j / 8 = i) && y.toNat.testBit (j % 8))) := by
  unfold bitB
  by_cases h : j / 8 = i
  · rw [h, List.getD_eq_getElem?_getD, List.getElem?_set_self hi, List.getD_eq_getElem?_getD, List.getElem?_eq_getElem hi]
    simp only [Option.getD_some, decide_true, Bool.true_and]
    rw [UInt8.toNat_xor, Nat.testBit_xor]
  · rw [List.getD_eq_getElem?_getD, List.getElem?_set_ne (Ne.symm h), ← List.getD_eq_getElem?_getD, decide_eq_false h, Bool.false_and, Bool.xor_false]
/-- A frame with one byte turned is bad, whatever stands behind it. -/
theorem wrap_turned (b u : ByteArray) (h1 : 1 ≤ b.size) (h2 : b.size ≤ 2000) (i : Nat) (hi : i < (wrapB b).data.toList.length) (y : UInt8) (hy : y ≠ 0) : readF (⟨((wrapB b).data.toList.set i ((wrapB b).data.toList[i] ^^^ y)).toArray⟩ ++ u) = (⟨#[]⟩, 0, 4) := by
  have hl : (wrapB b).data.toList.length = b.size + 12 := by rw [ba_size, wrapB_size]
  have hz : (⟨((wrapB b).data.toList.set i ((wrapB b).data.toList[i] ^^^ y)).toArray⟩ : ByteArray).size = b.size + 12 := by
    show ((wrapB b).data.toList.set i ((wrapB b).data.toList[i] ^^^ y)).toArray.size = _
    simp [← hl]
  have hy0 : y.toNat ≠ 0 := fun h => hy (UInt8.toNat_inj.1 h)
  obtain ⟨q, hq⟩ := Nat.exists_testBit_of_ne_zero hy0
  have hq8 : q < 8 := by
    rcases Nat.lt_or_ge q 8 with h | h
    · exact h
    · rw [Nat.testBit_lt_two_pow (Nat.lt_of_lt_of_le y.toNat_lt (Nat.pow_le_pow_right (n := 2) (by decide) h))] at hq; cases hq
  refine read_bursts b _ u h1 h2 hz (fun j => decide (j / 8 = i) && y.toNat.testBit (j % 8)) (min (8 * i) (8 * (b.size + 12) - 32)) (by omega) (fun j _ => ?_) (fun j hj => ?_) (fun j hj => ?_) ⟨8 * i + q, by omega, by omega, ?_⟩
  · rw [show (⟨((wrapB b).data.toList.set i ((wrapB b).data.toList[i] ^^^ y)).toArray⟩ : ByteArray).data.toList = (wrapB b).data.toList.set i ((wrapB b).data.toList[i] ^^^ y) by simp]
    exact bitB_xor _ _ _ hi j
  · rw [decide_eq_false (by omega), Bool.false_and]
  · rw [decide_eq_false (by omega), Bool.false_and]
  · rw [decide_eq_true (show (8 * i + q) / 8 = i by omega), show (8 * i + q) % 8 = q by omega, hq]; rfl
theorem recM_class {s : ByteArray} {c : Nat} (h : readF s = (⟨#[]⟩, 0, c)) (hc : c ≠ 1) : recM s = (0, [], 0, c) := by
  unfold recM; rw [h]; dsimp only; rw [if_pos hc]
/-- A record's bytes with one byte turned, whatever stands behind. -/
theorem recM_turned {s : Int} {L : List PL} (hl : ∀ x ∈ L, x.2.length = x.1.len) (h : recB s L = true) (i : Nat) (hi : i < (recS s L).data.toList.length) (y : UInt8) (hy : y ≠ 0) (t : List UInt8) : recM (mkBA ((recS s L).data.toList.set i ((recS s L).data.toList[i] ^^^ y) ++ t)) = (0, [], 0, 4) := by
  have hb := bodyL_len hl h
  rw [mkBA_app]
  simp only [recS_ok h] at hi ⊢
  exact recM_class (wrap_turned (bodyS s L) (mkBA t) (by show 1 ≤ (bodyL s L).length; omega) (by show (bodyL s L).length ≤ 2000; omega) i hi y hy) (by decide)
theorem recM_whole {s : Int} {L : List PL} (hl : ∀ x ∈ L, x.2.length = x.1.len) (h : recB s L = true) (t : List UInt8) : recM (mkBA ((recS s L).data.toList ++ t)) = (s, L.map core, (recS s L).size, 1) := by
  rw [mkBA_app, mkBA_self]; exact recM_back hl h _

end Go.Proofs.Ytbhhbjgdkcfagaa

/- Rows of bytes that a call has made: '[]byte(s)', 'make([]byte, n)'; a store into one; 'string(b)'. -/
namespace Go.Proofs.Ytbhhbjgdkcfagaa
open Go.RowKit Go.Shelf
set_option linter.unusedVariables false

/-- Block g holds the bytes l from its beginning on; none of them is frozen. -/
structure BytesAt (W : World) (g : Nat) (l : List UInt8) : Prop where
  lt : g < W.heap.size
  cell : ∀ j (h : j < l.length), W.cell? ⟨g, j, none⟩ = some (vb l[j])
  frozen : ∀ j, j < l.length → W.frozen? ⟨g, j, none⟩ = false

theorem BytesAt.below {W W' : World} {g : Nat} {l : List UInt8} (h : BytesAt W g l) (hb : Below W.heap.size W W') : BytesAt W' g l :=
  ⟨Nat.lt_of_lt_of_le h.lt hb.size, fun j hj => (hb.cell (p := ⟨g, j, none⟩) h.lt).trans (h.cell j hj), fun j hj => (hb.frozen (p := ⟨g, j, none⟩) h.lt).trans (h.frozen j hj)⟩
theorem BytesAt.drew {W : World} {g : Nat} {l : List UInt8} (h : BytesAt W g l) : BytesAt W.drew g l := ⟨h.lt, h.cell, h.frozen⟩
theorem BytesAt.drewN {W : World} {g : Nat} {l : List UInt8} (n : Nat) (h : BytesAt W g l) : BytesAt (W.drewN n) g l := ⟨h.lt, h.cell, h.frozen⟩
theorem BytesAt.set {W : World} {g : Nat} {l : List UInt8} (h : BytesAt W g l) (j : Nat) (hj : j < l.length) (x : UInt8) : BytesAt (W.setCell ⟨g, j, none⟩ (vb x)) g (l.set j x) := by
  refine ⟨by simpa using h.lt, fun k hk => ?_, fun k hk => by rw [World.frozen?_setCell]; exact h.frozen k (by simpa using hk)⟩
  rw [List.length_set] at hk
  by_cases e : k = j
  · subst e
    rw [List.getElem_set_self]
    exact World.cell?_setCell_same _ _ _ (h.cell k hj)
  · rw [List.getElem_set_ne (Ne.symm e)]
    refine Eq.trans ?_ (h.cell k hk)
    exact World.cell?_setCell_other _ _ _ _ (fun e2 => e (by cases e2; rfl))

/-- '[]byte(s)'. -/
theorem bytes_of {P : Program} {src dst e : TypeId} (hs : P.underlying src = some .string) (hd : P.underlying dst = some (.slice e)) (he : P.underlying e = some (.int .u8)) (s : ByteArray) (W : World) :
    ∃ cap W', s.size ≤ cap ∧ (convert src dst (.string s)).run P W = .ok (.slice (some ⟨W.heap.size, 0, none⟩) s.size cap) W' ∧ Below W.heap.size W W' ∧ BytesAt W' W.heap.size s.data.toList := by
  refine ⟨_, _, ?_, run_bytes_of_string W src dst e s hs hd he, ?_, ?_⟩
  · exact grownCap_ge _ _ _ _
  · exact ((Below.refl _ W).drew).alloc (Nat.le_refl _) _
  · have hsz : s.data.toList.length = s.data.size := by simp
    refine ⟨by simp, fun j hj => ?_, fun j hj => ?_⟩
    · rw [hsz] at hj
      have h1 := World.cell?_alloc_mark W.drew (bytesRow s (grownCap W s.size 0 e)) e ((bytesRow s (grownCap W s.size 0 e)).size, (bytesRow s (grownCap W s.size 0 e)).size + 1) j
      rw [bytesRow_at s _ j hj] at h1
      exact h1
    · rw [hsz] at hj
      have h1 := World.frozen?_alloc_mark W.drew (bytesRow s (grownCap W s.size 0 e)) e (bytesRow s (grownCap W s.size 0 e)).size ((bytesRow s (grownCap W s.size 0 e)).size + 1) j
      refine h1.trans ?_
      have h2 : j < (bytesRow s (grownCap W s.size 0 e)).size := by unfold bytesRow; rw [Array.size_append, Array.size_map]; omega
      rw [decide_eq_false (by omega)]; rfl
/-- 'make([]byte, n)'. -/
theorem bytes_made {P : Program} {t e : TypeId} (i : TypeInfo) (ht : P.underlying t = some (.slice e)) (hi : P.info? e = some i) (hz : i.zero = some (.int .u8 0)) (h1 : i.size = 1) (h2 : i.bytes = 1) (n : Nat) (hn : n ≤ 16777216) (W : World) :
    ∃ W', (Instr.makeSlice t (.int .i64 n) (.int .i64 n)).run P W = .ok (.slice (some ⟨W.heap.size, 0, none⟩) n n) W' ∧ Below W.heap.size W W' ∧ BytesAt W' W.heap.size (List.replicate n 0) := by
  obtain ⟨W', hr, hown, hg⟩ := run_makeSlice_full (P := P) W W.heap.size t e i (.int .u8 0) 1 ht hi hz h1 .i64 .i64 n (by omega) (by rw [h2]; omega) (by unfold maxLen; omega) (Nat.le_refl _)
  refine ⟨W', hr, (Below.refl _ _).grown hg (Nat.le_refl _) (fun k e => by cases e), ?_, fun j hj => ?_, fun j hj => hown.frozenAt j⟩
  · have := hown.lt W.heap.size rfl
    exact this.2
  · rw [List.length_replicate] at hj
    rw [hown.cellAt j (by omega)]
    rw [Nat.mul_one, show (Value.int .u8 0).cells = #[.int .u8 0] from rfl, toList_madeCells_one]
    simp [hj]
/-- 'string(b)'. -/
theorem string_of {P : Program} {src dst e : TypeId} (hs : P.underlying src = some (.slice e)) (he : P.underlying e = some (.int .u8)) (hd : P.underlying dst = some .string) {W : World} {g : Nat} {l : List UInt8} (h : BytesAt W g l) (n cap : Nat) (hn : l.length = n) :
    (convert src dst (.slice (some ⟨g, 0, none⟩) n cap)).run P W = .ok (.string ⟨l.toArray⟩) W := by
  subst hn
  refine run_convert_bytes_back W src dst e _ cap l hs he hd fun j hj => ?_
  rw [show (⟨g, 0, none⟩ : Addr).add j = ⟨g, j, none⟩ from by cases j <;> simp [Addr.add]]
  exact h.cell j hj

end Go.Proofs.Ytbhhbjgdkcfagaa

/- The greatest record, as plain data: it is one, and how many bytes it has. -/
namespace Go.Proofs.Ytbhhbjgdkcfagaa
open Go.RowKit Go.Shelf
set_option linter.unusedVariables false

/-- Forty bytes that are alike. -/
def bigD (c : UInt8) : ByteArray := ⟨#[c, c, c, c, c, c, c, c, c, c, c, c, c, c, c, c, c, c, c, c, c, c, c, c, c, c, c, c, c, c, c, c, c, c, c, c, c, c, c, c]⟩
def bigE (c : UInt8) (k : Nat) : EntryC := ⟨1099511627767 + (k : Int), 1099511627776, bigD c⟩
def bigL (c : UInt8) (n : Nat) : List EntryC := (List.range n).map (bigE c)
def bigP (f : Bool) (a : Option Addr) (cap : Nat) : PartC := if f = true then ⟨999, 6, a, 6, cap, 1099511627776, 1000, 1099511627776, 1099511627776, 1099511627776, true, true⟩ else ⟨999, 1, a, 6, cap, 0, 0, 0, 0, 0, false, false⟩
def bigR (f : Bool) (c : UInt8) (a0 a1 a2 a3 : Option Addr) (c0 c1 c2 c3 : Nat) : List PL := [(bigP f a0 c0, bigL c 6), (bigP f a1 c1, bigL c 6), (bigP f a2 c2, bigL c 6), (bigP f a3 c3, bigL c 6)]
theorem bigL_snoc (c : UInt8) (n : Nat) : bigL c (n + 1) = bigL c n ++ [bigE c n] := by simp [bigL, List.range_succ]
theorem big_isB (f : Bool) (c : UInt8) (a : Option Addr) (cap : Nat) : isB (bigP f a cap) (bigL c 6) = true := by
  cases f
  · refine (isB_iff _ _).2 ⟨⟨by show (0 : Int) ≤ 999; omega, by show (999 : Int) ≤ 999; omega⟩, .inl ⟨rfl, by show (6 : Nat) ≠ 0; omega, by kernel_rfl, rfl, rfl, rfl, rfl, rfl, rfl, rfl⟩⟩
  · refine (isB_iff _ _).2 ⟨⟨by show (0 : Int) ≤ 999; omega, by show (999 : Int) ≤ 999; omega⟩, .inr (.inr (.inr (.inr (.inr ⟨rfl, by kernel_rfl, fun h => (by cases h), fun h => (by cases h)⟩))))⟩
theorem big_okR (f : Bool) (c : UInt8) (a : Option Addr) (cap : Nat) : okR f (bigP f a cap, bigL c 6) = true := by
  unfold okR
  rw [big_isB]
  cases f <;> rfl
theorem big_ok (f : Bool) (c : UInt8) (a0 a1 a2 a3 : Option Addr) (c0 c1 c2 c3 : Nat) : recB 1125899906842624 (bigR f c a0 a1 a2 a3 c0 c1 c2 c3) = true := by
  refine recB_iff.2 ⟨⟨by omega, by omega⟩, ⟨by show 1 ≤ 4; omega, by show 4 ≤ 4; omega⟩, fun x hx => ?_⟩
  have hf : fwdOf (bigR f c a0 a1 a2 a3 c0 c1 c2 c3) = f := by cases f <;> rfl
  rw [hf]
  simp only [bigR, List.mem_cons, List.not_mem_nil, or_false] at hx
  rcases hx with rfl | rfl | rfl | rfl <;> exact big_okR ..
set_option maxRecDepth 100000 in
theorem big_size (f : Bool) (c : UInt8) (a0 a1 a2 a3 : Option Addr) (c0 c1 c2 c3 : Nat) : (recS 1125899906842624 (bigR f c a0 a1 a2 a3 c0 c1 c2 c3)).size ≤ 2012 := by
  rw [recS_ok (big_ok f c a0 a1 a2 a3 c0 c1 c2 c3), wrapB_size]
  refine of_decide_eq_true ?_
  cases f <;> kernel_rfl

end Go.Proofs.Ytbhhbjgdkcfagaa

/- Law RecordBig: what a record that grows part by part keeps. -/
namespace Go.Proofs.Ytbhhbjgdkcfagaa
open Go.RowKit Go.Shelf
set_option linter.unusedVariables false

/-- Of forty bytes the first j are c, the others still 0. -/
def filL (c : UInt8) (j : Nat) : List UInt8 := List.replicate j c ++ List.replicate (40 - j) 0
theorem filL_len (c : UInt8) {j : Nat} (h : j ≤ 40) : (filL c j).length = 40 := by simp [filL]; omega
theorem filL_zero (c : UInt8) : filL c 0 = List.replicate 40 0 := rfl
theorem filL_set (c : UInt8) {j : Nat} (h : j < 40) : (filL c j).set j c = filL c (j + 1) := by
  unfold filL
  rw [List.set_append_right _ _ (by simp)]
  obtain ⟨n, hn⟩ : ∃ n, 40 - j = n + 1 := ⟨39 - j, by omega⟩
  rw [hn, show 40 - (j + 1) = n by omega, List.length_replicate, Nat.sub_self, List.replicate_succ, List.set_cons_zero, List.replicate_succ']
  simp
theorem filL_end (c : UInt8) : filL c 40 = (bigD c).data.toList := by rfl
/-- A record that grows: it lies at X, its row of parts from C on; what its parts hold lies elsewhere; the bytes lie at g. -/
def bigV (w : World) (g X C : Nat) (D : List UInt8) (v : Value) (pre : List PL) (W : World) : Prop :=
  W.heap[X]? = some (.cells #[.int .i64 1125899906842624, v] 32 (0, 0)) ∧ (W.ownsRow C 30 10 v pre.length (partCells pre) ∧ ((∀ x, x ∈ pre → HasE W x.1 x.2 ∧ ∀ k, inBlkE x.1.a x.1.len k → C ≤ k ∧ some k ≠ v.ownBlock) ∧
    (BytesAt W g D ∧ (Below w.heap.size w W ∧ C ≤ W.heap.size))))
theorem bigV.below {w W W' : World} {g X C : Nat} {D : List UInt8} {v : Value} {pre : List PL} (h : bigV w g X C D v pre W) (hB : Below W.heap.size W W') : bigV w g X C D v pre W' := by
  obtain ⟨h1, h2, h3, h4, h5, h6⟩ := h
  exact ⟨(hB.block _ (Array.getElem?_eq_some_iff.1 h1).1).trans h1, ownsRow_below (n := 0) h2 hB, fun x hx => ⟨(h3 x hx).1.below hB, (h3 x hx).2⟩, h4.below hB, h5.trans (hB.mono h5.size), Nat.le_trans h6 hB.size⟩
theorem BytesAt.frame {T : Nat → Prop} {W W' : World} {g : Nat} {l : List UInt8} (h : BytesAt W g l) (hF : FrameT T W W') (hT : ¬ T g) : BytesAt W' g l :=
  ⟨Nat.lt_of_lt_of_le h.lt hF.size, fun j hj => (World.cell?_of_block (w := W) (hF.block g h.lt hT)).trans (h.cell j hj), fun j hj => (World.frozen?_of_block (w := W) (hF.block g h.lt hT)).trans (h.frozen j hj)⟩
/-- 'r.Parts = append(r.Parts, p)' on such a record. -/
theorem bigV_append {w W W1 w2 : World} {g X C : Nat} {D : List UInt8} {v v' : Value} {pre : List PL} {x : PL} (h : bigV w g X C D v pre W) (hC : w.heap.size ≤ g ∧ g < X ∧ X < C)
    (hx : HasE W x.1 x.2 ∧ ∀ k, inBlkE x.1.a x.1.len k → C ≤ k ∧ some k ≠ v.ownBlock) (h1 : Below W.heap.size W W1) (hown : w2.ownsRow C 30 10 v' (pre.length + 1) (partCells pre ++ x.1.arr.toList)) (hg : W1.grownBy w2 v.ownBlock) (hn : v'.ownBlock = v.ownBlock ∨ v'.ownBlock = some W1.heap.size) :
    w2.heap[X]? = some (.cells #[.int .i64 1125899906842624, v] 32 (0, 0)) ∧ bigV w g X C D v' (pre ++ [x]) (w2.setCell ⟨X, 1, none⟩ v') := by
  obtain ⟨hX, hrow, hall, hR, hB, hs⟩ := h
  have hFg : FrameT (fun k => some k = v.ownBlock) W w2 := (FrameT.below h1).mono (fun _ h => h) |>.trans (FrameT.grownRow hg)
  have hXo : ∀ {z : Value} {Z : World} {n : Nat} {ys : List Value}, Z.ownsRow C 30 10 z n ys → some X ≠ z.ownBlock := fun hr e => by have := (ownBlock_lt hr e).2.1; omega
  have hX2 : w2.heap[X]? = some (.cells #[.int .i64 1125899906842624, v] 32 (0, 0)) := hFg.get hX (hXo hrow)
  have hF : FrameT (fun k => some k = v.ownBlock ∨ k = X) W (w2.setCell ⟨X, 1, none⟩ v') := (hFg.mono fun _ h => .inl h).trans ((FrameT.setCell w2 X 1 v').mono fun _ h => .inr h)
  have hE : ∀ y : PL, HasE W y.1 y.2 ∧ (∀ k, inBlkE y.1.a y.1.len k → C ≤ k ∧ some k ≠ v.ownBlock) → HasE (w2.setCell ⟨X, 1, none⟩ v') y.1 y.2 ∧ ∀ k, inBlkE y.1.a y.1.len k → C ≤ k ∧ some k ≠ v'.ownBlock := fun y hy =>
    ⟨hy.1.frame hF (fun k hk hT => by
        have := hy.2 k hk
        rcases hT with hT | hT
        · exact this.2 hT
        · omega), fun k hk => ⟨(hy.2 k hk).1, fun e => by
        have h3 := inBlkE_len hy.1 hk
        have h4 := h1.size
        rcases hn with hn | hn
        · exact (hy.2 k hk).2 (e.trans hn)
        · rw [hn] at e; cases e; omega⟩⟩
  refine ⟨hX2, ?_, ?_, ?_, ?_, ?_, ?_⟩
  · exact heap_setCell_same w2 X 1 _ _ v' hX2
  · rw [List.length_append, partCells_snoc]
    exact hown.kept (row := some X) ⟨rfl, rfl, rfl, by simp, fun k _ hne => heap_setCell_other _ _ _ _ (fun e => hne (congrArg some e))⟩ (.inr (hXo hown).symm)
  · intro y hy
    rcases List.mem_append.1 hy with hy | hy
    · exact hE y (hall y hy)
    · rw [List.mem_singleton] at hy; subst hy; exact hE _ hx
  · exact hR.frame hF (by
      rintro (e | e)
      · have := (ownBlock_lt hrow e).2.1; omega
      · omega)
  · exact hB.trans (hF.toBelow hB.size (fun k hk => by
      rcases hk with e | e
      · have := (ownBlock_lt hrow e).2.1; omega
      · omega))
  · exact Nat.le_trans hs hF.size
/-- A part whose row of entries grows, behind the outer round's world wo: it lies at wo.heap.size, its row behind it. -/
def inV (wo : World) (pre post : List Value) (c : UInt8) (v : Value) (j : Nat) (W : World) : Prop :=
  Below wo.heap.size wo W ∧ (W.heap[wo.heap.size]? = some (.cells (pre ++ v :: post).toArray 30 (0, 0)) ∧ (W.ownsRow (wo.heap.size + 1) 37 3 v j (entryCells (bigL c j)) ∧ wo.heap.size + 1 ≤ W.heap.size))
/-- 'p.Entries = append(p.Entries, ..)' on such a part. -/
theorem inV_append {wo W W1 w2 : World} {pre post : List Value} {c : UInt8} {v v' : Value} {j : Nat} (h : inV wo pre post c v j W) (h1 : Below W.heap.size W W1) (hown : w2.ownsRow (wo.heap.size + 1) 37 3 v' (j + 1) (entryCells (bigL c (j + 1)))) (hg : W1.grownBy w2 v.ownBlock) :
    w2.heap[wo.heap.size]? = some (.cells (pre ++ v :: post).toArray 30 (0, 0)) ∧ inV wo pre post c v' (j + 1) (w2.setCell ⟨wo.heap.size, pre.length, none⟩ v') := by
  obtain ⟨hB, hP, hrow, hs⟩ := h
  have hFg : FrameT (fun k => some k = v.ownBlock) W w2 := (FrameT.below h1).mono (fun _ h => h) |>.trans (FrameT.grownRow hg)
  have hXo : ∀ {z : Value} {Z : World} {n : Nat} {ys : List Value}, Z.ownsRow (wo.heap.size + 1) 37 3 z n ys → some wo.heap.size ≠ z.ownBlock := fun hr e => by have := (ownBlock_lt hr e).2.1; omega
  have hX2 := hFg.get hP (hXo hrow)
  have hF : FrameT (fun k => some k = v.ownBlock ∨ k = wo.heap.size) W (w2.setCell ⟨wo.heap.size, pre.length, none⟩ v') := (hFg.mono fun _ h => .inl h).trans ((FrameT.setCell w2 wo.heap.size pre.length v').mono fun _ h => .inr h)
  refine ⟨hX2, ?_, ?_, ?_, ?_⟩
  · exact hB.trans (hF.toBelow hB.size (fun k hk => by
      rcases hk with e | e
      · have := (ownBlock_lt hrow e).2.1; omega
      · omega))
  · have := heap_setCell_same w2 wo.heap.size pre.length _ _ v' hX2
    rw [this]
    congr 2
    simp [List.set_append_right]
  · exact hown.kept (row := some wo.heap.size) ⟨rfl, rfl, rfl, by simp, fun k _ hne => heap_setCell_other _ _ _ _ (fun e => hne (congrArg some e))⟩ (.inr (hXo hown).symm)
  · exact Nat.le_trans hs hF.size
end Go.Proofs.Ytbhhbjgdkcfagaa
