/- The contracts of package live's functions that keep a map: Counts; what a row of spots is. -/
import Derived.Test.YtpdpdohkhiplpaaRowV
import Derived.Test.YtpdpdohkhiplpaaProg
import Derived.Maps.OwnOps
import Derived.Maps.Views
namespace Go.Proofs.Ytpdpdohkhiplpaa
open Go.RowKit Go.Shelf
open Go.Maps (Keyed int_keyed keyOf_int_mk IsMap atKey_put_same atKey_put_other isMap_empty)
set_option linter.unusedVariables false
attribute [local go_sem] Oper.semAt_some wide_fn wide_round_fn

/-- A call that hands back a row of its own. -/
abbrev GivesRow (P : Program) (f : FuncId) (args : Array Value) (w : World) (e : TypeId) (sz n : Nat) (xs : List Value) : Prop :=
  Calls P f args w fun en w' => ∃ v, en = .returned v ∧ w'.ownsRow w.heap.size e sz v n xs ∧ Below w.heap.size w w'

/-- Something that counts: its group, its index, its segment, the place in it. -/
structure SpotC where
  g : Int
  i : Int
  s : Int
  p : Int
def SpotC.cells (f : SpotC) : List Value := [.int .i64 f.g, .int .i64 f.i, .int .i64 f.s, .int .i64 f.p]
theorem SpotC.len (f : SpotC) : f.cells.length = 4 := rfl
def spotCells (l : List SpotC) : List Value := (l.map SpotC.cells).flatten
theorem spotCells_snoc (l : List SpotC) (f : SpotC) : spotCells (l ++ [f]) = spotCells l ++ f.cells := by simp [spotCells]
def inL (l : List SpotC) (z : Int) : List SpotC := l.filter fun f => f.s == z
def cnt (l : List SpotC) (z : Int) : Nat := (inL l z).length
theorem cnt_le (l : List SpotC) (z : Int) : cnt l z ≤ l.length := List.length_filter_le _ _
theorem inL_take (l : List SpotC) (z : Int) (k : Nat) (h : k < l.length) : inL (l.take (k + 1)) z = inL (l.take k) z ++ (if l[k].s = z then [l[k]] else []) := by
  unfold inL
  rw [List.take_succ_eq_append_getElem h, List.filter_append]
  by_cases e : l[k].s = z
  · simp [e]
  · simp [e]
theorem cnt_take (l : List SpotC) (z : Int) (k : Nat) (h : k < l.length) : cnt (l.take (k + 1)) z = cnt (l.take k) z + (if l[k].s = z then 1 else 0) := by
  unfold cnt
  rw [inL_take l z k h, List.length_append]
  split <;> rfl
theorem wf_i64 {n : Int} (h : -9223372036854775808 ≤ n ∧ n < 9223372036854775808) : (Lit.int .i64 n).wf = true := by
  simp [Lit.wf, IntKind.min, IntKind.max, IntKind.signed, IntKind.bits]; omega
/-- The cells of the k-th spot of a slice. -/
theorem spot_at {w wr : World} {b off : Nat} {l : List SpotC} (hb : b < w.heap.size) (hB : Below w.heap.size w wr) (hc : ∀ j (h : j < (spotCells l).length), w.cell? ⟨b, off + j, none⟩ = some (spotCells l)[j]) {k : Nat} (hk : k < l.length) :
    wr.cell? ⟨b, off + k * 4, none⟩ = some (.int .i64 l[k].g) ∧ wr.cell? ⟨b, off + k * 4 + 1, none⟩ = some (.int .i64 l[k].i) ∧ wr.cell? ⟨b, off + k * 4 + 2, none⟩ = some (.int .i64 l[k].s) ∧ wr.cell? ⟨b, off + k * 4 + 3, none⟩ = some (.int .i64 l[k].p) := by
  have cell : ∀ i v, i < 4 → (l[k].cells)[i]? = some v → wr.cell? ⟨b, off + (k * 4 + i), none⟩ = some v := fun i v hi hv =>
    (hB.cell (p := ⟨b, off + (k * 4 + i), none⟩) hb).trans (RowV.at_ (len := l.length) (sz := 4) hc (by rw [spotCells, flat_at SpotC.cells 4 SpotC.len l k i hk hi]; exact hv))
  exact ⟨cell 0 _ (by decide) rfl, cell 1 _ (by decide) rfl, cell 2 _ (by decide) rfl, cell 3 _ (by decide) rfl⟩

theorem lawInt : Keyed Try.prog 3 := int_keyed Try.underlying3
theorem zeroInt (w : World) : (zeroValue 3).run Try.prog w = .ok (.int .i64 0) w := by kernel_rfl
theorem infoInt : (Try.prog.info? 3).map (fun i => (i.zero, i.size, i.bytes)) = some (some (.int .i64 0), 1, 8) := by kernel_rfl
/-- What a map of numbers holds, by its keys. -/
def Holds (D : DataW Unit) (f : Int → Nat) : Prop := IsMap D ∧ ∀ z : Int, D.atKey (.int .i64 z) (.lit (.int .i64 0)) = .lit (.int .i64 (f z))
theorem holds_nil : Holds (.map []) (fun _ => 0) := ⟨isMap_empty, fun _ => rfl⟩
theorem holds_put {D : DataW Unit} {f f' : Int → Nat} (h : Holds D f) (z : Int) (m : Nat) (h1 : f' z = m) (h2 : ∀ y, y ≠ z → f' y = f y) : Holds (D.put (.int .i64 z) (.lit (.int .i64 m))) f' :=
  ⟨h.1.put _ _, fun y => by
    by_cases e : y = z
    · subst e; rw [atKey_put_same h.1 (by simp [WideAt.IsKeyLit]), h1]
    · rw [atKey_put_other (by simpa using e), h2 y e]; exact h.2 y⟩
theorem holds_at {D : DataW Unit} {f : Int → Nat} (h : Holds D f) {z c : Int} (hc : D.atKey (.int .i64 z) (.lit (.int .i64 0)) = .lit (.int .i64 c)) : c = f z := by
  rw [h.2 z] at hc
  injection hc with hc
  injection hc with _ hc
  exact hc.symm

set_option maxRecDepth 100000 in
set_option maxHeartbeats 1000000 in
theorem counts_any (l : List SpotC) (zs : List Int) (hw : ∀ f ∈ l, -9223372036854775808 ≤ f.s ∧ f.s < 9223372036854775808) (a b : Option Addr) (len cap len2 cap2 : Nat) (hl : l.length = len) (hm : len < 1000000) (hm2 : len2 < 1000000)
    (w : World) (h : RowV w a len 4 (spotCells l)) (h2 : RowI .i64 w b len2 zs) : GivesRow Try.prog 12 #[.slice a len cap, .slice b len2 cap2] w 3 1 len2 (zs.map fun z => .int .i64 (cnt l z)) := by
  obtain ⟨hlen, hml, hcs⟩ := h
  obtain ⟨hzl, hml2, hwz, hcz⟩ := h2
  obtain ⟨i0, hi, hz0, hz1, hz2⟩ := info_parts infoInt
  have hmm := @run_makeMap Try.prog
  unfold GivesRow
  go_enter Try.func12, Try.ntmps12
  go_wp2
  go_loopw [14] (fun q wr => ∃ (k : Nat) (D : DataW Unit), k ≤ len ∧ q = .int .i64 k ∧ wr.ownsMap Try.prog 3 (plainElem Try.prog 3) w.heap.size k D ∧ Holds D (cnt (l.take k)) ∧ Below w.heap.size w wr) (fun q _ => len - (intOf q).toNat)
  case atStart => exact ⟨0, .map [], by omega, rfl, World.ownsMap_made _ _ _ _, holds_nil, (Below.refl _ _).alloc (Nat.le_refl _) _⟩
  case round =>
    obtain ⟨k, D, hk, rfl, hown, hD, hB⟩ := hrel
    by_cases hlt : k < len
    · obtain ⟨bb, off, rfl, hb, hc⟩ := hcs (by omega)
      have hkl : k < l.length := by omega
      obtain ⟨c0, c1, c2, c3⟩ := spot_at hb hB hc hkl
      have hws := hw l[k] (List.getElem_mem _)
      have HC := Lib.hid (cnt_take l (l[k].s) k hkl)
      have HO := Lib.hid (fun z (hz : z ≠ l[k].s) => show cnt (l.take (k + 1)) z = cnt (l.take k) z by rw [cnt_take l z k hkl, if_neg (Ne.symm hz)]; rfl)
      have hcm : cnt (l.take k) l[k].s ≤ k := Nat.le_trans (cnt_le _ _) (by simp; omega)
      have HD := Lib.hid hD
      clear hD
      have hkey : keyOf Try.prog 3 (.int .i64 l[k].s) = some (.int .i64 l[k].s) := keyOf_int_mk Try.underlying3 (wf_i64 hws)
      generalize hf : l[k] = f at *
      generalize hm0 : cnt (l.take k) f.s = m at *
      have HM0 := Lib.hid hm0
      clear hm0 hf
      go_wp2_with (first
        | (at_lookup; refine wpList_lookup_own_int _ rfl _ _ 60 rfl 3 3 .i64 lawInt Try.underlying60 Try.underlying3 (zeroInt _) w.heap.size k _ rfl (hown.alloc _) _ _ rfl hkey ?_; intro c hat hwc; have hc0 := (holds_at HD.out hat).trans (congrArg _ HM0.out); subst hc0; clear hat)
        | (at_mapUpdate; refine wpList_mapUpdate_own _ rfl _ _ _ 60 rfl 3 3 lawInt Try.underlying60 _ w.heap.size k _ rfl (hown.alloc _) (by unfold maxLen; omega) _ _ _ rfl rfl hkey _ [] (plainElem_int (a := (m : Int) + 1) Try.underlying3 (wf_i64 (by omega))) ?_; intro w1 hown1 hgrow1))
      have hB2 : Below w.heap.size w w1 := (bel_alloc hB _).grown hgrow1 (by have := hB.size; simp; omega) (fun g e => by cases e; exact Nat.le_refl _)
      have hD2 := holds_put HD.out f.s (m + 1) (f' := cnt (l.take (k + 1))) (by rw [HC.out, if_pos rfl]) HO.out
      exact ⟨⟨k + 1, _, by omega, by go_num, hown1, by exact_mod_cast hD2, hB2⟩, by simp [intOf]; omega⟩
    · obtain rfl : k = len := by omega
      obtain ⟨wo, rfl⟩ : ∃ wo : World, wo = wr := ⟨_, rfl⟩
      rw [List.take_of_length_le (by omega)] at hD
      have HD := Lib.hid hD
      clear hD
      go_wp2
      go_loopw [8, 27] (fun v q wr => ∃ k2 : Nat, k2 ≤ len2 ∧ q = .int .i64 k2 ∧ wr.ownsRow wo.heap.size 3 1 v k2 ((zs.take k2).map fun z => .int .i64 (cnt l z)) ∧ wr.ownsMap Try.prog 3 (plainElem Try.prog 3) w.heap.size k D ∧ Below w.heap.size w wr ∧ wo.heap.size ≤ wr.heap.size) (fun _ q _ => len2 - (intOf q).toNat)
      case atStart => exact ⟨0, by omega, rfl, World.ownsRow_nil _ _ _ _, hown, hB, Nat.le_refl _⟩
      case round =>
        obtain ⟨k2, hk2, rfl, hrow, hown2, hB2, hs2⟩ := hrel
        by_cases hlt2 : k2 < len2
        · obtain ⟨bb, off, rfl, hb, hc⟩ := hcz (by omega)
          have hkl : k2 < zs.length := by omega
          have hcell := (hB2.cell (p := ⟨bb, off + k2, none⟩) hb).trans (hc k2 hkl)
          have hkey : keyOf Try.prog 3 (.int .i64 zs[k2]) = some (.int .i64 zs[k2]) := keyOf_int_mk Try.underlying3 (hwz _ (List.getElem_mem _))
          have HT := Lib.hid (show (zs.take (k2 + 1)).map (fun z => Value.int .i64 (cnt l z)) = (zs.take k2).map (fun z => Value.int .i64 (cnt l z)) ++ [.int .i64 (cnt l zs[k2])] by rw [List.take_succ_eq_append_getElem hkl, List.map_append]; rfl)
          generalize hz : zs[k2] = z at *
          clear hz
          generalize hm0 : cnt l z = m at *
          have HM0 := Lib.hid hm0
          clear hm0
          have hwlt : w.heap.size < wo.heap.size := hown.lt
          go_wp2_with (first
            | (at_lookup; refine wpList_lookup_own_int _ rfl _ _ 60 rfl 3 3 .i64 lawInt Try.underlying60 Try.underlying3 (zeroInt _) w.heap.size k _ rfl hown2 _ _ rfl hkey ?_; intro c hat hwc; have hc0 := (holds_at HD.out hat).trans (congrArg _ HM0.out); subst hc0; clear hat)
            | (at_builtin; refine wpList_append_own _ rfl _ _ 23 rfl wo.heap.size 3 i0 (.int .i64 0) 1 8 Try.underlying23 hi hz0 hz1 hz2 rfl (by decide) _ _ _ rfl (hrow.alloc _) ⟨wr.heap.size, 0, none⟩ 1 1 [.int .i64 m] rfl rfl (news_new _ _ _) (by simp [Value.oneCell']) (by unfold maxLen; omega) (by omega) (by simp; omega) ?_; intro v' w2 hown' hgrow _))
          have hB3 : Below w.heap.size w w2 := (bel_alloc hB2 _).grown hgrow (by have := hB2.size; simp; omega) (fun g e => Nat.le_trans hB.size (ownBlock_ge hrow e))
          have hmap2 := (hown2.alloc (.cells #[.int .i64 m] 3)).kept hgrow (fun e => by have := ownBlock_ge hrow e.symm; omega)
          have hsz : wo.heap.size ≤ w2.heap.size := by have := hgrow.size; simp at this; omega
          exact ⟨⟨k2 + 1, by omega, by go_num, by rw [HT.out]; exact hown', hmap2, hB3, hsz⟩, by simp [intOf]; omega⟩
        · obtain rfl : k2 = len2 := by omega
          rw [List.take_of_length_le (by omega)] at hrow
          have hs := hB.size
          go_wp2
          go_ret
          exact ⟨_, rfl, ownsRow_base hrow hs, hB2⟩

end Go.Proofs.Ytpdpdohkhiplpaa
