/- Builder, Puts, PutFwd, PartTexts: in one text. -/
import Derived.Test.YtflaanffjjidaaaKit
import Derived.Test.YtflaanffjjidaaaProg
import Derived.Shelf.Strings.Builder1
import Derived.RegionTactic
import Derived.Test.YtflaanffjjidaaaPartSame
import Derived.Test.YtflaanffjjidaaaPart
import Derived.Test.YtflaanffjjidaaaGet
import Derived.Stop.RegionWithIn
/- The contracts of strings.Builder's WriteString and String at this program. -/
namespace Go.Proofs.Ytflaanffjjidaaa
open Go.RowKit Go.Shelf
set_option linter.unusedVariables false

abbrev BuiltAt (B b : Nat) (p : Value) (bs : List Value) (w : World) : Prop := Lib.BuilderAt 149 5 B b p bs w
abbrev Builds (B b : Nat) (bs : List Value) (w : World) : Prop := Lib.IsBuilder 149 5 B b bs w
theorem sizeBld : (Try.prog.info? 149).map (·.size) = some 2 := by kernel_rfl

/-- All blocks but b are as they were, those of bytes aside. -/
structure Keeps (b : Nat) (w w' : World) : Prop where
  os : w'.os = w.os
  tape : w'.tape = w.tape
  output : w'.output = w.output
  size : w.heap.size ≤ w'.heap.size
  block : ∀ k o, w.heap[k]? = some o → k ≠ b → (∀ cs fr, o ≠ .cells cs 5 fr) → w'.heap[k]? = some o
theorem Keeps.refl (b : Nat) (w : World) : Keeps b w w := ⟨rfl, rfl, rfl, Nat.le_refl _, fun _ _ h _ _ => h⟩
theorem Keeps.trans {b : Nat} {a c d : World} (h : Keeps b a c) (k : Keeps b c d) : Keeps b a d :=
  ⟨k.os.trans h.os, k.tape.trans h.tape, k.output.trans h.output, Nat.le_trans h.size k.size, fun i o ho h1 h2 => k.block i o (h.block i o ho h1 h2) h1 h2⟩
theorem Keeps.below {b : Nat} {w w' : World} (h : Below w.heap.size w w') : Keeps b w w' :=
  ⟨h.os, h.tape, h.output, h.size, fun k o ho _ _ => (h.block k (Array.getElem?_eq_some_iff.1 ho).1).trans ho⟩
theorem Keeps.setCell (b i : Nat) (w : World) (v : Value) : Keeps b w (w.setCell ⟨b, i, none⟩ v) :=
  ⟨rfl, rfl, rfl, by simp, fun k o ho h1 _ => (heap_setCell_other _ _ _ _ h1).trans ho⟩
theorem Keeps.grown {b B n : Nat} {w w' : World} {v : Value} {xs : List Value} (hown : w.ownsRow B 5 1 v n xs) (hg : w.grownBy w' v.ownBlock) : Keeps b w w' :=
  ⟨hg.os, hg.tape, hg.output, hg.size, fun k o ho _ h2 => by
    refine (hg.block k (Array.getElem?_eq_some_iff.1 ho).1 (fun e => ?_)).trans ho
    rcases hown.2 with ⟨rfl, _⟩ | ⟨g, cap, cur, rfl, _, hh, _⟩
    · simp [Value.ownBlock] at e
    · obtain rfl : k = g := by simpa [Value.ownBlock] using e
      rw [hh] at ho; cases ho; exact h2 _ _ rfl⟩
theorem Keeps.cells {b : Nat} {w w' : World} (h : Keeps b w w') {k : Nat} {cs : Array Value} {T : TypeId} {fr : Nat × Nat} (hk : w.heap[k]? = some (.cells cs T fr)) (hb : k ≠ b) (hT : T ≠ 5) : w'.heap[k]? = some (.cells cs T fr) :=
  h.block k _ hk hb (fun _ _ e => by cases e; exact hT rfl)
theorem BuiltAt.kept {B b : Nat} {p : Value} {bs : List Value} {w w' : World} (h : BuiltAt B b p bs w) (hB : Below w.heap.size w w') : BuiltAt B b p bs w' := by
  obtain ⟨h1, v, h2, h3, h4⟩ := h
  exact ⟨h1, v, (hB.block b (Array.getElem?_eq_some_iff.1 h2).1).trans h2, ownsRow_below (n := 0) h3 hB, h4⟩
theorem Builds.kept {B b : Nat} {bs : List Value} {w w' : World} (h : Builds B b bs w) (hB : Below w.heap.size w w') : Builds B b bs w' := h.imp (fun x => BuiltAt.kept x hB) (fun x => BuiltAt.kept x hB)

set_option maxHeartbeats 1000000 in
set_option maxRecDepth 100000 in
theorem copyCheck_used (b : Nat) (w : World) (h0 : w.cell? ⟨b, 0, none⟩ = some (.pointer (some ⟨b, 0, none⟩))) :
    Calls Try.prog 113 #[.pointer (some ⟨b, 0, none⟩)] w fun e w' => e = .returned (.tuple #[]) ∧ w' = w := by
  obtain ⟨j, hj, _⟩ := Option.map_eq_some_iff.1 sizeBld
  go_enter Try.func113, Try.ntmps113
  go_wp2
  rw [Lib.run_neq_ptr_same w _ Try.underlying147 hj]
  go_wp2
  go_end0
  exact ⟨rfl, rfl⟩

set_option maxHeartbeats 1000000 in
set_option maxRecDepth 100000 in
theorem copyCheck_fresh (b : Nat) (w : World) (h0 : w.cell? ⟨b, 0, none⟩ = some (.pointer none)) (hsh : w.shape? b = some (149, 2)) (hfz : w.frozen? ⟨b, 0, none⟩ = false) :
    Calls Try.prog 113 #[.pointer (some ⟨b, 0, none⟩)] w fun e w' => e = .returned (.tuple #[]) ∧ w' = w.setCell ⟨b, 0, none⟩ (.pointer (some ⟨b, 0, none⟩)) := by
  obtain ⟨j, hj, hjs⟩ := Option.map_eq_some_iff.1 sizeBld
  go_enter Try.func113, Try.ntmps113
  go_wp2
  rw [Lib.run_to_unsafe w ⟨b, 0, none⟩ Try.underlying147 Try.underlying189 hj (by rw [hjs]; decide) hsh (Nat.zero_lt_succ 1)]
  simp only [Result.andThen]
  rw [Oper.upon_value]
  go_wp2
  rw [run_callFunc_extern Try.func126 (by kernel_rfl) (by kernel_rfl) (by kernel_rfl) (e := Extern.AbiNoEscape.same) (by kernel_rfl)]
  rw [Lib.run_noEscape]
  simp only [Result.andThen]
  rw [Oper.upon_value]
  go_wp2
  rw [Lib.run_from_unsafe w ⟨b, 0, none⟩ Try.underlying189 Try.underlying147 hj hsh (by kernel_rfl)]
  simp only [Result.andThen]
  rw [Oper.upon_value]
  go_wp2
  go_end0
  exact ⟨rfl, rfl⟩

theorem copyCheck_any (B b : Nat) (bs : List Value) (w : World) (h : Builds B b bs w) :
    Calls Try.prog 113 #[.pointer (some ⟨b, 0, none⟩)] w fun e w' => e = .returned (.tuple #[]) ∧ BuiltAt B b (.pointer (some ⟨b, 0, none⟩)) bs w' ∧ Below B w w' ∧ Keeps b w w' := by
  rcases h with h | h
  · refine (copyCheck_fresh b w h.cell0 h.shape h.frozen0).mono ?_
    rintro e w' ⟨rfl, rfl⟩
    exact ⟨rfl, h.used _, (Below.refl B w).setCell (p := ⟨b, 0, none⟩) h.1 _, Keeps.setCell _ _ _ _⟩
  · refine (copyCheck_used b w h.cell0).mono ?_
    rintro e w' ⟨rfl, rfl⟩
    exact ⟨rfl, h, Below.refl B _, Keeps.refl _ _⟩

set_option maxHeartbeats 2000000 in
set_option maxRecDepth 100000 in
theorem writeString_any (B b : Nat) (bs : List Value) (s : ByteArray) (w : World) (h : Builds B b bs w) (hlen : bs.length + s.size ≤ 140737488355328) (hBw : B ≤ w.heap.size) :
    Calls Try.prog 91 #[.pointer (some ⟨b, 0, none⟩), .string s] w fun e w' => e = .returned (.tuple #[.int .i64 s.size, .nilIface]) ∧ BuiltAt B b (.pointer (some ⟨b, 0, none⟩)) (bs ++ Lib.strCells s) w' ∧ Below B w w' ∧ Keeps b w w' := by
  obtain ⟨i0, hi, hz0, hz1, hz2⟩ := info_parts (show (Try.prog.info? 5).map (fun i => (i.zero, i.size, i.bytes)) = some (some (.int .u8 0), 1, 1) by kernel_rfl)
  go_enter Try.func91, Try.ntmps91
  go_wp2_with (go_at_call 113; refine (copyCheck_any B b bs _ h).mono ?_)
  rintro e w1 ⟨rfl, h1, hb1, hk1⟩
  obtain ⟨hB, v, hbk, hown, hne⟩ := h1
  have c0 : w1.cell? ⟨b, 0, none⟩ = some (.pointer (some ⟨b, 0, none⟩)) := by rw [Lib.cell_of_heap hbk]; rfl
  have c1 : w1.cell? ⟨b, 1, none⟩ = some v := by rw [Lib.cell_of_heap hbk]; rfl
  go_wp2_with (at_builtin; refine Lib.wpList_append_own_string _ rfl _ _ 31 9 rfl B 5 i0 Try.underlying31 Try.underlying9 hi hz0 hz1 hz2 _ _ _ rfl hown s rfl ?c3 ?c4 ?c5 ?_)
  case c3 => unfold maxLen; omega
  case c4 => omega
  case c5 => have := hb1.size; omega
  intro v' w2 hown' hgrow _
  have hlt : b < w1.heap.size := by
    rcases Nat.lt_or_ge b w1.heap.size with h' | h'
    · exact h'
    · simp [Array.getElem?_eq_none h'] at hbk
  have hb2 : w2.heap[b]? = some (.cells #[.pointer (some ⟨b, 0, none⟩), v] 149 (0, 0)) := by
    rw [hgrow.block b hlt (fun e => hne e.symm)]
    exact hbk
  have d0 : w2.cell? ⟨b, 0, none⟩ = some (.pointer (some ⟨b, 0, none⟩)) := by rw [Lib.cell_of_heap hb2]; rfl
  have d1 : w2.cell? ⟨b, 1, none⟩ = some v := by rw [Lib.cell_of_heap hb2]; rfl
  have f1 : w2.frozen? ⟨b, 1, none⟩ = false := Lib.frozen_of_heap hb2 1
  obtain ⟨ao, n', cap, rfl⟩ : ∃ ao n' cap, v' = .slice ao n' cap := by
    rcases hown'.2 with ⟨hv, _⟩ | ⟨g, cap, cur, hv, _⟩
    · exact ⟨_, _, _, hv⟩
    · exact ⟨_, _, _, hv⟩
  go_wp2
  go_ret2
  refine ⟨rfl, ?_, ?_, (hk1.trans (Keeps.grown hown hgrow)).trans (Keeps.setCell _ _ _ _)⟩
  · exact Lib.BuilderAt.put hB hb2 (bs' := bs ++ Lib.strCells s) (by simpa [Lib.strCells_length] using hown') (by decide)
  · exact (hb1.grown hgrow (by have := hb1.size; omega) (fun k hk => (hown.lt k hk).1)).setCell (p := ⟨b, 1, none⟩) hB _

/-! String, by the shelf's contract, laid at this program. -/
def bldRen : Go.Shelf.Ren := ⟨fun | 169 => 94 | n => n, fun | 70 => 147 | 9 => 9 | 0 => 0 | 72 => 149 | 37 => 31 | 127 => 174 | 3 => 3 | 5 => 5 | n => n, fun | n => n⟩
theorem bldExtra : Builder.Extra Try.prog bldRen := {
  sizeBuilder := by kernel_rfl
  liesBuilder := by kernel_rfl
  t5 := Try.underlying5
  a5 := Try.isAgg5
  z5 := Try.sizeOf5
  v5 := Try.zeroValue5
  infoByte := by kernel_rfl
  cellsByte := by kernel_rfl
  sizeByte := by kernel_rfl
  neB5 := by decide }
theorem Keeps.freeze {b g n : Nat} {w : World} {cur : Array Value} {fr : Nat × Nat} (hg : w.heap[g]? = some (.cells cur 5 fr)) : Keeps b w (w.freeze ⟨g, 0, none⟩ n) := by
  unfold World.freeze
  split
  · exact Keeps.refl b w
  · exact ⟨rfl, rfl, rfl, by simp, fun k o ho _ h2 => by
      have hk : g ≠ k := by rintro rfl; rw [hg] at ho; cases ho; exact h2 _ _ rfl
      simp only [Array.getElem?_modify]
      rw [if_neg hk]
      exact ho⟩
theorem Keeps.drew {b : Nat} {w w' : World} (h : Keeps b w.drew w') : Keeps b w w' := ⟨h.os, h.tape, h.output, h.size, h.block⟩

set_option maxHeartbeats 1000000 in
set_option maxRecDepth 100000 in
theorem string_full (B b : Nat) (l : List UInt8) (w : World) (h : Builds B b (Lib.byteCells l) w) (h0 : l ≠ []) :
    Calls Try.prog 94 #[.pointer (some ⟨b, 0, none⟩)] w fun e w' => e = .returned (.string ⟨l.toArray⟩) ∧ Below B w w' ∧ Keeps b w w' := by
  obtain ⟨p, hB, v, hbk, hown, hne⟩ : ∃ p, BuiltAt B b p (Lib.byteCells l) w := by
    rcases h with h | h
    · exact ⟨_, h⟩
    · exact ⟨_, h⟩
  have hl0 : l.length ≠ 0 := by simpa using h0
  rw [Lib.byteCells_length] at hown
  obtain ⟨g, cap, cur, rfl, hbg, hg, hnc, hcm, hcs, htake⟩ : ∃ g cap cur, v = .slice (some ⟨g, 0, none⟩) l.length cap ∧ B ≤ g ∧ w.heap[g]? = some (.cells cur 5 (0, 0)) ∧ l.length ≤ cap ∧ cap ≤ maxLen ∧ cur.size = cap * 1 ∧ cur.toList.take (l.length * 1) = Lib.byteCells l := by
    rcases hown.2 with ⟨_, hz⟩ | ⟨g, cap, cur, hv, r⟩
    · exact absurd hz hl0
    · exact ⟨g, cap, cur, hv, r⟩
  have hg' : w.drew.heap[g]? = some (.cells cur 5 (0, 0)) := hg
  have c1 : w.drew.cell? ⟨b, 1, none⟩ = some (.slice (some ⟨g, 0, none⟩) l.length cap) := by
    have : w.drew.heap[b]? = some (.cells #[p, .slice (some ⟨g, 0, none⟩) l.length cap] 149 (0, 0)) := hbk
    rw [Lib.cell_of_heap this]; rfl
  have hSD : (Builtin.unsafeSliceData_ #[31] 174 #[.slice (some ⟨g, 0, none⟩) l.length cap]).run Try.prog w.drew = .ok (.pointer (some ⟨g, 0, none⟩)) w.drew :=
    Lib.run_unsafeSliceData_row _ _ _ _ _ _ (by omega)
  have hUS : (Builtin.unsafeString_ #[174, 3] 9 #[.pointer (some ⟨g, 0, none⟩), .int .i64 l.length]).run Try.prog w.drew = .ok (.string ⟨l.toArray⟩) (w.drew.freeze ⟨g, 0, none⟩ l.length) := by
    refine Lib.run_unsafeString_row w.drew 174 3 9 5 Try.underlying174 bldExtra.cellsByte g cur.size (by simp [World.shape?, hg']) l h0 (by omega) (by unfold maxLen at hcm; omega) ?_
    intro j x hx
    have := hown.cells (g := g) rfl j (.int .u8 x.toNat) (by simp [Lib.byteCells, hx])
    exact this
  have hBF := Lib.hid (Lib.below_freeze (Below.drew (Below.refl B w)) (p := ⟨g, 0, none⟩) hbg l.length)
  have hKF := Lib.hid (Keeps.drew (Keeps.freeze (b := b) (n := l.length) hg'))
  clear htake hown hg hg' hbk
  go_enter Try.func94, Try.ntmps94
  go_wp2
  go_region
  all_goals (go_wp2; go_ret; exact ⟨rfl, hBF.out, hKF.out⟩)

end Go.Proofs.Ytflaanffjjidaaa

/- The contracts of package part's puts, putHard, putForward. -/
namespace Go.Proofs.Ytflaanffjjidaaa
open Go.RowKit Go.Shelf
set_option linter.unusedVariables false
attribute [local go_sem] Oper.semAt_some wide_fn wide_round_fn

def putL (l : List Int) : List UInt8 := l.flatMap fun n => sevL n.toNat
theorem byteCells_app (l m : List UInt8) : Lib.byteCells (l ++ m) = Lib.byteCells l ++ Lib.byteCells m := by simp [Lib.byteCells]
theorem byteCells_len (l : List UInt8) : (Lib.byteCells l).length = l.length := by simp [Lib.byteCells]
theorem putL_len (l : List Int) : (putL l).length ≤ 9 * l.length := by
  induction l with
  | nil => simp [putL]
  | cons x r ih => have := sevL_len x.toNat; simp [putL] at *; omega
def intCells (l : List Int) : List Value := l.map (.int .i64)

set_option maxRecDepth 100000 in
set_option maxHeartbeats 1000000 in
theorem puts_any (B b q n c : Nat) (ns : List Int) (hn : ns.length = n) (hr : ∀ x ∈ ns, x < 9223372036854775808) (bs : List UInt8) (w : World) (h : Builds B b (Lib.byteCells bs) w) (hq : w.heap[q]? = some (.cells (intCells ns).toArray 3 (0, 0)))
    (hlen : bs.length + 10 * n ≤ 140737488355328) (hBw : B ≤ w.heap.size) (h0 : 0 < n) :
    Calls Try.prog 128 #[.pointer (some ⟨b, 0, none⟩), .slice (some ⟨q, 0, none⟩) n c] w fun e w' => e = .returned (.tuple #[]) ∧ Builds B b (Lib.byteCells (bs ++ putL ns)) w' ∧ Below B w w' ∧ Keeps b w w' := by
  have hqb : q ≠ b := by
    rintro rfl
    rcases h with h | h <;> (obtain ⟨_, v, h2, _⟩ := h; rw [h2] at hq; have hq' := Option.some.inj hq; injection hq' with _ e; exact absurd e (by decide))
  go_enter Try.func128, Try.ntmps128
  go_wp2
  go_loopw [8] (fun i wr => ∃ k : Nat, k ≤ n ∧ i = .int .i64 k ∧ Builds B b (Lib.byteCells (bs ++ putL (ns.take k))) wr ∧ Below B w wr ∧ Keeps b w wr) (fun i _ => n - (intOf i).toNat)
  case atStart => exact ⟨0, by omega, rfl, by simpa [putL] using h, Below.refl _ _, Keeps.refl _ _⟩
  case round =>
    obtain ⟨k, hk, rfl, hb, hB, hK⟩ := hrel
    by_cases hlt : k < n
    · have hkl : k < ns.length := by omega
      have hqr := hK.cells hq hqb (by decide)
      have c0 : wr.cell? ⟨q, k, none⟩ = some (.int .i64 ns[k]) := by rw [cell_of_row _ _ _ _ _ _ hqr]; simp [intCells, hkl]
      have HT := Lib.hid (show putL (ns.take (k + 1)) = putL (ns.take k) ++ sevL ns[k].toNat by unfold putL; rw [List.take_succ_eq_append_getElem hkl, List.flatMap_append, List.flatMap_singleton])
      have hxr := hr ns[k] (List.getElem_mem _)
      generalize ns[k] = x at *
      have G := Lib.hid (put_any x hxr)
      have HB := Lib.hid hb
      clear hb
      have hsz : B ≤ wr.heap.size := Nat.le_trans hBw hB.size
      have HL := Lib.hid (show (Lib.byteCells (bs ++ putL (ns.take k))).length + (⟨(sevL x.toNat).toArray⟩ : ByteArray).size ≤ 140737488355328 by
        have h1 := putL_len (ns.take k); have h2 := sevL_len x.toNat
        rw [byteCells_len, List.length_append]
        rw [List.length_take] at h1
        show _ + (sevL x.toNat).toArray.size ≤ _
        rw [List.size_toArray]
        omega)
      go_wp2_with (first
        | (go_at_call 92; ((with_reducible refine (G.out _).mono ?_); rintro e w1 ⟨rfl, hB1⟩; have HB1 := Lib.hid (Builds.kept HB.out hB1)))
        | (go_at_call 91; ((with_reducible refine (writeString_any B b _ _ _ HB1.out HL.out (Nat.le_trans hsz hB1.size)).mono ?_); rintro e w2 ⟨rfl, hb2, hB2, hK2⟩; have HB2 := Lib.hid hb2; clear hb2)))
      go_roundw
      case rel =>
        refine ⟨k + 1, by omega, by go_num, .inr ?_, (hB.trans (hB1.mono hsz)).trans hB2, (hK.trans (Keeps.below hB1)).trans hK2⟩
        have := HB2.out
        rw [HT.out, ← List.append_assoc, byteCells_app]
        exact this
      case measure => simp [intOf]; omega
    · obtain rfl : k = n := by omega
      have HB := Lib.hid hb
      clear hb
      go_wp2
      go_end0
      refine ⟨rfl, ?_, hB, hK⟩
      have := HB.out
      rwa [List.take_of_length_le (by omega)] at this

/-- puts at a row that was just laid. -/
theorem puts_new (B b q n c : Nat) (ns : List Int) (hn : ns.length = n) (hr : ∀ x ∈ ns, x < 9223372036854775808) (bs : List UInt8) (w : World) (h : Builds B b (Lib.byteCells bs) w)
    (hlen : bs.length + 10 * n ≤ 140737488355328) (hBw : B ≤ w.heap.size) (h0 : 0 < n) (hq : q = w.heap.size) :
    Calls Try.prog 128 #[.pointer (some ⟨b, 0, none⟩), .slice (some ⟨q, 0, none⟩) n c] (w.alloc (.cells (intCells ns).toArray 3)) fun e w' => e = .returned (.tuple #[]) ∧ Builds B b (Lib.byteCells (bs ++ putL ns)) w' ∧ Below B w w' ∧ Keeps b w w' := by
  subst hq
  have hB : Below w.heap.size w (w.alloc (.cells (intCells ns).toArray 3)) := bel_alloc (Below.refl _ _) _
  refine (puts_any B b w.heap.size n c ns hn hr bs _ (h.kept hB) (World.alloc_heap_new w _) hlen (by rw [World.size_alloc]; omega) h0).mono ?_
  rintro e w' ⟨rfl, h1, h2, h3⟩
  exact ⟨rfl, h1, (hB.mono hBw).trans h2, (Keeps.below hB).trans h3⟩

set_option maxRecDepth 100000 in
set_option maxHeartbeats 1000000 in
theorem putHard_any (B b : Nat) (t v c : Int) (ht : t < 9223372036854775808) (hv : v < 9223372036854775808) (hc : c < 9223372036854775808) (bs : List UInt8) (w : World) (h : Builds B b (Lib.byteCells bs) w)
    (hlen : bs.length + 30 ≤ 140737488355328) (hBw : B ≤ w.heap.size) :
    Calls Try.prog 129 #[.pointer (some ⟨b, 0, none⟩), .agg #[.int .i64 t, .int .i64 v, .int .i64 c]] w fun e w' => e = .returned (.tuple #[]) ∧ Builds B b (Lib.byteCells (bs ++ putL [t, v, c])) w' ∧ Below B w w' ∧ Keeps b w w' := by
  have hA : Below w.heap.size w (w.alloc (.cells #[.int .i64 t, .int .i64 v, .int .i64 c] 55)) := bel_alloc (Below.refl _ _) _
  have hsz : w.heap.size + 1 = (w.alloc (.cells #[.int .i64 t, .int .i64 v, .int .i64 c] 55)).heap.size := by simp
  have G := puts_new B b (w.heap.size + 1) 3 3 [t, v, c] rfl (by simp [ht, hv, hc]) bs (w.alloc (.cells #[.int .i64 t, .int .i64 v, .int .i64 c] 55)) (h.kept hA) (by omega) (by rw [← hsz]; omega) (by decide) hsz
  clear hsz
  simp only [intCells, List.map_cons, List.map_nil] at G
  go_enter Try.func129, Try.ntmps129
  go_wp2_with (go_at_call 128; ((with_reducible refine (G).mono ?_); rintro e w1 ⟨rfl, h1, h2, h3⟩))
  go_end0
  exact ⟨rfl, h1, (hA.mono hBw).trans h2, (Keeps.below hA).trans h3⟩

end Go.Proofs.Ytflaanffjjidaaa

/- The contract of package part's putForward. -/
namespace Go.Proofs.Ytflaanffjjidaaa
open Go.RowKit Go.Shelf
set_option linter.unusedVariables false
attribute [local go_sem] Oper.semAt_some wide_fn wide_round_fn

theorem puts1 (B b q : Nat) (x : Int) (hx : x < 9223372036854775808) (bs : List UInt8) (w : World) (h : Builds B b (Lib.byteCells bs) w) (hlen : bs.length + 30 ≤ 140737488355328) (hBw : B ≤ w.heap.size) (hq : q = w.heap.size) :
    Calls Try.prog 128 #[.pointer (some ⟨b, 0, none⟩), .slice (some ⟨q, 0, none⟩) 1 1] (w.alloc (.cells #[.int .i64 x] 3)) fun e w' => e = .returned (.tuple #[]) ∧ Builds B b (Lib.byteCells (bs ++ putL [x])) w' ∧ Below B w w' ∧ Keeps b w w' := by
  have G := puts_new B b q 1 1 [x] rfl (by simp [hx]) bs w h (by omega) hBw (by decide) hq
  simp only [intCells, List.map_cons, List.map_nil] at G
  exact G
theorem puts2 (B b q : Nat) (x y : Int) (hx : x < 9223372036854775808) (hy : y < 9223372036854775808) (bs : List UInt8) (w : World) (h : Builds B b (Lib.byteCells bs) w) (hlen : bs.length + 30 ≤ 140737488355328) (hBw : B ≤ w.heap.size) (hq : q = w.heap.size) :
    Calls Try.prog 128 #[.pointer (some ⟨b, 0, none⟩), .slice (some ⟨q, 0, none⟩) 2 2] (w.alloc (.cells #[.int .i64 x, .int .i64 y] 3)) fun e w' => e = .returned (.tuple #[]) ∧ Builds B b (Lib.byteCells (bs ++ putL [x, y])) w' ∧ Below B w w' ∧ Keeps b w w' := by
  have G := puts_new B b q 2 2 [x, y] rfl (by simp [hx, hy]) bs w h (by omega) hBw (by decide) hq
  simp only [intCells, List.map_cons, List.map_nil] at G
  exact G
theorem putL_app (l m : List Int) : putL (l ++ m) = putL l ++ putL m := by simp [putL]
theorem Builds.lt {B b : Nat} {bs : List Value} {w : World} (h : Builds B b bs w) : b < w.heap.size := h.elim (fun x => x.lt) (fun x => x.lt)
def flagN (p : PartC) : Int := (if p.m then 1 else 0) + (if p.h then 2 else 0)
def fwdN (p : PartC) : List Int := [flagN p] ++ ((if p.m then [p.i, p.t] else []) ++ ((if p.h then [p.ht, p.hv, p.hc] else []) ++ [(p.len : Int)]))

set_option maxRecDepth 100000 in
set_option maxHeartbeats 4000000 in
theorem putForward_any (B b : Nat) (p : PartC) (h1 : p.ht < 9223372036854775808) (h2 : p.hv < 9223372036854775808) (h3 : p.hc < 9223372036854775808) (hi : p.i < 9223372036854775808) (ht : p.t < 9223372036854775808) (hl : p.len < 1000000) (bs : List UInt8) (w : World) (h : Builds B b (Lib.byteCells bs) w)
    (hlen : bs.length + 200 ≤ 140737488355328) (hBw : B ≤ w.heap.size) :
    Calls Try.prog 130 #[.pointer (some ⟨b, 0, none⟩), p.val] w fun e w' => e = .returned (.tuple #[]) ∧ Builds B b (Lib.byteCells (bs ++ putL (fwdN p))) w' ∧ Below B w w' ∧ Keeps b w w' := by
  have hlen' : bs.length + 30 ≤ 140737488355328 := by omega
  have hne : w.heap.size ≠ b := by have := h.lt; omega
  have HL1 := Lib.hid (show ∀ (l1 : List Int), l1.length ≤ 3 → (bs ++ putL l1).length + 30 ≤ 140737488355328 by
    intro l1 ql1
    have := putL_len l1
    simp only [List.length_append]
    omega)
  have HL2 := Lib.hid (show ∀ (l1 l2 : List Int), l1.length ≤ 3 → l2.length ≤ 3 → ((bs ++ putL l1) ++ putL l2).length + 30 ≤ 140737488355328 by
    intro l1 l2 ql1 ql2
    have := putL_len l1; have := putL_len l2
    simp only [List.length_append]
    omega)
  have HL3 := Lib.hid (show ∀ (l1 l2 l3 : List Int), l1.length ≤ 3 → l2.length ≤ 3 → l3.length ≤ 3 → (((bs ++ putL l1) ++ putL l2) ++ putL l3).length + 30 ≤ 140737488355328 by
    intro l1 l2 l3 ql1 ql2 ql3
    have := putL_len l1; have := putL_len l2; have := putL_len l3
    simp only [List.length_append]
    omega)
  have h1' := h1; have h2' := h2; have h3' := h3; have hi' := hi; have ht' := ht
  clear h1 h2 h3 hi ht
  obtain ⟨g, k, a, len, cap, ht, hv, hc, i, t, mk, hd⟩ := p
  dsimp only [PartC.val] at *
  cases mk with
  | false =>
    cases hd with
    | false =>
      have hA0 : Below B w (w.alloc (.cells #[.int .i64 g, .int .i64 k, .slice a len cap, .int .i64 ht, .int .i64 hv, .int .i64 hc, .int .i64 i, .int .i64 t, .bool false, .bool false] 70)) := (bel_alloc (Below.refl _ _) _).mono hBw
      have HK0 : Keeps b w (w.alloc (.cells #[.int .i64 g, .int .i64 k, .slice a len cap, .int .i64 ht, .int .i64 hv, .int .i64 hc, .int .i64 i, .int .i64 t, .bool false, .bool false] 70)) := Keeps.below (bel_alloc (Below.refl _ _) _)
      have HB0 := Lib.hid (show Builds B b (Lib.byteCells bs) (w.alloc (.cells #[.int .i64 g, .int .i64 k, .slice a len cap, .int .i64 ht, .int .i64 hv, .int .i64 hc, .int .i64 i, .int .i64 t, .bool false, .bool false] 70)) from h.kept (bel_alloc (Below.refl _ _) _))
      have hbp : (w.alloc (.cells #[.int .i64 g, .int .i64 k, .slice a len cap, .int .i64 ht, .int .i64 hv, .int .i64 hc, .int .i64 i, .int .i64 t, .bool false, .bool false] 70)).heap[w.heap.size]? = some (.cells #[.int .i64 g, .int .i64 k, .slice a len cap, .int .i64 ht, .int .i64 hv, .int .i64 hc, .int .i64 i, .int .i64 t, .bool false, .bool false] 70 (0, 0)) := World.alloc_heap_new w _
      go_enter Try.func130, Try.ntmps130
      go_wp2_with (first
        | (go_at_call 128; ((with_reducible refine (puts1 B b _ _ (by decide) _ _ HB0.out hlen' (Nat.le_trans hBw hA0.size) (by simp)).mono ?_); rintro e w1 ⟨rfl, h1, h2, h3⟩; have HB1 := Lib.hid h1; clear h1; replace hbp := h3.cells hbp hne (by decide); have hA1 := hA0.trans h2; have HK1 := HK0.trans h3; clear h2 h3; have c2 : w1.cell? ⟨w.heap.size, 2, none⟩ = some (.slice a len cap) := cell_of_row _ _ 2 _ _ _ hbp; have c3 : w1.cell? ⟨w.heap.size, 3, none⟩ = some (.int .i64 ht) := cell_of_row _ _ 3 _ _ _ hbp; have c4 : w1.cell? ⟨w.heap.size, 4, none⟩ = some (.int .i64 hv) := cell_of_row _ _ 4 _ _ _ hbp; have c5 : w1.cell? ⟨w.heap.size, 5, none⟩ = some (.int .i64 hc) := cell_of_row _ _ 5 _ _ _ hbp; have c6 : w1.cell? ⟨w.heap.size, 6, none⟩ = some (.int .i64 i) := cell_of_row _ _ 6 _ _ _ hbp; have c7 : w1.cell? ⟨w.heap.size, 7, none⟩ = some (.int .i64 t) := cell_of_row _ _ 7 _ _ _ hbp; have c8 : w1.cell? ⟨w.heap.size, 8, none⟩ = some (.bool false) := cell_of_row _ _ 8 _ _ _ hbp; have c9 : w1.cell? ⟨w.heap.size, 9, none⟩ = some (.bool false) := cell_of_row _ _ 9 _ _ _ hbp))
        | (go_at_call 128; ((with_reducible refine (puts1 B b _ _ (by omega) _ _ HB1.out (HL1.out _ (by simp)) (Nat.le_trans hBw hA1.size) rfl).mono ?_); rintro e w2 ⟨rfl, h1, h2, h3⟩; have HB2 := Lib.hid h1; clear h1; replace hbp := h3.cells hbp hne (by decide); have hA2 := hA1.trans h2; have HK2 := HK1.trans h3; clear h2 h3; clear c2 ; clear c3 ; clear c4 ; clear c5 ; clear c6 ; clear c7 ; clear c8 ; clear c9; have c2 : w2.cell? ⟨w.heap.size, 2, none⟩ = some (.slice a len cap) := cell_of_row _ _ 2 _ _ _ hbp; have c3 : w2.cell? ⟨w.heap.size, 3, none⟩ = some (.int .i64 ht) := cell_of_row _ _ 3 _ _ _ hbp; have c4 : w2.cell? ⟨w.heap.size, 4, none⟩ = some (.int .i64 hv) := cell_of_row _ _ 4 _ _ _ hbp; have c5 : w2.cell? ⟨w.heap.size, 5, none⟩ = some (.int .i64 hc) := cell_of_row _ _ 5 _ _ _ hbp; have c6 : w2.cell? ⟨w.heap.size, 6, none⟩ = some (.int .i64 i) := cell_of_row _ _ 6 _ _ _ hbp; have c7 : w2.cell? ⟨w.heap.size, 7, none⟩ = some (.int .i64 t) := cell_of_row _ _ 7 _ _ _ hbp; have c8 : w2.cell? ⟨w.heap.size, 8, none⟩ = some (.bool false) := cell_of_row _ _ 8 _ _ _ hbp; have c9 : w2.cell? ⟨w.heap.size, 9, none⟩ = some (.bool false) := cell_of_row _ _ 9 _ _ _ hbp)))
      go_end0
      refine ⟨rfl, ?_, hA2, HK2⟩
      rw [show fwdN ⟨g, k, a, len, cap, ht, hv, hc, i, t, false, false⟩ = ([0] ++ [(len : Int)]) by simp [fwdN, flagN]]
      simp only [putL_app, ← List.append_assoc]
      exact HB2.out
    | true =>
      have hA0 : Below B w (w.alloc (.cells #[.int .i64 g, .int .i64 k, .slice a len cap, .int .i64 ht, .int .i64 hv, .int .i64 hc, .int .i64 i, .int .i64 t, .bool false, .bool true] 70)) := (bel_alloc (Below.refl _ _) _).mono hBw
      have HK0 : Keeps b w (w.alloc (.cells #[.int .i64 g, .int .i64 k, .slice a len cap, .int .i64 ht, .int .i64 hv, .int .i64 hc, .int .i64 i, .int .i64 t, .bool false, .bool true] 70)) := Keeps.below (bel_alloc (Below.refl _ _) _)
      have HB0 := Lib.hid (show Builds B b (Lib.byteCells bs) (w.alloc (.cells #[.int .i64 g, .int .i64 k, .slice a len cap, .int .i64 ht, .int .i64 hv, .int .i64 hc, .int .i64 i, .int .i64 t, .bool false, .bool true] 70)) from h.kept (bel_alloc (Below.refl _ _) _))
      have hbp : (w.alloc (.cells #[.int .i64 g, .int .i64 k, .slice a len cap, .int .i64 ht, .int .i64 hv, .int .i64 hc, .int .i64 i, .int .i64 t, .bool false, .bool true] 70)).heap[w.heap.size]? = some (.cells #[.int .i64 g, .int .i64 k, .slice a len cap, .int .i64 ht, .int .i64 hv, .int .i64 hc, .int .i64 i, .int .i64 t, .bool false, .bool true] 70 (0, 0)) := World.alloc_heap_new w _
      go_enter Try.func130, Try.ntmps130
      go_wp2_with (first
        | (go_at_call 128; ((with_reducible refine (puts1 B b _ _ (by decide) _ _ HB0.out hlen' (Nat.le_trans hBw hA0.size) (by simp)).mono ?_); rintro e w1 ⟨rfl, h1, h2, h3⟩; have HB1 := Lib.hid h1; clear h1; replace hbp := h3.cells hbp hne (by decide); have hA1 := hA0.trans h2; have HK1 := HK0.trans h3; clear h2 h3; have c2 : w1.cell? ⟨w.heap.size, 2, none⟩ = some (.slice a len cap) := cell_of_row _ _ 2 _ _ _ hbp; have c3 : w1.cell? ⟨w.heap.size, 3, none⟩ = some (.int .i64 ht) := cell_of_row _ _ 3 _ _ _ hbp; have c4 : w1.cell? ⟨w.heap.size, 4, none⟩ = some (.int .i64 hv) := cell_of_row _ _ 4 _ _ _ hbp; have c5 : w1.cell? ⟨w.heap.size, 5, none⟩ = some (.int .i64 hc) := cell_of_row _ _ 5 _ _ _ hbp; have c6 : w1.cell? ⟨w.heap.size, 6, none⟩ = some (.int .i64 i) := cell_of_row _ _ 6 _ _ _ hbp; have c7 : w1.cell? ⟨w.heap.size, 7, none⟩ = some (.int .i64 t) := cell_of_row _ _ 7 _ _ _ hbp; have c8 : w1.cell? ⟨w.heap.size, 8, none⟩ = some (.bool false) := cell_of_row _ _ 8 _ _ _ hbp; have c9 : w1.cell? ⟨w.heap.size, 9, none⟩ = some (.bool true) := cell_of_row _ _ 9 _ _ _ hbp))
        | (go_at_call 129; ((with_reducible refine (putHard_any B b _ _ _ h1' h2' h3' _ _ HB1.out (HL1.out _ (by simp)) (Nat.le_trans hBw hA1.size)).mono ?_); rintro e w2 ⟨rfl, h1, h2, h3⟩; have HB2 := Lib.hid h1; clear h1; replace hbp := h3.cells hbp hne (by decide); have hA2 := hA1.trans h2; have HK2 := HK1.trans h3; clear h2 h3; clear c2 ; clear c3 ; clear c4 ; clear c5 ; clear c6 ; clear c7 ; clear c8 ; clear c9; have c2 : w2.cell? ⟨w.heap.size, 2, none⟩ = some (.slice a len cap) := cell_of_row _ _ 2 _ _ _ hbp; have c3 : w2.cell? ⟨w.heap.size, 3, none⟩ = some (.int .i64 ht) := cell_of_row _ _ 3 _ _ _ hbp; have c4 : w2.cell? ⟨w.heap.size, 4, none⟩ = some (.int .i64 hv) := cell_of_row _ _ 4 _ _ _ hbp; have c5 : w2.cell? ⟨w.heap.size, 5, none⟩ = some (.int .i64 hc) := cell_of_row _ _ 5 _ _ _ hbp; have c6 : w2.cell? ⟨w.heap.size, 6, none⟩ = some (.int .i64 i) := cell_of_row _ _ 6 _ _ _ hbp; have c7 : w2.cell? ⟨w.heap.size, 7, none⟩ = some (.int .i64 t) := cell_of_row _ _ 7 _ _ _ hbp; have c8 : w2.cell? ⟨w.heap.size, 8, none⟩ = some (.bool false) := cell_of_row _ _ 8 _ _ _ hbp; have c9 : w2.cell? ⟨w.heap.size, 9, none⟩ = some (.bool true) := cell_of_row _ _ 9 _ _ _ hbp))
        | (go_at_call 128; ((with_reducible refine (puts1 B b _ _ (by omega) _ _ HB2.out (HL2.out _ _ (by simp) (by simp)) (Nat.le_trans hBw hA2.size) rfl).mono ?_); rintro e w3 ⟨rfl, h1, h2, h3⟩; have HB3 := Lib.hid h1; clear h1; replace hbp := h3.cells hbp hne (by decide); have hA3 := hA2.trans h2; have HK3 := HK2.trans h3; clear h2 h3; clear c2 ; clear c3 ; clear c4 ; clear c5 ; clear c6 ; clear c7 ; clear c8 ; clear c9; have c2 : w3.cell? ⟨w.heap.size, 2, none⟩ = some (.slice a len cap) := cell_of_row _ _ 2 _ _ _ hbp; have c3 : w3.cell? ⟨w.heap.size, 3, none⟩ = some (.int .i64 ht) := cell_of_row _ _ 3 _ _ _ hbp; have c4 : w3.cell? ⟨w.heap.size, 4, none⟩ = some (.int .i64 hv) := cell_of_row _ _ 4 _ _ _ hbp; have c5 : w3.cell? ⟨w.heap.size, 5, none⟩ = some (.int .i64 hc) := cell_of_row _ _ 5 _ _ _ hbp; have c6 : w3.cell? ⟨w.heap.size, 6, none⟩ = some (.int .i64 i) := cell_of_row _ _ 6 _ _ _ hbp; have c7 : w3.cell? ⟨w.heap.size, 7, none⟩ = some (.int .i64 t) := cell_of_row _ _ 7 _ _ _ hbp; have c8 : w3.cell? ⟨w.heap.size, 8, none⟩ = some (.bool false) := cell_of_row _ _ 8 _ _ _ hbp; have c9 : w3.cell? ⟨w.heap.size, 9, none⟩ = some (.bool true) := cell_of_row _ _ 9 _ _ _ hbp)))
      go_end0
      refine ⟨rfl, ?_, hA3, HK3⟩
      rw [show fwdN ⟨g, k, a, len, cap, ht, hv, hc, i, t, false, true⟩ = (([2] ++ [ht, hv, hc]) ++ [(len : Int)]) by simp [fwdN, flagN]]
      simp only [putL_app, ← List.append_assoc]
      exact HB3.out
  | true =>
    cases hd with
    | false =>
      have hA0 : Below B w (w.alloc (.cells #[.int .i64 g, .int .i64 k, .slice a len cap, .int .i64 ht, .int .i64 hv, .int .i64 hc, .int .i64 i, .int .i64 t, .bool true, .bool false] 70)) := (bel_alloc (Below.refl _ _) _).mono hBw
      have HK0 : Keeps b w (w.alloc (.cells #[.int .i64 g, .int .i64 k, .slice a len cap, .int .i64 ht, .int .i64 hv, .int .i64 hc, .int .i64 i, .int .i64 t, .bool true, .bool false] 70)) := Keeps.below (bel_alloc (Below.refl _ _) _)
      have HB0 := Lib.hid (show Builds B b (Lib.byteCells bs) (w.alloc (.cells #[.int .i64 g, .int .i64 k, .slice a len cap, .int .i64 ht, .int .i64 hv, .int .i64 hc, .int .i64 i, .int .i64 t, .bool true, .bool false] 70)) from h.kept (bel_alloc (Below.refl _ _) _))
      have hbp : (w.alloc (.cells #[.int .i64 g, .int .i64 k, .slice a len cap, .int .i64 ht, .int .i64 hv, .int .i64 hc, .int .i64 i, .int .i64 t, .bool true, .bool false] 70)).heap[w.heap.size]? = some (.cells #[.int .i64 g, .int .i64 k, .slice a len cap, .int .i64 ht, .int .i64 hv, .int .i64 hc, .int .i64 i, .int .i64 t, .bool true, .bool false] 70 (0, 0)) := World.alloc_heap_new w _
      go_enter Try.func130, Try.ntmps130
      go_wp2_with (first
        | (go_at_call 128; ((with_reducible refine (puts1 B b _ _ (by decide) _ _ HB0.out hlen' (Nat.le_trans hBw hA0.size) (by simp)).mono ?_); rintro e w1 ⟨rfl, h1, h2, h3⟩; have HB1 := Lib.hid h1; clear h1; replace hbp := h3.cells hbp hne (by decide); have hA1 := hA0.trans h2; have HK1 := HK0.trans h3; clear h2 h3; have c2 : w1.cell? ⟨w.heap.size, 2, none⟩ = some (.slice a len cap) := cell_of_row _ _ 2 _ _ _ hbp; have c3 : w1.cell? ⟨w.heap.size, 3, none⟩ = some (.int .i64 ht) := cell_of_row _ _ 3 _ _ _ hbp; have c4 : w1.cell? ⟨w.heap.size, 4, none⟩ = some (.int .i64 hv) := cell_of_row _ _ 4 _ _ _ hbp; have c5 : w1.cell? ⟨w.heap.size, 5, none⟩ = some (.int .i64 hc) := cell_of_row _ _ 5 _ _ _ hbp; have c6 : w1.cell? ⟨w.heap.size, 6, none⟩ = some (.int .i64 i) := cell_of_row _ _ 6 _ _ _ hbp; have c7 : w1.cell? ⟨w.heap.size, 7, none⟩ = some (.int .i64 t) := cell_of_row _ _ 7 _ _ _ hbp; have c8 : w1.cell? ⟨w.heap.size, 8, none⟩ = some (.bool true) := cell_of_row _ _ 8 _ _ _ hbp; have c9 : w1.cell? ⟨w.heap.size, 9, none⟩ = some (.bool false) := cell_of_row _ _ 9 _ _ _ hbp))
        | (go_at_call 128; ((with_reducible refine (puts2 B b _ _ _ hi' ht' _ _ HB1.out (HL1.out _ (by simp)) (Nat.le_trans hBw hA1.size) rfl).mono ?_); rintro e w2 ⟨rfl, h1, h2, h3⟩; have HB2 := Lib.hid h1; clear h1; replace hbp := h3.cells hbp hne (by decide); have hA2 := hA1.trans h2; have HK2 := HK1.trans h3; clear h2 h3; clear c2 ; clear c3 ; clear c4 ; clear c5 ; clear c6 ; clear c7 ; clear c8 ; clear c9; have c2 : w2.cell? ⟨w.heap.size, 2, none⟩ = some (.slice a len cap) := cell_of_row _ _ 2 _ _ _ hbp; have c3 : w2.cell? ⟨w.heap.size, 3, none⟩ = some (.int .i64 ht) := cell_of_row _ _ 3 _ _ _ hbp; have c4 : w2.cell? ⟨w.heap.size, 4, none⟩ = some (.int .i64 hv) := cell_of_row _ _ 4 _ _ _ hbp; have c5 : w2.cell? ⟨w.heap.size, 5, none⟩ = some (.int .i64 hc) := cell_of_row _ _ 5 _ _ _ hbp; have c6 : w2.cell? ⟨w.heap.size, 6, none⟩ = some (.int .i64 i) := cell_of_row _ _ 6 _ _ _ hbp; have c7 : w2.cell? ⟨w.heap.size, 7, none⟩ = some (.int .i64 t) := cell_of_row _ _ 7 _ _ _ hbp; have c8 : w2.cell? ⟨w.heap.size, 8, none⟩ = some (.bool true) := cell_of_row _ _ 8 _ _ _ hbp; have c9 : w2.cell? ⟨w.heap.size, 9, none⟩ = some (.bool false) := cell_of_row _ _ 9 _ _ _ hbp))
        | (go_at_call 128; ((with_reducible refine (puts1 B b _ _ (by omega) _ _ HB2.out (HL2.out _ _ (by simp) (by simp)) (Nat.le_trans hBw hA2.size) rfl).mono ?_); rintro e w3 ⟨rfl, h1, h2, h3⟩; have HB3 := Lib.hid h1; clear h1; replace hbp := h3.cells hbp hne (by decide); have hA3 := hA2.trans h2; have HK3 := HK2.trans h3; clear h2 h3; clear c2 ; clear c3 ; clear c4 ; clear c5 ; clear c6 ; clear c7 ; clear c8 ; clear c9; have c2 : w3.cell? ⟨w.heap.size, 2, none⟩ = some (.slice a len cap) := cell_of_row _ _ 2 _ _ _ hbp; have c3 : w3.cell? ⟨w.heap.size, 3, none⟩ = some (.int .i64 ht) := cell_of_row _ _ 3 _ _ _ hbp; have c4 : w3.cell? ⟨w.heap.size, 4, none⟩ = some (.int .i64 hv) := cell_of_row _ _ 4 _ _ _ hbp; have c5 : w3.cell? ⟨w.heap.size, 5, none⟩ = some (.int .i64 hc) := cell_of_row _ _ 5 _ _ _ hbp; have c6 : w3.cell? ⟨w.heap.size, 6, none⟩ = some (.int .i64 i) := cell_of_row _ _ 6 _ _ _ hbp; have c7 : w3.cell? ⟨w.heap.size, 7, none⟩ = some (.int .i64 t) := cell_of_row _ _ 7 _ _ _ hbp; have c8 : w3.cell? ⟨w.heap.size, 8, none⟩ = some (.bool true) := cell_of_row _ _ 8 _ _ _ hbp; have c9 : w3.cell? ⟨w.heap.size, 9, none⟩ = some (.bool false) := cell_of_row _ _ 9 _ _ _ hbp)))
      go_end0
      refine ⟨rfl, ?_, hA3, HK3⟩
      rw [show fwdN ⟨g, k, a, len, cap, ht, hv, hc, i, t, true, false⟩ = (([1] ++ [i, t]) ++ [(len : Int)]) by simp [fwdN, flagN]]
      simp only [putL_app, ← List.append_assoc]
      exact HB3.out
    | true =>
      have hA0 : Below B w (w.alloc (.cells #[.int .i64 g, .int .i64 k, .slice a len cap, .int .i64 ht, .int .i64 hv, .int .i64 hc, .int .i64 i, .int .i64 t, .bool true, .bool true] 70)) := (bel_alloc (Below.refl _ _) _).mono hBw
      have HK0 : Keeps b w (w.alloc (.cells #[.int .i64 g, .int .i64 k, .slice a len cap, .int .i64 ht, .int .i64 hv, .int .i64 hc, .int .i64 i, .int .i64 t, .bool true, .bool true] 70)) := Keeps.below (bel_alloc (Below.refl _ _) _)
      have HB0 := Lib.hid (show Builds B b (Lib.byteCells bs) (w.alloc (.cells #[.int .i64 g, .int .i64 k, .slice a len cap, .int .i64 ht, .int .i64 hv, .int .i64 hc, .int .i64 i, .int .i64 t, .bool true, .bool true] 70)) from h.kept (bel_alloc (Below.refl _ _) _))
      have hbp : (w.alloc (.cells #[.int .i64 g, .int .i64 k, .slice a len cap, .int .i64 ht, .int .i64 hv, .int .i64 hc, .int .i64 i, .int .i64 t, .bool true, .bool true] 70)).heap[w.heap.size]? = some (.cells #[.int .i64 g, .int .i64 k, .slice a len cap, .int .i64 ht, .int .i64 hv, .int .i64 hc, .int .i64 i, .int .i64 t, .bool true, .bool true] 70 (0, 0)) := World.alloc_heap_new w _
      go_enter Try.func130, Try.ntmps130
      go_wp2_with (first
        | (go_at_call 128; ((with_reducible refine (puts1 B b _ _ (by decide) _ _ HB0.out hlen' (Nat.le_trans hBw hA0.size) (by simp)).mono ?_); rintro e w1 ⟨rfl, h1, h2, h3⟩; have HB1 := Lib.hid h1; clear h1; replace hbp := h3.cells hbp hne (by decide); have hA1 := hA0.trans h2; have HK1 := HK0.trans h3; clear h2 h3; have c2 : w1.cell? ⟨w.heap.size, 2, none⟩ = some (.slice a len cap) := cell_of_row _ _ 2 _ _ _ hbp; have c3 : w1.cell? ⟨w.heap.size, 3, none⟩ = some (.int .i64 ht) := cell_of_row _ _ 3 _ _ _ hbp; have c4 : w1.cell? ⟨w.heap.size, 4, none⟩ = some (.int .i64 hv) := cell_of_row _ _ 4 _ _ _ hbp; have c5 : w1.cell? ⟨w.heap.size, 5, none⟩ = some (.int .i64 hc) := cell_of_row _ _ 5 _ _ _ hbp; have c6 : w1.cell? ⟨w.heap.size, 6, none⟩ = some (.int .i64 i) := cell_of_row _ _ 6 _ _ _ hbp; have c7 : w1.cell? ⟨w.heap.size, 7, none⟩ = some (.int .i64 t) := cell_of_row _ _ 7 _ _ _ hbp; have c8 : w1.cell? ⟨w.heap.size, 8, none⟩ = some (.bool true) := cell_of_row _ _ 8 _ _ _ hbp; have c9 : w1.cell? ⟨w.heap.size, 9, none⟩ = some (.bool true) := cell_of_row _ _ 9 _ _ _ hbp))
        | (go_at_call 128; ((with_reducible refine (puts2 B b _ _ _ hi' ht' _ _ HB1.out (HL1.out _ (by simp)) (Nat.le_trans hBw hA1.size) rfl).mono ?_); rintro e w2 ⟨rfl, h1, h2, h3⟩; have HB2 := Lib.hid h1; clear h1; replace hbp := h3.cells hbp hne (by decide); have hA2 := hA1.trans h2; have HK2 := HK1.trans h3; clear h2 h3; clear c2 ; clear c3 ; clear c4 ; clear c5 ; clear c6 ; clear c7 ; clear c8 ; clear c9; have c2 : w2.cell? ⟨w.heap.size, 2, none⟩ = some (.slice a len cap) := cell_of_row _ _ 2 _ _ _ hbp; have c3 : w2.cell? ⟨w.heap.size, 3, none⟩ = some (.int .i64 ht) := cell_of_row _ _ 3 _ _ _ hbp; have c4 : w2.cell? ⟨w.heap.size, 4, none⟩ = some (.int .i64 hv) := cell_of_row _ _ 4 _ _ _ hbp; have c5 : w2.cell? ⟨w.heap.size, 5, none⟩ = some (.int .i64 hc) := cell_of_row _ _ 5 _ _ _ hbp; have c6 : w2.cell? ⟨w.heap.size, 6, none⟩ = some (.int .i64 i) := cell_of_row _ _ 6 _ _ _ hbp; have c7 : w2.cell? ⟨w.heap.size, 7, none⟩ = some (.int .i64 t) := cell_of_row _ _ 7 _ _ _ hbp; have c8 : w2.cell? ⟨w.heap.size, 8, none⟩ = some (.bool true) := cell_of_row _ _ 8 _ _ _ hbp; have c9 : w2.cell? ⟨w.heap.size, 9, none⟩ = some (.bool true) := cell_of_row _ _ 9 _ _ _ hbp))
        | (go_at_call 129; ((with_reducible refine (putHard_any B b _ _ _ h1' h2' h3' _ _ HB2.out (HL2.out _ _ (by simp) (by simp)) (Nat.le_trans hBw hA2.size)).mono ?_); rintro e w3 ⟨rfl, h1, h2, h3⟩; have HB3 := Lib.hid h1; clear h1; replace hbp := h3.cells hbp hne (by decide); have hA3 := hA2.trans h2; have HK3 := HK2.trans h3; clear h2 h3; clear c2 ; clear c3 ; clear c4 ; clear c5 ; clear c6 ; clear c7 ; clear c8 ; clear c9; have c2 : w3.cell? ⟨w.heap.size, 2, none⟩ = some (.slice a len cap) := cell_of_row _ _ 2 _ _ _ hbp; have c3 : w3.cell? ⟨w.heap.size, 3, none⟩ = some (.int .i64 ht) := cell_of_row _ _ 3 _ _ _ hbp; have c4 : w3.cell? ⟨w.heap.size, 4, none⟩ = some (.int .i64 hv) := cell_of_row _ _ 4 _ _ _ hbp; have c5 : w3.cell? ⟨w.heap.size, 5, none⟩ = some (.int .i64 hc) := cell_of_row _ _ 5 _ _ _ hbp; have c6 : w3.cell? ⟨w.heap.size, 6, none⟩ = some (.int .i64 i) := cell_of_row _ _ 6 _ _ _ hbp; have c7 : w3.cell? ⟨w.heap.size, 7, none⟩ = some (.int .i64 t) := cell_of_row _ _ 7 _ _ _ hbp; have c8 : w3.cell? ⟨w.heap.size, 8, none⟩ = some (.bool true) := cell_of_row _ _ 8 _ _ _ hbp; have c9 : w3.cell? ⟨w.heap.size, 9, none⟩ = some (.bool true) := cell_of_row _ _ 9 _ _ _ hbp))
        | (go_at_call 128; ((with_reducible refine (puts1 B b _ _ (by omega) _ _ HB3.out (HL3.out _ _ _ (by simp) (by simp) (by simp)) (Nat.le_trans hBw hA3.size) rfl).mono ?_); rintro e w4 ⟨rfl, h1, h2, h3⟩; have HB4 := Lib.hid h1; clear h1; replace hbp := h3.cells hbp hne (by decide); have hA4 := hA3.trans h2; have HK4 := HK3.trans h3; clear h2 h3; clear c2 ; clear c3 ; clear c4 ; clear c5 ; clear c6 ; clear c7 ; clear c8 ; clear c9; have c2 : w4.cell? ⟨w.heap.size, 2, none⟩ = some (.slice a len cap) := cell_of_row _ _ 2 _ _ _ hbp; have c3 : w4.cell? ⟨w.heap.size, 3, none⟩ = some (.int .i64 ht) := cell_of_row _ _ 3 _ _ _ hbp; have c4 : w4.cell? ⟨w.heap.size, 4, none⟩ = some (.int .i64 hv) := cell_of_row _ _ 4 _ _ _ hbp; have c5 : w4.cell? ⟨w.heap.size, 5, none⟩ = some (.int .i64 hc) := cell_of_row _ _ 5 _ _ _ hbp; have c6 : w4.cell? ⟨w.heap.size, 6, none⟩ = some (.int .i64 i) := cell_of_row _ _ 6 _ _ _ hbp; have c7 : w4.cell? ⟨w.heap.size, 7, none⟩ = some (.int .i64 t) := cell_of_row _ _ 7 _ _ _ hbp; have c8 : w4.cell? ⟨w.heap.size, 8, none⟩ = some (.bool true) := cell_of_row _ _ 8 _ _ _ hbp; have c9 : w4.cell? ⟨w.heap.size, 9, none⟩ = some (.bool true) := cell_of_row _ _ 9 _ _ _ hbp)))
      go_end0
      refine ⟨rfl, ?_, hA4, HK4⟩
      rw [show fwdN ⟨g, k, a, len, cap, ht, hv, hc, i, t, true, true⟩ = ((([3] ++ [i, t]) ++ [ht, hv, hc]) ++ [(len : Int)]) by simp [fwdN, flagN]]
      simp only [putL_app, ← List.append_assoc]
      exact HB4.out

end Go.Proofs.Ytflaanffjjidaaa

/- The contract of package part's texts. -/
namespace Go.Proofs.Ytflaanffjjidaaa
open Go.RowKit Go.Shelf
set_option linter.unusedVariables false
attribute [local go_sem] Oper.semAt_some wide_fn wide_round_fn

def putS (n : Int) : ByteArray := ⟨(sevL n.toNat).toArray⟩
def textS (d : ByteArray) : ByteArray := ⟨(sevL d.size).toArray⟩ ++ d
def textOf (k : Int) (e : EntryC) : ByteArray := if k = 6 then putS e.i ++ (putS e.t ++ textS e.d) else putS e.t ++ textS e.d
def entryR (e : EntryC) : Prop := e.i < 9223372036854775808 ∧ e.t < 9223372036854775808 ∧ e.d.size < 1000000000

set_option maxRecDepth 100000 in
set_option maxHeartbeats 4000000 in
theorem texts_iter (Bp : Nat) (p : PartC) (l : List EntryC) (hl : l.length = p.len) (hm : p.len < 1000000) (hwf : ∀ e ∈ l, entryR e) (S : Nat → Prop) (hS : S Bp) (hSb : ∀ k, inBlkE p.a p.len k → S k) (w0 : World)
    (hBp : w0.heap[Bp]? = some (.cells p.arr 70 (0, 0))) (hrow : RowV w0 p.a p.len 3 (entryCells l)) :
    Iter Try.prog 142 #[.pointer (some ⟨Bp, 0, none⟩)] (fun s : ByteArray => #[.string s]) (l.map (textOf p.k)) S (fun _ => False) w0 := by
  obtain ⟨g, kd, a, len, cap, ht, hv, hc, i, t, mk, hd⟩ := p
  dsimp only [PartC.arr] at *
  intro L J Jx W hW hJs _ hY h0
  have hK0 : W.cell? ⟨Bp, 1, none⟩ = some (.int .i64 kd) := cell_of_row _ _ 1 _ _ _ (hW.get hBp hS)
  have hcl0 : W.cell? ⟨Bp, 2, none⟩ = some (.slice a len cap) := cell_of_row _ _ 2 _ _ _ (hW.get hBp hS)
  obtain ⟨hlen, hml, hcs⟩ := hrow
  refine callsIn_of_wp Try.func142 rfl trivial ?_ rfl
  simp only [Try.ntmps142, List.size_toArray, List.length_cons, List.length_nil, Nat.reduceAdd, Nat.reduceSub, Array.replicate_succ, Array.replicate_zero, List.push_toArray, List.append_toArray, List.nil_append, List.cons_append]
  gi_wp2
  gi_loopw [9] (fun q wr => ∃ (k : Nat) (pre : List ByteArray), k ≤ len ∧ q = .int .i64 k ∧ l.map (textOf kd) = pre ++ (l.drop k).map (textOf kd) ∧ J pre wr ∧ Rd W.heap.size S W wr) (fun q _ => len - (intOf q).toNat)
  case atStart => exact ⟨0, [], by omega, rfl, rfl, h0, Rd.refl _ _ _⟩
  case round =>
    obtain ⟨k, pre, hk, rfl, hX, hJ, hR⟩ := hrel
    have HX0 := Lib.hid hX
    clear hX
    by_cases hlt : k < len
    · obtain ⟨b, off, rfl, hb, hc⟩ := hcs (by omega)
      have hSbb := hSb b ⟨b, off, rfl, by omega, rfl⟩
      have hkl : k < l.length := by omega
      have cell : ∀ (W2 : World), Rd W.heap.size S W W2 → ∀ m (hm : m < l.length) i v, i < 3 → (l[m].cells)[i]? = some v → W2.cell? ⟨b, off + (m * 3 + i), none⟩ = some v := fun W2 h2 m hm i v hi hv =>
        h2.cell (hW.cell (RowV.at_ (len := len) (sz := 3) hc (by rw [entryCells, flat_at EntryC.cells 3 EntryC.len l m i hm hi]; exact hv)) hSbb) hSbb
      have c0 : wr.cell? ⟨b, off + k * 3, none⟩ = some (.int .i64 l[k].i) := cell wr hR k hkl 0 _ (by decide) rfl
      have c1 : wr.cell? ⟨b, off + k * 3 + 1, none⟩ = some (.int .i64 l[k].t) := cell wr hR k hkl 1 _ (by decide) rfl
      have c2 : wr.cell? ⟨b, off + k * 3 + 2, none⟩ = some (.string l[k].d) := cell wr hR k hkl 2 _ (by decide) rfl
      have HX := Lib.hid (show l.map (textOf kd) = pre ++ (textOf kd l[k] :: (l.drop (k + 1)).map (textOf kd)) by rw [HX0.out, List.drop_eq_getElem_cons hkl]; rfl)
      have hwx := hwf l[k] (List.getElem_mem _)
      clear cell hc HX0
      generalize l[k] = x at *
      obtain ⟨hxi, hxt, hxd⟩ := hwx
      have GI := Lib.hid (put_any x.i hxi)
      have GT := Lib.hid (put_any x.t hxt)
      have GD := Lib.hid (text_any x.d (by omega))
      gi_wp2
      have d0 : (wr.alloc (.cells #[.int .i64 x.i, .int .i64 x.t, .string x.d] 67)).cell? ⟨wr.heap.size, 0, none⟩ = some (.int .i64 x.i) := blk_cell (Below.refl _ _) 0
      have d1 : (wr.alloc (.cells #[.int .i64 x.i, .int .i64 x.t, .string x.d] 67)).cell? ⟨wr.heap.size, 1, none⟩ = some (.int .i64 x.t) := blk_cell (Below.refl _ _) 1
      have d2 : (wr.alloc (.cells #[.int .i64 x.i, .int .i64 x.t, .string x.d] 67)).cell? ⟨wr.heap.size, 2, none⟩ = some (.string x.d) := blk_cell (Below.refl _ _) 2
      have hRR := (hR.alloc (.cells #[.int .i64 x.i, .int .i64 x.t, .string x.d] 67)).drew
      have hJJ := hJs _ _ _ hJ (Moves.below ((bel_alloc (Below.refl wr.heap.size wr) (.cells #[.int .i64 x.i, .int .i64 x.t, .string x.d] 67)).drew))
      have hXX : wr.heap.size < (wr.alloc (.cells #[.int .i64 x.i, .int .i64 x.t, .string x.d] 67)).drew.heap.size := by show wr.heap.size < (wr.alloc _).heap.size; simp
      have cK := (hR.alloc (.cells #[.int .i64 x.i, .int .i64 x.t, .string x.d] 67)).cell hK0 hS
      clear c0 c1 c2 hJ
      have hl1 := sevL_len x.t.toNat; have hl2 := sevL_len x.d.size; have hl3 := sevL_len x.i.toNat
      have hz1 : (⟨(sevL x.t.toNat).toArray⟩ : ByteArray).size = (sevL x.t.toNat).length := rfl
      have hz2 : (⟨(sevL x.d.size).toArray⟩ : ByteArray).size = (sevL x.d.size).length := rfl
      have hz3 : (⟨(sevL x.i.toNat).toArray⟩ : ByteArray).size = (sevL x.i.toNat).length := rfl
      by_cases h6 : kd = 6
      · subst h6
        have HT := Lib.hid (show textOf 6 x = ⟨(sevL x.i.toNat).toArray⟩ ++ (⟨(sevL x.t.toNat).toArray⟩ ++ (⟨(sevL x.d.size).toArray⟩ ++ x.d)) by simp [textOf, putS, textS])
        rw [HT.out] at HX
        gi_region_with (first
          | (gi_at_call 92; refine (callsIn_wide.2 (GT.out _)).mono ?_; rintro e w4 ⟨rfl, hB⟩; replace d0 := (hB.cell (p := ⟨wr.heap.size, 0, none⟩) hXX).trans d0; replace d1 := (hB.cell (p := ⟨wr.heap.size, 1, none⟩) hXX).trans d1; replace d2 := (hB.cell (p := ⟨wr.heap.size, 2, none⟩) hXX).trans d2; replace hXX := Nat.lt_of_lt_of_le hXX hB.size; replace hRR := hRR.trans (Rd.below hB); replace hJJ := hJs _ _ _ hJJ (Moves.below hB); replace cK := hRR.cell hK0 hS; clear hB)
          | (gi_at_call 143; refine (callsIn_wide.2 (GD.out _)).mono ?_; rintro e w5 ⟨rfl, hB⟩; replace d0 := (hB.cell (p := ⟨wr.heap.size, 0, none⟩) hXX).trans d0; replace d1 := (hB.cell (p := ⟨wr.heap.size, 1, none⟩) hXX).trans d1; replace d2 := (hB.cell (p := ⟨wr.heap.size, 2, none⟩) hXX).trans d2; replace hXX := Nat.lt_of_lt_of_le hXX hB.size; replace hRR := hRR.trans (Rd.below hB); replace hJJ := hJs _ _ _ hJJ (Moves.below hB); replace cK := hRR.cell hK0 hS; clear hB))
        all_goals
          gi_wp2_with (gi_at_call 92; refine (callsIn_wide.2 (GI.out _)).mono ?_; rintro e w6 ⟨rfl, hB⟩; replace d0 := (hB.cell (p := ⟨wr.heap.size, 0, none⟩) hXX).trans d0; replace d1 := (hB.cell (p := ⟨wr.heap.size, 1, none⟩) hXX).trans d1; replace d2 := (hB.cell (p := ⟨wr.heap.size, 2, none⟩) hXX).trans d2; replace hXX := Nat.lt_of_lt_of_le hXX hB.size; replace hRR := hRR.trans (Rd.below hB); replace hJJ := hJs _ _ _ hJJ (Moves.below hB); replace cK := hRR.cell hK0 hS; clear hB; obtain ⟨fn, tmps, assign, body, hy, hR1⟩ := hY _ _ _ w6 HX.out hJJ)
          refine (roundIn_wide_n hR1).mono ?_
          rintro e W3 (⟨rfl, hJ3, hk3⟩ | ⟨rfl, hJx3⟩)
          · gi_wp2
            go_roundw
            case rel => exact ⟨k + 1, _, by omega, by go_num, by rw [HX.out]; simp, hJ3, hRR.trans hk3⟩
            case measure => simp [intOf]; omega
          · gi_wp2
            refine bodyPost_ret (results_none rfl _ _ _) rfl ?_
            exact ⟨⟨_, rfl⟩, .inr ⟨_, _, _, HX.out, hJx3⟩⟩
      · have HT := Lib.hid (show textOf kd x = ⟨(sevL x.t.toNat).toArray⟩ ++ (⟨(sevL x.d.size).toArray⟩ ++ x.d) by simp [textOf, putS, textS, h6])
        rw [HT.out] at HX
        gi_region_with (first
          | (gi_at_call 92; refine (callsIn_wide.2 (GT.out _)).mono ?_; rintro e w4 ⟨rfl, hB⟩; replace d0 := (hB.cell (p := ⟨wr.heap.size, 0, none⟩) hXX).trans d0; replace d1 := (hB.cell (p := ⟨wr.heap.size, 1, none⟩) hXX).trans d1; replace d2 := (hB.cell (p := ⟨wr.heap.size, 2, none⟩) hXX).trans d2; replace hXX := Nat.lt_of_lt_of_le hXX hB.size; replace hRR := hRR.trans (Rd.below hB); replace hJJ := hJs _ _ _ hJJ (Moves.below hB); replace cK := hRR.cell hK0 hS; clear hB)
          | (gi_at_call 143; refine (callsIn_wide.2 (GD.out _)).mono ?_; rintro e w5 ⟨rfl, hB⟩; replace d0 := (hB.cell (p := ⟨wr.heap.size, 0, none⟩) hXX).trans d0; replace d1 := (hB.cell (p := ⟨wr.heap.size, 1, none⟩) hXX).trans d1; replace d2 := (hB.cell (p := ⟨wr.heap.size, 2, none⟩) hXX).trans d2; replace hXX := Nat.lt_of_lt_of_le hXX hB.size; replace hRR := hRR.trans (Rd.below hB); replace hJJ := hJs _ _ _ hJJ (Moves.below hB); replace cK := hRR.cell hK0 hS; clear hB))
        all_goals
          obtain ⟨fn, tmps, assign, body, hy, hR1⟩ := hY _ _ _ _ HX.out hJJ
          gi_wp2
          refine (roundIn_wide_n hR1).mono ?_
          rintro e W3 (⟨rfl, hJ3, hk3⟩ | ⟨rfl, hJx3⟩)
          · gi_wp2
            go_roundw
            case rel => exact ⟨k + 1, _, by omega, by go_num, by rw [HX.out]; simp, hJ3, hRR.trans hk3⟩
            case measure => simp [intOf]; omega
          · gi_wp2
            refine bodyPost_ret (results_none rfl _ _ _) rfl ?_
            exact ⟨⟨_, rfl⟩, .inr ⟨_, _, _, HX.out, hJx3⟩⟩
    · obtain rfl : k = len := by omega
      have HX := Lib.hid (show l.map (textOf kd) = pre by rw [HX0.out, List.drop_of_length_le (by omega)]; simp)
      gi_wp2
      refine bodyPost_end (results_none rfl _ _ _) rfl ?_
      exact ⟨⟨_, rfl⟩, .inl (by rw [HX.out]; exact hJ)⟩

theorem texts_makes (p : PartC) (l : List EntryC) (w : World) (h : HasE w p l) (hwf : ∀ e ∈ l, entryR e) :
    Calls Try.prog 131 #[p.val] w fun e w' => ∃ lb, e = .returned (.func (.func 142) #[] lb) ∧ w' = w.alloc (.cells p.arr 70) ∧
      Iter Try.prog 142 lb (fun s : ByteArray => #[.string s]) (l.map (textOf p.k)) (fun k => inBlkE p.a p.len k ∨ k = w.heap.size) (fun _ => False) w' := by
  have hrow := h.2.2.below (bel_alloc (Below.refl _ _) (.cells p.arr 70))
  have hI := texts_iter w.heap.size p l h.1 h.2.1 hwf (fun k => inBlkE p.a p.len k ∨ k = w.heap.size) (.inr rfl) (fun k h => .inl h) (w.alloc (.cells p.arr 70)) (World.alloc_heap_new w _) hrow
  have HI := Lib.hid hI
  clear hI hrow h hwf
  go_enter Try.func131, Try.ntmps131
  go_wp2
  go_ret
  exact ⟨_, rfl, rfl, HI.out⟩

end Go.Proofs.Ytflaanffjjidaaa
