/- PartBytes, PartBytes5, PartBytes2, PartBytes6, PartBytes1: in one text. -/
import Derived.Test.YtflaanffjjidaaaPuts
import Derived.Test.YtflaanffjjidaaaPartIs
import Derived.Test.YtflaanffjjidaaaPart
import Derived.Test.YtflaanffjjidaaaRef
import Derived.Test.YtflaanffjjidaaaRegion
import Derived.Deep.RegionHeld3
import Derived.Deep.RegionWith
/- Laws for Bytes: a builder in the rounds of a range. -/
namespace Go.Proofs.Ytflaanffjjidaaa
open Go.RowKit Go.Shelf
set_option linter.unusedVariables false
attribute [local go_sem] Oper.semAt_some wide_fn wide_round_fn

theorem BuiltAt.cells {B b : Nat} {p : Value} {bs : List Value} {w : World} (h : BuiltAt B b p bs w) : ∃ cs, w.heap[b]? = some (.cells cs 149 (0, 0)) := ⟨_, h.2.choose_spec.1⟩
theorem Builds.cells {B b : Nat} {bs : List Value} {w : World} (h : Builds B b bs w) : ∃ cs, w.heap[b]? = some (.cells cs 149 (0, 0)) := h.elim BuiltAt.cells BuiltAt.cells
theorem rd_of_keeps {B B1 b n : Nat} {bs : List Value} {S : Nat → Prop} {W W' : World} (hb : Builds B b bs W) (hK : Keeps b W W') (hB : Below n W W')
    (hS : ∀ k, S k → k < n ∨ (k ≠ b ∧ ∃ cs T fr, W.heap[k]? = some (.cells cs T fr) ∧ T ≠ 5)) : Rd B1 S W W' :=
  ⟨hK.os, hK.tape, hK.output, hK.size, fun k o ho hc => by
    rcases hc with hc | ⟨_, hc⟩
    · rcases hS k hc with h | ⟨h1, cs, T, fr, h2, h3⟩
      · exact (hB.block k h).trans ho
      · rw [h2] at ho; cases ho; exact hK.cells h2 h1 h3
    · refine hK.block k o ho ?_ ?_
      · rintro rfl; obtain ⟨cs, hcs⟩ := hb.cells; rw [hcs] at ho; cases ho; cases hc
      · rintro cs fr rfl; cases hc⟩
theorem built_stab {B b C : Nat} {p : Value} {bs : List Value} : Stab C (fun _ => False) (BuiltAt B b p bs) := fun W W' h hm => by
  obtain ⟨h1, v, h2, h3, h4⟩ := h
  exact ⟨h1, v, hm.block b _ h2 id (.inr rfl), Stab.ownsRow (fun _ h => h.elim) W W' h3 hm, h4⟩
theorem builds_stab {B b C : Nat} {bs : List Value} : Stab C (fun _ => False) (Builds B b bs) := built_stab.or built_stab

/-- What Bytes' loop holds: the builder, its pointer, the part that the iterator reads. -/
def bytI (w : World) (b q X : Nat) (arr : Array Value) (bs : List UInt8) (pre : List ByteArray) (W : World) : Prop :=
  Builds w.heap.size b (Lib.byteCells (bs ++ pre.flatMap fun s => s.data.toList)) W ∧ (W.heap[q]? = some (.cells #[.pointer (some ⟨b, 0, none⟩)] 147 (0, 0)) ∧
    (W.heap[X]? = some (.cells arr 70 (0, 0)) ∧ Below w.heap.size w W))
theorem bytI_stab {w : World} {b q X C : Nat} {arr : Array Value} {bs : List UInt8} {pre : List ByteArray} (h : w.heap.size ≤ C) : Stab C (fun _ => False) (bytI w b q X arr bs pre) :=
  builds_stab.and ((Stab.block id (.inr rfl)).and ((Stab.block id (.inr rfl)).and (Stab.below (Nat.le_refl _) h (fun _ h => h.elim))))

end Go.Proofs.Ytflaanffjjidaaa

/- The contract of package part's Bytes. -/
namespace Go.Proofs.Ytflaanffjjidaaa
open Go.RowKit Go.Shelf
set_option linter.unusedVariables false
attribute [local go_sem] Oper.semAt_some wide_fn wide_round_fn

theorem heap_lt {w : World} {k : Nat} {o : Obj} (h : w.heap[k]? = some o) : k < w.heap.size := (Array.getElem?_eq_some_iff.1 h).1
theorem alloc_new1 (w : World) (cs : Array Value) (T : TypeId) {k : Nat} (hk : k = w.heap.size) : (w.alloc (.cells cs T)).heap[k]? = some (.cells cs T (0, 0)) := by subst hk; exact World.alloc_heap_new w _
theorem putL_ne (x : Int) (r : List Int) : putL (x :: r) ≠ [] := by
  intro h
  have h1 := congrArg List.length h
  have h2 := sevL_pos x.toNat
  simp [putL] at h1
  rw [h1.1] at h2; simp at h2
theorem fwdN_len (p : PartC) : (fwdN p).length ≤ 7 := by
  unfold fwdN
  split <;> split <;> simp
theorem putL_nil : putL [] = [] := rfl
def headN (p : PartC) (l : List EntryC) : List Int :=
  if p.k = 1 then [(p.len : Int), (l.head?.map (·.i)).getD 0] else if p.k = 2 then [p.ht, p.hv, p.hc] else if p.k = 3 ∨ p.k = 4 then [p.i, p.t] else if p.k = 6 then fwdN p else []
def bytesL (p : PartC) (l : List EntryC) : List UInt8 := putL [p.g, p.k] ++ (putL (headN p l) ++ (l.map (textOf p.k)).flatMap fun s => s.data.toList)
def PartR (p : PartC) : Prop := p.g < 9223372036854775808 ∧ p.ht < 9223372036854775808 ∧ p.hv < 9223372036854775808 ∧ p.hc < 9223372036854775808 ∧ p.i < 9223372036854775808 ∧ p.t < 9223372036854775808 ∧ p.len < 1000000

set_option maxRecDepth 100000 in
set_option maxHeartbeats 4000000 in
theorem bytes5_any (g : Int) (a : Option Addr) (len cap : Nat) (ht hv hc i t : Int) (mk hd : Bool) (l : List EntryC) (w : World) (hE : HasE w (⟨g, 5, a, len, cap, ht, hv, hc, i, t, mk, hd⟩ : PartC) l) (hwf : ∀ e ∈ l, entryR e) (hR : PartR (⟨g, 5, a, len, cap, ht, hv, hc, i, t, mk, hd⟩ : PartC))
    (hT : ((l.map (textOf 5)).flatMap fun s => s.data.toList).length ≤ 1000000) (hok : isB (⟨g, 5, a, len, cap, ht, hv, hc, i, t, mk, hd⟩ : PartC) l = true) :
    Gives Try.prog 116 #[(⟨g, 5, a, len, cap, ht, hv, hc, i, t, mk, hd⟩ : PartC).val] w (.tuple #[.string ⟨(bytesL (⟨g, 5, a, len, cap, ht, hv, hc, i, t, mk, hd⟩ : PartC) l).toArray⟩, .int .i64 0]) := by
  have GI := Lib.hid (fun W (hB : Below w.heap.size w W) => is_any (⟨g, 5, a, len, cap, ht, hv, hc, i, t, mk, hd⟩ : PartC) l W (hE.below hB))
  rw [hok] at GI
  have Rg := Lib.hid hR.1
  have Rk := Lib.hid (show (5 : Int) < 9223372036854775808 by decide)
  have HLn := Lib.hid (show (([] ++ putL [g, 5]) : List UInt8).length + 200 ≤ 140737488355328 by have := putL_len [g, 5]; simp only [List.nil_append, List.length_cons, List.length_nil] at *; omega)
  have HLc := Lib.hid (show (([] ++ putL [g, 5]) : List UInt8).length + 2000000 ≤ 140737488355328 by
    have := putL_len [g, 5]
    simp only [List.length_append, List.length_nil, List.length_cons] at *
    omega)
  have HV := Lib.hid (show bytesL (⟨g, 5, a, len, cap, ht, hv, hc, i, t, mk, hd⟩ : PartC) l = ([] ++ putL [g, 5]) ++ (l.map (textOf 5)).flatMap fun s => s.data.toList by simp [bytesL, headN, putL_nil])
  have HT := Lib.hid hT
  have hlt : ∀ k, inBlkE a len k → k < w.heap.size := fun k hk => inBlkE_lt hE.2.2 hk
  have hA0 : Below w.heap.size w (w.alloc (.cells #[.int .i64 g, .int .i64 5, .slice a len cap, .int .i64 ht, .int .i64 hv, .int .i64 hc, .int .i64 i, .int .i64 t, .bool mk, .bool hd] 70)) := bel_alloc (Below.refl _ _) _
  have hbp : (w.alloc (.cells #[.int .i64 g, .int .i64 5, .slice a len cap, .int .i64 ht, .int .i64 hv, .int .i64 hc, .int .i64 i, .int .i64 t, .bool mk, .bool hd] 70)).heap[w.heap.size]? = some (.cells #[.int .i64 g, .int .i64 5, .slice a len cap, .int .i64 ht, .int .i64 hv, .int .i64 hc, .int .i64 i, .int .i64 t, .bool mk, .bool hd] 70 (0, 0)) := World.alloc_heap_new w _
  have HR := Lib.hid hR
  have R1 := Lib.hid (show ht < 9223372036854775808 from HR.out.2.1); have R2 := Lib.hid (show hv < 9223372036854775808 from HR.out.2.2.1); have R3 := Lib.hid (show hc < 9223372036854775808 from HR.out.2.2.2.1); have R4 := Lib.hid (show i < 9223372036854775808 from HR.out.2.2.2.2.1); have R5 := Lib.hid (show t < 9223372036854775808 from HR.out.2.2.2.2.2.1); have R6 := Lib.hid (show len < 1000000 from HR.out.2.2.2.2.2.2)
  clear hT hok hR
  refine (callsIn_wide (n := 9)).1 ?_
  refine callsIn_of_wp_marks Try.func116 rfl trivial ?_ rfl
  simp only [Try.ntmps116, List.size_toArray, List.length_cons, List.length_nil, Nat.reduceAdd, Nat.reduceSub, Array.replicate_succ, Array.replicate_zero, List.push_toArray, List.append_toArray, List.nil_append, List.cons_append]
  gi_wp2_with (first
    | (gi_at_call 90; refine (callsIn_wide.2 (GI.out _ hA0)).mono ?_; rintro e w1 ⟨rfl, hB1⟩; replace hA0 := bel2 hA0 hB1; replace hbp := (hB1.block _ (by simp)).trans hbp; clear hB1; have hs1 := heap_lt hbp; have c0 : w1.cell? ⟨w.heap.size, 0, none⟩ = some (.int .i64 g) := cell_of_row _ _ 0 _ _ _ hbp; have c1 : w1.cell? ⟨w.heap.size, 1, none⟩ = some (.int .i64 5) := cell_of_row _ _ 1 _ _ _ hbp; have c2 : w1.cell? ⟨w.heap.size, 2, none⟩ = some (.slice a len cap) := cell_of_row _ _ 2 _ _ _ hbp; have c3 : w1.cell? ⟨w.heap.size, 3, none⟩ = some (.int .i64 ht) := cell_of_row _ _ 3 _ _ _ hbp; have c4 : w1.cell? ⟨w.heap.size, 4, none⟩ = some (.int .i64 hv) := cell_of_row _ _ 4 _ _ _ hbp; have c5 : w1.cell? ⟨w.heap.size, 5, none⟩ = some (.int .i64 hc) := cell_of_row _ _ 5 _ _ _ hbp; have c6 : w1.cell? ⟨w.heap.size, 6, none⟩ = some (.int .i64 i) := cell_of_row _ _ 6 _ _ _ hbp; have c7 : w1.cell? ⟨w.heap.size, 7, none⟩ = some (.int .i64 t) := cell_of_row _ _ 7 _ _ _ hbp; have c8 : w1.cell? ⟨w.heap.size, 8, none⟩ = some (.bool mk) := cell_of_row _ _ 8 _ _ _ hbp; have c9 : w1.cell? ⟨w.heap.size, 9, none⟩ = some (.bool hd) := cell_of_row _ _ 9 _ _ _ hbp)
    | (gi_at_call 128; refine (callsIn_wide.2 (puts2 w.heap.size w1.heap.size _ _ _ Rg.out Rk.out [] ((w1.alloc (.cells #[.pointer none, .slice none 0 0] 149)).alloc (.cells #[.pointer (some ⟨w1.heap.size, 0, none⟩)] 147)) (show Builds w.heap.size w1.heap.size (Lib.byteCells []) ((w1.alloc (.cells #[.pointer none, .slice none 0 0] 149)).alloc (.cells #[.pointer (some ⟨w1.heap.size, 0, none⟩)] 147)) from Builds.kept (.inl ⟨hA0.size, .slice none 0 0, World.alloc_heap_new w1 _, World.ownsRow_nil _ _ _ _, by simp [Value.ownBlock]⟩) (bel_alloc (Below.refl _ _) _)) (by decide) (Nat.le_trans hA0.size (bel_alloc (bel_alloc (Below.refl w1.heap.size w1) _) _).size) (by simp))).mono ?_; rintro e w2 ⟨rfl, h1, h2, h3⟩; have HB2 := Lib.hid h1; clear h1; have hA2 := (hA0.trans ((bel_alloc (bel_alloc (Below.refl w1.heap.size w1) (.cells #[.pointer none, .slice none 0 0] 149)) (.cells #[.pointer (some ⟨w1.heap.size, 0, none⟩)] 147)).mono hA0.size)).trans h2; have hK2 := (Keeps.below (b := w1.heap.size) (bel_alloc (bel_alloc (Below.refl w1.heap.size w1) (.cells #[.pointer none, .slice none 0 0] 149)) (.cells #[.pointer (some ⟨w1.heap.size, 0, none⟩)] 147))).trans h3; have hne := Nat.ne_of_lt (heap_lt hbp); have hbp2 := hK2.cells hbp hne (by decide); have hbq := h3.cells (alloc_new1 (w1.alloc (.cells #[.pointer none, .slice none 0 0] 149)) #[.pointer (some ⟨w1.heap.size, 0, none⟩)] 147 (k := w1.heap.size + 1) (by simp)) (Nat.succ_ne_self _) (by decide); clear h2 h3 hK2; clear c0 c1 c2 c3 c4 c5 c6 c7 c8 c9; have hbp := hbp2; have c0 : w2.cell? ⟨w.heap.size, 0, none⟩ = some (.int .i64 g) := cell_of_row _ _ 0 _ _ _ hbp; have c1 : w2.cell? ⟨w.heap.size, 1, none⟩ = some (.int .i64 5) := cell_of_row _ _ 1 _ _ _ hbp; have c2 : w2.cell? ⟨w.heap.size, 2, none⟩ = some (.slice a len cap) := cell_of_row _ _ 2 _ _ _ hbp; have c3 : w2.cell? ⟨w.heap.size, 3, none⟩ = some (.int .i64 ht) := cell_of_row _ _ 3 _ _ _ hbp; have c4 : w2.cell? ⟨w.heap.size, 4, none⟩ = some (.int .i64 hv) := cell_of_row _ _ 4 _ _ _ hbp; have c5 : w2.cell? ⟨w.heap.size, 5, none⟩ = some (.int .i64 hc) := cell_of_row _ _ 5 _ _ _ hbp; have c6 : w2.cell? ⟨w.heap.size, 6, none⟩ = some (.int .i64 i) := cell_of_row _ _ 6 _ _ _ hbp; have c7 : w2.cell? ⟨w.heap.size, 7, none⟩ = some (.int .i64 t) := cell_of_row _ _ 7 _ _ _ hbp; have c8 : w2.cell? ⟨w.heap.size, 8, none⟩ = some (.bool mk) := cell_of_row _ _ 8 _ _ _ hbp; have c9 : w2.cell? ⟨w.heap.size, 9, none⟩ = some (.bool hd) := cell_of_row _ _ 9 _ _ _ hbp; have cq : w2.cell? ⟨w1.heap.size + 1, 0, none⟩ = some (.pointer (some ⟨w1.heap.size, 0, none⟩)) := cell_of_row _ _ 0 _ _ _ hbq)
    | (gi_at_call 131; refine (callsIn_wide.2 (texts_makes (⟨g, 5, a, len, cap, ht, hv, hc, i, t, mk, hd⟩ : PartC) l w2 (hE.below hA2) hwf)).mono ?_; rintro e w9 ⟨lb, rfl, rfl, hI9⟩))
  have hW9 : Below w2.heap.size w2 (w2.alloc (.cells (⟨g, 5, a, len, cap, ht, hv, hc, i, t, mk, hd⟩ : PartC).arr 70)) := bel_alloc (Below.refl _ _) _
  have hs9 : w.heap.size ≤ (w2.alloc (.cells (⟨g, 5, a, len, cap, ht, hv, hc, i, t, mk, hd⟩ : PartC).arr 70)).heap.size := Nat.le_trans hA2.size hW9.size
  refine range_outer rfl (enters_of Try.func142 (by kernel_rfl) rfl) hI9 (fun _ => rfl) (fun k hk => hk.elim (fun h => Nat.lt_of_lt_of_le (hlt k h) hs9) (fun e => by rw [e, World.size_alloc]; exact Nat.lt_succ_self _)) (fun _ h => h.elim)
    (fun pre W => bytI w w1.heap.size (w1.heap.size + 1) w2.heap.size (⟨g, 5, a, len, cap, ht, hv, hc, i, t, mk, hd⟩ : PartC).arr ([] ++ putL [g, 5]) pre W) (fun _ _ _ => False) (fun _ => bytI_stab hs9) (fun _ _ => Stab.pure _)
    ⟨by have := HB2.out.kept hW9; simpa using this, (hW9.block _ (heap_lt hbq)).trans hbq, World.alloc_heap_new _ _, hA2.trans (hW9.mono hA2.size)⟩ ?hr ?hd (fun _ _ _ _ _ _ h => h.elim)
  case hr =>
    rintro L pre x suf W hx hl' hi1 hrec
    dsimp only
    gi_wp2
    refine rdThen_mk _ (bytI_stab hs9) hi1 (Rd.refl _ _ _) ?_
    clear hi1 hrec W
    rintro W ⟨hb, hq, hX, hBl⟩ hrec
    have cq' : W.cell? ⟨w1.heap.size + 1, 0, none⟩ = some (.pointer (some ⟨w1.heap.size, 0, none⟩)) := cell_of_row _ _ 0 _ _ _ hq
    have HLx := Lib.hid (show (Lib.byteCells (([] ++ putL [g, 5]) ++ pre.flatMap fun s => s.data.toList)).length + x.size ≤ 140737488355328 by
      have h1 := HT.out; have h2 := HLc.out
      rw [hx] at h1
      have h3 : x.size = x.data.toList.length := by rw [Array.length_toList]; rfl
      rw [byteCells_len]
      simp only [List.flatMap_append, List.flatMap_cons, List.length_append] at *
      omega)
    have HB := Lib.hid hb
    have hWs := hBl.size
    clear hx hb
    gi_wp2_with (gi_at_call 91; refine (callsIn_wide.2 (writeString_any w.heap.size w1.heap.size _ x W HB.out HLx.out hWs)).mono ?_; rintro e w7 ⟨rfl, h1, h2, h3⟩)
    have hnX : w2.heap.size ≠ w1.heap.size := by have := HB2.out.lt; omega
    refine ⟨rd_of_keeps HB.out h3 h2 (fun k hk => hk.elim (fun h => .inl (hlt k h)) (fun e => .inr ⟨by rw [e]; exact hnX, (⟨g, 5, a, len, cap, ht, hv, hc, i, t, mk, hd⟩ : PartC).arr, 70, (0, 0), by rw [e]; exact hX, by decide⟩)), .inr ?_, h3.cells hq (Nat.succ_ne_self _) (by decide), h3.cells hX hnX (by decide), hBl.trans h2⟩
    have e1 : Lib.byteCells (([] ++ putL [g, 5]) ++ (pre ++ [x]).flatMap fun s => s.data.toList) = Lib.byteCells (([] ++ putL [g, 5]) ++ pre.flatMap fun s => s.data.toList) ++ Lib.strCells x := by
      rw [List.flatMap_append, ← List.append_assoc, byteCells_app, List.flatMap_singleton]; rfl
    rw [e1]
    exact h1
  case hd =>
    rintro W ⟨hb, hq, hX, hBl⟩ hD
    have cq' : W.cell? ⟨w1.heap.size + 1, 0, none⟩ = some (.pointer (some ⟨w1.heap.size, 0, none⟩)) := cell_of_row _ _ 0 _ _ _ hq
    have HB := Lib.hid hb
    have HN := Lib.hid (show ([] ++ putL [g, 5]) ++ ((l.map (textOf 5)).flatMap fun s => s.data.toList) ≠ [] by have := putL_ne g [5]; simp [this])
    clear hb
    gi_wp2_with (gi_at_call 94; refine (callsIn_wide.2 (string_full w.heap.size w1.heap.size _ W HB.out HN.out)).mono ?_; rintro e w8 ⟨rfl, h2, h3⟩)
    have hD2 := h3.block _ _ hD (by rintro e; obtain ⟨cs, hcs⟩ := HB.out.cells; rw [e, hcs] at hD; cases hD) (by rintro cs fr ⟨⟩)
    rw [World.size_alloc] at hD2
    exact leave_one hD2 (results_tmp2 rfl _ _ _) ⟨by rw [HV.out]; rfl, below_putObj (hBl.trans h2) (Nat.le_refl _) (by rw [World.size_alloc] at hs9; exact hs9) _⟩
end Go.Proofs.Ytflaanffjjidaaa

/- The contract of package part's Bytes: other kinds. -/
namespace Go.Proofs.Ytflaanffjjidaaa
open Go.RowKit Go.Shelf
set_option linter.unusedVariables false
attribute [local go_sem] Oper.semAt_some wide_fn wide_round_fn

set_option maxRecDepth 100000 in
set_option maxHeartbeats 4000000 in
theorem bytes2_any (g : Int) (a : Option Addr) (len cap : Nat) (ht hv hc i t : Int) (mk hd : Bool) (l : List EntryC) (w : World) (hE : HasE w (⟨g, 2, a, len, cap, ht, hv, hc, i, t, mk, hd⟩ : PartC) l) (hwf : ∀ e ∈ l, entryR e) (hR : PartR (⟨g, 2, a, len, cap, ht, hv, hc, i, t, mk, hd⟩ : PartC))
    (hT : ((l.map (textOf 2)).flatMap fun s => s.data.toList).length ≤ 1000000) (hok : isB (⟨g, 2, a, len, cap, ht, hv, hc, i, t, mk, hd⟩ : PartC) l = true) :
    Gives Try.prog 116 #[(⟨g, 2, a, len, cap, ht, hv, hc, i, t, mk, hd⟩ : PartC).val] w (.tuple #[.string ⟨(bytesL (⟨g, 2, a, len, cap, ht, hv, hc, i, t, mk, hd⟩ : PartC) l).toArray⟩, .int .i64 0]) := by
  have GI := Lib.hid (fun W (hB : Below w.heap.size w W) => is_any (⟨g, 2, a, len, cap, ht, hv, hc, i, t, mk, hd⟩ : PartC) l W (hE.below hB))
  rw [hok] at GI
  have Rg := Lib.hid hR.1
  have Rk := Lib.hid (show (2 : Int) < 9223372036854775808 by decide)
  have HLn := Lib.hid (show (([] ++ putL [g, 2]) : List UInt8).length + 200 ≤ 140737488355328 by have := putL_len [g, 2]; simp only [List.nil_append, List.length_cons, List.length_nil] at *; omega)
  have HLc := Lib.hid (show ((([] ++ putL [g, 2]) ++ putL [ht, hv, hc]) : List UInt8).length + 2000000 ≤ 140737488355328 by
    have := putL_len [g, 2]; have := putL_len [ht, hv, hc]
    simp only [List.length_append, List.length_nil, List.length_cons] at *
    omega)
  have HV := Lib.hid (show bytesL (⟨g, 2, a, len, cap, ht, hv, hc, i, t, mk, hd⟩ : PartC) l = (([] ++ putL [g, 2]) ++ putL [ht, hv, hc]) ++ (l.map (textOf 2)).flatMap fun s => s.data.toList by simp [bytesL, headN])
  have HT := Lib.hid hT
  have hlt : ∀ k, inBlkE a len k → k < w.heap.size := fun k hk => inBlkE_lt hE.2.2 hk
  have hA0 : Below w.heap.size w (w.alloc (.cells #[.int .i64 g, .int .i64 2, .slice a len cap, .int .i64 ht, .int .i64 hv, .int .i64 hc, .int .i64 i, .int .i64 t, .bool mk, .bool hd] 70)) := bel_alloc (Below.refl _ _) _
  have hbp : (w.alloc (.cells #[.int .i64 g, .int .i64 2, .slice a len cap, .int .i64 ht, .int .i64 hv, .int .i64 hc, .int .i64 i, .int .i64 t, .bool mk, .bool hd] 70)).heap[w.heap.size]? = some (.cells #[.int .i64 g, .int .i64 2, .slice a len cap, .int .i64 ht, .int .i64 hv, .int .i64 hc, .int .i64 i, .int .i64 t, .bool mk, .bool hd] 70 (0, 0)) := World.alloc_heap_new w _
  have HR := Lib.hid hR
  have R1 := Lib.hid (show ht < 9223372036854775808 from HR.out.2.1); have R2 := Lib.hid (show hv < 9223372036854775808 from HR.out.2.2.1); have R3 := Lib.hid (show hc < 9223372036854775808 from HR.out.2.2.2.1); have R4 := Lib.hid (show i < 9223372036854775808 from HR.out.2.2.2.2.1); have R5 := Lib.hid (show t < 9223372036854775808 from HR.out.2.2.2.2.2.1); have R6 := Lib.hid (show len < 1000000 from HR.out.2.2.2.2.2.2)
  clear hT hok hR
  refine (callsIn_wide (n := 9)).1 ?_
  refine callsIn_of_wp_marks Try.func116 rfl trivial ?_ rfl
  simp only [Try.ntmps116, List.size_toArray, List.length_cons, List.length_nil, Nat.reduceAdd, Nat.reduceSub, Array.replicate_succ, Array.replicate_zero, List.push_toArray, List.append_toArray, List.nil_append, List.cons_append]
  gi_wp2_with (first
    | (gi_at_call 90; refine (callsIn_wide.2 (GI.out _ hA0)).mono ?_; rintro e w1 ⟨rfl, hB1⟩; replace hA0 := bel2 hA0 hB1; replace hbp := (hB1.block _ (by simp)).trans hbp; clear hB1; have hs1 := heap_lt hbp; have c0 : w1.cell? ⟨w.heap.size, 0, none⟩ = some (.int .i64 g) := cell_of_row _ _ 0 _ _ _ hbp; have c1 : w1.cell? ⟨w.heap.size, 1, none⟩ = some (.int .i64 2) := cell_of_row _ _ 1 _ _ _ hbp; have c2 : w1.cell? ⟨w.heap.size, 2, none⟩ = some (.slice a len cap) := cell_of_row _ _ 2 _ _ _ hbp; have c3 : w1.cell? ⟨w.heap.size, 3, none⟩ = some (.int .i64 ht) := cell_of_row _ _ 3 _ _ _ hbp; have c4 : w1.cell? ⟨w.heap.size, 4, none⟩ = some (.int .i64 hv) := cell_of_row _ _ 4 _ _ _ hbp; have c5 : w1.cell? ⟨w.heap.size, 5, none⟩ = some (.int .i64 hc) := cell_of_row _ _ 5 _ _ _ hbp; have c6 : w1.cell? ⟨w.heap.size, 6, none⟩ = some (.int .i64 i) := cell_of_row _ _ 6 _ _ _ hbp; have c7 : w1.cell? ⟨w.heap.size, 7, none⟩ = some (.int .i64 t) := cell_of_row _ _ 7 _ _ _ hbp; have c8 : w1.cell? ⟨w.heap.size, 8, none⟩ = some (.bool mk) := cell_of_row _ _ 8 _ _ _ hbp; have c9 : w1.cell? ⟨w.heap.size, 9, none⟩ = some (.bool hd) := cell_of_row _ _ 9 _ _ _ hbp)
    | (gi_at_call 128; refine (callsIn_wide.2 (puts2 w.heap.size w1.heap.size _ _ _ Rg.out Rk.out [] ((w1.alloc (.cells #[.pointer none, .slice none 0 0] 149)).alloc (.cells #[.pointer (some ⟨w1.heap.size, 0, none⟩)] 147)) (show Builds w.heap.size w1.heap.size (Lib.byteCells []) ((w1.alloc (.cells #[.pointer none, .slice none 0 0] 149)).alloc (.cells #[.pointer (some ⟨w1.heap.size, 0, none⟩)] 147)) from Builds.kept (.inl ⟨hA0.size, .slice none 0 0, World.alloc_heap_new w1 _, World.ownsRow_nil _ _ _ _, by simp [Value.ownBlock]⟩) (bel_alloc (Below.refl _ _) _)) (by decide) (Nat.le_trans hA0.size (bel_alloc (bel_alloc (Below.refl w1.heap.size w1) _) _).size) (by simp))).mono ?_; rintro e w2 ⟨rfl, h1, h2, h3⟩; have HB2 := Lib.hid h1; clear h1; have hA2 := (hA0.trans ((bel_alloc (bel_alloc (Below.refl w1.heap.size w1) (.cells #[.pointer none, .slice none 0 0] 149)) (.cells #[.pointer (some ⟨w1.heap.size, 0, none⟩)] 147)).mono hA0.size)).trans h2; have hK2 := (Keeps.below (b := w1.heap.size) (bel_alloc (bel_alloc (Below.refl w1.heap.size w1) (.cells #[.pointer none, .slice none 0 0] 149)) (.cells #[.pointer (some ⟨w1.heap.size, 0, none⟩)] 147))).trans h3; have hne := Nat.ne_of_lt (heap_lt hbp); have hbp2 := hK2.cells hbp hne (by decide); have hbq := h3.cells (alloc_new1 (w1.alloc (.cells #[.pointer none, .slice none 0 0] 149)) #[.pointer (some ⟨w1.heap.size, 0, none⟩)] 147 (k := w1.heap.size + 1) (by simp)) (Nat.succ_ne_self _) (by decide); clear h2 h3 hK2; clear c0 c1 c2 c3 c4 c5 c6 c7 c8 c9; have hbp := hbp2; have c0 : w2.cell? ⟨w.heap.size, 0, none⟩ = some (.int .i64 g) := cell_of_row _ _ 0 _ _ _ hbp; have c1 : w2.cell? ⟨w.heap.size, 1, none⟩ = some (.int .i64 2) := cell_of_row _ _ 1 _ _ _ hbp; have c2 : w2.cell? ⟨w.heap.size, 2, none⟩ = some (.slice a len cap) := cell_of_row _ _ 2 _ _ _ hbp; have c3 : w2.cell? ⟨w.heap.size, 3, none⟩ = some (.int .i64 ht) := cell_of_row _ _ 3 _ _ _ hbp; have c4 : w2.cell? ⟨w.heap.size, 4, none⟩ = some (.int .i64 hv) := cell_of_row _ _ 4 _ _ _ hbp; have c5 : w2.cell? ⟨w.heap.size, 5, none⟩ = some (.int .i64 hc) := cell_of_row _ _ 5 _ _ _ hbp; have c6 : w2.cell? ⟨w.heap.size, 6, none⟩ = some (.int .i64 i) := cell_of_row _ _ 6 _ _ _ hbp; have c7 : w2.cell? ⟨w.heap.size, 7, none⟩ = some (.int .i64 t) := cell_of_row _ _ 7 _ _ _ hbp; have c8 : w2.cell? ⟨w.heap.size, 8, none⟩ = some (.bool mk) := cell_of_row _ _ 8 _ _ _ hbp; have c9 : w2.cell? ⟨w.heap.size, 9, none⟩ = some (.bool hd) := cell_of_row _ _ 9 _ _ _ hbp; have cq : w2.cell? ⟨w1.heap.size + 1, 0, none⟩ = some (.pointer (some ⟨w1.heap.size, 0, none⟩)) := cell_of_row _ _ 0 _ _ _ hbq)
    | (gi_at_call 129; refine (callsIn_wide.2 (putHard_any w.heap.size w1.heap.size _ _ _ R1.out R2.out R3.out _ _ HB2.out (Nat.le_trans (Nat.add_le_add_left (by decide) _) HLn.out) (hA2.size))).mono ?_; rintro e w3 ⟨rfl, h1, h2, h3⟩; have HB3 := Lib.hid h1; clear h1; have hA3 := hA2.trans h2; replace hbp := h3.cells hbp hne (by decide); replace hbq := h3.cells hbq (Nat.succ_ne_self _) (by decide); clear h2 h3; clear c0 c1 c2 c3 c4 c5 c6 c7 c8 c9 cq; have c0 : w3.cell? ⟨w.heap.size, 0, none⟩ = some (.int .i64 g) := cell_of_row _ _ 0 _ _ _ hbp; have c1 : w3.cell? ⟨w.heap.size, 1, none⟩ = some (.int .i64 2) := cell_of_row _ _ 1 _ _ _ hbp; have c2 : w3.cell? ⟨w.heap.size, 2, none⟩ = some (.slice a len cap) := cell_of_row _ _ 2 _ _ _ hbp; have c3 : w3.cell? ⟨w.heap.size, 3, none⟩ = some (.int .i64 ht) := cell_of_row _ _ 3 _ _ _ hbp; have c4 : w3.cell? ⟨w.heap.size, 4, none⟩ = some (.int .i64 hv) := cell_of_row _ _ 4 _ _ _ hbp; have c5 : w3.cell? ⟨w.heap.size, 5, none⟩ = some (.int .i64 hc) := cell_of_row _ _ 5 _ _ _ hbp; have c6 : w3.cell? ⟨w.heap.size, 6, none⟩ = some (.int .i64 i) := cell_of_row _ _ 6 _ _ _ hbp; have c7 : w3.cell? ⟨w.heap.size, 7, none⟩ = some (.int .i64 t) := cell_of_row _ _ 7 _ _ _ hbp; have c8 : w3.cell? ⟨w.heap.size, 8, none⟩ = some (.bool mk) := cell_of_row _ _ 8 _ _ _ hbp; have c9 : w3.cell? ⟨w.heap.size, 9, none⟩ = some (.bool hd) := cell_of_row _ _ 9 _ _ _ hbp; have cq : w3.cell? ⟨w1.heap.size + 1, 0, none⟩ = some (.pointer (some ⟨w1.heap.size, 0, none⟩)) := cell_of_row _ _ 0 _ _ _ hbq)
    | (gi_at_call 131; refine (callsIn_wide.2 (texts_makes (⟨g, 2, a, len, cap, ht, hv, hc, i, t, mk, hd⟩ : PartC) l w3 (hE.below hA3) hwf)).mono ?_; rintro e w9 ⟨lb, rfl, rfl, hI9⟩))
  have hW9 : Below w3.heap.size w3 (w3.alloc (.cells (⟨g, 2, a, len, cap, ht, hv, hc, i, t, mk, hd⟩ : PartC).arr 70)) := bel_alloc (Below.refl _ _) _
  have hs9 : w.heap.size ≤ (w3.alloc (.cells (⟨g, 2, a, len, cap, ht, hv, hc, i, t, mk, hd⟩ : PartC).arr 70)).heap.size := Nat.le_trans hA3.size hW9.size
  refine range_outer rfl (enters_of Try.func142 (by kernel_rfl) rfl) hI9 (fun _ => rfl) (fun k hk => hk.elim (fun h => Nat.lt_of_lt_of_le (hlt k h) hs9) (fun e => by rw [e, World.size_alloc]; exact Nat.lt_succ_self _)) (fun _ h => h.elim)
    (fun pre W => bytI w w1.heap.size (w1.heap.size + 1) w3.heap.size (⟨g, 2, a, len, cap, ht, hv, hc, i, t, mk, hd⟩ : PartC).arr (([] ++ putL [g, 2]) ++ putL [ht, hv, hc]) pre W) (fun _ _ _ => False) (fun _ => bytI_stab hs9) (fun _ _ => Stab.pure _)
    ⟨by have := HB3.out.kept hW9; simpa using this, (hW9.block _ (heap_lt hbq)).trans hbq, World.alloc_heap_new _ _, hA3.trans (hW9.mono hA3.size)⟩ ?hr ?hd (fun _ _ _ _ _ _ h => h.elim)
  case hr =>
    rintro L pre x suf W hx hl' hi1 hrec
    dsimp only
    gi_wp2
    refine rdThen_mk _ (bytI_stab hs9) hi1 (Rd.refl _ _ _) ?_
    clear hi1 hrec W
    rintro W ⟨hb, hq, hX, hBl⟩ hrec
    have cq' : W.cell? ⟨w1.heap.size + 1, 0, none⟩ = some (.pointer (some ⟨w1.heap.size, 0, none⟩)) := cell_of_row _ _ 0 _ _ _ hq
    have HLx := Lib.hid (show (Lib.byteCells ((([] ++ putL [g, 2]) ++ putL [ht, hv, hc]) ++ pre.flatMap fun s => s.data.toList)).length + x.size ≤ 140737488355328 by
      have h1 := HT.out; have h2 := HLc.out
      rw [hx] at h1
      have h3 : x.size = x.data.toList.length := by rw [Array.length_toList]; rfl
      rw [byteCells_len]
      simp only [List.flatMap_append, List.flatMap_cons, List.length_append] at *
      omega)
    have HB := Lib.hid hb
    have hWs := hBl.size
    clear hx hb
    gi_wp2_with (gi_at_call 91; refine (callsIn_wide.2 (writeString_any w.heap.size w1.heap.size _ x W HB.out HLx.out hWs)).mono ?_; rintro e w7 ⟨rfl, h1, h2, h3⟩)
    have hnX : w3.heap.size ≠ w1.heap.size := by have := HB3.out.lt; omega
    refine ⟨rd_of_keeps HB.out h3 h2 (fun k hk => hk.elim (fun h => .inl (hlt k h)) (fun e => .inr ⟨by rw [e]; exact hnX, (⟨g, 2, a, len, cap, ht, hv, hc, i, t, mk, hd⟩ : PartC).arr, 70, (0, 0), by rw [e]; exact hX, by decide⟩)), .inr ?_, h3.cells hq (Nat.succ_ne_self _) (by decide), h3.cells hX hnX (by decide), hBl.trans h2⟩
    have e1 : Lib.byteCells ((([] ++ putL [g, 2]) ++ putL [ht, hv, hc]) ++ (pre ++ [x]).flatMap fun s => s.data.toList) = Lib.byteCells ((([] ++ putL [g, 2]) ++ putL [ht, hv, hc]) ++ pre.flatMap fun s => s.data.toList) ++ Lib.strCells x := by
      rw [List.flatMap_append, ← List.append_assoc, byteCells_app, List.flatMap_singleton]; rfl
    rw [e1]
    exact h1
  case hd =>
    rintro W ⟨hb, hq, hX, hBl⟩ hD
    have cq' : W.cell? ⟨w1.heap.size + 1, 0, none⟩ = some (.pointer (some ⟨w1.heap.size, 0, none⟩)) := cell_of_row _ _ 0 _ _ _ hq
    have HB := Lib.hid hb
    have HN := Lib.hid (show (([] ++ putL [g, 2]) ++ putL [ht, hv, hc]) ++ ((l.map (textOf 2)).flatMap fun s => s.data.toList) ≠ [] by have := putL_ne g [2]; simp [this])
    clear hb
    gi_wp2_with (gi_at_call 94; refine (callsIn_wide.2 (string_full w.heap.size w1.heap.size _ W HB.out HN.out)).mono ?_; rintro e w8 ⟨rfl, h2, h3⟩)
    have hD2 := h3.block _ _ hD (by rintro e; obtain ⟨cs, hcs⟩ := HB.out.cells; rw [e, hcs] at hD; cases hD) (by rintro cs fr ⟨⟩)
    rw [World.size_alloc] at hD2
    exact leave_one hD2 (results_tmp2 rfl _ _ _) ⟨by have e := HV.out; simp only [List.append_assoc, List.nil_append] at e; rw [e]; rfl, below_putObj (hBl.trans h2) (Nat.le_refl _) (by rw [World.size_alloc] at hs9; exact hs9) _⟩
set_option maxRecDepth 100000 in
set_option maxHeartbeats 4000000 in
theorem bytes3_any (g : Int) (a : Option Addr) (len cap : Nat) (ht hv hc i t : Int) (mk hd : Bool) (l : List EntryC) (w : World) (hE : HasE w (⟨g, 3, a, len, cap, ht, hv, hc, i, t, mk, hd⟩ : PartC) l) (hwf : ∀ e ∈ l, entryR e) (hR : PartR (⟨g, 3, a, len, cap, ht, hv, hc, i, t, mk, hd⟩ : PartC))
    (hT : ((l.map (textOf 3)).flatMap fun s => s.data.toList).length ≤ 1000000) (hok : isB (⟨g, 3, a, len, cap, ht, hv, hc, i, t, mk, hd⟩ : PartC) l = true) :
    Gives Try.prog 116 #[(⟨g, 3, a, len, cap, ht, hv, hc, i, t, mk, hd⟩ : PartC).val] w (.tuple #[.string ⟨(bytesL (⟨g, 3, a, len, cap, ht, hv, hc, i, t, mk, hd⟩ : PartC) l).toArray⟩, .int .i64 0]) := by
  have GI := Lib.hid (fun W (hB : Below w.heap.size w W) => is_any (⟨g, 3, a, len, cap, ht, hv, hc, i, t, mk, hd⟩ : PartC) l W (hE.below hB))
  rw [hok] at GI
  have Rg := Lib.hid hR.1
  have Rk := Lib.hid (show (3 : Int) < 9223372036854775808 by decide)
  have HLn := Lib.hid (show (([] ++ putL [g, 3]) : List UInt8).length + 200 ≤ 140737488355328 by have := putL_len [g, 3]; simp only [List.nil_append, List.length_cons, List.length_nil] at *; omega)
  have HLc := Lib.hid (show ((([] ++ putL [g, 3]) ++ putL [i, t]) : List UInt8).length + 2000000 ≤ 140737488355328 by
    have := putL_len [g, 3]; have := putL_len [i, t]
    simp only [List.length_append, List.length_nil, List.length_cons] at *
    omega)
  have HV := Lib.hid (show bytesL (⟨g, 3, a, len, cap, ht, hv, hc, i, t, mk, hd⟩ : PartC) l = (([] ++ putL [g, 3]) ++ putL [i, t]) ++ (l.map (textOf 3)).flatMap fun s => s.data.toList by simp [bytesL, headN])
  have HT := Lib.hid hT
  have hlt : ∀ k, inBlkE a len k → k < w.heap.size := fun k hk => inBlkE_lt hE.2.2 hk
  have hA0 : Below w.heap.size w (w.alloc (.cells #[.int .i64 g, .int .i64 3, .slice a len cap, .int .i64 ht, .int .i64 hv, .int .i64 hc, .int .i64 i, .int .i64 t, .bool mk, .bool hd] 70)) := bel_alloc (Below.refl _ _) _
  have hbp : (w.alloc (.cells #[.int .i64 g, .int .i64 3, .slice a len cap, .int .i64 ht, .int .i64 hv, .int .i64 hc, .int .i64 i, .int .i64 t, .bool mk, .bool hd] 70)).heap[w.heap.size]? = some (.cells #[.int .i64 g, .int .i64 3, .slice a len cap, .int .i64 ht, .int .i64 hv, .int .i64 hc, .int .i64 i, .int .i64 t, .bool mk, .bool hd] 70 (0, 0)) := World.alloc_heap_new w _
  have HR := Lib.hid hR
  have R1 := Lib.hid (show ht < 9223372036854775808 from HR.out.2.1); have R2 := Lib.hid (show hv < 9223372036854775808 from HR.out.2.2.1); have R3 := Lib.hid (show hc < 9223372036854775808 from HR.out.2.2.2.1); have R4 := Lib.hid (show i < 9223372036854775808 from HR.out.2.2.2.2.1); have R5 := Lib.hid (show t < 9223372036854775808 from HR.out.2.2.2.2.2.1); have R6 := Lib.hid (show len < 1000000 from HR.out.2.2.2.2.2.2)
  clear hT hok hR
  refine (callsIn_wide (n := 9)).1 ?_
  refine callsIn_of_wp_marks Try.func116 rfl trivial ?_ rfl
  simp only [Try.ntmps116, List.size_toArray, List.length_cons, List.length_nil, Nat.reduceAdd, Nat.reduceSub, Array.replicate_succ, Array.replicate_zero, List.push_toArray, List.append_toArray, List.nil_append, List.cons_append]
  gi_wp2_with (first
    | (gi_at_call 90; refine (callsIn_wide.2 (GI.out _ hA0)).mono ?_; rintro e w1 ⟨rfl, hB1⟩; replace hA0 := bel2 hA0 hB1; replace hbp := (hB1.block _ (by simp)).trans hbp; clear hB1; have hs1 := heap_lt hbp; have c0 : w1.cell? ⟨w.heap.size, 0, none⟩ = some (.int .i64 g) := cell_of_row _ _ 0 _ _ _ hbp; have c1 : w1.cell? ⟨w.heap.size, 1, none⟩ = some (.int .i64 3) := cell_of_row _ _ 1 _ _ _ hbp; have c2 : w1.cell? ⟨w.heap.size, 2, none⟩ = some (.slice a len cap) := cell_of_row _ _ 2 _ _ _ hbp; have c3 : w1.cell? ⟨w.heap.size, 3, none⟩ = some (.int .i64 ht) := cell_of_row _ _ 3 _ _ _ hbp; have c4 : w1.cell? ⟨w.heap.size, 4, none⟩ = some (.int .i64 hv) := cell_of_row _ _ 4 _ _ _ hbp; have c5 : w1.cell? ⟨w.heap.size, 5, none⟩ = some (.int .i64 hc) := cell_of_row _ _ 5 _ _ _ hbp; have c6 : w1.cell? ⟨w.heap.size, 6, none⟩ = some (.int .i64 i) := cell_of_row _ _ 6 _ _ _ hbp; have c7 : w1.cell? ⟨w.heap.size, 7, none⟩ = some (.int .i64 t) := cell_of_row _ _ 7 _ _ _ hbp; have c8 : w1.cell? ⟨w.heap.size, 8, none⟩ = some (.bool mk) := cell_of_row _ _ 8 _ _ _ hbp; have c9 : w1.cell? ⟨w.heap.size, 9, none⟩ = some (.bool hd) := cell_of_row _ _ 9 _ _ _ hbp)
    | (gi_at_call 128; refine (callsIn_wide.2 (puts2 w.heap.size w1.heap.size _ _ _ Rg.out Rk.out [] ((w1.alloc (.cells #[.pointer none, .slice none 0 0] 149)).alloc (.cells #[.pointer (some ⟨w1.heap.size, 0, none⟩)] 147)) (show Builds w.heap.size w1.heap.size (Lib.byteCells []) ((w1.alloc (.cells #[.pointer none, .slice none 0 0] 149)).alloc (.cells #[.pointer (some ⟨w1.heap.size, 0, none⟩)] 147)) from Builds.kept (.inl ⟨hA0.size, .slice none 0 0, World.alloc_heap_new w1 _, World.ownsRow_nil _ _ _ _, by simp [Value.ownBlock]⟩) (bel_alloc (Below.refl _ _) _)) (by decide) (Nat.le_trans hA0.size (bel_alloc (bel_alloc (Below.refl w1.heap.size w1) _) _).size) (by simp))).mono ?_; rintro e w2 ⟨rfl, h1, h2, h3⟩; have HB2 := Lib.hid h1; clear h1; have hA2 := (hA0.trans ((bel_alloc (bel_alloc (Below.refl w1.heap.size w1) (.cells #[.pointer none, .slice none 0 0] 149)) (.cells #[.pointer (some ⟨w1.heap.size, 0, none⟩)] 147)).mono hA0.size)).trans h2; have hK2 := (Keeps.below (b := w1.heap.size) (bel_alloc (bel_alloc (Below.refl w1.heap.size w1) (.cells #[.pointer none, .slice none 0 0] 149)) (.cells #[.pointer (some ⟨w1.heap.size, 0, none⟩)] 147))).trans h3; have hne := Nat.ne_of_lt (heap_lt hbp); have hbp2 := hK2.cells hbp hne (by decide); have hbq := h3.cells (alloc_new1 (w1.alloc (.cells #[.pointer none, .slice none 0 0] 149)) #[.pointer (some ⟨w1.heap.size, 0, none⟩)] 147 (k := w1.heap.size + 1) (by simp)) (Nat.succ_ne_self _) (by decide); clear h2 h3 hK2; clear c0 c1 c2 c3 c4 c5 c6 c7 c8 c9; have hbp := hbp2; have c0 : w2.cell? ⟨w.heap.size, 0, none⟩ = some (.int .i64 g) := cell_of_row _ _ 0 _ _ _ hbp; have c1 : w2.cell? ⟨w.heap.size, 1, none⟩ = some (.int .i64 3) := cell_of_row _ _ 1 _ _ _ hbp; have c2 : w2.cell? ⟨w.heap.size, 2, none⟩ = some (.slice a len cap) := cell_of_row _ _ 2 _ _ _ hbp; have c3 : w2.cell? ⟨w.heap.size, 3, none⟩ = some (.int .i64 ht) := cell_of_row _ _ 3 _ _ _ hbp; have c4 : w2.cell? ⟨w.heap.size, 4, none⟩ = some (.int .i64 hv) := cell_of_row _ _ 4 _ _ _ hbp; have c5 : w2.cell? ⟨w.heap.size, 5, none⟩ = some (.int .i64 hc) := cell_of_row _ _ 5 _ _ _ hbp; have c6 : w2.cell? ⟨w.heap.size, 6, none⟩ = some (.int .i64 i) := cell_of_row _ _ 6 _ _ _ hbp; have c7 : w2.cell? ⟨w.heap.size, 7, none⟩ = some (.int .i64 t) := cell_of_row _ _ 7 _ _ _ hbp; have c8 : w2.cell? ⟨w.heap.size, 8, none⟩ = some (.bool mk) := cell_of_row _ _ 8 _ _ _ hbp; have c9 : w2.cell? ⟨w.heap.size, 9, none⟩ = some (.bool hd) := cell_of_row _ _ 9 _ _ _ hbp; have cq : w2.cell? ⟨w1.heap.size + 1, 0, none⟩ = some (.pointer (some ⟨w1.heap.size, 0, none⟩)) := cell_of_row _ _ 0 _ _ _ hbq)
    | (gi_at_call 128; refine (callsIn_wide.2 (puts2 w.heap.size w1.heap.size _ _ _ R4.out R5.out _ _ HB2.out (Nat.le_trans (Nat.add_le_add_left (by decide) _) HLn.out) (hA2.size) rfl)).mono ?_; rintro e w3 ⟨rfl, h1, h2, h3⟩; have HB3 := Lib.hid h1; clear h1; have hA3 := hA2.trans h2; replace hbp := h3.cells hbp hne (by decide); replace hbq := h3.cells hbq (Nat.succ_ne_self _) (by decide); clear h2 h3; clear c0 c1 c2 c3 c4 c5 c6 c7 c8 c9 cq; have c0 : w3.cell? ⟨w.heap.size, 0, none⟩ = some (.int .i64 g) := cell_of_row _ _ 0 _ _ _ hbp; have c1 : w3.cell? ⟨w.heap.size, 1, none⟩ = some (.int .i64 3) := cell_of_row _ _ 1 _ _ _ hbp; have c2 : w3.cell? ⟨w.heap.size, 2, none⟩ = some (.slice a len cap) := cell_of_row _ _ 2 _ _ _ hbp; have c3 : w3.cell? ⟨w.heap.size, 3, none⟩ = some (.int .i64 ht) := cell_of_row _ _ 3 _ _ _ hbp; have c4 : w3.cell? ⟨w.heap.size, 4, none⟩ = some (.int .i64 hv) := cell_of_row _ _ 4 _ _ _ hbp; have c5 : w3.cell? ⟨w.heap.size, 5, none⟩ = some (.int .i64 hc) := cell_of_row _ _ 5 _ _ _ hbp; have c6 : w3.cell? ⟨w.heap.size, 6, none⟩ = some (.int .i64 i) := cell_of_row _ _ 6 _ _ _ hbp; have c7 : w3.cell? ⟨w.heap.size, 7, none⟩ = some (.int .i64 t) := cell_of_row _ _ 7 _ _ _ hbp; have c8 : w3.cell? ⟨w.heap.size, 8, none⟩ = some (.bool mk) := cell_of_row _ _ 8 _ _ _ hbp; have c9 : w3.cell? ⟨w.heap.size, 9, none⟩ = some (.bool hd) := cell_of_row _ _ 9 _ _ _ hbp; have cq : w3.cell? ⟨w1.heap.size + 1, 0, none⟩ = some (.pointer (some ⟨w1.heap.size, 0, none⟩)) := cell_of_row _ _ 0 _ _ _ hbq)
    | (gi_at_call 131; refine (callsIn_wide.2 (texts_makes (⟨g, 3, a, len, cap, ht, hv, hc, i, t, mk, hd⟩ : PartC) l w3 (hE.below hA3) hwf)).mono ?_; rintro e w9 ⟨lb, rfl, rfl, hI9⟩))
  have hW9 : Below w3.heap.size w3 (w3.alloc (.cells (⟨g, 3, a, len, cap, ht, hv, hc, i, t, mk, hd⟩ : PartC).arr 70)) := bel_alloc (Below.refl _ _) _
  have hs9 : w.heap.size ≤ (w3.alloc (.cells (⟨g, 3, a, len, cap, ht, hv, hc, i, t, mk, hd⟩ : PartC).arr 70)).heap.size := Nat.le_trans hA3.size hW9.size
  refine range_outer rfl (enters_of Try.func142 (by kernel_rfl) rfl) hI9 (fun _ => rfl) (fun k hk => hk.elim (fun h => Nat.lt_of_lt_of_le (hlt k h) hs9) (fun e => by rw [e, World.size_alloc]; exact Nat.lt_succ_self _)) (fun _ h => h.elim)
    (fun pre W => bytI w w1.heap.size (w1.heap.size + 1) w3.heap.size (⟨g, 3, a, len, cap, ht, hv, hc, i, t, mk, hd⟩ : PartC).arr (([] ++ putL [g, 3]) ++ putL [i, t]) pre W) (fun _ _ _ => False) (fun _ => bytI_stab hs9) (fun _ _ => Stab.pure _)
    ⟨by have := HB3.out.kept hW9; simpa using this, (hW9.block _ (heap_lt hbq)).trans hbq, World.alloc_heap_new _ _, hA3.trans (hW9.mono hA3.size)⟩ ?hr ?hd (fun _ _ _ _ _ _ h => h.elim)
  case hr =>
    rintro L pre x suf W hx hl' hi1 hrec
    dsimp only
    gi_wp2
    refine rdThen_mk _ (bytI_stab hs9) hi1 (Rd.refl _ _ _) ?_
    clear hi1 hrec W
    rintro W ⟨hb, hq, hX, hBl⟩ hrec
    have cq' : W.cell? ⟨w1.heap.size + 1, 0, none⟩ = some (.pointer (some ⟨w1.heap.size, 0, none⟩)) := cell_of_row _ _ 0 _ _ _ hq
    have HLx := Lib.hid (show (Lib.byteCells ((([] ++ putL [g, 3]) ++ putL [i, t]) ++ pre.flatMap fun s => s.data.toList)).length + x.size ≤ 140737488355328 by
      have h1 := HT.out; have h2 := HLc.out
      rw [hx] at h1
      have h3 : x.size = x.data.toList.length := by rw [Array.length_toList]; rfl
      rw [byteCells_len]
      simp only [List.flatMap_append, List.flatMap_cons, List.length_append] at *
      omega)
    have HB := Lib.hid hb
    have hWs := hBl.size
    clear hx hb
    gi_wp2_with (gi_at_call 91; refine (callsIn_wide.2 (writeString_any w.heap.size w1.heap.size _ x W HB.out HLx.out hWs)).mono ?_; rintro e w7 ⟨rfl, h1, h2, h3⟩)
    have hnX : w3.heap.size ≠ w1.heap.size := by have := HB3.out.lt; omega
    refine ⟨rd_of_keeps HB.out h3 h2 (fun k hk => hk.elim (fun h => .inl (hlt k h)) (fun e => .inr ⟨by rw [e]; exact hnX, (⟨g, 3, a, len, cap, ht, hv, hc, i, t, mk, hd⟩ : PartC).arr, 70, (0, 0), by rw [e]; exact hX, by decide⟩)), .inr ?_, h3.cells hq (Nat.succ_ne_self _) (by decide), h3.cells hX hnX (by decide), hBl.trans h2⟩
    have e1 : Lib.byteCells ((([] ++ putL [g, 3]) ++ putL [i, t]) ++ (pre ++ [x]).flatMap fun s => s.data.toList) = Lib.byteCells ((([] ++ putL [g, 3]) ++ putL [i, t]) ++ pre.flatMap fun s => s.data.toList) ++ Lib.strCells x := by
      rw [List.flatMap_append, ← List.append_assoc, byteCells_app, List.flatMap_singleton]; rfl
    rw [e1]
    exact h1
  case hd =>
    rintro W ⟨hb, hq, hX, hBl⟩ hD
    have cq' : W.cell? ⟨w1.heap.size + 1, 0, none⟩ = some (.pointer (some ⟨w1.heap.size, 0, none⟩)) := cell_of_row _ _ 0 _ _ _ hq
    have HB := Lib.hid hb
    have HN := Lib.hid (show (([] ++ putL [g, 3]) ++ putL [i, t]) ++ ((l.map (textOf 3)).flatMap fun s => s.data.toList) ≠ [] by have := putL_ne g [3]; simp [this])
    clear hb
    gi_wp2_with (gi_at_call 94; refine (callsIn_wide.2 (string_full w.heap.size w1.heap.size _ W HB.out HN.out)).mono ?_; rintro e w8 ⟨rfl, h2, h3⟩)
    have hD2 := h3.block _ _ hD (by rintro e; obtain ⟨cs, hcs⟩ := HB.out.cells; rw [e, hcs] at hD; cases hD) (by rintro cs fr ⟨⟩)
    rw [World.size_alloc] at hD2
    exact leave_one hD2 (results_tmp2 rfl _ _ _) ⟨by have e := HV.out; simp only [List.append_assoc, List.nil_append] at e; rw [e]; rfl, below_putObj (hBl.trans h2) (Nat.le_refl _) (by rw [World.size_alloc] at hs9; exact hs9) _⟩
set_option maxRecDepth 100000 in
set_option maxHeartbeats 4000000 in
theorem bytes4_any (g : Int) (a : Option Addr) (len cap : Nat) (ht hv hc i t : Int) (mk hd : Bool) (l : List EntryC) (w : World) (hE : HasE w (⟨g, 4, a, len, cap, ht, hv, hc, i, t, mk, hd⟩ : PartC) l) (hwf : ∀ e ∈ l, entryR e) (hR : PartR (⟨g, 4, a, len, cap, ht, hv, hc, i, t, mk, hd⟩ : PartC))
    (hT : ((l.map (textOf 4)).flatMap fun s => s.data.toList).length ≤ 1000000) (hok : isB (⟨g, 4, a, len, cap, ht, hv, hc, i, t, mk, hd⟩ : PartC) l = true) :
    Gives Try.prog 116 #[(⟨g, 4, a, len, cap, ht, hv, hc, i, t, mk, hd⟩ : PartC).val] w (.tuple #[.string ⟨(bytesL (⟨g, 4, a, len, cap, ht, hv, hc, i, t, mk, hd⟩ : PartC) l).toArray⟩, .int .i64 0]) := by
  have GI := Lib.hid (fun W (hB : Below w.heap.size w W) => is_any (⟨g, 4, a, len, cap, ht, hv, hc, i, t, mk, hd⟩ : PartC) l W (hE.below hB))
  rw [hok] at GI
  have Rg := Lib.hid hR.1
  have Rk := Lib.hid (show (4 : Int) < 9223372036854775808 by decide)
  have HLn := Lib.hid (show (([] ++ putL [g, 4]) : List UInt8).length + 200 ≤ 140737488355328 by have := putL_len [g, 4]; simp only [List.nil_append, List.length_cons, List.length_nil] at *; omega)
  have HLc := Lib.hid (show ((([] ++ putL [g, 4]) ++ putL [i, t]) : List UInt8).length + 2000000 ≤ 140737488355328 by
    have := putL_len [g, 4]; have := putL_len [i, t]
    simp only [List.length_append, List.length_nil, List.length_cons] at *
    omega)
  have HV := Lib.hid (show bytesL (⟨g, 4, a, len, cap, ht, hv, hc, i, t, mk, hd⟩ : PartC) l = (([] ++ putL [g, 4]) ++ putL [i, t]) ++ (l.map (textOf 4)).flatMap fun s => s.data.toList by simp [bytesL, headN])
  have HT := Lib.hid hT
  have hlt : ∀ k, inBlkE a len k → k < w.heap.size := fun k hk => inBlkE_lt hE.2.2 hk
  have hA0 : Below w.heap.size w (w.alloc (.cells #[.int .i64 g, .int .i64 4, .slice a len cap, .int .i64 ht, .int .i64 hv, .int .i64 hc, .int .i64 i, .int .i64 t, .bool mk, .bool hd] 70)) := bel_alloc (Below.refl _ _) _
  have hbp : (w.alloc (.cells #[.int .i64 g, .int .i64 4, .slice a len cap, .int .i64 ht, .int .i64 hv, .int .i64 hc, .int .i64 i, .int .i64 t, .bool mk, .bool hd] 70)).heap[w.heap.size]? = some (.cells #[.int .i64 g, .int .i64 4, .slice a len cap, .int .i64 ht, .int .i64 hv, .int .i64 hc, .int .i64 i, .int .i64 t, .bool mk, .bool hd] 70 (0, 0)) := World.alloc_heap_new w _
  have HR := Lib.hid hR
  have R1 := Lib.hid (show ht < 9223372036854775808 from HR.out.2.1); have R2 := Lib.hid (show hv < 9223372036854775808 from HR.out.2.2.1); have R3 := Lib.hid (show hc < 9223372036854775808 from HR.out.2.2.2.1); have R4 := Lib.hid (show i < 9223372036854775808 from HR.out.2.2.2.2.1); have R5 := Lib.hid (show t < 9223372036854775808 from HR.out.2.2.2.2.2.1); have R6 := Lib.hid (show len < 1000000 from HR.out.2.2.2.2.2.2)
  clear hT hok hR
  refine (callsIn_wide (n := 9)).1 ?_
  refine callsIn_of_wp_marks Try.func116 rfl trivial ?_ rfl
  simp only [Try.ntmps116, List.size_toArray, List.length_cons, List.length_nil, Nat.reduceAdd, Nat.reduceSub, Array.replicate_succ, Array.replicate_zero, List.push_toArray, List.append_toArray, List.nil_append, List.cons_append]
  gi_wp2_with (first
    | (gi_at_call 90; refine (callsIn_wide.2 (GI.out _ hA0)).mono ?_; rintro e w1 ⟨rfl, hB1⟩; replace hA0 := bel2 hA0 hB1; replace hbp := (hB1.block _ (by simp)).trans hbp; clear hB1; have hs1 := heap_lt hbp; have c0 : w1.cell? ⟨w.heap.size, 0, none⟩ = some (.int .i64 g) := cell_of_row _ _ 0 _ _ _ hbp; have c1 : w1.cell? ⟨w.heap.size, 1, none⟩ = some (.int .i64 4) := cell_of_row _ _ 1 _ _ _ hbp; have c2 : w1.cell? ⟨w.heap.size, 2, none⟩ = some (.slice a len cap) := cell_of_row _ _ 2 _ _ _ hbp; have c3 : w1.cell? ⟨w.heap.size, 3, none⟩ = some (.int .i64 ht) := cell_of_row _ _ 3 _ _ _ hbp; have c4 : w1.cell? ⟨w.heap.size, 4, none⟩ = some (.int .i64 hv) := cell_of_row _ _ 4 _ _ _ hbp; have c5 : w1.cell? ⟨w.heap.size, 5, none⟩ = some (.int .i64 hc) := cell_of_row _ _ 5 _ _ _ hbp; have c6 : w1.cell? ⟨w.heap.size, 6, none⟩ = some (.int .i64 i) := cell_of_row _ _ 6 _ _ _ hbp; have c7 : w1.cell? ⟨w.heap.size, 7, none⟩ = some (.int .i64 t) := cell_of_row _ _ 7 _ _ _ hbp; have c8 : w1.cell? ⟨w.heap.size, 8, none⟩ = some (.bool mk) := cell_of_row _ _ 8 _ _ _ hbp; have c9 : w1.cell? ⟨w.heap.size, 9, none⟩ = some (.bool hd) := cell_of_row _ _ 9 _ _ _ hbp)
    | (gi_at_call 128; refine (callsIn_wide.2 (puts2 w.heap.size w1.heap.size _ _ _ Rg.out Rk.out [] ((w1.alloc (.cells #[.pointer none, .slice none 0 0] 149)).alloc (.cells #[.pointer (some ⟨w1.heap.size, 0, none⟩)] 147)) (show Builds w.heap.size w1.heap.size (Lib.byteCells []) ((w1.alloc (.cells #[.pointer none, .slice none 0 0] 149)).alloc (.cells #[.pointer (some ⟨w1.heap.size, 0, none⟩)] 147)) from Builds.kept (.inl ⟨hA0.size, .slice none 0 0, World.alloc_heap_new w1 _, World.ownsRow_nil _ _ _ _, by simp [Value.ownBlock]⟩) (bel_alloc (Below.refl _ _) _)) (by decide) (Nat.le_trans hA0.size (bel_alloc (bel_alloc (Below.refl w1.heap.size w1) _) _).size) (by simp))).mono ?_; rintro e w2 ⟨rfl, h1, h2, h3⟩; have HB2 := Lib.hid h1; clear h1; have hA2 := (hA0.trans ((bel_alloc (bel_alloc (Below.refl w1.heap.size w1) (.cells #[.pointer none, .slice none 0 0] 149)) (.cells #[.pointer (some ⟨w1.heap.size, 0, none⟩)] 147)).mono hA0.size)).trans h2; have hK2 := (Keeps.below (b := w1.heap.size) (bel_alloc (bel_alloc (Below.refl w1.heap.size w1) (.cells #[.pointer none, .slice none 0 0] 149)) (.cells #[.pointer (some ⟨w1.heap.size, 0, none⟩)] 147))).trans h3; have hne := Nat.ne_of_lt (heap_lt hbp); have hbp2 := hK2.cells hbp hne (by decide); have hbq := h3.cells (alloc_new1 (w1.alloc (.cells #[.pointer none, .slice none 0 0] 149)) #[.pointer (some ⟨w1.heap.size, 0, none⟩)] 147 (k := w1.heap.size + 1) (by simp)) (Nat.succ_ne_self _) (by decide); clear h2 h3 hK2; clear c0 c1 c2 c3 c4 c5 c6 c7 c8 c9; have hbp := hbp2; have c0 : w2.cell? ⟨w.heap.size, 0, none⟩ = some (.int .i64 g) := cell_of_row _ _ 0 _ _ _ hbp; have c1 : w2.cell? ⟨w.heap.size, 1, none⟩ = some (.int .i64 4) := cell_of_row _ _ 1 _ _ _ hbp; have c2 : w2.cell? ⟨w.heap.size, 2, none⟩ = some (.slice a len cap) := cell_of_row _ _ 2 _ _ _ hbp; have c3 : w2.cell? ⟨w.heap.size, 3, none⟩ = some (.int .i64 ht) := cell_of_row _ _ 3 _ _ _ hbp; have c4 : w2.cell? ⟨w.heap.size, 4, none⟩ = some (.int .i64 hv) := cell_of_row _ _ 4 _ _ _ hbp; have c5 : w2.cell? ⟨w.heap.size, 5, none⟩ = some (.int .i64 hc) := cell_of_row _ _ 5 _ _ _ hbp; have c6 : w2.cell? ⟨w.heap.size, 6, none⟩ = some (.int .i64 i) := cell_of_row _ _ 6 _ _ _ hbp; have c7 : w2.cell? ⟨w.heap.size, 7, none⟩ = some (.int .i64 t) := cell_of_row _ _ 7 _ _ _ hbp; have c8 : w2.cell? ⟨w.heap.size, 8, none⟩ = some (.bool mk) := cell_of_row _ _ 8 _ _ _ hbp; have c9 : w2.cell? ⟨w.heap.size, 9, none⟩ = some (.bool hd) := cell_of_row _ _ 9 _ _ _ hbp; have cq : w2.cell? ⟨w1.heap.size + 1, 0, none⟩ = some (.pointer (some ⟨w1.heap.size, 0, none⟩)) := cell_of_row _ _ 0 _ _ _ hbq)
    | (gi_at_call 128; refine (callsIn_wide.2 (puts2 w.heap.size w1.heap.size _ _ _ R4.out R5.out _ _ HB2.out (Nat.le_trans (Nat.add_le_add_left (by decide) _) HLn.out) (hA2.size) rfl)).mono ?_; rintro e w3 ⟨rfl, h1, h2, h3⟩; have HB3 := Lib.hid h1; clear h1; have hA3 := hA2.trans h2; replace hbp := h3.cells hbp hne (by decide); replace hbq := h3.cells hbq (Nat.succ_ne_self _) (by decide); clear h2 h3; clear c0 c1 c2 c3 c4 c5 c6 c7 c8 c9 cq; have c0 : w3.cell? ⟨w.heap.size, 0, none⟩ = some (.int .i64 g) := cell_of_row _ _ 0 _ _ _ hbp; have c1 : w3.cell? ⟨w.heap.size, 1, none⟩ = some (.int .i64 4) := cell_of_row _ _ 1 _ _ _ hbp; have c2 : w3.cell? ⟨w.heap.size, 2, none⟩ = some (.slice a len cap) := cell_of_row _ _ 2 _ _ _ hbp; have c3 : w3.cell? ⟨w.heap.size, 3, none⟩ = some (.int .i64 ht) := cell_of_row _ _ 3 _ _ _ hbp; have c4 : w3.cell? ⟨w.heap.size, 4, none⟩ = some (.int .i64 hv) := cell_of_row _ _ 4 _ _ _ hbp; have c5 : w3.cell? ⟨w.heap.size, 5, none⟩ = some (.int .i64 hc) := cell_of_row _ _ 5 _ _ _ hbp; have c6 : w3.cell? ⟨w.heap.size, 6, none⟩ = some (.int .i64 i) := cell_of_row _ _ 6 _ _ _ hbp; have c7 : w3.cell? ⟨w.heap.size, 7, none⟩ = some (.int .i64 t) := cell_of_row _ _ 7 _ _ _ hbp; have c8 : w3.cell? ⟨w.heap.size, 8, none⟩ = some (.bool mk) := cell_of_row _ _ 8 _ _ _ hbp; have c9 : w3.cell? ⟨w.heap.size, 9, none⟩ = some (.bool hd) := cell_of_row _ _ 9 _ _ _ hbp; have cq : w3.cell? ⟨w1.heap.size + 1, 0, none⟩ = some (.pointer (some ⟨w1.heap.size, 0, none⟩)) := cell_of_row _ _ 0 _ _ _ hbq)
    | (gi_at_call 131; refine (callsIn_wide.2 (texts_makes (⟨g, 4, a, len, cap, ht, hv, hc, i, t, mk, hd⟩ : PartC) l w3 (hE.below hA3) hwf)).mono ?_; rintro e w9 ⟨lb, rfl, rfl, hI9⟩))
  have hW9 : Below w3.heap.size w3 (w3.alloc (.cells (⟨g, 4, a, len, cap, ht, hv, hc, i, t, mk, hd⟩ : PartC).arr 70)) := bel_alloc (Below.refl _ _) _
  have hs9 : w.heap.size ≤ (w3.alloc (.cells (⟨g, 4, a, len, cap, ht, hv, hc, i, t, mk, hd⟩ : PartC).arr 70)).heap.size := Nat.le_trans hA3.size hW9.size
  refine range_outer rfl (enters_of Try.func142 (by kernel_rfl) rfl) hI9 (fun _ => rfl) (fun k hk => hk.elim (fun h => Nat.lt_of_lt_of_le (hlt k h) hs9) (fun e => by rw [e, World.size_alloc]; exact Nat.lt_succ_self _)) (fun _ h => h.elim)
    (fun pre W => bytI w w1.heap.size (w1.heap.size + 1) w3.heap.size (⟨g, 4, a, len, cap, ht, hv, hc, i, t, mk, hd⟩ : PartC).arr (([] ++ putL [g, 4]) ++ putL [i, t]) pre W) (fun _ _ _ => False) (fun _ => bytI_stab hs9) (fun _ _ => Stab.pure _)
    ⟨by have := HB3.out.kept hW9; simpa using this, (hW9.block _ (heap_lt hbq)).trans hbq, World.alloc_heap_new _ _, hA3.trans (hW9.mono hA3.size)⟩ ?hr ?hd (fun _ _ _ _ _ _ h => h.elim)
  case hr =>
    rintro L pre x suf W hx hl' hi1 hrec
    dsimp only
    gi_wp2
    refine rdThen_mk _ (bytI_stab hs9) hi1 (Rd.refl _ _ _) ?_
    clear hi1 hrec W
    rintro W ⟨hb, hq, hX, hBl⟩ hrec
    have cq' : W.cell? ⟨w1.heap.size + 1, 0, none⟩ = some (.pointer (some ⟨w1.heap.size, 0, none⟩)) := cell_of_row _ _ 0 _ _ _ hq
    have HLx := Lib.hid (show (Lib.byteCells ((([] ++ putL [g, 4]) ++ putL [i, t]) ++ pre.flatMap fun s => s.data.toList)).length + x.size ≤ 140737488355328 by
      have h1 := HT.out; have h2 := HLc.out
      rw [hx] at h1
      have h3 : x.size = x.data.toList.length := by rw [Array.length_toList]; rfl
      rw [byteCells_len]
      simp only [List.flatMap_append, List.flatMap_cons, List.length_append] at *
      omega)
    have HB := Lib.hid hb
    have hWs := hBl.size
    clear hx hb
    gi_wp2_with (gi_at_call 91; refine (callsIn_wide.2 (writeString_any w.heap.size w1.heap.size _ x W HB.out HLx.out hWs)).mono ?_; rintro e w7 ⟨rfl, h1, h2, h3⟩)
    have hnX : w3.heap.size ≠ w1.heap.size := by have := HB3.out.lt; omega
    refine ⟨rd_of_keeps HB.out h3 h2 (fun k hk => hk.elim (fun h => .inl (hlt k h)) (fun e => .inr ⟨by rw [e]; exact hnX, (⟨g, 4, a, len, cap, ht, hv, hc, i, t, mk, hd⟩ : PartC).arr, 70, (0, 0), by rw [e]; exact hX, by decide⟩)), .inr ?_, h3.cells hq (Nat.succ_ne_self _) (by decide), h3.cells hX hnX (by decide), hBl.trans h2⟩
    have e1 : Lib.byteCells ((([] ++ putL [g, 4]) ++ putL [i, t]) ++ (pre ++ [x]).flatMap fun s => s.data.toList) = Lib.byteCells ((([] ++ putL [g, 4]) ++ putL [i, t]) ++ pre.flatMap fun s => s.data.toList) ++ Lib.strCells x := by
      rw [List.flatMap_append, ← List.append_assoc, byteCells_app, List.flatMap_singleton]; rfl
    rw [e1]
    exact h1
  case hd =>
    rintro W ⟨hb, hq, hX, hBl⟩ hD
    have cq' : W.cell? ⟨w1.heap.size + 1, 0, none⟩ = some (.pointer (some ⟨w1.heap.size, 0, none⟩)) := cell_of_row _ _ 0 _ _ _ hq
    have HB := Lib.hid hb
    have HN := Lib.hid (show (([] ++ putL [g, 4]) ++ putL [i, t]) ++ ((l.map (textOf 4)).flatMap fun s => s.data.toList) ≠ [] by have := putL_ne g [4]; simp [this])
    clear hb
    gi_wp2_with (gi_at_call 94; refine (callsIn_wide.2 (string_full w.heap.size w1.heap.size _ W HB.out HN.out)).mono ?_; rintro e w8 ⟨rfl, h2, h3⟩)
    have hD2 := h3.block _ _ hD (by rintro e; obtain ⟨cs, hcs⟩ := HB.out.cells; rw [e, hcs] at hD; cases hD) (by rintro cs fr ⟨⟩)
    rw [World.size_alloc] at hD2
    exact leave_one hD2 (results_tmp2 rfl _ _ _) ⟨by have e := HV.out; simp only [List.append_assoc, List.nil_append] at e; rw [e]; rfl, below_putObj (hBl.trans h2) (Nat.le_refl _) (by rw [World.size_alloc] at hs9; exact hs9) _⟩
end Go.Proofs.Ytflaanffjjidaaa

/- The contract of package part's Bytes: other kinds. -/
namespace Go.Proofs.Ytflaanffjjidaaa
open Go.RowKit Go.Shelf
set_option linter.unusedVariables false
attribute [local go_sem] Oper.semAt_some wide_fn wide_round_fn

set_option maxRecDepth 100000 in
set_option maxHeartbeats 4000000 in
theorem bytes6_any (g : Int) (a : Option Addr) (len cap : Nat) (ht hv hc i t : Int) (mk hd : Bool) (l : List EntryC) (w : World) (hE : HasE w (⟨g, 6, a, len, cap, ht, hv, hc, i, t, mk, hd⟩ : PartC) l) (hwf : ∀ e ∈ l, entryR e) (hR : PartR (⟨g, 6, a, len, cap, ht, hv, hc, i, t, mk, hd⟩ : PartC))
    (hT : ((l.map (textOf 6)).flatMap fun s => s.data.toList).length ≤ 1000000) (hok : isB (⟨g, 6, a, len, cap, ht, hv, hc, i, t, mk, hd⟩ : PartC) l = true) :
    Gives Try.prog 116 #[(⟨g, 6, a, len, cap, ht, hv, hc, i, t, mk, hd⟩ : PartC).val] w (.tuple #[.string ⟨(bytesL (⟨g, 6, a, len, cap, ht, hv, hc, i, t, mk, hd⟩ : PartC) l).toArray⟩, .int .i64 0]) := by
  have GI := Lib.hid (fun W (hB : Below w.heap.size w W) => is_any (⟨g, 6, a, len, cap, ht, hv, hc, i, t, mk, hd⟩ : PartC) l W (hE.below hB))
  rw [hok] at GI
  have Rg := Lib.hid hR.1
  have Rk := Lib.hid (show (6 : Int) < 9223372036854775808 by decide)
  have HLn := Lib.hid (show (([] ++ putL [g, 6]) : List UInt8).length + 200 ≤ 140737488355328 by have := putL_len [g, 6]; simp only [List.nil_append, List.length_cons, List.length_nil] at *; omega)
  have HLc := Lib.hid (show ((([] ++ putL [g, 6]) ++ putL (fwdN (⟨g, 6, a, len, cap, ht, hv, hc, i, t, mk, hd⟩ : PartC))) : List UInt8).length + 2000000 ≤ 140737488355328 by
    have := putL_len [g, 6]; have := putL_len (fwdN (⟨g, 6, a, len, cap, ht, hv, hc, i, t, mk, hd⟩ : PartC)); have := fwdN_len (⟨g, 6, a, len, cap, ht, hv, hc, i, t, mk, hd⟩ : PartC)
    simp only [List.length_append, List.length_nil, List.length_cons] at *
    omega)
  have HV := Lib.hid (show bytesL (⟨g, 6, a, len, cap, ht, hv, hc, i, t, mk, hd⟩ : PartC) l = (([] ++ putL [g, 6]) ++ putL (fwdN (⟨g, 6, a, len, cap, ht, hv, hc, i, t, mk, hd⟩ : PartC))) ++ (l.map (textOf 6)).flatMap fun s => s.data.toList by simp [bytesL, headN])
  have HT := Lib.hid hT
  have hlt : ∀ k, inBlkE a len k → k < w.heap.size := fun k hk => inBlkE_lt hE.2.2 hk
  have hA0 : Below w.heap.size w (w.alloc (.cells #[.int .i64 g, .int .i64 6, .slice a len cap, .int .i64 ht, .int .i64 hv, .int .i64 hc, .int .i64 i, .int .i64 t, .bool mk, .bool hd] 70)) := bel_alloc (Below.refl _ _) _
  have hbp : (w.alloc (.cells #[.int .i64 g, .int .i64 6, .slice a len cap, .int .i64 ht, .int .i64 hv, .int .i64 hc, .int .i64 i, .int .i64 t, .bool mk, .bool hd] 70)).heap[w.heap.size]? = some (.cells #[.int .i64 g, .int .i64 6, .slice a len cap, .int .i64 ht, .int .i64 hv, .int .i64 hc, .int .i64 i, .int .i64 t, .bool mk, .bool hd] 70 (0, 0)) := World.alloc_heap_new w _
  have HR := Lib.hid hR
  have R1 := Lib.hid (show ht < 9223372036854775808 from HR.out.2.1); have R2 := Lib.hid (show hv < 9223372036854775808 from HR.out.2.2.1); have R3 := Lib.hid (show hc < 9223372036854775808 from HR.out.2.2.2.1); have R4 := Lib.hid (show i < 9223372036854775808 from HR.out.2.2.2.2.1); have R5 := Lib.hid (show t < 9223372036854775808 from HR.out.2.2.2.2.2.1); have R6 := Lib.hid (show len < 1000000 from HR.out.2.2.2.2.2.2)
  clear hT hok hR
  refine (callsIn_wide (n := 9)).1 ?_
  refine callsIn_of_wp_marks Try.func116 rfl trivial ?_ rfl
  simp only [Try.ntmps116, List.size_toArray, List.length_cons, List.length_nil, Nat.reduceAdd, Nat.reduceSub, Array.replicate_succ, Array.replicate_zero, List.push_toArray, List.append_toArray, List.nil_append, List.cons_append]
  gi_wp2_with (first
    | (gi_at_call 90; refine (callsIn_wide.2 (GI.out _ hA0)).mono ?_; rintro e w1 ⟨rfl, hB1⟩; replace hA0 := bel2 hA0 hB1; replace hbp := (hB1.block _ (by simp)).trans hbp; clear hB1; have hs1 := heap_lt hbp; have c0 : w1.cell? ⟨w.heap.size, 0, none⟩ = some (.int .i64 g) := cell_of_row _ _ 0 _ _ _ hbp; have c1 : w1.cell? ⟨w.heap.size, 1, none⟩ = some (.int .i64 6) := cell_of_row _ _ 1 _ _ _ hbp; have c2 : w1.cell? ⟨w.heap.size, 2, none⟩ = some (.slice a len cap) := cell_of_row _ _ 2 _ _ _ hbp; have c3 : w1.cell? ⟨w.heap.size, 3, none⟩ = some (.int .i64 ht) := cell_of_row _ _ 3 _ _ _ hbp; have c4 : w1.cell? ⟨w.heap.size, 4, none⟩ = some (.int .i64 hv) := cell_of_row _ _ 4 _ _ _ hbp; have c5 : w1.cell? ⟨w.heap.size, 5, none⟩ = some (.int .i64 hc) := cell_of_row _ _ 5 _ _ _ hbp; have c6 : w1.cell? ⟨w.heap.size, 6, none⟩ = some (.int .i64 i) := cell_of_row _ _ 6 _ _ _ hbp; have c7 : w1.cell? ⟨w.heap.size, 7, none⟩ = some (.int .i64 t) := cell_of_row _ _ 7 _ _ _ hbp; have c8 : w1.cell? ⟨w.heap.size, 8, none⟩ = some (.bool mk) := cell_of_row _ _ 8 _ _ _ hbp; have c9 : w1.cell? ⟨w.heap.size, 9, none⟩ = some (.bool hd) := cell_of_row _ _ 9 _ _ _ hbp)
    | (gi_at_call 128; refine (callsIn_wide.2 (puts2 w.heap.size w1.heap.size _ _ _ Rg.out Rk.out [] ((w1.alloc (.cells #[.pointer none, .slice none 0 0] 149)).alloc (.cells #[.pointer (some ⟨w1.heap.size, 0, none⟩)] 147)) (show Builds w.heap.size w1.heap.size (Lib.byteCells []) ((w1.alloc (.cells #[.pointer none, .slice none 0 0] 149)).alloc (.cells #[.pointer (some ⟨w1.heap.size, 0, none⟩)] 147)) from Builds.kept (.inl ⟨hA0.size, .slice none 0 0, World.alloc_heap_new w1 _, World.ownsRow_nil _ _ _ _, by simp [Value.ownBlock]⟩) (bel_alloc (Below.refl _ _) _)) (by decide) (Nat.le_trans hA0.size (bel_alloc (bel_alloc (Below.refl w1.heap.size w1) _) _).size) (by simp))).mono ?_; rintro e w2 ⟨rfl, h1, h2, h3⟩; have HB2 := Lib.hid h1; clear h1; have hA2 := (hA0.trans ((bel_alloc (bel_alloc (Below.refl w1.heap.size w1) (.cells #[.pointer none, .slice none 0 0] 149)) (.cells #[.pointer (some ⟨w1.heap.size, 0, none⟩)] 147)).mono hA0.size)).trans h2; have hK2 := (Keeps.below (b := w1.heap.size) (bel_alloc (bel_alloc (Below.refl w1.heap.size w1) (.cells #[.pointer none, .slice none 0 0] 149)) (.cells #[.pointer (some ⟨w1.heap.size, 0, none⟩)] 147))).trans h3; have hne := Nat.ne_of_lt (heap_lt hbp); have hbp2 := hK2.cells hbp hne (by decide); have hbq := h3.cells (alloc_new1 (w1.alloc (.cells #[.pointer none, .slice none 0 0] 149)) #[.pointer (some ⟨w1.heap.size, 0, none⟩)] 147 (k := w1.heap.size + 1) (by simp)) (Nat.succ_ne_self _) (by decide); clear h2 h3 hK2; clear c0 c1 c2 c3 c4 c5 c6 c7 c8 c9; have hbp := hbp2; have c0 : w2.cell? ⟨w.heap.size, 0, none⟩ = some (.int .i64 g) := cell_of_row _ _ 0 _ _ _ hbp; have c1 : w2.cell? ⟨w.heap.size, 1, none⟩ = some (.int .i64 6) := cell_of_row _ _ 1 _ _ _ hbp; have c2 : w2.cell? ⟨w.heap.size, 2, none⟩ = some (.slice a len cap) := cell_of_row _ _ 2 _ _ _ hbp; have c3 : w2.cell? ⟨w.heap.size, 3, none⟩ = some (.int .i64 ht) := cell_of_row _ _ 3 _ _ _ hbp; have c4 : w2.cell? ⟨w.heap.size, 4, none⟩ = some (.int .i64 hv) := cell_of_row _ _ 4 _ _ _ hbp; have c5 : w2.cell? ⟨w.heap.size, 5, none⟩ = some (.int .i64 hc) := cell_of_row _ _ 5 _ _ _ hbp; have c6 : w2.cell? ⟨w.heap.size, 6, none⟩ = some (.int .i64 i) := cell_of_row _ _ 6 _ _ _ hbp; have c7 : w2.cell? ⟨w.heap.size, 7, none⟩ = some (.int .i64 t) := cell_of_row _ _ 7 _ _ _ hbp; have c8 : w2.cell? ⟨w.heap.size, 8, none⟩ = some (.bool mk) := cell_of_row _ _ 8 _ _ _ hbp; have c9 : w2.cell? ⟨w.heap.size, 9, none⟩ = some (.bool hd) := cell_of_row _ _ 9 _ _ _ hbp; have cq : w2.cell? ⟨w1.heap.size + 1, 0, none⟩ = some (.pointer (some ⟨w1.heap.size, 0, none⟩)) := cell_of_row _ _ 0 _ _ _ hbq)
    | (gi_at_call 130; refine (callsIn_wide.2 (putForward_any w.heap.size w1.heap.size (⟨g, 6, a, len, cap, ht, hv, hc, i, t, mk, hd⟩ : PartC)  R1.out R2.out R3.out R4.out R5.out R6.out _ _ HB2.out HLn.out (hA2.size))).mono ?_; rintro e w3 ⟨rfl, h1, h2, h3⟩; have HB3 := Lib.hid h1; clear h1; have hA3 := hA2.trans h2; replace hbp := h3.cells hbp hne (by decide); replace hbq := h3.cells hbq (Nat.succ_ne_self _) (by decide); clear h2 h3; clear c0 c1 c2 c3 c4 c5 c6 c7 c8 c9 cq; have c0 : w3.cell? ⟨w.heap.size, 0, none⟩ = some (.int .i64 g) := cell_of_row _ _ 0 _ _ _ hbp; have c1 : w3.cell? ⟨w.heap.size, 1, none⟩ = some (.int .i64 6) := cell_of_row _ _ 1 _ _ _ hbp; have c2 : w3.cell? ⟨w.heap.size, 2, none⟩ = some (.slice a len cap) := cell_of_row _ _ 2 _ _ _ hbp; have c3 : w3.cell? ⟨w.heap.size, 3, none⟩ = some (.int .i64 ht) := cell_of_row _ _ 3 _ _ _ hbp; have c4 : w3.cell? ⟨w.heap.size, 4, none⟩ = some (.int .i64 hv) := cell_of_row _ _ 4 _ _ _ hbp; have c5 : w3.cell? ⟨w.heap.size, 5, none⟩ = some (.int .i64 hc) := cell_of_row _ _ 5 _ _ _ hbp; have c6 : w3.cell? ⟨w.heap.size, 6, none⟩ = some (.int .i64 i) := cell_of_row _ _ 6 _ _ _ hbp; have c7 : w3.cell? ⟨w.heap.size, 7, none⟩ = some (.int .i64 t) := cell_of_row _ _ 7 _ _ _ hbp; have c8 : w3.cell? ⟨w.heap.size, 8, none⟩ = some (.bool mk) := cell_of_row _ _ 8 _ _ _ hbp; have c9 : w3.cell? ⟨w.heap.size, 9, none⟩ = some (.bool hd) := cell_of_row _ _ 9 _ _ _ hbp; have cq : w3.cell? ⟨w1.heap.size + 1, 0, none⟩ = some (.pointer (some ⟨w1.heap.size, 0, none⟩)) := cell_of_row _ _ 0 _ _ _ hbq)
    | (gi_at_call 131; refine (callsIn_wide.2 (texts_makes (⟨g, 6, a, len, cap, ht, hv, hc, i, t, mk, hd⟩ : PartC) l w3 (hE.below hA3) hwf)).mono ?_; rintro e w9 ⟨lb, rfl, rfl, hI9⟩))
  have hW9 : Below w3.heap.size w3 (w3.alloc (.cells (⟨g, 6, a, len, cap, ht, hv, hc, i, t, mk, hd⟩ : PartC).arr 70)) := bel_alloc (Below.refl _ _) _
  have hs9 : w.heap.size ≤ (w3.alloc (.cells (⟨g, 6, a, len, cap, ht, hv, hc, i, t, mk, hd⟩ : PartC).arr 70)).heap.size := Nat.le_trans hA3.size hW9.size
  refine range_outer rfl (enters_of Try.func142 (by kernel_rfl) rfl) hI9 (fun _ => rfl) (fun k hk => hk.elim (fun h => Nat.lt_of_lt_of_le (hlt k h) hs9) (fun e => by rw [e, World.size_alloc]; exact Nat.lt_succ_self _)) (fun _ h => h.elim)
    (fun pre W => bytI w w1.heap.size (w1.heap.size + 1) w3.heap.size (⟨g, 6, a, len, cap, ht, hv, hc, i, t, mk, hd⟩ : PartC).arr (([] ++ putL [g, 6]) ++ putL (fwdN (⟨g, 6, a, len, cap, ht, hv, hc, i, t, mk, hd⟩ : PartC))) pre W) (fun _ _ _ => False) (fun _ => bytI_stab hs9) (fun _ _ => Stab.pure _)
    ⟨by have := HB3.out.kept hW9; simpa using this, (hW9.block _ (heap_lt hbq)).trans hbq, World.alloc_heap_new _ _, hA3.trans (hW9.mono hA3.size)⟩ ?hr ?hd (fun _ _ _ _ _ _ h => h.elim)
  case hr =>
    rintro L pre x suf W hx hl' hi1 hrec
    dsimp only
    gi_wp2
    refine rdThen_mk _ (bytI_stab hs9) hi1 (Rd.refl _ _ _) ?_
    clear hi1 hrec W
    rintro W ⟨hb, hq, hX, hBl⟩ hrec
    have cq' : W.cell? ⟨w1.heap.size + 1, 0, none⟩ = some (.pointer (some ⟨w1.heap.size, 0, none⟩)) := cell_of_row _ _ 0 _ _ _ hq
    have HLx := Lib.hid (show (Lib.byteCells ((([] ++ putL [g, 6]) ++ putL (fwdN (⟨g, 6, a, len, cap, ht, hv, hc, i, t, mk, hd⟩ : PartC))) ++ pre.flatMap fun s => s.data.toList)).length + x.size ≤ 140737488355328 by
      have h1 := HT.out; have h2 := HLc.out
      rw [hx] at h1
      have h3 : x.size = x.data.toList.length := by rw [Array.length_toList]; rfl
      rw [byteCells_len]
      simp only [List.flatMap_append, List.flatMap_cons, List.length_append] at *
      omega)
    have HB := Lib.hid hb
    have hWs := hBl.size
    clear hx hb
    gi_wp2_with (gi_at_call 91; refine (callsIn_wide.2 (writeString_any w.heap.size w1.heap.size _ x W HB.out HLx.out hWs)).mono ?_; rintro e w7 ⟨rfl, h1, h2, h3⟩)
    have hnX : w3.heap.size ≠ w1.heap.size := by have := HB3.out.lt; omega
    refine ⟨rd_of_keeps HB.out h3 h2 (fun k hk => hk.elim (fun h => .inl (hlt k h)) (fun e => .inr ⟨by rw [e]; exact hnX, (⟨g, 6, a, len, cap, ht, hv, hc, i, t, mk, hd⟩ : PartC).arr, 70, (0, 0), by rw [e]; exact hX, by decide⟩)), .inr ?_, h3.cells hq (Nat.succ_ne_self _) (by decide), h3.cells hX hnX (by decide), hBl.trans h2⟩
    have e1 : Lib.byteCells ((([] ++ putL [g, 6]) ++ putL (fwdN (⟨g, 6, a, len, cap, ht, hv, hc, i, t, mk, hd⟩ : PartC))) ++ (pre ++ [x]).flatMap fun s => s.data.toList) = Lib.byteCells ((([] ++ putL [g, 6]) ++ putL (fwdN (⟨g, 6, a, len, cap, ht, hv, hc, i, t, mk, hd⟩ : PartC))) ++ pre.flatMap fun s => s.data.toList) ++ Lib.strCells x := by
      rw [List.flatMap_append, ← List.append_assoc, byteCells_app, List.flatMap_singleton]; rfl
    rw [e1]
    exact h1
  case hd =>
    rintro W ⟨hb, hq, hX, hBl⟩ hD
    have cq' : W.cell? ⟨w1.heap.size + 1, 0, none⟩ = some (.pointer (some ⟨w1.heap.size, 0, none⟩)) := cell_of_row _ _ 0 _ _ _ hq
    have HB := Lib.hid hb
    have HN := Lib.hid (show (([] ++ putL [g, 6]) ++ putL (fwdN (⟨g, 6, a, len, cap, ht, hv, hc, i, t, mk, hd⟩ : PartC))) ++ ((l.map (textOf 6)).flatMap fun s => s.data.toList) ≠ [] by have := putL_ne g [6]; simp [this])
    clear hb
    gi_wp2_with (gi_at_call 94; refine (callsIn_wide.2 (string_full w.heap.size w1.heap.size _ W HB.out HN.out)).mono ?_; rintro e w8 ⟨rfl, h2, h3⟩)
    have hD2 := h3.block _ _ hD (by rintro e; obtain ⟨cs, hcs⟩ := HB.out.cells; rw [e, hcs] at hD; cases hD) (by rintro cs fr ⟨⟩)
    rw [World.size_alloc] at hD2
    exact leave_one hD2 (results_tmp2 rfl _ _ _) ⟨by have e := HV.out; simp only [List.append_assoc, List.nil_append] at e; rw [e]; rfl, below_putObj (hBl.trans h2) (Nat.le_refl _) (by rw [World.size_alloc] at hs9; exact hs9) _⟩
end Go.Proofs.Ytflaanffjjidaaa

/- The contract of package part's Bytes: other kinds. -/
namespace Go.Proofs.Ytflaanffjjidaaa
open Go.RowKit Go.Shelf
set_option linter.unusedVariables false
attribute [local go_sem] Oper.semAt_some wide_fn wide_round_fn

set_option maxRecDepth 100000 in
set_option maxHeartbeats 4000000 in
theorem bytes1_aux (g : Int) (b0 off0 : Nat) (len cap : Nat) (ht hv hc i t : Int) (mk hd : Bool) (e0 : EntryC) (r0 : List EntryC) (w : World) (hE : HasE w (⟨g, 1, some ⟨b0, off0, none⟩, len, cap, ht, hv, hc, i, t, mk, hd⟩ : PartC) (e0 :: r0)) (hwf : ∀ e ∈ (e0 :: r0), entryR e) (hR : PartR (⟨g, 1, some ⟨b0, off0, none⟩, len, cap, ht, hv, hc, i, t, mk, hd⟩ : PartC))
    (hT : (((e0 :: r0).map (textOf 1)).flatMap fun s => s.data.toList).length ≤ 1000000) (hok : isB (⟨g, 1, some ⟨b0, off0, none⟩, len, cap, ht, hv, hc, i, t, mk, hd⟩ : PartC) (e0 :: r0) = true) :
    Gives Try.prog 116 #[(⟨g, 1, some ⟨b0, off0, none⟩, len, cap, ht, hv, hc, i, t, mk, hd⟩ : PartC).val] w (.tuple #[.string ⟨(bytesL (⟨g, 1, some ⟨b0, off0, none⟩, len, cap, ht, hv, hc, i, t, mk, hd⟩ : PartC) (e0 :: r0)).toArray⟩, .int .i64 0]) := by
  have GI := Lib.hid (fun W (hB : Below w.heap.size w W) => is_any (⟨g, 1, some ⟨b0, off0, none⟩, len, cap, ht, hv, hc, i, t, mk, hd⟩ : PartC) (e0 :: r0) W (hE.below hB))
  rw [hok] at GI
  have hl0 : len ≠ 0 := by rintro rfl; have := hE.1; simp at this
  obtain ⟨b1, off1, hab, hb0, hcE⟩ := hE.2.2.2.2 (Nat.pos_of_ne_zero hl0)
  cases hab
  have hce : w.cell? ⟨b0, off0, none⟩ = some (.int .i64 e0.i) := RowV.at_ (len := len) (sz := 3) (j := 0) hcE rfl
  have Rl := Lib.hid (show (len : Int) < 9223372036854775808 by have := hR.2.2.2.2.2.2; dsimp only at this; omega)
  have Re := Lib.hid (hwf e0 List.mem_cons_self).1
  have Rg := Lib.hid hR.1
  have Rk := Lib.hid (show (1 : Int) < 9223372036854775808 by decide)
  have HLn := Lib.hid (show (([] ++ putL [g, 1]) : List UInt8).length + 200 ≤ 140737488355328 by have := putL_len [g, 1]; simp only [List.nil_append, List.length_cons, List.length_nil] at *; omega)
  have HLc := Lib.hid (show ((([] ++ putL [g, 1]) ++ putL [(len : Int), e0.i]) : List UInt8).length + 2000000 ≤ 140737488355328 by
    have := putL_len [g, 1]; have := putL_len [(len : Int), e0.i]
    simp only [List.length_append, List.length_nil, List.length_cons] at *
    omega)
  have HV := Lib.hid (show bytesL (⟨g, 1, some ⟨b0, off0, none⟩, len, cap, ht, hv, hc, i, t, mk, hd⟩ : PartC) (e0 :: r0) = (([] ++ putL [g, 1]) ++ putL [(len : Int), e0.i]) ++ ((e0 :: r0).map (textOf 1)).flatMap fun s => s.data.toList by simp [bytesL, headN])
  have HT := Lib.hid hT
  have hlt : ∀ k, inBlkE (some ⟨b0, off0, none⟩) len k → k < w.heap.size := fun k hk => inBlkE_lt hE.2.2 hk
  have hA0 : Below w.heap.size w (w.alloc (.cells #[.int .i64 g, .int .i64 1, .slice (some ⟨b0, off0, none⟩) len cap, .int .i64 ht, .int .i64 hv, .int .i64 hc, .int .i64 i, .int .i64 t, .bool mk, .bool hd] 70)) := bel_alloc (Below.refl _ _) _
  have hbp : (w.alloc (.cells #[.int .i64 g, .int .i64 1, .slice (some ⟨b0, off0, none⟩) len cap, .int .i64 ht, .int .i64 hv, .int .i64 hc, .int .i64 i, .int .i64 t, .bool mk, .bool hd] 70)).heap[w.heap.size]? = some (.cells #[.int .i64 g, .int .i64 1, .slice (some ⟨b0, off0, none⟩) len cap, .int .i64 ht, .int .i64 hv, .int .i64 hc, .int .i64 i, .int .i64 t, .bool mk, .bool hd] 70 (0, 0)) := World.alloc_heap_new w _
  have HR := Lib.hid hR
  have R1 := Lib.hid (show ht < 9223372036854775808 from HR.out.2.1); have R2 := Lib.hid (show hv < 9223372036854775808 from HR.out.2.2.1); have R3 := Lib.hid (show hc < 9223372036854775808 from HR.out.2.2.2.1); have R4 := Lib.hid (show i < 9223372036854775808 from HR.out.2.2.2.2.1); have R5 := Lib.hid (show t < 9223372036854775808 from HR.out.2.2.2.2.2.1); have R6 := Lib.hid (show len < 1000000 from HR.out.2.2.2.2.2.2)
  clear hT hok hR
  refine (callsIn_wide (n := 9)).1 ?_
  refine callsIn_of_wp_marks Try.func116 rfl trivial ?_ rfl
  simp only [Try.ntmps116, List.size_toArray, List.length_cons, List.length_nil, Nat.reduceAdd, Nat.reduceSub, Array.replicate_succ, Array.replicate_zero, List.push_toArray, List.append_toArray, List.nil_append, List.cons_append]
  gi_wp2_with (first
    | (gi_at_call 90; refine (callsIn_wide.2 (GI.out _ hA0)).mono ?_; rintro e w1 ⟨rfl, hB1⟩; replace hA0 := bel2 hA0 hB1; replace hbp := (hB1.block _ (by simp)).trans hbp; clear hB1; have hs1 := heap_lt hbp; have c0 : w1.cell? ⟨w.heap.size, 0, none⟩ = some (.int .i64 g) := cell_of_row _ _ 0 _ _ _ hbp; have c1 : w1.cell? ⟨w.heap.size, 1, none⟩ = some (.int .i64 1) := cell_of_row _ _ 1 _ _ _ hbp; have c2 : w1.cell? ⟨w.heap.size, 2, none⟩ = some (.slice (some ⟨b0, off0, none⟩) len cap) := cell_of_row _ _ 2 _ _ _ hbp; have c3 : w1.cell? ⟨w.heap.size, 3, none⟩ = some (.int .i64 ht) := cell_of_row _ _ 3 _ _ _ hbp; have c4 : w1.cell? ⟨w.heap.size, 4, none⟩ = some (.int .i64 hv) := cell_of_row _ _ 4 _ _ _ hbp; have c5 : w1.cell? ⟨w.heap.size, 5, none⟩ = some (.int .i64 hc) := cell_of_row _ _ 5 _ _ _ hbp; have c6 : w1.cell? ⟨w.heap.size, 6, none⟩ = some (.int .i64 i) := cell_of_row _ _ 6 _ _ _ hbp; have c7 : w1.cell? ⟨w.heap.size, 7, none⟩ = some (.int .i64 t) := cell_of_row _ _ 7 _ _ _ hbp; have c8 : w1.cell? ⟨w.heap.size, 8, none⟩ = some (.bool mk) := cell_of_row _ _ 8 _ _ _ hbp; have c9 : w1.cell? ⟨w.heap.size, 9, none⟩ = some (.bool hd) := cell_of_row _ _ 9 _ _ _ hbp)
    | (gi_at_call 128; refine (callsIn_wide.2 (puts2 w.heap.size w1.heap.size _ _ _ Rg.out Rk.out [] ((w1.alloc (.cells #[.pointer none, .slice none 0 0] 149)).alloc (.cells #[.pointer (some ⟨w1.heap.size, 0, none⟩)] 147)) (show Builds w.heap.size w1.heap.size (Lib.byteCells []) ((w1.alloc (.cells #[.pointer none, .slice none 0 0] 149)).alloc (.cells #[.pointer (some ⟨w1.heap.size, 0, none⟩)] 147)) from Builds.kept (.inl ⟨hA0.size, .slice none 0 0, World.alloc_heap_new w1 _, World.ownsRow_nil _ _ _ _, by simp [Value.ownBlock]⟩) (bel_alloc (Below.refl _ _) _)) (by decide) (Nat.le_trans hA0.size (bel_alloc (bel_alloc (Below.refl w1.heap.size w1) _) _).size) (by simp))).mono ?_; rintro e w2 ⟨rfl, h1, h2, h3⟩; have HB2 := Lib.hid h1; clear h1; have hA2 := (hA0.trans ((bel_alloc (bel_alloc (Below.refl w1.heap.size w1) (.cells #[.pointer none, .slice none 0 0] 149)) (.cells #[.pointer (some ⟨w1.heap.size, 0, none⟩)] 147)).mono hA0.size)).trans h2; have hK2 := (Keeps.below (b := w1.heap.size) (bel_alloc (bel_alloc (Below.refl w1.heap.size w1) (.cells #[.pointer none, .slice none 0 0] 149)) (.cells #[.pointer (some ⟨w1.heap.size, 0, none⟩)] 147))).trans h3; have hne := Nat.ne_of_lt (heap_lt hbp); have hbp2 := hK2.cells hbp hne (by decide); have hbq := h3.cells (alloc_new1 (w1.alloc (.cells #[.pointer none, .slice none 0 0] 149)) #[.pointer (some ⟨w1.heap.size, 0, none⟩)] 147 (k := w1.heap.size + 1) (by simp)) (Nat.succ_ne_self _) (by decide); clear h2 h3 hK2; clear c0 c1 c2 c3 c4 c5 c6 c7 c8 c9; have hbp := hbp2; have c0 : w2.cell? ⟨w.heap.size, 0, none⟩ = some (.int .i64 g) := cell_of_row _ _ 0 _ _ _ hbp; have c1 : w2.cell? ⟨w.heap.size, 1, none⟩ = some (.int .i64 1) := cell_of_row _ _ 1 _ _ _ hbp; have c2 : w2.cell? ⟨w.heap.size, 2, none⟩ = some (.slice (some ⟨b0, off0, none⟩) len cap) := cell_of_row _ _ 2 _ _ _ hbp; have c3 : w2.cell? ⟨w.heap.size, 3, none⟩ = some (.int .i64 ht) := cell_of_row _ _ 3 _ _ _ hbp; have c4 : w2.cell? ⟨w.heap.size, 4, none⟩ = some (.int .i64 hv) := cell_of_row _ _ 4 _ _ _ hbp; have c5 : w2.cell? ⟨w.heap.size, 5, none⟩ = some (.int .i64 hc) := cell_of_row _ _ 5 _ _ _ hbp; have c6 : w2.cell? ⟨w.heap.size, 6, none⟩ = some (.int .i64 i) := cell_of_row _ _ 6 _ _ _ hbp; have c7 : w2.cell? ⟨w.heap.size, 7, none⟩ = some (.int .i64 t) := cell_of_row _ _ 7 _ _ _ hbp; have c8 : w2.cell? ⟨w.heap.size, 8, none⟩ = some (.bool mk) := cell_of_row _ _ 8 _ _ _ hbp; have c9 : w2.cell? ⟨w.heap.size, 9, none⟩ = some (.bool hd) := cell_of_row _ _ 9 _ _ _ hbp; have cq : w2.cell? ⟨w1.heap.size + 1, 0, none⟩ = some (.pointer (some ⟨w1.heap.size, 0, none⟩)) := cell_of_row _ _ 0 _ _ _ hbq))
  have ce : w2.cell? ⟨b0, off0, none⟩ = some (.int .i64 e0.i) := (hA2.cell (p := ⟨b0, off0, none⟩) hb0).trans hce
  have hlN : 0 < len := Nat.pos_of_ne_zero hl0
  have GP := Lib.hid (show Calls Try.prog 128 #[.pointer (some ⟨w1.heap.size, 0, none⟩), .slice (some ⟨w2.heap.size, 0, none⟩) 2 2] (w2.alloc (.cells #[.int .i64 len, .int .i64 e0.i] 3)).drew (fun e w' => e = .returned (.tuple #[]) ∧ Builds w.heap.size w1.heap.size (Lib.byteCells (([] ++ putL [g, 1]) ++ putL [(len : Int), e0.i])) w' ∧ Below w.heap.size w2.drew w' ∧ Keeps w1.heap.size w2.drew w') from
    puts2 w.heap.size w1.heap.size w2.heap.size (len : Int) e0.i Rl.out Re.out _ w2.drew HB2.out (Nat.le_trans (Nat.add_le_add_left (by decide) _) HLn.out) hA2.size rfl)
  refine wpIn_wide.2 ?_
  go_region_held3 (fun W' => W'.cell? ⟨w1.heap.size + 1, 0, none⟩ = some (.pointer (some ⟨w1.heap.size, 0, none⟩)) ∧ W'.cell? ⟨w.heap.size, 2, none⟩ = some (.slice (some ⟨b0, off0, none⟩) len cap) ∧ W'.cell? ⟨b0, off0, none⟩ = some (.int .i64 e0.i)) (go_keep) (first | (go_at_call 128; (with_reducible refine (GP.out).mono ?_); rintro e w3 ⟨rfl, h1, h2, h3⟩; have HB3 := Lib.hid h1; clear h1; have hA3 := (show Below w.heap.size w w2.drew from hA2.drew).trans h2; replace hbp := h3.cells hbp hne (by decide); replace hbq := h3.cells hbq (Nat.succ_ne_self _) (by decide); clear h2 h3; clear c0 c1 c2 c3 c4 c5 c6 c7 c8 c9 cq; have c0 : w3.cell? ⟨w.heap.size, 0, none⟩ = some (.int .i64 g) := cell_of_row _ _ 0 _ _ _ hbp; have c1 : w3.cell? ⟨w.heap.size, 1, none⟩ = some (.int .i64 1) := cell_of_row _ _ 1 _ _ _ hbp; have c2 : w3.cell? ⟨w.heap.size, 2, none⟩ = some (.slice (some ⟨b0, off0, none⟩) len cap) := cell_of_row _ _ 2 _ _ _ hbp; have c3 : w3.cell? ⟨w.heap.size, 3, none⟩ = some (.int .i64 ht) := cell_of_row _ _ 3 _ _ _ hbp; have c4 : w3.cell? ⟨w.heap.size, 4, none⟩ = some (.int .i64 hv) := cell_of_row _ _ 4 _ _ _ hbp; have c5 : w3.cell? ⟨w.heap.size, 5, none⟩ = some (.int .i64 hc) := cell_of_row _ _ 5 _ _ _ hbp; have c6 : w3.cell? ⟨w.heap.size, 6, none⟩ = some (.int .i64 i) := cell_of_row _ _ 6 _ _ _ hbp; have c7 : w3.cell? ⟨w.heap.size, 7, none⟩ = some (.int .i64 t) := cell_of_row _ _ 7 _ _ _ hbp; have c8 : w3.cell? ⟨w.heap.size, 8, none⟩ = some (.bool mk) := cell_of_row _ _ 8 _ _ _ hbp; have c9 : w3.cell? ⟨w.heap.size, 9, none⟩ = some (.bool hd) := cell_of_row _ _ 9 _ _ _ hbp; have cq : w3.cell? ⟨w1.heap.size + 1, 0, none⟩ = some (.pointer (some ⟨w1.heap.size, 0, none⟩)) := cell_of_row _ _ 0 _ _ _ hbq; have ce := (hA3.cell (p := ⟨b0, off0, none⟩) hb0).trans hce))
  all_goals
    gi_wp2_with (gi_at_call 131; refine (callsIn_wide.2 (texts_makes (⟨g, 1, some ⟨b0, off0, none⟩, len, cap, ht, hv, hc, i, t, mk, hd⟩ : PartC) (e0 :: r0) w3 (hE.below hA3) hwf)).mono ?_; rintro e w9 ⟨lb, rfl, rfl, hI9⟩)
    have hW9 : Below w3.heap.size w3 (w3.alloc (.cells (⟨g, 1, some ⟨b0, off0, none⟩, len, cap, ht, hv, hc, i, t, mk, hd⟩ : PartC).arr 70)) := bel_alloc (Below.refl _ _) _
    have hs9 : w.heap.size ≤ (w3.alloc (.cells (⟨g, 1, some ⟨b0, off0, none⟩, len, cap, ht, hv, hc, i, t, mk, hd⟩ : PartC).arr 70)).heap.size := Nat.le_trans hA3.size hW9.size
    refine range_outer rfl (enters_of Try.func142 (by kernel_rfl) rfl) hI9 (fun _ => rfl) (fun k hk => hk.elim (fun h => Nat.lt_of_lt_of_le (hlt k h) hs9) (fun e => by rw [e, World.size_alloc]; exact Nat.lt_succ_self _)) (fun _ h => h.elim)
      (fun pre W => bytI w w1.heap.size (w1.heap.size + 1) w3.heap.size (⟨g, 1, some ⟨b0, off0, none⟩, len, cap, ht, hv, hc, i, t, mk, hd⟩ : PartC).arr (([] ++ putL [g, 1]) ++ putL [(len : Int), e0.i]) pre W) (fun _ _ _ => False) (fun _ => bytI_stab hs9) (fun _ _ => Stab.pure _)
      ⟨by have := HB3.out.kept hW9; simpa using this, (hW9.block _ (heap_lt hbq)).trans hbq, World.alloc_heap_new _ _, hA3.trans (hW9.mono hA3.size)⟩ ?hr ?hd (fun _ _ _ _ _ _ h => h.elim)
    case hr =>
      rintro L pre x suf W hx hl' hi1 hrec
      dsimp only
      gi_wp2
      refine rdThen_mk _ (bytI_stab hs9) hi1 (Rd.refl _ _ _) ?_
      clear hi1 hrec W
      rintro W ⟨hb, hq, hX, hBl⟩ hrec
      have cq' : W.cell? ⟨w1.heap.size + 1, 0, none⟩ = some (.pointer (some ⟨w1.heap.size, 0, none⟩)) := cell_of_row _ _ 0 _ _ _ hq
      have HLx := Lib.hid (show (Lib.byteCells ((([] ++ putL [g, 1]) ++ putL [(len : Int), e0.i]) ++ pre.flatMap fun s => s.data.toList)).length + x.size ≤ 140737488355328 by
        have h1 := HT.out; have h2 := HLc.out
        rw [hx] at h1
        have h3 : x.size = x.data.toList.length := by rw [Array.length_toList]; rfl
        rw [byteCells_len]
        simp only [List.flatMap_append, List.flatMap_cons, List.length_append] at *
        omega)
      have HB := Lib.hid hb
      have hWs := hBl.size
      clear hx hb
      gi_wp2_with (gi_at_call 91; refine (callsIn_wide.2 (writeString_any w.heap.size w1.heap.size _ x W HB.out HLx.out hWs)).mono ?_; rintro e w7 ⟨rfl, h1, h2, h3⟩)
      have hnX : w3.heap.size ≠ w1.heap.size := by have := HB3.out.lt; omega
      refine ⟨rd_of_keeps HB.out h3 h2 (fun k hk => hk.elim (fun h => .inl (hlt k h)) (fun e => .inr ⟨by rw [e]; exact hnX, (⟨g, 1, some ⟨b0, off0, none⟩, len, cap, ht, hv, hc, i, t, mk, hd⟩ : PartC).arr, 70, (0, 0), by rw [e]; exact hX, by decide⟩)), .inr ?_, h3.cells hq (Nat.succ_ne_self _) (by decide), h3.cells hX hnX (by decide), hBl.trans h2⟩
      have e1 : Lib.byteCells ((([] ++ putL [g, 1]) ++ putL [(len : Int), e0.i]) ++ (pre ++ [x]).flatMap fun s => s.data.toList) = Lib.byteCells ((([] ++ putL [g, 1]) ++ putL [(len : Int), e0.i]) ++ pre.flatMap fun s => s.data.toList) ++ Lib.strCells x := by
        rw [List.flatMap_append, ← List.append_assoc, byteCells_app, List.flatMap_singleton]; rfl
      rw [e1]
      exact h1
    case hd =>
      rintro W ⟨hb, hq, hX, hBl⟩ hD
      have cq' : W.cell? ⟨w1.heap.size + 1, 0, none⟩ = some (.pointer (some ⟨w1.heap.size, 0, none⟩)) := cell_of_row _ _ 0 _ _ _ hq
      have HB := Lib.hid hb
      have HN := Lib.hid (show (([] ++ putL [g, 1]) ++ putL [(len : Int), e0.i]) ++ (((e0 :: r0).map (textOf 1)).flatMap fun s => s.data.toList) ≠ [] by have := putL_ne g [1]; simp [this])
      clear hb
      gi_wp2_with (gi_at_call 94; refine (callsIn_wide.2 (string_full w.heap.size w1.heap.size _ W HB.out HN.out)).mono ?_; rintro e w8 ⟨rfl, h2, h3⟩)
      have hD2 := h3.block _ _ hD (by rintro e; obtain ⟨cs, hcs⟩ := HB.out.cells; rw [e, hcs] at hD; cases hD) (by rintro cs fr ⟨⟩)
      rw [World.size_alloc] at hD2
      exact leave_one hD2 (results_tmp2 rfl _ _ _) ⟨by have e := HV.out; simp only [List.append_assoc, List.nil_append] at e; rw [e]; rfl, below_putObj (hBl.trans h2) (Nat.le_refl _) (by rw [World.size_alloc] at hs9; exact hs9) _⟩
theorem bytes1_any (g : Int) (a : Option Addr) (len cap : Nat) (ht hv hc i t : Int) (mk hd : Bool) (l : List EntryC) (w : World) (hE : HasE w (⟨g, 1, a, len, cap, ht, hv, hc, i, t, mk, hd⟩ : PartC) l) (hwf : ∀ e ∈ l, entryR e) (hR : PartR (⟨g, 1, a, len, cap, ht, hv, hc, i, t, mk, hd⟩ : PartC))
    (hT : ((l.map (textOf 1)).flatMap fun s => s.data.toList).length ≤ 1000000) (hok : isB (⟨g, 1, a, len, cap, ht, hv, hc, i, t, mk, hd⟩ : PartC) l = true) :
    Gives Try.prog 116 #[(⟨g, 1, a, len, cap, ht, hv, hc, i, t, mk, hd⟩ : PartC).val] w (.tuple #[.string ⟨(bytesL (⟨g, 1, a, len, cap, ht, hv, hc, i, t, mk, hd⟩ : PartC) l).toArray⟩, .int .i64 0]) := by
  have hl0 : len ≠ 0 := by rintro rfl; simp [isB, okB] at hok
  obtain ⟨b0, off0, rfl, hb0, hcE⟩ := hE.2.2.2.2 (Nat.pos_of_ne_zero hl0)
  cases l with
  | nil => exact absurd hE.1.symm hl0
  | cons e0 r0 => exact bytes1_aux g b0 off0 len cap ht hv hc i t mk hd e0 r0 w hE hwf hR hT hok

end Go.Proofs.Ytflaanffjjidaaa
