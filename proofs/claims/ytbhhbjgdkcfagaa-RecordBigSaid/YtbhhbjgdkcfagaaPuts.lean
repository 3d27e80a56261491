/- The contracts of package part's puts, putHard, putForward. -/
import Derived.Test.YtbhhbjgdkcfagaaBuilder
import Derived.Test.YtbhhbjgdkcfagaaPartSame
namespace Go.Proofs.Ytbhhbjgdkcfagaa
open Go.RowKit Go.Shelf
set_option linter.unusedVariables false
attribute [local go_sem] Oper.semAt_some wide_fn wide_round_fn

def putL (l : List Int) : List UInt8 := l.flatMap fun n => sevL n.toNat
theorem byteCells_app (l m : List UInt8) : Lib.byteCells (l ++ m) = Lib.byteCells l ++ Lib.byteCells m := by simp [Lib.byteCells]
theorem byteCells_len (l : List UInt8) : (Lib.byteCells l).length = l.length := by simp [Lib.byteCells]
theorem putL_len (l : List Int) : (putL l).length ≤ 9 * l.length := by
  induction l with
  | nil => simp [putL]
  | cons x r ih => have := sevL_len x.toNat; simp [putL] at *; omega
def intCells (l : List Int) : List Value := l.map (.int .i64)

set_option maxRecDepth 100000 in
set_option maxHeartbeats 1000000 in
theorem puts_any (B b q n c : Nat) (ns : List Int) (hn : ns.length = n) (hr : ∀ x ∈ ns, x < 9223372036854775808) (bs : List UInt8) (w : World) (h : Builds B b (Lib.byteCells bs) w) (hq : w.heap[q]? = some (.cells (intCells ns).toArray 3 (0, 0)))
    (hlen : bs.length + 10 * n ≤ 140737488355328) (hBw : B ≤ w.heap.size) (h0 : 0 < n) :
    Calls Try.prog 65 #[.pointer (some ⟨b, 0, none⟩), .slice (some ⟨q, 0, none⟩) n c] w fun e w' => e = .returned (.tuple #[]) ∧ Builds B b (Lib.byteCells (bs ++ putL ns)) w' ∧ Below B w w' ∧ Keeps b w w' := by
  have hqb : q ≠ b := by
    rintro rfl
    rcases h with h | h <;> (obtain ⟨_, v, h2, _⟩ := h; rw [h2] at hq; have hq' := Option.some.inj hq; injection hq' with _ e; exact absurd e (by decide))
  go_enter Try.func65, Try.ntmps65
  go_wp2
  go_loopw [8] (fun i wr => ∃ k : Nat, k ≤ n ∧ i = .int .i64 k ∧ Builds B b (Lib.byteCells (bs ++ putL (ns.take k))) wr ∧ Below B w wr ∧ Keeps b w wr) (fun i _ => n - (intOf i).toNat)
  case atStart => exact ⟨0, by omega, rfl, by simpa [putL] using h, Below.refl _ _, Keeps.refl _ _⟩
  case round =>
    obtain ⟨k, hk, rfl, hb, hB, hK⟩ := hrel
    by_cases hlt : k < n
    · have hkl : k < ns.length := by omega
      have hqr := hK.cells hq hqb (by decide)
      have c0 : wr.cell? ⟨q, k, none⟩ = some (.int .i64 ns[k]) := by rw [cell_of_row _ _ _ _ _ _ hqr]; simp [intCells, hkl]
      have HT := Lib.hid (show putL (ns.take (k + 1)) = putL (ns.take k) ++ sevL ns[k].toNat by unfold putL; rw [List.take_succ_eq_append_getElem hkl, List.flatMap_append, List.flatMap_singleton])
      have hxr := hr ns[k] (List.getElem_mem _)
      generalize ns[k] = x at *
      have G := Lib.hid (put_any x hxr)
      have HB := Lib.hid hb
      clear hb
      have hsz : B ≤ wr.heap.size := Nat.le_trans hBw hB.size
      have HL := Lib.hid (show (Lib.byteCells (bs ++ putL (ns.take k))).length + (⟨(sevL x.toNat).toArray⟩ : ByteArray).size ≤ 140737488355328 by
        have h1 := putL_len (ns.take k); have h2 := sevL_len x.toNat
        rw [byteCells_len, List.length_append]
        rw [List.length_take] at h1
        show _ + (sevL x.toNat).toArray.size ≤ _
        rw [List.size_toArray]
        omega)
      go_wp2_with (first
        | (go_at_call 38; ((with_reducible refine (G.out _).mono ?_); rintro e w1 ⟨rfl, hB1⟩; have HB1 := Lib.hid (Builds.kept HB.out hB1)))
        | (go_at_call 37; ((with_reducible refine (writeString_any B b _ _ _ HB1.out HL.out (Nat.le_trans hsz hB1.size)).mono ?_); rintro e w2 ⟨rfl, hb2, hB2, hK2⟩; have HB2 := Lib.hid hb2; clear hb2)))
      go_roundw
      case rel =>
        refine ⟨k + 1, by omega, by go_num, .inr ?_, (hB.trans (hB1.mono hsz)).trans hB2, (hK.trans (Keeps.below hB1)).trans hK2⟩
        have := HB2.out
        rw [HT.out, ← List.append_assoc, byteCells_app]
        exact this
      case measure => simp [intOf]; omega
    · obtain rfl : k = n := by omega
      have HB := Lib.hid hb
      clear hb
      go_wp2
      go_end0
      refine ⟨rfl, ?_, hB, hK⟩
      have := HB.out
      rwa [List.take_of_length_le (by omega)] at this

/-- puts at a row that was just laid. -/
theorem puts_new (B b q n c : Nat) (ns : List Int) (hn : ns.length = n) (hr : ∀ x ∈ ns, x < 9223372036854775808) (bs : List UInt8) (w : World) (h : Builds B b (Lib.byteCells bs) w)
    (hlen : bs.length + 10 * n ≤ 140737488355328) (hBw : B ≤ w.heap.size) (h0 : 0 < n) (hq : q = w.heap.size) :
    Calls Try.prog 65 #[.pointer (some ⟨b, 0, none⟩), .slice (some ⟨q, 0, none⟩) n c] (w.alloc (.cells (intCells ns).toArray 3)) fun e w' => e = .returned (.tuple #[]) ∧ Builds B b (Lib.byteCells (bs ++ putL ns)) w' ∧ Below B w w' ∧ Keeps b w w' := by
  subst hq
  have hB : Below w.heap.size w (w.alloc (.cells (intCells ns).toArray 3)) := bel_alloc (Below.refl _ _) _
  refine (puts_any B b w.heap.size n c ns hn hr bs _ (h.kept hB) (World.alloc_heap_new w _) hlen (by rw [World.size_alloc]; omega) h0).mono ?_
  rintro e w' ⟨rfl, h1, h2, h3⟩
  exact ⟨rfl, h1, (hB.mono hBw).trans h2, (Keeps.below hB).trans h3⟩

set_option maxRecDepth 100000 in
set_option maxHeartbeats 1000000 in
theorem putHard_any (B b : Nat) (t v c : Int) (ht : t < 9223372036854775808) (hv : v < 9223372036854775808) (hc : c < 9223372036854775808) (bs : List UInt8) (w : World) (h : Builds B b (Lib.byteCells bs) w)
    (hlen : bs.length + 30 ≤ 140737488355328) (hBw : B ≤ w.heap.size) :
    Calls Try.prog 66 #[.pointer (some ⟨b, 0, none⟩), .agg #[.int .i64 t, .int .i64 v, .int .i64 c]] w fun e w' => e = .returned (.tuple #[]) ∧ Builds B b (Lib.byteCells (bs ++ putL [t, v, c])) w' ∧ Below B w w' ∧ Keeps b w w' := by
  have hA : Below w.heap.size w (w.alloc (.cells #[.int .i64 t, .int .i64 v, .int .i64 c] 28)) := bel_alloc (Below.refl _ _) _
  have hsz : w.heap.size + 1 = (w.alloc (.cells #[.int .i64 t, .int .i64 v, .int .i64 c] 28)).heap.size := by simp
  have G := puts_new B b (w.heap.size + 1) 3 3 [t, v, c] rfl (by simp [ht, hv, hc]) bs (w.alloc (.cells #[.int .i64 t, .int .i64 v, .int .i64 c] 28)) (h.kept hA) (by omega) (by rw [← hsz]; omega) (by decide) hsz
  clear hsz
  simp only [intCells, List.map_cons, List.map_nil] at G
  go_enter Try.func66, Try.ntmps66
  go_wp2_with (go_at_call 65; ((with_reducible refine (G).mono ?_); rintro e w1 ⟨rfl, h1, h2, h3⟩))
  go_end0
  exact ⟨rfl, h1, (hA.mono hBw).trans h2, (Keeps.below hA).trans h3⟩

end Go.Proofs.Ytbhhbjgdkcfagaa
