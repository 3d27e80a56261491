/- The contract of package part's Bytes: other kinds. -/
import Derived.Test.YtbhhbjgdkcfagaaPartBytes5
namespace Go.Proofs.Ytbhhbjgdkcfagaa
open Go.RowKit Go.Shelf
set_option linter.unusedVariables false
attribute [local go_sem] Oper.semAt_some wide_fn wide_round_fn

set_option maxRecDepth 100000 in
set_option maxHeartbeats 4000000 in
theorem bytes6_any (g : Int) (a : Option Addr) (len cap : Nat) (ht hv hc i t : Int) (mk hd : Bool) (l : List EntryC) (w : World) (hE : HasE w (⟨g, 6, a, len, cap, ht, hv, hc, i, t, mk, hd⟩ : PartC) l) (hwf : ∀ e ∈ l, entryR e) (hR : PartR (⟨g, 6, a, len, cap, ht, hv, hc, i, t, mk, hd⟩ : PartC))
    (hT : ((l.map (textOf 6)).flatMap fun s => s.data.toList).length ≤ 1000000) (hok : isB (⟨g, 6, a, len, cap, ht, hv, hc, i, t, mk, hd⟩ : PartC) l = true) :
    Gives Try.prog 54 #[(⟨g, 6, a, len, cap, ht, hv, hc, i, t, mk, hd⟩ : PartC).val] w (.tuple #[.string ⟨(bytesL (⟨g, 6, a, len, cap, ht, hv, hc, i, t, mk, hd⟩ : PartC) l).toArray⟩, .int .i64 0]) := by
  have GI := Lib.hid (fun W (hB : Below w.heap.size w W) => is_any (⟨g, 6, a, len, cap, ht, hv, hc, i, t, mk, hd⟩ : PartC) l W (hE.below hB))
  rw [hok] at GI
  have Rg := Lib.hid hR.1
  have Rk := Lib.hid (show (6 : Int) < 9223372036854775808 by decide)
  have HLn := Lib.hid (show (([] ++ putL [g, 6]) : List UInt8).length + 200 ≤ 140737488355328 by have := putL_len [g, 6]; simp only [List.nil_append, List.length_cons, List.length_nil] at *; omega)
  have HLc := Lib.hid (show ((([] ++ putL [g, 6]) ++ putL (fwdN (⟨g, 6, a, len, cap, ht, hv, hc, i, t, mk, hd⟩ : PartC))) : List UInt8).length + 2000000 ≤ 140737488355328 by
    have := putL_len [g, 6]; have := putL_len (fwdN (⟨g, 6, a, len, cap, ht, hv, hc, i, t, mk, hd⟩ : PartC)); have := fwdN_len (⟨g, 6, a, len, cap, ht, hv, hc, i, t, mk, hd⟩ : PartC)
    simp only [List.length_append, List.length_nil, List.length_cons] at *
    omega)
  have HV := Lib.hid (show bytesL (⟨g, 6, a, len, cap, ht, hv, hc, i, t, mk, hd⟩ : PartC) l = (([] ++ putL [g, 6]) ++ putL (fwdN (⟨g, 6, a, len, cap, ht, hv, hc, i, t, mk, hd⟩ : PartC))) ++ (l.map (textOf 6)).flatMap fun s => s.data.toList by simp [bytesL, headN])
  have HT := Lib.hid hT
  have hlt : ∀ k, inBlkE a len k → k < w.heap.size := fun k hk => inBlkE_lt hE.2.2 hk
  have hA0 : Below w.heap.size w (w.alloc (.cells #[.int .i64 g, .int .i64 6, .slice a len cap, .int .i64 ht, .int .i64 hv, .int .i64 hc, .int .i64 i, .int .i64 t, .bool mk, .bool hd] 30)) := bel_alloc (Below.refl _ _) _
  have hbp : (w.alloc (.cells #[.int .i64 g, .int .i64 6, .slice a len cap, .int .i64 ht, .int .i64 hv, .int .i64 hc, .int .i64 i, .int .i64 t, .bool mk, .bool hd] 30)).heap[w.heap.size]? = some (.cells #[.int .i64 g, .int .i64 6, .slice a len cap, .int .i64 ht, .int .i64 hv, .int .i64 hc, .int .i64 i, .int .i64 t, .bool mk, .bool hd] 30 (0, 0)) := World.alloc_heap_new w _
  have HR := Lib.hid hR
  have R1 := Lib.hid (show ht < 9223372036854775808 from HR.out.2.1); have R2 := Lib.hid (show hv < 9223372036854775808 from HR.out.2.2.1); have R3 := Lib.hid (show hc < 9223372036854775808 from HR.out.2.2.2.1); have R4 := Lib.hid (show i < 9223372036854775808 from HR.out.2.2.2.2.1); have R5 := Lib.hid (show t < 9223372036854775808 from HR.out.2.2.2.2.2.1); have R6 := Lib.hid (show len < 1000000 from HR.out.2.2.2.2.2.2)
  clear hT hok hR
  refine (callsIn_wide (n := 9)).1 ?_
  refine callsIn_of_wp_marks Try.func54 rfl trivial ?_ rfl
  simp only [Try.ntmps54, List.size_toArray, List.length_cons, List.length_nil, Nat.reduceAdd, Nat.reduceSub, Array.replicate_succ, Array.replicate_zero, List.push_toArray, List.append_toArray, List.nil_append, List.cons_append]
  gi_wp2_with (first
    | (gi_at_call 19; refine (callsIn_wide.2 (GI.out _ hA0)).mono ?_; rintro e w1 ⟨rfl, hB1⟩; replace hA0 := bel2 hA0 hB1; replace hbp := (hB1.block _ (by simp)).trans hbp; clear hB1; have hs1 := heap_lt hbp; have c0 : w1.cell? ⟨w.heap.size, 0, none⟩ = some (.int .i64 g) := cell_of_row _ _ 0 _ _ _ hbp; have c1 : w1.cell? ⟨w.heap.size, 1, none⟩ = some (.int .i64 6) := cell_of_row _ _ 1 _ _ _ hbp; have c2 : w1.cell? ⟨w.heap.size, 2, none⟩ = some (.slice a len cap) := cell_of_row _ _ 2 _ _ _ hbp; have c3 : w1.cell? ⟨w.heap.size, 3, none⟩ = some (.int .i64 ht) := cell_of_row _ _ 3 _ _ _ hbp; have c4 : w1.cell? ⟨w.heap.size, 4, none⟩ = some (.int .i64 hv) := cell_of_row _ _ 4 _ _ _ hbp; have c5 : w1.cell? ⟨w.heap.size, 5, none⟩ = some (.int .i64 hc) := cell_of_row _ _ 5 _ _ _ hbp; have c6 : w1.cell? ⟨w.heap.size, 6, none⟩ = some (.int .i64 i) := cell_of_row _ _ 6 _ _ _ hbp; have c7 : w1.cell? ⟨w.heap.size, 7, none⟩ = some (.int .i64 t) := cell_of_row _ _ 7 _ _ _ hbp; have c8 : w1.cell? ⟨w.heap.size, 8, none⟩ = some (.bool mk) := cell_of_row _ _ 8 _ _ _ hbp; have c9 : w1.cell? ⟨w.heap.size, 9, none⟩ = some (.bool hd) := cell_of_row _ _ 9 _ _ _ hbp)
    | (gi_at_call 65; refine (callsIn_wide.2 (puts2 w.heap.size w1.heap.size _ _ _ Rg.out Rk.out [] ((w1.alloc (.cells #[.pointer none, .slice none 0 0] 66)).alloc (.cells #[.pointer (some ⟨w1.heap.size, 0, none⟩)] 64)) (show Builds w.heap.size w1.heap.size (Lib.byteCells []) ((w1.alloc (.cells #[.pointer none, .slice none 0 0] 66)).alloc (.cells #[.pointer (some ⟨w1.heap.size, 0, none⟩)] 64)) from Builds.kept (.inl ⟨hA0.size, .slice none 0 0, World.alloc_heap_new w1 _, World.ownsRow_nil _ _ _ _, by simp [Value.ownBlock]⟩) (bel_alloc (Below.refl _ _) _)) (by decide) (Nat.le_trans hA0.size (bel_alloc (bel_alloc (Below.refl w1.heap.size w1) _) _).size) (by simp))).mono ?_; rintro e w2 ⟨rfl, h1, h2, h3⟩; have HB2 := Lib.hid h1; clear h1; have hA2 := (hA0.trans ((bel_alloc (bel_alloc (Below.refl w1.heap.size w1) (.cells #[.pointer none, .slice none 0 0] 66)) (.cells #[.pointer (some ⟨w1.heap.size, 0, none⟩)] 64)).mono hA0.size)).trans h2; have hK2 := (Keeps.below (b := w1.heap.size) (bel_alloc (bel_alloc (Below.refl w1.heap.size w1) (.cells #[.pointer none, .slice none 0 0] 66)) (.cells #[.pointer (some ⟨w1.heap.size, 0, none⟩)] 64))).trans h3; have hne := Nat.ne_of_lt (heap_lt hbp); have hbp2 := hK2.cells hbp hne (by decide); have hbq := h3.cells (alloc_new1 (w1.alloc (.cells #[.pointer none, .slice none 0 0] 66)) #[.pointer (some ⟨w1.heap.size, 0, none⟩)] 64 (k := w1.heap.size + 1) (by simp)) (Nat.succ_ne_self _) (by decide); clear h2 h3 hK2; clear c0 c1 c2 c3 c4 c5 c6 c7 c8 c9; have hbp := hbp2; have c0 : w2.cell? ⟨w.heap.size, 0, none⟩ = some (.int .i64 g) := cell_of_row _ _ 0 _ _ _ hbp; have c1 : w2.cell? ⟨w.heap.size, 1, none⟩ = some (.int .i64 6) := cell_of_row _ _ 1 _ _ _ hbp; have c2 : w2.cell? ⟨w.heap.size, 2, none⟩ = some (.slice a len cap) := cell_of_row _ _ 2 _ _ _ hbp; have c3 : w2.cell? ⟨w.heap.size, 3, none⟩ = some (.int .i64 ht) := cell_of_row _ _ 3 _ _ _ hbp; have c4 : w2.cell? ⟨w.heap.size, 4, none⟩ = some (.int .i64 hv) := cell_of_row _ _ 4 _ _ _ hbp; have c5 : w2.cell? ⟨w.heap.size, 5, none⟩ = some (.int .i64 hc) := cell_of_row _ _ 5 _ _ _ hbp; have c6 : w2.cell? ⟨w.heap.size, 6, none⟩ = some (.int .i64 i) := cell_of_row _ _ 6 _ _ _ hbp; have c7 : w2.cell? ⟨w.heap.size, 7, none⟩ = some (.int .i64 t) := cell_of_row _ _ 7 _ _ _ hbp; have c8 : w2.cell? ⟨w.heap.size, 8, none⟩ = some (.bool mk) := cell_of_row _ _ 8 _ _ _ hbp; have c9 : w2.cell? ⟨w.heap.size, 9, none⟩ = some (.bool hd) := cell_of_row _ _ 9 _ _ _ hbp; have cq : w2.cell? ⟨w1.heap.size + 1, 0, none⟩ = some (.pointer (some ⟨w1.heap.size, 0, none⟩)) := cell_of_row _ _ 0 _ _ _ hbq)
    | (gi_at_call 67; refine (callsIn_wide.2 (putForward_any w.heap.size w1.heap.size (⟨g, 6, a, len, cap, ht, hv, hc, i, t, mk, hd⟩ : PartC)  R1.out R2.out R3.out R4.out R5.out R6.out _ _ HB2.out HLn.out (hA2.size))).mono ?_; rintro e w3 ⟨rfl, h1, h2, h3⟩; have HB3 := Lib.hid h1; clear h1; have hA3 := hA2.trans h2; replace hbp := h3.cells hbp hne (by decide); replace hbq := h3.cells hbq (Nat.succ_ne_self _) (by decide); clear h2 h3; clear c0 c1 c2 c3 c4 c5 c6 c7 c8 c9 cq; have c0 : w3.cell? ⟨w.heap.size, 0, none⟩ = some (.int .i64 g) := cell_of_row _ _ 0 _ _ _ hbp; have c1 : w3.cell? ⟨w.heap.size, 1, none⟩ = some (.int .i64 6) := cell_of_row _ _ 1 _ _ _ hbp; have c2 : w3.cell? ⟨w.heap.size, 2, none⟩ = some (.slice a len cap) := cell_of_row _ _ 2 _ _ _ hbp; have c3 : w3.cell? ⟨w.heap.size, 3, none⟩ = some (.int .i64 ht) := cell_of_row _ _ 3 _ _ _ hbp; have c4 : w3.cell? ⟨w.heap.size, 4, none⟩ = some (.int .i64 hv) := cell_of_row _ _ 4 _ _ _ hbp; have c5 : w3.cell? ⟨w.heap.size, 5, none⟩ = some (.int .i64 hc) := cell_of_row _ _ 5 _ _ _ hbp; have c6 : w3.cell? ⟨w.heap.size, 6, none⟩ = some (.int .i64 i) := cell_of_row _ _ 6 _ _ _ hbp; have c7 : w3.cell? ⟨w.heap.size, 7, none⟩ = some (.int .i64 t) := cell_of_row _ _ 7 _ _ _ hbp; have c8 : w3.cell? ⟨w.heap.size, 8, none⟩ = some (.bool mk) := cell_of_row _ _ 8 _ _ _ hbp; have c9 : w3.cell? ⟨w.heap.size, 9, none⟩ = some (.bool hd) := cell_of_row _ _ 9 _ _ _ hbp; have cq : w3.cell? ⟨w1.heap.size + 1, 0, none⟩ = some (.pointer (some ⟨w1.heap.size, 0, none⟩)) := cell_of_row _ _ 0 _ _ _ hbq)
    | (gi_at_call 68; refine (callsIn_wide.2 (texts_makes (⟨g, 6, a, len, cap, ht, hv, hc, i, t, mk, hd⟩ : PartC) l w3 (hE.below hA3) hwf)).mono ?_; rintro e w9 ⟨lb, rfl, rfl, hI9⟩))
  have hW9 : Below w3.heap.size w3 (w3.alloc (.cells (⟨g, 6, a, len, cap, ht, hv, hc, i, t, mk, hd⟩ : PartC).arr 30)) := bel_alloc (Below.refl _ _) _
  have hs9 : w.heap.size ≤ (w3.alloc (.cells (⟨g, 6, a, len, cap, ht, hv, hc, i, t, mk, hd⟩ : PartC).arr 30)).heap.size := Nat.le_trans hA3.size hW9.size
  refine range_outer rfl (enters_of Try.func78 (by kernel_rfl) rfl) hI9 (fun _ => rfl) (fun k hk => hk.elim (fun h => Nat.lt_of_lt_of_le (hlt k h) hs9) (fun e => by rw [e, World.size_alloc]; exact Nat.lt_succ_self _)) (fun _ h => h.elim)
    (fun pre W => bytI w w1.heap.size (w1.heap.size + 1) w3.heap.size (⟨g, 6, a, len, cap, ht, hv, hc, i, t, mk, hd⟩ : PartC).arr (([] ++ putL [g, 6]) ++ putL (fwdN (⟨g, 6, a, len, cap, ht, hv, hc, i, t, mk, hd⟩ : PartC))) pre W) (fun _ _ _ => False) (fun _ => bytI_stab hs9) (fun _ _ => Stab.pure _)
    ⟨by have := HB3.out.kept hW9; simpa using this, (hW9.block _ (heap_lt hbq)).trans hbq, World.alloc_heap_new _ _, hA3.trans (hW9.mono hA3.size)⟩ ?hr ?hd (fun _ _ _ _ _ _ h => h.elim)
  case hr =>
    rintro L pre x suf W hx hl' hi1 hrec
    dsimp only
    gi_wp2
    refine rdThen_mk _ (bytI_stab hs9) hi1 (Rd.refl _ _ _) ?_
    clear hi1 hrec W
    rintro W ⟨hb, hq, hX, hBl⟩ hrec
    have cq' : W.cell? ⟨w1.heap.size + 1, 0, none⟩ = some (.pointer (some ⟨w1.heap.size, 0, none⟩)) := cell_of_row _ _ 0 _ _ _ hq
    have HLx := Lib.hid (show (Lib.byteCells ((([] ++ putL [g, 6]) ++ putL (fwdN (⟨g, 6, a, len, cap, ht, hv, hc, i, t, mk, hd⟩ : PartC))) ++ pre.flatMap fun s => s.data.toList)).length + x.size ≤ 140737488355328 by
      have h1 := HT.out; have h2 := HLc.out
      rw [hx] at h1
      have h3 : x.size = x.data.toList.length := by rw [Array.length_toList]; rfl
      rw [byteCells_len]
      simp only [List.flatMap_append, List.flatMap_cons, List.length_append] at *
      omega)
    have HB := Lib.hid hb
    have hWs := hBl.size
    clear hx hb
    gi_wp2_with (gi_at_call 37; refine (callsIn_wide.2 (writeString_any w.heap.size w1.heap.size _ x W HB.out HLx.out hWs)).mono ?_; rintro e w7 ⟨rfl, h1, h2, h3⟩)
    have hnX : w3.heap.size ≠ w1.heap.size := by have := HB3.out.lt; omega
    refine ⟨rd_of_keeps HB.out h3 h2 (fun k hk => hk.elim (fun h => .inl (hlt k h)) (fun e => .inr ⟨by rw [e]; exact hnX, (⟨g, 6, a, len, cap, ht, hv, hc, i, t, mk, hd⟩ : PartC).arr, 30, (0, 0), by rw [e]; exact hX, by decide⟩)), .inr ?_, h3.cells hq (Nat.succ_ne_self _) (by decide), h3.cells hX hnX (by decide), hBl.trans h2⟩
    have e1 : Lib.byteCells ((([] ++ putL [g, 6]) ++ putL (fwdN (⟨g, 6, a, len, cap, ht, hv, hc, i, t, mk, hd⟩ : PartC))) ++ (pre ++ [x]).flatMap fun s => s.data.toList) = Lib.byteCells ((([] ++ putL [g, 6]) ++ putL (fwdN (⟨g, 6, a, len, cap, ht, hv, hc, i, t, mk, hd⟩ : PartC))) ++ pre.flatMap fun s => s.data.toList) ++ Lib.strCells x := by
      rw [List.flatMap_append, ← List.append_assoc, byteCells_app, List.flatMap_singleton]; rfl
    rw [e1]
    exact h1
  case hd =>
    rintro W ⟨hb, hq, hX, hBl⟩ hD
    have cq' : W.cell? ⟨w1.heap.size + 1, 0, none⟩ = some (.pointer (some ⟨w1.heap.size, 0, none⟩)) := cell_of_row _ _ 0 _ _ _ hq
    have HB := Lib.hid hb
    have HN := Lib.hid (show (([] ++ putL [g, 6]) ++ putL (fwdN (⟨g, 6, a, len, cap, ht, hv, hc, i, t, mk, hd⟩ : PartC))) ++ ((l.map (textOf 6)).flatMap fun s => s.data.toList) ≠ [] by have := putL_ne g [6]; simp [this])
    clear hb
    gi_wp2_with (gi_at_call 40; refine (callsIn_wide.2 (string_full w.heap.size w1.heap.size _ W HB.out HN.out)).mono ?_; rintro e w8 ⟨rfl, h2, h3⟩)
    have hD2 := h3.block _ _ hD (by rintro e; obtain ⟨cs, hcs⟩ := HB.out.cells; rw [e, hcs] at hD; cases hD) (by rintro cs fr ⟨⟩)
    rw [World.size_alloc] at hD2
    exact leave_one hD2 (results_tmp2 rfl _ _ _) ⟨by have e := HV.out; simp only [List.append_assoc, List.nil_append] at e; rw [e]; rfl, below_putObj (hBl.trans h2) (Nat.le_refl _) (by rw [World.size_alloc] at hs9; exact hs9) _⟩
end Go.Proofs.Ytbhhbjgdkcfagaa
