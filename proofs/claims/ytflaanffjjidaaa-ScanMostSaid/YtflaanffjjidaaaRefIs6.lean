/- The contract of the document's Is: it comes to the same as part.Is. -/
import Derived.Test.YtflaanffjjidaaaRefEnt2
import Derived.Test.YtflaanffjjidaaaPartFacts
import Derived.Test.YtflaanffjjidaaaRefIs
namespace Go.Proofs.Ytflaanffjjidaaa
open Go.RowKit Go.Shelf
set_option linter.unusedVariables false
attribute [local go_sem] Oper.semAt_some wide_fn wide_round_fn

theorem isB_3 (g : Int) (a : Option Addr) (len cap : Nat) (ht hv hc i t : Int) (mk hd : Bool) (l : List EntryC) (hl : l.length = len) : isB (⟨g, 3, a, len, cap, ht, hv, hc, i, t, mk, hd⟩ : PartC) l = (wB g 0 999 && (!mk && (!hd && (decide ((len : Int) = 0) && (decide (ht = 0 ∧ hv = 0 ∧ hc = 0) && (wB i 1 1099511627776 && wB t 0 1099511627776)))))) := by
  have hl0 : l = [] ↔ len = 0 := by rw [← hl]; exact List.length_eq_zero_iff.symm
  rw [Bool.eq_iff_iff, isB_iff]
  simp only [Bool.and_eq_true, wB_iff, hl0, decide_eq_true_eq, Bool.not_eq_true']
  grind
set_option maxRecDepth 100000 in
set_option maxHeartbeats 8000000 in
theorem refIs3_any (g : Int) (a : Option Addr) (len cap : Nat) (ht hv hc i t : Int) (mk hd : Bool) (l : List EntryC) (w : World) (h1 : HasE w (⟨g, 3, a, len, cap, ht, hv, hc, i, t, mk, hd⟩ : PartC) l) : Gives Try.prog 22 #[(⟨g, 3, a, len, cap, ht, hv, hc, i, t, mk, hd⟩ : PartC).val] w (.bool (isB (⟨g, 3, a, len, cap, ht, hv, hc, i, t, mk, hd⟩ : PartC) l)) := by
  have hV := Lib.hid (isB_3 g a len cap ht hv hc i t mk hd l h1.1)
  rw [hV.out]
  clear hV
  have GW := Lib.hid (refWithin_any g 0 999)
  have hH := fun w => beqHard ht hv hc 0 0 0 w
  have GI := Lib.hid (refWithin_any i 1 1099511627776)
  have GT := Lib.hid (refWithin_any t 0 1099511627776)
  have hm := h1.2.1
  dsimp only at hm
  clear h1
  generalize wB g 0 999 = bw at *
  generalize decide (ht = 0 ∧ hv = 0 ∧ hc = 0) = bH at *
  generalize wB i 1 1099511627776 = bI at *
  generalize wB t 0 1099511627776 = bT at *
  dsimp only [PartC.val] at *
  unfold Gives
  have hA := bel_alloc (Below.refl w.heap.size w) (.cells #[.int .i64 g, .int .i64 3, .slice a len cap, .int .i64 ht, .int .i64 hv, .int .i64 hc, .int .i64 i, .int .i64 t, .bool mk, .bool hd] 70)
  have hs : w.heap.size < (w.alloc (.cells #[.int .i64 g, .int .i64 3, .slice a len cap, .int .i64 ht, .int .i64 hv, .int .i64 hc, .int .i64 i, .int .i64 t, .bool mk, .bool hd] 70)).heap.size := by simp
  have c0 : (w.alloc (.cells #[.int .i64 g, .int .i64 3, .slice a len cap, .int .i64 ht, .int .i64 hv, .int .i64 hc, .int .i64 i, .int .i64 t, .bool mk, .bool hd] 70)).cell? ⟨w.heap.size, 0, none⟩ = some (.int .i64 g) := cell_of_row _ _ 0 _ _ _ (World.alloc_heap_new w _)
  have c1 : (w.alloc (.cells #[.int .i64 g, .int .i64 3, .slice a len cap, .int .i64 ht, .int .i64 hv, .int .i64 hc, .int .i64 i, .int .i64 t, .bool mk, .bool hd] 70)).cell? ⟨w.heap.size, 1, none⟩ = some (.int .i64 3) := cell_of_row _ _ 1 _ _ _ (World.alloc_heap_new w _)
  have c2 : (w.alloc (.cells #[.int .i64 g, .int .i64 3, .slice a len cap, .int .i64 ht, .int .i64 hv, .int .i64 hc, .int .i64 i, .int .i64 t, .bool mk, .bool hd] 70)).cell? ⟨w.heap.size, 2, none⟩ = some (.slice a len cap) := cell_of_row _ _ 2 _ _ _ (World.alloc_heap_new w _)
  have c3 : (w.alloc (.cells #[.int .i64 g, .int .i64 3, .slice a len cap, .int .i64 ht, .int .i64 hv, .int .i64 hc, .int .i64 i, .int .i64 t, .bool mk, .bool hd] 70)).cell? ⟨w.heap.size, 3, none⟩ = some (.int .i64 ht) := cell_of_row _ _ 3 _ _ _ (World.alloc_heap_new w _)
  have c4 : (w.alloc (.cells #[.int .i64 g, .int .i64 3, .slice a len cap, .int .i64 ht, .int .i64 hv, .int .i64 hc, .int .i64 i, .int .i64 t, .bool mk, .bool hd] 70)).cell? ⟨w.heap.size, 4, none⟩ = some (.int .i64 hv) := cell_of_row _ _ 4 _ _ _ (World.alloc_heap_new w _)
  have c5 : (w.alloc (.cells #[.int .i64 g, .int .i64 3, .slice a len cap, .int .i64 ht, .int .i64 hv, .int .i64 hc, .int .i64 i, .int .i64 t, .bool mk, .bool hd] 70)).cell? ⟨w.heap.size, 5, none⟩ = some (.int .i64 hc) := cell_of_row _ _ 5 _ _ _ (World.alloc_heap_new w _)
  have c6 : (w.alloc (.cells #[.int .i64 g, .int .i64 3, .slice a len cap, .int .i64 ht, .int .i64 hv, .int .i64 hc, .int .i64 i, .int .i64 t, .bool mk, .bool hd] 70)).cell? ⟨w.heap.size, 6, none⟩ = some (.int .i64 i) := cell_of_row _ _ 6 _ _ _ (World.alloc_heap_new w _)
  have c7 : (w.alloc (.cells #[.int .i64 g, .int .i64 3, .slice a len cap, .int .i64 ht, .int .i64 hv, .int .i64 hc, .int .i64 i, .int .i64 t, .bool mk, .bool hd] 70)).cell? ⟨w.heap.size, 7, none⟩ = some (.int .i64 t) := cell_of_row _ _ 7 _ _ _ (World.alloc_heap_new w _)
  have c8 : (w.alloc (.cells #[.int .i64 g, .int .i64 3, .slice a len cap, .int .i64 ht, .int .i64 hv, .int .i64 hc, .int .i64 i, .int .i64 t, .bool mk, .bool hd] 70)).cell? ⟨w.heap.size, 8, none⟩ = some (.bool mk) := cell_of_row _ _ 8 _ _ _ (World.alloc_heap_new w _)
  have c9 : (w.alloc (.cells #[.int .i64 g, .int .i64 3, .slice a len cap, .int .i64 ht, .int .i64 hv, .int .i64 hc, .int .i64 i, .int .i64 t, .bool mk, .bool hd] 70)).cell? ⟨w.heap.size, 9, none⟩ = some (.bool hd) := cell_of_row _ _ 9 _ _ _ (World.alloc_heap_new w _)
  cases bw with
  | false =>
    go_enter Try.func22, Try.ntmps22
    go_wp2_with ((go_at_call 29; ((with_reducible refine (GW.out _).mono ?_); rintro e w1 ⟨rfl, hB⟩; replace hA := bel2 hA hB; obtain ⟨c0, c1, c2, c3, c4, c5, c6, c7, c8, c9⟩ := above10 hs c0 c1 c2 c3 c4 c5 c6 c7 c8 c9 hB; replace hs := Nat.lt_of_lt_of_le hs hB.size; clear hB)))
    all_goals
      go_ret
      refine ⟨?_, hA⟩
      clear hA hs c0 c1 c2 c3 c4 c5 c6 c7 c8 c9
      (try have hi := HI.out)
      first | (simp; done) | (simp; grind) | grind
  | true =>
    cases mk with
    | true =>
      by_cases hi : i = 0
      · subst hi
        go_enter Try.func22, Try.ntmps22
        go_wp2_with ((go_at_call 29; ((with_reducible refine (GW.out _).mono ?_); rintro e w1 ⟨rfl, hB⟩; replace hA := bel2 hA hB; obtain ⟨c0, c1, c2, c3, c4, c5, c6, c7, c8, c9⟩ := above10 hs c0 c1 c2 c3 c4 c5 c6 c7 c8 c9 hB; replace hs := Nat.lt_of_lt_of_le hs hB.size; clear hB)))
        have HS := Lib.hid (fun W (hW : Above w1 W) => (above10 hs c0 c1 c2 c3 c4 c5 c6 c7 c8 c9 hW))
        refine wp_region_below (by kernel_rfl) (by kernel_rfl) ?_
        repeat (first
          | (refine BigFrame.wpQuiet_skip (by rfl) ?_; (try simp only [Act.put, List.setIfInBounds_toArray, List.set_cons_zero, List.set_cons_succ]))
          | (refine BigFrame.wpQuiet_want (by rfl) (fun K hK => ?_); apply Exists.intro; refine ⟨fun W hW => ?_, hK _ ?_⟩; (focus (obtain ⟨z0, z1, z2, z3, z4, z5, z6, z7, z8, z9⟩ := HS.out _ hW; go_simp; (first | done | with_reducible rfl | (fail) | (rw [if_neg (by omega)]; go_simp; (first | done | with_reducible rfl))))); clear hK K; (try simp only [Act.put, List.setIfInBounds_toArray, List.set_cons_zero, List.set_cons_succ])))
        refine wpQuiet_nil ?_
        intro w2 hB
        clear HS
        replace hB : Below w1.heap.size w1 w2 := hB
        replace hA := bel2 hA hB; obtain ⟨c0, c1, c2, c3, c4, c5, c6, c7, c8, c9⟩ := above10 hs c0 c1 c2 c3 c4 c5 c6 c7 c8 c9 hB; replace hs := Nat.lt_of_lt_of_le hs hB.size; clear hB
        go_wp2
        all_goals
          go_ret
          refine ⟨?_, hA⟩
          clear hA hs c0 c1 c2 c3 c4 c5 c6 c7 c8 c9
          (try have hi := HI.out)
          first | (simp; done) | (simp; grind) | grind
      · have hi' : decide (i = 0) = false := decide_eq_false hi
        have HI := Lib.hid hi
        have hi2 : (i == 0) = false := by simp [hi]
        skip
        clear hi
        go_enter Try.func22, Try.ntmps22
        go_wp2_with ((go_at_call 29; ((with_reducible refine (GW.out _).mono ?_); rintro e w1 ⟨rfl, hB⟩; replace hA := bel2 hA hB; obtain ⟨c0, c1, c2, c3, c4, c5, c6, c7, c8, c9⟩ := above10 hs c0 c1 c2 c3 c4 c5 c6 c7 c8 c9 hB; replace hs := Nat.lt_of_lt_of_le hs hB.size; clear hB)))
        have HS := Lib.hid (fun W (hW : Above w1 W) => (above10 hs c0 c1 c2 c3 c4 c5 c6 c7 c8 c9 hW))
        refine wp_region_below (by kernel_rfl) (by kernel_rfl) ?_
        repeat (first
          | (refine BigFrame.wpQuiet_skip (by rfl) ?_; (try simp only [Act.put, List.setIfInBounds_toArray, List.set_cons_zero, List.set_cons_succ]))
          | (refine BigFrame.wpQuiet_want (by rfl) (fun K hK => ?_); apply Exists.intro; refine ⟨fun W hW => ?_, hK _ ?_⟩; (focus (obtain ⟨z0, z1, z2, z3, z4, z5, z6, z7, z8, z9⟩ := HS.out _ hW; go_simp; (first | done | with_reducible rfl | (fail) | (rw [if_neg (by omega)]; go_simp; (first | done | with_reducible rfl))))); clear hK K; (try simp only [Act.put, List.setIfInBounds_toArray, List.set_cons_zero, List.set_cons_succ])))
        refine wpQuiet_nil ?_
        intro w2 hB
        clear HS
        replace hB : Below w1.heap.size w1 w2 := hB
        replace hA := bel2 hA hB; obtain ⟨c0, c1, c2, c3, c4, c5, c6, c7, c8, c9⟩ := above10 hs c0 c1 c2 c3 c4 c5 c6 c7 c8 c9 hB; replace hs := Nat.lt_of_lt_of_le hs hB.size; clear hB
        go_wp2
        all_goals
          go_ret
          refine ⟨?_, hA⟩
          clear hA hs c0 c1 c2 c3 c4 c5 c6 c7 c8 c9
          (try have hi := HI.out)
          first | (simp; done) | (simp; grind) | grind
    | false =>
      cases hd with
      | true =>
        by_cases hi : i = 0
        · subst hi
          go_enter Try.func22, Try.ntmps22
          go_wp2_with ((go_at_call 29; ((with_reducible refine (GW.out _).mono ?_); rintro e w1 ⟨rfl, hB⟩; replace hA := bel2 hA hB; obtain ⟨c0, c1, c2, c3, c4, c5, c6, c7, c8, c9⟩ := above10 hs c0 c1 c2 c3 c4 c5 c6 c7 c8 c9 hB; replace hs := Nat.lt_of_lt_of_le hs hB.size; clear hB)))
          have HS := Lib.hid (fun W (hW : Above w1 W) => (above10 hs c0 c1 c2 c3 c4 c5 c6 c7 c8 c9 hW))
          refine wp_region_below (by kernel_rfl) (by kernel_rfl) ?_
          repeat (first
            | (refine BigFrame.wpQuiet_skip (by rfl) ?_; (try simp only [Act.put, List.setIfInBounds_toArray, List.set_cons_zero, List.set_cons_succ]))
            | (refine BigFrame.wpQuiet_want (by rfl) (fun K hK => ?_); apply Exists.intro; refine ⟨fun W hW => ?_, hK _ ?_⟩; (focus (obtain ⟨z0, z1, z2, z3, z4, z5, z6, z7, z8, z9⟩ := HS.out _ hW; go_simp; (first | done | with_reducible rfl | (fail) | (rw [if_neg (by omega)]; go_simp; (first | done | with_reducible rfl))))); clear hK K; (try simp only [Act.put, List.setIfInBounds_toArray, List.set_cons_zero, List.set_cons_succ])))
          refine wpQuiet_nil ?_
          intro w2 hB
          clear HS
          replace hB : Below w1.heap.size w1 w2 := hB
          replace hA := bel2 hA hB; obtain ⟨c0, c1, c2, c3, c4, c5, c6, c7, c8, c9⟩ := above10 hs c0 c1 c2 c3 c4 c5 c6 c7 c8 c9 hB; replace hs := Nat.lt_of_lt_of_le hs hB.size; clear hB
          go_wp2
          all_goals
            go_ret
            refine ⟨?_, hA⟩
            clear hA hs c0 c1 c2 c3 c4 c5 c6 c7 c8 c9
            (try have hi := HI.out)
            first | (simp; done) | (simp; grind) | grind
        · have hi' : decide (i = 0) = false := decide_eq_false hi
          have HI := Lib.hid hi
          have hi2 : (i == 0) = false := by simp [hi]
          skip
          clear hi
          go_enter Try.func22, Try.ntmps22
          go_wp2_with ((go_at_call 29; ((with_reducible refine (GW.out _).mono ?_); rintro e w1 ⟨rfl, hB⟩; replace hA := bel2 hA hB; obtain ⟨c0, c1, c2, c3, c4, c5, c6, c7, c8, c9⟩ := above10 hs c0 c1 c2 c3 c4 c5 c6 c7 c8 c9 hB; replace hs := Nat.lt_of_lt_of_le hs hB.size; clear hB)))
          have HS := Lib.hid (fun W (hW : Above w1 W) => (above10 hs c0 c1 c2 c3 c4 c5 c6 c7 c8 c9 hW))
          refine wp_region_below (by kernel_rfl) (by kernel_rfl) ?_
          repeat (first
            | (refine BigFrame.wpQuiet_skip (by rfl) ?_; (try simp only [Act.put, List.setIfInBounds_toArray, List.set_cons_zero, List.set_cons_succ]))
            | (refine BigFrame.wpQuiet_want (by rfl) (fun K hK => ?_); apply Exists.intro; refine ⟨fun W hW => ?_, hK _ ?_⟩; (focus (obtain ⟨z0, z1, z2, z3, z4, z5, z6, z7, z8, z9⟩ := HS.out _ hW; go_simp; (first | done | with_reducible rfl | (fail) | (rw [if_neg (by omega)]; go_simp; (first | done | with_reducible rfl))))); clear hK K; (try simp only [Act.put, List.setIfInBounds_toArray, List.set_cons_zero, List.set_cons_succ])))
          refine wpQuiet_nil ?_
          intro w2 hB
          clear HS
          replace hB : Below w1.heap.size w1 w2 := hB
          replace hA := bel2 hA hB; obtain ⟨c0, c1, c2, c3, c4, c5, c6, c7, c8, c9⟩ := above10 hs c0 c1 c2 c3 c4 c5 c6 c7 c8 c9 hB; replace hs := Nat.lt_of_lt_of_le hs hB.size; clear hB
          go_wp2
          all_goals
            go_ret
            refine ⟨?_, hA⟩
            clear hA hs c0 c1 c2 c3 c4 c5 c6 c7 c8 c9
            (try have hi := HI.out)
            first | (simp; done) | (simp; grind) | grind
      | false =>
        by_cases hi : i = 0
        · subst hi
          go_enter Try.func22, Try.ntmps22
          go_wp2_with ((go_at_call 29; ((with_reducible refine (GW.out _).mono ?_); rintro e w1 ⟨rfl, hB⟩; replace hA := bel2 hA hB; obtain ⟨c0, c1, c2, c3, c4, c5, c6, c7, c8, c9⟩ := above10 hs c0 c1 c2 c3 c4 c5 c6 c7 c8 c9 hB; replace hs := Nat.lt_of_lt_of_le hs hB.size; clear hB)))
          have HS := Lib.hid (fun W (hW : Above w1 W) => (above10 hs c0 c1 c2 c3 c4 c5 c6 c7 c8 c9 hW))
          refine wp_region_below (by kernel_rfl) (by kernel_rfl) ?_
          repeat (first
            | (refine BigFrame.wpQuiet_skip (by rfl) ?_; (try simp only [Act.put, List.setIfInBounds_toArray, List.set_cons_zero, List.set_cons_succ]))
            | (refine BigFrame.wpQuiet_want (by rfl) (fun K hK => ?_); apply Exists.intro; refine ⟨fun W hW => ?_, hK _ ?_⟩; (focus (obtain ⟨z0, z1, z2, z3, z4, z5, z6, z7, z8, z9⟩ := HS.out _ hW; go_simp; (first | done | with_reducible rfl | (fail) | (rw [if_neg (by omega)]; go_simp; (first | done | with_reducible rfl))))); clear hK K; (try simp only [Act.put, List.setIfInBounds_toArray, List.set_cons_zero, List.set_cons_succ])))
          refine wpQuiet_nil ?_
          intro w2 hB
          clear HS
          replace hB : Below w1.heap.size w1 w2 := hB
          replace hA := bel2 hA hB; obtain ⟨c0, c1, c2, c3, c4, c5, c6, c7, c8, c9⟩ := above10 hs c0 c1 c2 c3 c4 c5 c6 c7 c8 c9 hB; replace hs := Nat.lt_of_lt_of_le hs hB.size; clear hB
          go_wp2_with (first
            | (go_at_call 29; ((with_reducible refine (GI.out _).mono ?_); rintro e w3 ⟨rfl, hB⟩; replace hA := bel2 hA hB; obtain ⟨c0, c1, c2, c3, c4, c5, c6, c7, c8, c9⟩ := above10 hs c0 c1 c2 c3 c4 c5 c6 c7 c8 c9 hB; replace hs := Nat.lt_of_lt_of_le hs hB.size; clear hB))
            | (go_at_call 29; ((with_reducible refine (GT.out _).mono ?_); rintro e w4 ⟨rfl, hB⟩; replace hA := bel2 hA hB; obtain ⟨c0, c1, c2, c3, c4, c5, c6, c7, c8, c9⟩ := above10 hs c0 c1 c2 c3 c4 c5 c6 c7 c8 c9 hB; replace hs := Nat.lt_of_lt_of_le hs hB.size; clear hB)))
          all_goals
            go_ret
            refine ⟨?_, hA⟩
            clear hA hs c0 c1 c2 c3 c4 c5 c6 c7 c8 c9
            (try have hi := HI.out)
            first | (simp; done) | (simp; grind) | grind
        · have hi' : decide (i = 0) = false := decide_eq_false hi
          have HI := Lib.hid hi
          have hi2 : (i == 0) = false := by simp [hi]
          skip
          clear hi
          go_enter Try.func22, Try.ntmps22
          go_wp2_with ((go_at_call 29; ((with_reducible refine (GW.out _).mono ?_); rintro e w1 ⟨rfl, hB⟩; replace hA := bel2 hA hB; obtain ⟨c0, c1, c2, c3, c4, c5, c6, c7, c8, c9⟩ := above10 hs c0 c1 c2 c3 c4 c5 c6 c7 c8 c9 hB; replace hs := Nat.lt_of_lt_of_le hs hB.size; clear hB)))
          have HS := Lib.hid (fun W (hW : Above w1 W) => (above10 hs c0 c1 c2 c3 c4 c5 c6 c7 c8 c9 hW))
          refine wp_region_below (by kernel_rfl) (by kernel_rfl) ?_
          repeat (first
            | (refine BigFrame.wpQuiet_skip (by rfl) ?_; (try simp only [Act.put, List.setIfInBounds_toArray, List.set_cons_zero, List.set_cons_succ]))
            | (refine BigFrame.wpQuiet_want (by rfl) (fun K hK => ?_); apply Exists.intro; refine ⟨fun W hW => ?_, hK _ ?_⟩; (focus (obtain ⟨z0, z1, z2, z3, z4, z5, z6, z7, z8, z9⟩ := HS.out _ hW; go_simp; (first | done | with_reducible rfl | (fail) | (rw [if_neg (by omega)]; go_simp; (first | done | with_reducible rfl))))); clear hK K; (try simp only [Act.put, List.setIfInBounds_toArray, List.set_cons_zero, List.set_cons_succ])))
          refine wpQuiet_nil ?_
          intro w2 hB
          clear HS
          replace hB : Below w1.heap.size w1 w2 := hB
          replace hA := bel2 hA hB; obtain ⟨c0, c1, c2, c3, c4, c5, c6, c7, c8, c9⟩ := above10 hs c0 c1 c2 c3 c4 c5 c6 c7 c8 c9 hB; replace hs := Nat.lt_of_lt_of_le hs hB.size; clear hB
          go_wp2_with (first
            | (go_at_call 29; ((with_reducible refine (GI.out _).mono ?_); rintro e w3 ⟨rfl, hB⟩; replace hA := bel2 hA hB; obtain ⟨c0, c1, c2, c3, c4, c5, c6, c7, c8, c9⟩ := above10 hs c0 c1 c2 c3 c4 c5 c6 c7 c8 c9 hB; replace hs := Nat.lt_of_lt_of_le hs hB.size; clear hB))
            | (go_at_call 29; ((with_reducible refine (GT.out _).mono ?_); rintro e w4 ⟨rfl, hB⟩; replace hA := bel2 hA hB; obtain ⟨c0, c1, c2, c3, c4, c5, c6, c7, c8, c9⟩ := above10 hs c0 c1 c2 c3 c4 c5 c6 c7 c8 c9 hB; replace hs := Nat.lt_of_lt_of_le hs hB.size; clear hB)))
          all_goals
            go_ret
            refine ⟨?_, hA⟩
            clear hA hs c0 c1 c2 c3 c4 c5 c6 c7 c8 c9
            (try have hi := HI.out)
            first | (simp; done) | (simp; grind) | grind

theorem isB_4 (g : Int) (a : Option Addr) (len cap : Nat) (ht hv hc i t : Int) (mk hd : Bool) (l : List EntryC) (hl : l.length = len) : isB (⟨g, 4, a, len, cap, ht, hv, hc, i, t, mk, hd⟩ : PartC) l = (wB g 0 999 && (!mk && (!hd && (decide ((len : Int) = 0) && (decide (ht = 0 ∧ hv = 0 ∧ hc = 0) && (wB i 1 1099511627776 && wB t 1 1099511627776)))))) := by
  have hl0 : l = [] ↔ len = 0 := by rw [← hl]; exact List.length_eq_zero_iff.symm
  rw [Bool.eq_iff_iff, isB_iff]
  simp only [Bool.and_eq_true, wB_iff, hl0, decide_eq_true_eq, Bool.not_eq_true']
  grind
set_option maxRecDepth 100000 in
set_option maxHeartbeats 8000000 in
theorem refIs4_any (g : Int) (a : Option Addr) (len cap : Nat) (ht hv hc i t : Int) (mk hd : Bool) (l : List EntryC) (w : World) (h1 : HasE w (⟨g, 4, a, len, cap, ht, hv, hc, i, t, mk, hd⟩ : PartC) l) : Gives Try.prog 22 #[(⟨g, 4, a, len, cap, ht, hv, hc, i, t, mk, hd⟩ : PartC).val] w (.bool (isB (⟨g, 4, a, len, cap, ht, hv, hc, i, t, mk, hd⟩ : PartC) l)) := by
  have hV := Lib.hid (isB_4 g a len cap ht hv hc i t mk hd l h1.1)
  rw [hV.out]
  clear hV
  have GW := Lib.hid (refWithin_any g 0 999)
  have hH := fun w => beqHard ht hv hc 0 0 0 w
  have GM := Lib.hid (fun L => refMark_any (⟨g, 4, a, L, cap, ht, hv, hc, i, t, mk, hd⟩ : PartC))
  have hm := h1.2.1
  dsimp only at hm
  clear h1
  generalize wB g 0 999 = bw at *
  generalize decide (ht = 0 ∧ hv = 0 ∧ hc = 0) = bH at *
  dsimp only at *
  generalize wB i 1 1099511627776 = bI at *
  generalize wB t 1 1099511627776 = bT at *
  dsimp only [PartC.val] at *
  unfold Gives
  have hA := bel_alloc (Below.refl w.heap.size w) (.cells #[.int .i64 g, .int .i64 4, .slice a len cap, .int .i64 ht, .int .i64 hv, .int .i64 hc, .int .i64 i, .int .i64 t, .bool mk, .bool hd] 70)
  have hs : w.heap.size < (w.alloc (.cells #[.int .i64 g, .int .i64 4, .slice a len cap, .int .i64 ht, .int .i64 hv, .int .i64 hc, .int .i64 i, .int .i64 t, .bool mk, .bool hd] 70)).heap.size := by simp
  have c0 : (w.alloc (.cells #[.int .i64 g, .int .i64 4, .slice a len cap, .int .i64 ht, .int .i64 hv, .int .i64 hc, .int .i64 i, .int .i64 t, .bool mk, .bool hd] 70)).cell? ⟨w.heap.size, 0, none⟩ = some (.int .i64 g) := cell_of_row _ _ 0 _ _ _ (World.alloc_heap_new w _)
  have c1 : (w.alloc (.cells #[.int .i64 g, .int .i64 4, .slice a len cap, .int .i64 ht, .int .i64 hv, .int .i64 hc, .int .i64 i, .int .i64 t, .bool mk, .bool hd] 70)).cell? ⟨w.heap.size, 1, none⟩ = some (.int .i64 4) := cell_of_row _ _ 1 _ _ _ (World.alloc_heap_new w _)
  have c2 : (w.alloc (.cells #[.int .i64 g, .int .i64 4, .slice a len cap, .int .i64 ht, .int .i64 hv, .int .i64 hc, .int .i64 i, .int .i64 t, .bool mk, .bool hd] 70)).cell? ⟨w.heap.size, 2, none⟩ = some (.slice a len cap) := cell_of_row _ _ 2 _ _ _ (World.alloc_heap_new w _)
  have c3 : (w.alloc (.cells #[.int .i64 g, .int .i64 4, .slice a len cap, .int .i64 ht, .int .i64 hv, .int .i64 hc, .int .i64 i, .int .i64 t, .bool mk, .bool hd] 70)).cell? ⟨w.heap.size, 3, none⟩ = some (.int .i64 ht) := cell_of_row _ _ 3 _ _ _ (World.alloc_heap_new w _)
  have c4 : (w.alloc (.cells #[.int .i64 g, .int .i64 4, .slice a len cap, .int .i64 ht, .int .i64 hv, .int .i64 hc, .int .i64 i, .int .i64 t, .bool mk, .bool hd] 70)).cell? ⟨w.heap.size, 4, none⟩ = some (.int .i64 hv) := cell_of_row _ _ 4 _ _ _ (World.alloc_heap_new w _)
  have c5 : (w.alloc (.cells #[.int .i64 g, .int .i64 4, .slice a len cap, .int .i64 ht, .int .i64 hv, .int .i64 hc, .int .i64 i, .int .i64 t, .bool mk, .bool hd] 70)).cell? ⟨w.heap.size, 5, none⟩ = some (.int .i64 hc) := cell_of_row _ _ 5 _ _ _ (World.alloc_heap_new w _)
  have c6 : (w.alloc (.cells #[.int .i64 g, .int .i64 4, .slice a len cap, .int .i64 ht, .int .i64 hv, .int .i64 hc, .int .i64 i, .int .i64 t, .bool mk, .bool hd] 70)).cell? ⟨w.heap.size, 6, none⟩ = some (.int .i64 i) := cell_of_row _ _ 6 _ _ _ (World.alloc_heap_new w _)
  have c7 : (w.alloc (.cells #[.int .i64 g, .int .i64 4, .slice a len cap, .int .i64 ht, .int .i64 hv, .int .i64 hc, .int .i64 i, .int .i64 t, .bool mk, .bool hd] 70)).cell? ⟨w.heap.size, 7, none⟩ = some (.int .i64 t) := cell_of_row _ _ 7 _ _ _ (World.alloc_heap_new w _)
  have c8 : (w.alloc (.cells #[.int .i64 g, .int .i64 4, .slice a len cap, .int .i64 ht, .int .i64 hv, .int .i64 hc, .int .i64 i, .int .i64 t, .bool mk, .bool hd] 70)).cell? ⟨w.heap.size, 8, none⟩ = some (.bool mk) := cell_of_row _ _ 8 _ _ _ (World.alloc_heap_new w _)
  have c9 : (w.alloc (.cells #[.int .i64 g, .int .i64 4, .slice a len cap, .int .i64 ht, .int .i64 hv, .int .i64 hc, .int .i64 i, .int .i64 t, .bool mk, .bool hd] 70)).cell? ⟨w.heap.size, 9, none⟩ = some (.bool hd) := cell_of_row _ _ 9 _ _ _ (World.alloc_heap_new w _)
  cases bw with
  | false =>
    go_enter Try.func22, Try.ntmps22
    go_wp2_with ((go_at_call 29; ((with_reducible refine (GW.out _).mono ?_); rintro e w1 ⟨rfl, hB⟩; replace hA := bel2 hA hB; obtain ⟨c0, c1, c2, c3, c4, c5, c6, c7, c8, c9⟩ := above10 hs c0 c1 c2 c3 c4 c5 c6 c7 c8 c9 hB; replace hs := Nat.lt_of_lt_of_le hs hB.size; clear hB)))
    all_goals
      go_ret
      refine ⟨?_, hA⟩
      clear hA hs c0 c1 c2 c3 c4 c5 c6 c7 c8 c9
      (try have hi := HI.out)
      first | (simp; done) | (simp; grind) | grind
  | true =>
    cases mk with
    | true =>
      by_cases hi : i = 0
      · subst hi
        go_enter Try.func22, Try.ntmps22
        go_wp2_with ((go_at_call 29; ((with_reducible refine (GW.out _).mono ?_); rintro e w1 ⟨rfl, hB⟩; replace hA := bel2 hA hB; obtain ⟨c0, c1, c2, c3, c4, c5, c6, c7, c8, c9⟩ := above10 hs c0 c1 c2 c3 c4 c5 c6 c7 c8 c9 hB; replace hs := Nat.lt_of_lt_of_le hs hB.size; clear hB)))
        have HS := Lib.hid (fun W (hW : Above w1 W) => (above10 hs c0 c1 c2 c3 c4 c5 c6 c7 c8 c9 hW))
        refine wp_region_below (by kernel_rfl) (by kernel_rfl) ?_
        repeat (first
          | (refine BigFrame.wpQuiet_skip (by rfl) ?_; (try simp only [Act.put, List.setIfInBounds_toArray, List.set_cons_zero, List.set_cons_succ]))
          | (refine BigFrame.wpQuiet_want (by rfl) (fun K hK => ?_); apply Exists.intro; refine ⟨fun W hW => ?_, hK _ ?_⟩; (focus (obtain ⟨z0, z1, z2, z3, z4, z5, z6, z7, z8, z9⟩ := HS.out _ hW; go_simp; (first | done | with_reducible rfl | (fail) | (rw [if_neg (by omega)]; go_simp; (first | done | with_reducible rfl))))); clear hK K; (try simp only [Act.put, List.setIfInBounds_toArray, List.set_cons_zero, List.set_cons_succ])))
        refine wpQuiet_nil ?_
        intro w2 hB
        clear HS
        replace hB : Below w1.heap.size w1 w2 := hB
        replace hA := bel2 hA hB; obtain ⟨c0, c1, c2, c3, c4, c5, c6, c7, c8, c9⟩ := above10 hs c0 c1 c2 c3 c4 c5 c6 c7 c8 c9 hB; replace hs := Nat.lt_of_lt_of_le hs hB.size; clear hB
        go_wp2
        all_goals
          go_ret
          refine ⟨?_, hA⟩
          clear hA hs c0 c1 c2 c3 c4 c5 c6 c7 c8 c9
          (try have hi := HI.out)
          first | (simp; done) | (simp; grind) | grind
      · have hi' : decide (i = 0) = false := decide_eq_false hi
        have HI := Lib.hid hi
        have hi2 : (i == 0) = false := by simp [hi]
        skip
        clear hi
        go_enter Try.func22, Try.ntmps22
        go_wp2_with ((go_at_call 29; ((with_reducible refine (GW.out _).mono ?_); rintro e w1 ⟨rfl, hB⟩; replace hA := bel2 hA hB; obtain ⟨c0, c1, c2, c3, c4, c5, c6, c7, c8, c9⟩ := above10 hs c0 c1 c2 c3 c4 c5 c6 c7 c8 c9 hB; replace hs := Nat.lt_of_lt_of_le hs hB.size; clear hB)))
        have HS := Lib.hid (fun W (hW : Above w1 W) => (above10 hs c0 c1 c2 c3 c4 c5 c6 c7 c8 c9 hW))
        refine wp_region_below (by kernel_rfl) (by kernel_rfl) ?_
        repeat (first
          | (refine BigFrame.wpQuiet_skip (by rfl) ?_; (try simp only [Act.put, List.setIfInBounds_toArray, List.set_cons_zero, List.set_cons_succ]))
          | (refine BigFrame.wpQuiet_want (by rfl) (fun K hK => ?_); apply Exists.intro; refine ⟨fun W hW => ?_, hK _ ?_⟩; (focus (obtain ⟨z0, z1, z2, z3, z4, z5, z6, z7, z8, z9⟩ := HS.out _ hW; go_simp; (first | done | with_reducible rfl | (fail) | (rw [if_neg (by omega)]; go_simp; (first | done | with_reducible rfl))))); clear hK K; (try simp only [Act.put, List.setIfInBounds_toArray, List.set_cons_zero, List.set_cons_succ])))
        refine wpQuiet_nil ?_
        intro w2 hB
        clear HS
        replace hB : Below w1.heap.size w1 w2 := hB
        replace hA := bel2 hA hB; obtain ⟨c0, c1, c2, c3, c4, c5, c6, c7, c8, c9⟩ := above10 hs c0 c1 c2 c3 c4 c5 c6 c7 c8 c9 hB; replace hs := Nat.lt_of_lt_of_le hs hB.size; clear hB
        go_wp2
        all_goals
          go_ret
          refine ⟨?_, hA⟩
          clear hA hs c0 c1 c2 c3 c4 c5 c6 c7 c8 c9
          (try have hi := HI.out)
          first | (simp; done) | (simp; grind) | grind
    | false =>
      cases hd with
      | true =>
        by_cases hi : i = 0
        · subst hi
          go_enter Try.func22, Try.ntmps22
          go_wp2_with ((go_at_call 29; ((with_reducible refine (GW.out _).mono ?_); rintro e w1 ⟨rfl, hB⟩; replace hA := bel2 hA hB; obtain ⟨c0, c1, c2, c3, c4, c5, c6, c7, c8, c9⟩ := above10 hs c0 c1 c2 c3 c4 c5 c6 c7 c8 c9 hB; replace hs := Nat.lt_of_lt_of_le hs hB.size; clear hB)))
          have HS := Lib.hid (fun W (hW : Above w1 W) => (above10 hs c0 c1 c2 c3 c4 c5 c6 c7 c8 c9 hW))
          refine wp_region_below (by kernel_rfl) (by kernel_rfl) ?_
          repeat (first
            | (refine BigFrame.wpQuiet_skip (by rfl) ?_; (try simp only [Act.put, List.setIfInBounds_toArray, List.set_cons_zero, List.set_cons_succ]))
            | (refine BigFrame.wpQuiet_want (by rfl) (fun K hK => ?_); apply Exists.intro; refine ⟨fun W hW => ?_, hK _ ?_⟩; (focus (obtain ⟨z0, z1, z2, z3, z4, z5, z6, z7, z8, z9⟩ := HS.out _ hW; go_simp; (first | done | with_reducible rfl | (fail) | (rw [if_neg (by omega)]; go_simp; (first | done | with_reducible rfl))))); clear hK K; (try simp only [Act.put, List.setIfInBounds_toArray, List.set_cons_zero, List.set_cons_succ])))
          refine wpQuiet_nil ?_
          intro w2 hB
          clear HS
          replace hB : Below w1.heap.size w1 w2 := hB
          replace hA := bel2 hA hB; obtain ⟨c0, c1, c2, c3, c4, c5, c6, c7, c8, c9⟩ := above10 hs c0 c1 c2 c3 c4 c5 c6 c7 c8 c9 hB; replace hs := Nat.lt_of_lt_of_le hs hB.size; clear hB
          go_wp2
          all_goals
            go_ret
            refine ⟨?_, hA⟩
            clear hA hs c0 c1 c2 c3 c4 c5 c6 c7 c8 c9
            (try have hi := HI.out)
            first | (simp; done) | (simp; grind) | grind
        · have hi' : decide (i = 0) = false := decide_eq_false hi
          have HI := Lib.hid hi
          have hi2 : (i == 0) = false := by simp [hi]
          skip
          clear hi
          go_enter Try.func22, Try.ntmps22
          go_wp2_with ((go_at_call 29; ((with_reducible refine (GW.out _).mono ?_); rintro e w1 ⟨rfl, hB⟩; replace hA := bel2 hA hB; obtain ⟨c0, c1, c2, c3, c4, c5, c6, c7, c8, c9⟩ := above10 hs c0 c1 c2 c3 c4 c5 c6 c7 c8 c9 hB; replace hs := Nat.lt_of_lt_of_le hs hB.size; clear hB)))
          have HS := Lib.hid (fun W (hW : Above w1 W) => (above10 hs c0 c1 c2 c3 c4 c5 c6 c7 c8 c9 hW))
          refine wp_region_below (by kernel_rfl) (by kernel_rfl) ?_
          repeat (first
            | (refine BigFrame.wpQuiet_skip (by rfl) ?_; (try simp only [Act.put, List.setIfInBounds_toArray, List.set_cons_zero, List.set_cons_succ]))
            | (refine BigFrame.wpQuiet_want (by rfl) (fun K hK => ?_); apply Exists.intro; refine ⟨fun W hW => ?_, hK _ ?_⟩; (focus (obtain ⟨z0, z1, z2, z3, z4, z5, z6, z7, z8, z9⟩ := HS.out _ hW; go_simp; (first | done | with_reducible rfl | (fail) | (rw [if_neg (by omega)]; go_simp; (first | done | with_reducible rfl))))); clear hK K; (try simp only [Act.put, List.setIfInBounds_toArray, List.set_cons_zero, List.set_cons_succ])))
          refine wpQuiet_nil ?_
          intro w2 hB
          clear HS
          replace hB : Below w1.heap.size w1 w2 := hB
          replace hA := bel2 hA hB; obtain ⟨c0, c1, c2, c3, c4, c5, c6, c7, c8, c9⟩ := above10 hs c0 c1 c2 c3 c4 c5 c6 c7 c8 c9 hB; replace hs := Nat.lt_of_lt_of_le hs hB.size; clear hB
          go_wp2
          all_goals
            go_ret
            refine ⟨?_, hA⟩
            clear hA hs c0 c1 c2 c3 c4 c5 c6 c7 c8 c9
            (try have hi := HI.out)
            first | (simp; done) | (simp; grind) | grind
      | false =>
        by_cases hi : i = 0
        · subst hi
          go_enter Try.func22, Try.ntmps22
          go_wp2_with ((go_at_call 29; ((with_reducible refine (GW.out _).mono ?_); rintro e w1 ⟨rfl, hB⟩; replace hA := bel2 hA hB; obtain ⟨c0, c1, c2, c3, c4, c5, c6, c7, c8, c9⟩ := above10 hs c0 c1 c2 c3 c4 c5 c6 c7 c8 c9 hB; replace hs := Nat.lt_of_lt_of_le hs hB.size; clear hB)))
          have HS := Lib.hid (fun W (hW : Above w1 W) => (above10 hs c0 c1 c2 c3 c4 c5 c6 c7 c8 c9 hW))
          refine wp_region_below (by kernel_rfl) (by kernel_rfl) ?_
          repeat (first
            | (refine BigFrame.wpQuiet_skip (by rfl) ?_; (try simp only [Act.put, List.setIfInBounds_toArray, List.set_cons_zero, List.set_cons_succ]))
            | (refine BigFrame.wpQuiet_want (by rfl) (fun K hK => ?_); apply Exists.intro; refine ⟨fun W hW => ?_, hK _ ?_⟩; (focus (obtain ⟨z0, z1, z2, z3, z4, z5, z6, z7, z8, z9⟩ := HS.out _ hW; go_simp; (first | done | with_reducible rfl | (fail) | (rw [if_neg (by omega)]; go_simp; (first | done | with_reducible rfl))))); clear hK K; (try simp only [Act.put, List.setIfInBounds_toArray, List.set_cons_zero, List.set_cons_succ])))
          refine wpQuiet_nil ?_
          intro w2 hB
          clear HS
          replace hB : Below w1.heap.size w1 w2 := hB
          replace hA := bel2 hA hB; obtain ⟨c0, c1, c2, c3, c4, c5, c6, c7, c8, c9⟩ := above10 hs c0 c1 c2 c3 c4 c5 c6 c7 c8 c9 hB; replace hs := Nat.lt_of_lt_of_le hs hB.size; clear hB
          go_wp2_with (first
            | (go_at_call 40; ((with_reducible refine (GM.out _ _).mono ?_); rintro e w3 ⟨rfl, hB⟩; replace hA := bel2 hA hB; obtain ⟨c0, c1, c2, c3, c4, c5, c6, c7, c8, c9⟩ := above10 hs c0 c1 c2 c3 c4 c5 c6 c7 c8 c9 hB; replace hs := Nat.lt_of_lt_of_le hs hB.size; clear hB)))
          all_goals
            go_ret
            refine ⟨?_, hA⟩
            clear hA hs c0 c1 c2 c3 c4 c5 c6 c7 c8 c9
            (try have hi := HI.out)
            first | (simp; done) | (simp; grind) | grind
        · have hi' : decide (i = 0) = false := decide_eq_false hi
          have HI := Lib.hid hi
          have hi2 : (i == 0) = false := by simp [hi]
          skip
          clear hi
          go_enter Try.func22, Try.ntmps22
          go_wp2_with ((go_at_call 29; ((with_reducible refine (GW.out _).mono ?_); rintro e w1 ⟨rfl, hB⟩; replace hA := bel2 hA hB; obtain ⟨c0, c1, c2, c3, c4, c5, c6, c7, c8, c9⟩ := above10 hs c0 c1 c2 c3 c4 c5 c6 c7 c8 c9 hB; replace hs := Nat.lt_of_lt_of_le hs hB.size; clear hB)))
          have HS := Lib.hid (fun W (hW : Above w1 W) => (above10 hs c0 c1 c2 c3 c4 c5 c6 c7 c8 c9 hW))
          refine wp_region_below (by kernel_rfl) (by kernel_rfl) ?_
          repeat (first
            | (refine BigFrame.wpQuiet_skip (by rfl) ?_; (try simp only [Act.put, List.setIfInBounds_toArray, List.set_cons_zero, List.set_cons_succ]))
            | (refine BigFrame.wpQuiet_want (by rfl) (fun K hK => ?_); apply Exists.intro; refine ⟨fun W hW => ?_, hK _ ?_⟩; (focus (obtain ⟨z0, z1, z2, z3, z4, z5, z6, z7, z8, z9⟩ := HS.out _ hW; go_simp; (first | done | with_reducible rfl | (fail) | (rw [if_neg (by omega)]; go_simp; (first | done | with_reducible rfl))))); clear hK K; (try simp only [Act.put, List.setIfInBounds_toArray, List.set_cons_zero, List.set_cons_succ])))
          refine wpQuiet_nil ?_
          intro w2 hB
          clear HS
          replace hB : Below w1.heap.size w1 w2 := hB
          replace hA := bel2 hA hB; obtain ⟨c0, c1, c2, c3, c4, c5, c6, c7, c8, c9⟩ := above10 hs c0 c1 c2 c3 c4 c5 c6 c7 c8 c9 hB; replace hs := Nat.lt_of_lt_of_le hs hB.size; clear hB
          go_wp2_with (first
            | (go_at_call 40; ((with_reducible refine (GM.out _ _).mono ?_); rintro e w3 ⟨rfl, hB⟩; replace hA := bel2 hA hB; obtain ⟨c0, c1, c2, c3, c4, c5, c6, c7, c8, c9⟩ := above10 hs c0 c1 c2 c3 c4 c5 c6 c7 c8 c9 hB; replace hs := Nat.lt_of_lt_of_le hs hB.size; clear hB)))
          all_goals
            go_ret
            refine ⟨?_, hA⟩
            clear hA hs c0 c1 c2 c3 c4 c5 c6 c7 c8 c9
            (try have hi := HI.out)
            first | (simp; done) | (simp; grind) | grind

theorem isB_6 (g : Int) (a : Option Addr) (len cap : Nat) (ht hv hc i t : Int) (mk hd : Bool) (l : List EntryC) (hl : l.length = len) : isB (⟨g, 6, a, len, cap, ht, hv, hc, i, t, mk, hd⟩ : PartC) l = (wB g 0 999 && (areB 1099511627776 l && ((mk || (hd || !decide ((len : Int) = 0))) && ((mk && (wB i 1 1099511627776 && wB t 1 1099511627776) || (!mk && (decide (i = 0) && decide (t = 0)))) && (hd && hardB ht hv hc || !hd && decide (ht = 0 ∧ hv = 0 ∧ hc = 0)))))) := by
  have hl0 : l = [] ↔ len = 0 := by rw [← hl]; exact List.length_eq_zero_iff.symm
  rw [Bool.eq_iff_iff, isB_iff]
  cases mk <;> cases hd <;> simp [isFwdB, wB_iff, hl0] <;> grind
set_option maxRecDepth 100000 in
set_option maxHeartbeats 8000000 in
theorem refIs6_any (g : Int) (a : Option Addr) (len cap : Nat) (ht hv hc i t : Int) (mk hd : Bool) (l : List EntryC) (w : World) (h1 : HasE w (⟨g, 6, a, len, cap, ht, hv, hc, i, t, mk, hd⟩ : PartC) l) : Gives Try.prog 22 #[(⟨g, 6, a, len, cap, ht, hv, hc, i, t, mk, hd⟩ : PartC).val] w (.bool (isB (⟨g, 6, a, len, cap, ht, hv, hc, i, t, mk, hd⟩ : PartC) l)) := by
  have hV := Lib.hid (isB_6 g a len cap ht hv hc i t mk hd l h1.1)
  rw [hV.out]
  clear hV
  have GW := Lib.hid (refWithin_any g 0 999)
  have hH := fun w => beqHard ht hv hc 0 0 0 w
  have GE := Lib.hid (fun W (hB : Below w.heap.size w W) => (show Gives Try.prog 38 #[.slice a len cap, .bool false] W (.bool (areB 1099511627776 l)) from refEntries_any a len cap l h1.1 h1.2.1 false W (h1.below hB).2.2))
  have GH := Lib.hid (fun W => (show Gives Try.prog 39 #[.agg #[.int .i64 ht, .int .i64 hv, .int .i64 hc]] W (.bool (hardB ht hv hc)) from by rw [← hardB_swap]; exact refIsHard_any ht hv hc W))
  have GM := Lib.hid (fun L => refMark_any (⟨g, 6, a, L, cap, ht, hv, hc, i, t, mk, hd⟩ : PartC))
  have hm := h1.2.1
  dsimp only at hm
  clear h1
  generalize wB g 0 999 = bw at *
  generalize decide (ht = 0 ∧ hv = 0 ∧ hc = 0) = bH at *
  dsimp only at *
  generalize areB 1099511627776 l = bA at *
  generalize hardB ht hv hc = bX at *
  generalize (wB i 1 1099511627776 && wB t 1 1099511627776) = bI at *
  dsimp only [PartC.val] at *
  unfold Gives
  have hA := bel_alloc (Below.refl w.heap.size w) (.cells #[.int .i64 g, .int .i64 6, .slice a len cap, .int .i64 ht, .int .i64 hv, .int .i64 hc, .int .i64 i, .int .i64 t, .bool mk, .bool hd] 70)
  have hs : w.heap.size < (w.alloc (.cells #[.int .i64 g, .int .i64 6, .slice a len cap, .int .i64 ht, .int .i64 hv, .int .i64 hc, .int .i64 i, .int .i64 t, .bool mk, .bool hd] 70)).heap.size := by simp
  have c0 : (w.alloc (.cells #[.int .i64 g, .int .i64 6, .slice a len cap, .int .i64 ht, .int .i64 hv, .int .i64 hc, .int .i64 i, .int .i64 t, .bool mk, .bool hd] 70)).cell? ⟨w.heap.size, 0, none⟩ = some (.int .i64 g) := cell_of_row _ _ 0 _ _ _ (World.alloc_heap_new w _)
  have c1 : (w.alloc (.cells #[.int .i64 g, .int .i64 6, .slice a len cap, .int .i64 ht, .int .i64 hv, .int .i64 hc, .int .i64 i, .int .i64 t, .bool mk, .bool hd] 70)).cell? ⟨w.heap.size, 1, none⟩ = some (.int .i64 6) := cell_of_row _ _ 1 _ _ _ (World.alloc_heap_new w _)
  have c2 : (w.alloc (.cells #[.int .i64 g, .int .i64 6, .slice a len cap, .int .i64 ht, .int .i64 hv, .int .i64 hc, .int .i64 i, .int .i64 t, .bool mk, .bool hd] 70)).cell? ⟨w.heap.size, 2, none⟩ = some (.slice a len cap) := cell_of_row _ _ 2 _ _ _ (World.alloc_heap_new w _)
  have c3 : (w.alloc (.cells #[.int .i64 g, .int .i64 6, .slice a len cap, .int .i64 ht, .int .i64 hv, .int .i64 hc, .int .i64 i, .int .i64 t, .bool mk, .bool hd] 70)).cell? ⟨w.heap.size, 3, none⟩ = some (.int .i64 ht) := cell_of_row _ _ 3 _ _ _ (World.alloc_heap_new w _)
  have c4 : (w.alloc (.cells #[.int .i64 g, .int .i64 6, .slice a len cap, .int .i64 ht, .int .i64 hv, .int .i64 hc, .int .i64 i, .int .i64 t, .bool mk, .bool hd] 70)).cell? ⟨w.heap.size, 4, none⟩ = some (.int .i64 hv) := cell_of_row _ _ 4 _ _ _ (World.alloc_heap_new w _)
  have c5 : (w.alloc (.cells #[.int .i64 g, .int .i64 6, .slice a len cap, .int .i64 ht, .int .i64 hv, .int .i64 hc, .int .i64 i, .int .i64 t, .bool mk, .bool hd] 70)).cell? ⟨w.heap.size, 5, none⟩ = some (.int .i64 hc) := cell_of_row _ _ 5 _ _ _ (World.alloc_heap_new w _)
  have c6 : (w.alloc (.cells #[.int .i64 g, .int .i64 6, .slice a len cap, .int .i64 ht, .int .i64 hv, .int .i64 hc, .int .i64 i, .int .i64 t, .bool mk, .bool hd] 70)).cell? ⟨w.heap.size, 6, none⟩ = some (.int .i64 i) := cell_of_row _ _ 6 _ _ _ (World.alloc_heap_new w _)
  have c7 : (w.alloc (.cells #[.int .i64 g, .int .i64 6, .slice a len cap, .int .i64 ht, .int .i64 hv, .int .i64 hc, .int .i64 i, .int .i64 t, .bool mk, .bool hd] 70)).cell? ⟨w.heap.size, 7, none⟩ = some (.int .i64 t) := cell_of_row _ _ 7 _ _ _ (World.alloc_heap_new w _)
  have c8 : (w.alloc (.cells #[.int .i64 g, .int .i64 6, .slice a len cap, .int .i64 ht, .int .i64 hv, .int .i64 hc, .int .i64 i, .int .i64 t, .bool mk, .bool hd] 70)).cell? ⟨w.heap.size, 8, none⟩ = some (.bool mk) := cell_of_row _ _ 8 _ _ _ (World.alloc_heap_new w _)
  have c9 : (w.alloc (.cells #[.int .i64 g, .int .i64 6, .slice a len cap, .int .i64 ht, .int .i64 hv, .int .i64 hc, .int .i64 i, .int .i64 t, .bool mk, .bool hd] 70)).cell? ⟨w.heap.size, 9, none⟩ = some (.bool hd) := cell_of_row _ _ 9 _ _ _ (World.alloc_heap_new w _)
  cases bw with
  | false =>
    go_enter Try.func22, Try.ntmps22
    go_wp2_with ((go_at_call 29; ((with_reducible refine (GW.out _).mono ?_); rintro e w1 ⟨rfl, hB⟩; replace hA := bel2 hA hB; obtain ⟨c0, c1, c2, c3, c4, c5, c6, c7, c8, c9⟩ := above10 hs c0 c1 c2 c3 c4 c5 c6 c7 c8 c9 hB; replace hs := Nat.lt_of_lt_of_le hs hB.size; clear hB)))
    all_goals
      go_ret
      refine ⟨?_, hA⟩
      clear hA hs c0 c1 c2 c3 c4 c5 c6 c7 c8 c9
      (try have hi := HI.out)
      first | (simp; done) | (simp; grind) | grind
  | true =>
    cases mk with
    | true =>
      cases hd with
      | true =>
        by_cases hi : i = 0
        · subst hi
          go_enter Try.func22, Try.ntmps22
          go_wp2_with ((go_at_call 29; ((with_reducible refine (GW.out _).mono ?_); rintro e w1 ⟨rfl, hB⟩; replace hA := bel2 hA hB; obtain ⟨c0, c1, c2, c3, c4, c5, c6, c7, c8, c9⟩ := above10 hs c0 c1 c2 c3 c4 c5 c6 c7 c8 c9 hB; replace hs := Nat.lt_of_lt_of_le hs hB.size; clear hB)))
          have HS := Lib.hid (fun W (hW : Above w1 W) => (above10 hs c0 c1 c2 c3 c4 c5 c6 c7 c8 c9 hW))
          refine wp_region_below (by kernel_rfl) (by kernel_rfl) ?_
          repeat (first
            | (refine BigFrame.wpQuiet_skip (by rfl) ?_; (try simp only [Act.put, List.setIfInBounds_toArray, List.set_cons_zero, List.set_cons_succ]))
            | (refine BigFrame.wpQuiet_want (by rfl) (fun K hK => ?_); apply Exists.intro; refine ⟨fun W hW => ?_, hK _ ?_⟩; (focus (obtain ⟨z0, z1, z2, z3, z4, z5, z6, z7, z8, z9⟩ := HS.out _ hW; go_simp; (first | done | with_reducible rfl | (fail) | (rw [if_neg (by omega)]; go_simp; (first | done | with_reducible rfl))))); clear hK K; (try simp only [Act.put, List.setIfInBounds_toArray, List.set_cons_zero, List.set_cons_succ])))
          refine wpQuiet_nil ?_
          intro w2 hB
          clear HS
          replace hB : Below w1.heap.size w1 w2 := hB
          replace hA := bel2 hA hB; obtain ⟨c0, c1, c2, c3, c4, c5, c6, c7, c8, c9⟩ := above10 hs c0 c1 c2 c3 c4 c5 c6 c7 c8 c9 hB; replace hs := Nat.lt_of_lt_of_le hs hB.size; clear hB
          go_wp2_with (first
            | (go_at_call 38; ((with_reducible refine (GE.out _ hA).mono ?_); rintro e w3 ⟨rfl, hB⟩; replace hA := bel2 hA hB; obtain ⟨c0, c1, c2, c3, c4, c5, c6, c7, c8, c9⟩ := above10 hs c0 c1 c2 c3 c4 c5 c6 c7 c8 c9 hB; replace hs := Nat.lt_of_lt_of_le hs hB.size; clear hB))
            | (go_at_call 40; ((with_reducible refine (GM.out _ _).mono ?_); rintro e w4 ⟨rfl, hB⟩; replace hA := bel2 hA hB; obtain ⟨c0, c1, c2, c3, c4, c5, c6, c7, c8, c9⟩ := above10 hs c0 c1 c2 c3 c4 c5 c6 c7 c8 c9 hB; replace hs := Nat.lt_of_lt_of_le hs hB.size; clear hB))
            | (go_at_call 39; ((with_reducible refine (GH.out _).mono ?_); rintro e w5 ⟨rfl, hB⟩; replace hA := bel2 hA hB; obtain ⟨c0, c1, c2, c3, c4, c5, c6, c7, c8, c9⟩ := above10 hs c0 c1 c2 c3 c4 c5 c6 c7 c8 c9 hB; replace hs := Nat.lt_of_lt_of_le hs hB.size; clear hB)))
          all_goals
            go_ret
            refine ⟨?_, hA⟩
            clear hA hs c0 c1 c2 c3 c4 c5 c6 c7 c8 c9
            (try have hi := HI.out)
            first | (simp; done) | (simp; grind) | grind
        · have hi' : decide (i = 0) = false := decide_eq_false hi
          have HI := Lib.hid hi
          have hi2 : (i == 0) = false := by simp [hi]
          skip
          clear hi
          go_enter Try.func22, Try.ntmps22
          go_wp2_with ((go_at_call 29; ((with_reducible refine (GW.out _).mono ?_); rintro e w1 ⟨rfl, hB⟩; replace hA := bel2 hA hB; obtain ⟨c0, c1, c2, c3, c4, c5, c6, c7, c8, c9⟩ := above10 hs c0 c1 c2 c3 c4 c5 c6 c7 c8 c9 hB; replace hs := Nat.lt_of_lt_of_le hs hB.size; clear hB)))
          have HS := Lib.hid (fun W (hW : Above w1 W) => (above10 hs c0 c1 c2 c3 c4 c5 c6 c7 c8 c9 hW))
          refine wp_region_below (by kernel_rfl) (by kernel_rfl) ?_
          repeat (first
            | (refine BigFrame.wpQuiet_skip (by rfl) ?_; (try simp only [Act.put, List.setIfInBounds_toArray, List.set_cons_zero, List.set_cons_succ]))
            | (refine BigFrame.wpQuiet_want (by rfl) (fun K hK => ?_); apply Exists.intro; refine ⟨fun W hW => ?_, hK _ ?_⟩; (focus (obtain ⟨z0, z1, z2, z3, z4, z5, z6, z7, z8, z9⟩ := HS.out _ hW; go_simp; (first | done | with_reducible rfl | (fail) | (rw [if_neg (by omega)]; go_simp; (first | done | with_reducible rfl))))); clear hK K; (try simp only [Act.put, List.setIfInBounds_toArray, List.set_cons_zero, List.set_cons_succ])))
          refine wpQuiet_nil ?_
          intro w2 hB
          clear HS
          replace hB : Below w1.heap.size w1 w2 := hB
          replace hA := bel2 hA hB; obtain ⟨c0, c1, c2, c3, c4, c5, c6, c7, c8, c9⟩ := above10 hs c0 c1 c2 c3 c4 c5 c6 c7 c8 c9 hB; replace hs := Nat.lt_of_lt_of_le hs hB.size; clear hB
          go_wp2_with (first
            | (go_at_call 38; ((with_reducible refine (GE.out _ hA).mono ?_); rintro e w3 ⟨rfl, hB⟩; replace hA := bel2 hA hB; obtain ⟨c0, c1, c2, c3, c4, c5, c6, c7, c8, c9⟩ := above10 hs c0 c1 c2 c3 c4 c5 c6 c7 c8 c9 hB; replace hs := Nat.lt_of_lt_of_le hs hB.size; clear hB))
            | (go_at_call 40; ((with_reducible refine (GM.out _ _).mono ?_); rintro e w4 ⟨rfl, hB⟩; replace hA := bel2 hA hB; obtain ⟨c0, c1, c2, c3, c4, c5, c6, c7, c8, c9⟩ := above10 hs c0 c1 c2 c3 c4 c5 c6 c7 c8 c9 hB; replace hs := Nat.lt_of_lt_of_le hs hB.size; clear hB))
            | (go_at_call 39; ((with_reducible refine (GH.out _).mono ?_); rintro e w5 ⟨rfl, hB⟩; replace hA := bel2 hA hB; obtain ⟨c0, c1, c2, c3, c4, c5, c6, c7, c8, c9⟩ := above10 hs c0 c1 c2 c3 c4 c5 c6 c7 c8 c9 hB; replace hs := Nat.lt_of_lt_of_le hs hB.size; clear hB)))
          all_goals
            go_ret
            refine ⟨?_, hA⟩
            clear hA hs c0 c1 c2 c3 c4 c5 c6 c7 c8 c9
            (try have hi := HI.out)
            first | (simp; done) | (simp; grind) | grind
      | false =>
        by_cases hi : i = 0
        · subst hi
          go_enter Try.func22, Try.ntmps22
          go_wp2_with ((go_at_call 29; ((with_reducible refine (GW.out _).mono ?_); rintro e w1 ⟨rfl, hB⟩; replace hA := bel2 hA hB; obtain ⟨c0, c1, c2, c3, c4, c5, c6, c7, c8, c9⟩ := above10 hs c0 c1 c2 c3 c4 c5 c6 c7 c8 c9 hB; replace hs := Nat.lt_of_lt_of_le hs hB.size; clear hB)))
          have HS := Lib.hid (fun W (hW : Above w1 W) => (above10 hs c0 c1 c2 c3 c4 c5 c6 c7 c8 c9 hW))
          refine wp_region_below (by kernel_rfl) (by kernel_rfl) ?_
          repeat (first
            | (refine BigFrame.wpQuiet_skip (by rfl) ?_; (try simp only [Act.put, List.setIfInBounds_toArray, List.set_cons_zero, List.set_cons_succ]))
            | (refine BigFrame.wpQuiet_want (by rfl) (fun K hK => ?_); apply Exists.intro; refine ⟨fun W hW => ?_, hK _ ?_⟩; (focus (obtain ⟨z0, z1, z2, z3, z4, z5, z6, z7, z8, z9⟩ := HS.out _ hW; go_simp; (first | done | with_reducible rfl | (fail) | (rw [if_neg (by omega)]; go_simp; (first | done | with_reducible rfl))))); clear hK K; (try simp only [Act.put, List.setIfInBounds_toArray, List.set_cons_zero, List.set_cons_succ])))
          refine wpQuiet_nil ?_
          intro w2 hB
          clear HS
          replace hB : Below w1.heap.size w1 w2 := hB
          replace hA := bel2 hA hB; obtain ⟨c0, c1, c2, c3, c4, c5, c6, c7, c8, c9⟩ := above10 hs c0 c1 c2 c3 c4 c5 c6 c7 c8 c9 hB; replace hs := Nat.lt_of_lt_of_le hs hB.size; clear hB
          go_wp2_with (first
            | (go_at_call 38; ((with_reducible refine (GE.out _ hA).mono ?_); rintro e w3 ⟨rfl, hB⟩; replace hA := bel2 hA hB; obtain ⟨c0, c1, c2, c3, c4, c5, c6, c7, c8, c9⟩ := above10 hs c0 c1 c2 c3 c4 c5 c6 c7 c8 c9 hB; replace hs := Nat.lt_of_lt_of_le hs hB.size; clear hB))
            | (go_at_call 40; ((with_reducible refine (GM.out _ _).mono ?_); rintro e w4 ⟨rfl, hB⟩; replace hA := bel2 hA hB; obtain ⟨c0, c1, c2, c3, c4, c5, c6, c7, c8, c9⟩ := above10 hs c0 c1 c2 c3 c4 c5 c6 c7 c8 c9 hB; replace hs := Nat.lt_of_lt_of_le hs hB.size; clear hB))
            | (go_at_call 39; ((with_reducible refine (GH.out _).mono ?_); rintro e w5 ⟨rfl, hB⟩; replace hA := bel2 hA hB; obtain ⟨c0, c1, c2, c3, c4, c5, c6, c7, c8, c9⟩ := above10 hs c0 c1 c2 c3 c4 c5 c6 c7 c8 c9 hB; replace hs := Nat.lt_of_lt_of_le hs hB.size; clear hB)))
          all_goals
            go_ret
            refine ⟨?_, hA⟩
            clear hA hs c0 c1 c2 c3 c4 c5 c6 c7 c8 c9
            (try have hi := HI.out)
            first | (simp; done) | (simp; grind) | grind
        · have hi' : decide (i = 0) = false := decide_eq_false hi
          have HI := Lib.hid hi
          have hi2 : (i == 0) = false := by simp [hi]
          skip
          clear hi
          go_enter Try.func22, Try.ntmps22
          go_wp2_with ((go_at_call 29; ((with_reducible refine (GW.out _).mono ?_); rintro e w1 ⟨rfl, hB⟩; replace hA := bel2 hA hB; obtain ⟨c0, c1, c2, c3, c4, c5, c6, c7, c8, c9⟩ := above10 hs c0 c1 c2 c3 c4 c5 c6 c7 c8 c9 hB; replace hs := Nat.lt_of_lt_of_le hs hB.size; clear hB)))
          have HS := Lib.hid (fun W (hW : Above w1 W) => (above10 hs c0 c1 c2 c3 c4 c5 c6 c7 c8 c9 hW))
          refine wp_region_below (by kernel_rfl) (by kernel_rfl) ?_
          repeat (first
            | (refine BigFrame.wpQuiet_skip (by rfl) ?_; (try simp only [Act.put, List.setIfInBounds_toArray, List.set_cons_zero, List.set_cons_succ]))
            | (refine BigFrame.wpQuiet_want (by rfl) (fun K hK => ?_); apply Exists.intro; refine ⟨fun W hW => ?_, hK _ ?_⟩; (focus (obtain ⟨z0, z1, z2, z3, z4, z5, z6, z7, z8, z9⟩ := HS.out _ hW; go_simp; (first | done | with_reducible rfl | (fail) | (rw [if_neg (by omega)]; go_simp; (first | done | with_reducible rfl))))); clear hK K; (try simp only [Act.put, List.setIfInBounds_toArray, List.set_cons_zero, List.set_cons_succ])))
          refine wpQuiet_nil ?_
          intro w2 hB
          clear HS
          replace hB : Below w1.heap.size w1 w2 := hB
          replace hA := bel2 hA hB; obtain ⟨c0, c1, c2, c3, c4, c5, c6, c7, c8, c9⟩ := above10 hs c0 c1 c2 c3 c4 c5 c6 c7 c8 c9 hB; replace hs := Nat.lt_of_lt_of_le hs hB.size; clear hB
          go_wp2_with (first
            | (go_at_call 38; ((with_reducible refine (GE.out _ hA).mono ?_); rintro e w3 ⟨rfl, hB⟩; replace hA := bel2 hA hB; obtain ⟨c0, c1, c2, c3, c4, c5, c6, c7, c8, c9⟩ := above10 hs c0 c1 c2 c3 c4 c5 c6 c7 c8 c9 hB; replace hs := Nat.lt_of_lt_of_le hs hB.size; clear hB))
            | (go_at_call 40; ((with_reducible refine (GM.out _ _).mono ?_); rintro e w4 ⟨rfl, hB⟩; replace hA := bel2 hA hB; obtain ⟨c0, c1, c2, c3, c4, c5, c6, c7, c8, c9⟩ := above10 hs c0 c1 c2 c3 c4 c5 c6 c7 c8 c9 hB; replace hs := Nat.lt_of_lt_of_le hs hB.size; clear hB))
            | (go_at_call 39; ((with_reducible refine (GH.out _).mono ?_); rintro e w5 ⟨rfl, hB⟩; replace hA := bel2 hA hB; obtain ⟨c0, c1, c2, c3, c4, c5, c6, c7, c8, c9⟩ := above10 hs c0 c1 c2 c3 c4 c5 c6 c7 c8 c9 hB; replace hs := Nat.lt_of_lt_of_le hs hB.size; clear hB)))
          all_goals
            go_ret
            refine ⟨?_, hA⟩
            clear hA hs c0 c1 c2 c3 c4 c5 c6 c7 c8 c9
            (try have hi := HI.out)
            first | (simp; done) | (simp; grind) | grind
    | false =>
      cases hd with
      | true =>
        by_cases hi : i = 0
        · subst hi
          go_enter Try.func22, Try.ntmps22
          go_wp2_with ((go_at_call 29; ((with_reducible refine (GW.out _).mono ?_); rintro e w1 ⟨rfl, hB⟩; replace hA := bel2 hA hB; obtain ⟨c0, c1, c2, c3, c4, c5, c6, c7, c8, c9⟩ := above10 hs c0 c1 c2 c3 c4 c5 c6 c7 c8 c9 hB; replace hs := Nat.lt_of_lt_of_le hs hB.size; clear hB)))
          have HS := Lib.hid (fun W (hW : Above w1 W) => (above10 hs c0 c1 c2 c3 c4 c5 c6 c7 c8 c9 hW))
          refine wp_region_below (by kernel_rfl) (by kernel_rfl) ?_
          repeat (first
            | (refine BigFrame.wpQuiet_skip (by rfl) ?_; (try simp only [Act.put, List.setIfInBounds_toArray, List.set_cons_zero, List.set_cons_succ]))
            | (refine BigFrame.wpQuiet_want (by rfl) (fun K hK => ?_); apply Exists.intro; refine ⟨fun W hW => ?_, hK _ ?_⟩; (focus (obtain ⟨z0, z1, z2, z3, z4, z5, z6, z7, z8, z9⟩ := HS.out _ hW; go_simp; (first | done | with_reducible rfl | (fail) | (rw [if_neg (by omega)]; go_simp; (first | done | with_reducible rfl))))); clear hK K; (try simp only [Act.put, List.setIfInBounds_toArray, List.set_cons_zero, List.set_cons_succ])))
          refine wpQuiet_nil ?_
          intro w2 hB
          clear HS
          replace hB : Below w1.heap.size w1 w2 := hB
          replace hA := bel2 hA hB; obtain ⟨c0, c1, c2, c3, c4, c5, c6, c7, c8, c9⟩ := above10 hs c0 c1 c2 c3 c4 c5 c6 c7 c8 c9 hB; replace hs := Nat.lt_of_lt_of_le hs hB.size; clear hB
          go_wp2_with (first
            | (go_at_call 38; ((with_reducible refine (GE.out _ hA).mono ?_); rintro e w3 ⟨rfl, hB⟩; replace hA := bel2 hA hB; obtain ⟨c0, c1, c2, c3, c4, c5, c6, c7, c8, c9⟩ := above10 hs c0 c1 c2 c3 c4 c5 c6 c7 c8 c9 hB; replace hs := Nat.lt_of_lt_of_le hs hB.size; clear hB))
            | (go_at_call 40; ((with_reducible refine (GM.out _ _).mono ?_); rintro e w4 ⟨rfl, hB⟩; replace hA := bel2 hA hB; obtain ⟨c0, c1, c2, c3, c4, c5, c6, c7, c8, c9⟩ := above10 hs c0 c1 c2 c3 c4 c5 c6 c7 c8 c9 hB; replace hs := Nat.lt_of_lt_of_le hs hB.size; clear hB))
            | (go_at_call 39; ((with_reducible refine (GH.out _).mono ?_); rintro e w5 ⟨rfl, hB⟩; replace hA := bel2 hA hB; obtain ⟨c0, c1, c2, c3, c4, c5, c6, c7, c8, c9⟩ := above10 hs c0 c1 c2 c3 c4 c5 c6 c7 c8 c9 hB; replace hs := Nat.lt_of_lt_of_le hs hB.size; clear hB)))
          all_goals
            go_ret
            refine ⟨?_, hA⟩
            clear hA hs c0 c1 c2 c3 c4 c5 c6 c7 c8 c9
            (try have hi := HI.out)
            first | (simp; done) | (simp; grind) | grind
        · have hi' : decide (i = 0) = false := decide_eq_false hi
          have HI := Lib.hid hi
          have hi2 : (i == 0) = false := by simp [hi]
          skip
          clear hi
          go_enter Try.func22, Try.ntmps22
          go_wp2_with ((go_at_call 29; ((with_reducible refine (GW.out _).mono ?_); rintro e w1 ⟨rfl, hB⟩; replace hA := bel2 hA hB; obtain ⟨c0, c1, c2, c3, c4, c5, c6, c7, c8, c9⟩ := above10 hs c0 c1 c2 c3 c4 c5 c6 c7 c8 c9 hB; replace hs := Nat.lt_of_lt_of_le hs hB.size; clear hB)))
          have HS := Lib.hid (fun W (hW : Above w1 W) => (above10 hs c0 c1 c2 c3 c4 c5 c6 c7 c8 c9 hW))
          refine wp_region_below (by kernel_rfl) (by kernel_rfl) ?_
          repeat (first
            | (refine BigFrame.wpQuiet_skip (by rfl) ?_; (try simp only [Act.put, List.setIfInBounds_toArray, List.set_cons_zero, List.set_cons_succ]))
            | (refine BigFrame.wpQuiet_want (by rfl) (fun K hK => ?_); apply Exists.intro; refine ⟨fun W hW => ?_, hK _ ?_⟩; (focus (obtain ⟨z0, z1, z2, z3, z4, z5, z6, z7, z8, z9⟩ := HS.out _ hW; go_simp; (first | done | with_reducible rfl | (fail) | (rw [if_neg (by omega)]; go_simp; (first | done | with_reducible rfl))))); clear hK K; (try simp only [Act.put, List.setIfInBounds_toArray, List.set_cons_zero, List.set_cons_succ])))
          refine wpQuiet_nil ?_
          intro w2 hB
          clear HS
          replace hB : Below w1.heap.size w1 w2 := hB
          replace hA := bel2 hA hB; obtain ⟨c0, c1, c2, c3, c4, c5, c6, c7, c8, c9⟩ := above10 hs c0 c1 c2 c3 c4 c5 c6 c7 c8 c9 hB; replace hs := Nat.lt_of_lt_of_le hs hB.size; clear hB
          go_wp2_with (first
            | (go_at_call 38; ((with_reducible refine (GE.out _ hA).mono ?_); rintro e w3 ⟨rfl, hB⟩; replace hA := bel2 hA hB; obtain ⟨c0, c1, c2, c3, c4, c5, c6, c7, c8, c9⟩ := above10 hs c0 c1 c2 c3 c4 c5 c6 c7 c8 c9 hB; replace hs := Nat.lt_of_lt_of_le hs hB.size; clear hB))
            | (go_at_call 40; ((with_reducible refine (GM.out _ _).mono ?_); rintro e w4 ⟨rfl, hB⟩; replace hA := bel2 hA hB; obtain ⟨c0, c1, c2, c3, c4, c5, c6, c7, c8, c9⟩ := above10 hs c0 c1 c2 c3 c4 c5 c6 c7 c8 c9 hB; replace hs := Nat.lt_of_lt_of_le hs hB.size; clear hB))
            | (go_at_call 39; ((with_reducible refine (GH.out _).mono ?_); rintro e w5 ⟨rfl, hB⟩; replace hA := bel2 hA hB; obtain ⟨c0, c1, c2, c3, c4, c5, c6, c7, c8, c9⟩ := above10 hs c0 c1 c2 c3 c4 c5 c6 c7 c8 c9 hB; replace hs := Nat.lt_of_lt_of_le hs hB.size; clear hB)))
          all_goals
            go_ret
            refine ⟨?_, hA⟩
            clear hA hs c0 c1 c2 c3 c4 c5 c6 c7 c8 c9
            (try have hi := HI.out)
            first | (simp; done) | (simp; grind) | grind
      | false =>
        by_cases hi : i = 0
        · subst hi
          go_enter Try.func22, Try.ntmps22
          go_wp2_with ((go_at_call 29; ((with_reducible refine (GW.out _).mono ?_); rintro e w1 ⟨rfl, hB⟩; replace hA := bel2 hA hB; obtain ⟨c0, c1, c2, c3, c4, c5, c6, c7, c8, c9⟩ := above10 hs c0 c1 c2 c3 c4 c5 c6 c7 c8 c9 hB; replace hs := Nat.lt_of_lt_of_le hs hB.size; clear hB)))
          have HS := Lib.hid (fun W (hW : Above w1 W) => (above10 hs c0 c1 c2 c3 c4 c5 c6 c7 c8 c9 hW))
          refine wp_region_below (by kernel_rfl) (by kernel_rfl) ?_
          repeat (first
            | (refine BigFrame.wpQuiet_skip (by rfl) ?_; (try simp only [Act.put, List.setIfInBounds_toArray, List.set_cons_zero, List.set_cons_succ]))
            | (refine BigFrame.wpQuiet_want (by rfl) (fun K hK => ?_); apply Exists.intro; refine ⟨fun W hW => ?_, hK _ ?_⟩; (focus (obtain ⟨z0, z1, z2, z3, z4, z5, z6, z7, z8, z9⟩ := HS.out _ hW; go_simp; (first | done | with_reducible rfl | (fail) | (rw [if_neg (by omega)]; go_simp; (first | done | with_reducible rfl))))); clear hK K; (try simp only [Act.put, List.setIfInBounds_toArray, List.set_cons_zero, List.set_cons_succ])))
          refine wpQuiet_nil ?_
          intro w2 hB
          clear HS
          replace hB : Below w1.heap.size w1 w2 := hB
          replace hA := bel2 hA hB; obtain ⟨c0, c1, c2, c3, c4, c5, c6, c7, c8, c9⟩ := above10 hs c0 c1 c2 c3 c4 c5 c6 c7 c8 c9 hB; replace hs := Nat.lt_of_lt_of_le hs hB.size; clear hB
          go_wp2_with (first
            | (go_at_call 38; ((with_reducible refine (GE.out _ hA).mono ?_); rintro e w3 ⟨rfl, hB⟩; replace hA := bel2 hA hB; obtain ⟨c0, c1, c2, c3, c4, c5, c6, c7, c8, c9⟩ := above10 hs c0 c1 c2 c3 c4 c5 c6 c7 c8 c9 hB; replace hs := Nat.lt_of_lt_of_le hs hB.size; clear hB))
            | (go_at_call 40; ((with_reducible refine (GM.out _ _).mono ?_); rintro e w4 ⟨rfl, hB⟩; replace hA := bel2 hA hB; obtain ⟨c0, c1, c2, c3, c4, c5, c6, c7, c8, c9⟩ := above10 hs c0 c1 c2 c3 c4 c5 c6 c7 c8 c9 hB; replace hs := Nat.lt_of_lt_of_le hs hB.size; clear hB))
            | (go_at_call 39; ((with_reducible refine (GH.out _).mono ?_); rintro e w5 ⟨rfl, hB⟩; replace hA := bel2 hA hB; obtain ⟨c0, c1, c2, c3, c4, c5, c6, c7, c8, c9⟩ := above10 hs c0 c1 c2 c3 c4 c5 c6 c7 c8 c9 hB; replace hs := Nat.lt_of_lt_of_le hs hB.size; clear hB)))
          all_goals
            go_ret
            refine ⟨?_, hA⟩
            clear hA hs c0 c1 c2 c3 c4 c5 c6 c7 c8 c9
            (try have hi := HI.out)
            first | (simp; done) | (simp; grind) | grind
        · have hi' : decide (i = 0) = false := decide_eq_false hi
          have HI := Lib.hid hi
          have hi2 : (i == 0) = false := by simp [hi]
          skip
          clear hi
          go_enter Try.func22, Try.ntmps22
          go_wp2_with ((go_at_call 29; ((with_reducible refine (GW.out _).mono ?_); rintro e w1 ⟨rfl, hB⟩; replace hA := bel2 hA hB; obtain ⟨c0, c1, c2, c3, c4, c5, c6, c7, c8, c9⟩ := above10 hs c0 c1 c2 c3 c4 c5 c6 c7 c8 c9 hB; replace hs := Nat.lt_of_lt_of_le hs hB.size; clear hB)))
          have HS := Lib.hid (fun W (hW : Above w1 W) => (above10 hs c0 c1 c2 c3 c4 c5 c6 c7 c8 c9 hW))
          refine wp_region_below (by kernel_rfl) (by kernel_rfl) ?_
          repeat (first
            | (refine BigFrame.wpQuiet_skip (by rfl) ?_; (try simp only [Act.put, List.setIfInBounds_toArray, List.set_cons_zero, List.set_cons_succ]))
            | (refine BigFrame.wpQuiet_want (by rfl) (fun K hK => ?_); apply Exists.intro; refine ⟨fun W hW => ?_, hK _ ?_⟩; (focus (obtain ⟨z0, z1, z2, z3, z4, z5, z6, z7, z8, z9⟩ := HS.out _ hW; go_simp; (first | done | with_reducible rfl | (fail) | (rw [if_neg (by omega)]; go_simp; (first | done | with_reducible rfl))))); clear hK K; (try simp only [Act.put, List.setIfInBounds_toArray, List.set_cons_zero, List.set_cons_succ])))
          refine wpQuiet_nil ?_
          intro w2 hB
          clear HS
          replace hB : Below w1.heap.size w1 w2 := hB
          replace hA := bel2 hA hB; obtain ⟨c0, c1, c2, c3, c4, c5, c6, c7, c8, c9⟩ := above10 hs c0 c1 c2 c3 c4 c5 c6 c7 c8 c9 hB; replace hs := Nat.lt_of_lt_of_le hs hB.size; clear hB
          go_wp2_with (first
            | (go_at_call 38; ((with_reducible refine (GE.out _ hA).mono ?_); rintro e w3 ⟨rfl, hB⟩; replace hA := bel2 hA hB; obtain ⟨c0, c1, c2, c3, c4, c5, c6, c7, c8, c9⟩ := above10 hs c0 c1 c2 c3 c4 c5 c6 c7 c8 c9 hB; replace hs := Nat.lt_of_lt_of_le hs hB.size; clear hB))
            | (go_at_call 40; ((with_reducible refine (GM.out _ _).mono ?_); rintro e w4 ⟨rfl, hB⟩; replace hA := bel2 hA hB; obtain ⟨c0, c1, c2, c3, c4, c5, c6, c7, c8, c9⟩ := above10 hs c0 c1 c2 c3 c4 c5 c6 c7 c8 c9 hB; replace hs := Nat.lt_of_lt_of_le hs hB.size; clear hB))
            | (go_at_call 39; ((with_reducible refine (GH.out _).mono ?_); rintro e w5 ⟨rfl, hB⟩; replace hA := bel2 hA hB; obtain ⟨c0, c1, c2, c3, c4, c5, c6, c7, c8, c9⟩ := above10 hs c0 c1 c2 c3 c4 c5 c6 c7 c8 c9 hB; replace hs := Nat.lt_of_lt_of_le hs hB.size; clear hB)))
          all_goals
            go_ret
            refine ⟨?_, hA⟩
            clear hA hs c0 c1 c2 c3 c4 c5 c6 c7 c8 c9
            (try have hi := HI.out)
            first | (simp; done) | (simp; grind) | grind

theorem refIs_any (p : PartC) (l : List EntryC) (w : World) (h1 : HasE w p l) : Gives Try.prog 22 #[p.val] w (.bool (isB p l)) := by
  obtain ⟨g, k, a, len, cap, ht, hv, hc, i, t, mk, hd⟩ := p
  by_cases hk : k = 1 ∨ k = 2 ∨ k = 3 ∨ k = 4 ∨ k = 5 ∨ k = 6
  · rcases hk with rfl | rfl | rfl | rfl | rfl | rfl
    · exact refIs1_any g a len cap ht hv hc i t mk hd l w h1
    · exact refIs2_any g a len cap ht hv hc i t mk hd l w h1
    · exact refIs3_any g a len cap ht hv hc i t mk hd l w h1
    · exact refIs4_any g a len cap ht hv hc i t mk hd l w h1
    · exact refIs5_any g a len cap ht hv hc i t mk hd l w h1
    · exact refIs6_any g a len cap ht hv hc i t mk hd l w h1
  · exact refIsX_any g k a len cap ht hv hc i t mk hd l hk w h1

end Go.Proofs.Ytflaanffjjidaaa
