/- PartForm, PartIs, PartIs6: in one text. -/
import Derived.Test.YtdncdlbhgaehmaaPartSame
import Derived.Test.YtdncdlbhgaehmaaPart
import Derived.Test.YtdncdlbhgaehmaaQuietC
import Derived.Lib.SmallJoins
/- The contracts of package part's forwarded and isForward. -/
namespace Go.Proofs.Ytdncdlbhgaehmaa
open Go.RowKit Go.Shelf
set_option linter.unusedVariables false
attribute [local go_sem] Oper.semAt_some wide_fn wide_round_fn

def forwardC (p : PartC) : PartC :=
  let q := if p.m then p else { p with i := 0, t := 0 }
  if p.h then q else { q with ht := 0, hv := 0, hc := 0 }
def isFwdB (p : PartC) (l : List EntryC) : Bool :=
  (p.m || (p.h || decide (p.len ≠ 0))) && ((!p.m || (wB p.i 1 1099511627776 && wB p.t 1 1099511627776)) && ((!p.h || hardB p.ht p.hv p.hc) && areB 1099511627776 l))

set_option maxRecDepth 100000 in
set_option maxHeartbeats 2000000 in
theorem forwarded_any (p : PartC) (w : World) : Gives Try.prog 66 #[p.val] w (forwardC p).val := by
  obtain ⟨g, k, a, len, cap, ht, hv, hc, i, t, mk, hd⟩ := p
  unfold Gives
  dsimp only [PartC.val]
  cases mk with
  | false =>
    cases hd with
    | false =>
      show Calls _ _ _ _ fun e w' => e = .returned (.agg #[.int .i64 g, .int .i64 k, .slice a len cap, .int .i64 0, .int .i64 0, .int .i64 0, .int .i64 0, .int .i64 0, .bool false, .bool false]) ∧ Below w.heap.size w w'
      go_enter Try.func66, Try.ntmps66
      go_wp2
      refine bodyPost_ret (v := (.agg #[.int .i64 g, .int .i64 k, .slice a len cap, .int .i64 0, .int .i64 0, .int .i64 0, .int .i64 0, .int .i64 0, .bool false, .bool false])) (by simp [results, Try.results66, go_sem]) rfl ⟨rfl, ?_⟩
      exact bel_alloc (bel_alloc (Below.refl _ _) _) _
    | true =>
      show Calls _ _ _ _ fun e w' => e = .returned (.agg #[.int .i64 g, .int .i64 k, .slice a len cap, .int .i64 ht, .int .i64 hv, .int .i64 hc, .int .i64 0, .int .i64 0, .bool false, .bool true]) ∧ Below w.heap.size w w'
      go_enter Try.func66, Try.ntmps66
      go_wp2
      refine bodyPost_ret (v := (.agg #[.int .i64 g, .int .i64 k, .slice a len cap, .int .i64 ht, .int .i64 hv, .int .i64 hc, .int .i64 0, .int .i64 0, .bool false, .bool true])) (by simp [results, Try.results66, go_sem]) rfl ⟨rfl, ?_⟩
      exact bel_alloc (bel_alloc (Below.refl _ _) _) _
  | true =>
    cases hd with
    | false =>
      show Calls _ _ _ _ fun e w' => e = .returned (.agg #[.int .i64 g, .int .i64 k, .slice a len cap, .int .i64 0, .int .i64 0, .int .i64 0, .int .i64 i, .int .i64 t, .bool true, .bool false]) ∧ Below w.heap.size w w'
      go_enter Try.func66, Try.ntmps66
      go_wp2
      refine bodyPost_ret (v := (.agg #[.int .i64 g, .int .i64 k, .slice a len cap, .int .i64 0, .int .i64 0, .int .i64 0, .int .i64 i, .int .i64 t, .bool true, .bool false])) (by simp [results, Try.results66, go_sem]) rfl ⟨rfl, ?_⟩
      exact bel_alloc (bel_alloc (Below.refl _ _) _) _
    | true =>
      show Calls _ _ _ _ fun e w' => e = .returned (.agg #[.int .i64 g, .int .i64 k, .slice a len cap, .int .i64 ht, .int .i64 hv, .int .i64 hc, .int .i64 i, .int .i64 t, .bool true, .bool true]) ∧ Below w.heap.size w w'
      go_enter Try.func66, Try.ntmps66
      go_wp2
      refine bodyPost_ret (v := (.agg #[.int .i64 g, .int .i64 k, .slice a len cap, .int .i64 ht, .int .i64 hv, .int .i64 hc, .int .i64 i, .int .i64 t, .bool true, .bool true])) (by simp [results, Try.results66, go_sem]) rfl ⟨rfl, ?_⟩
      exact bel_alloc (bel_alloc (Below.refl _ _) _) _

set_option maxRecDepth 100000 in
set_option maxHeartbeats 4000000 in
theorem isForward_any (p : PartC) (l : List EntryC) (w : World) (h1 : HasE w p l) : Gives Try.prog 67 #[p.val] w (.bool (isFwdB p l)) := by
  have G1 := Lib.hid (isIndex_any p.i); have G2 := Lib.hid (isTerm_any p.t); have G3 := Lib.hid (isHard_any p.ht p.hv p.hc)
  have G4 := Lib.hid (fun W (hB : Below w.heap.size w W) => areEntries_any p.a p.len p.cap l h1.1 h1.2.1 1099511627776 W (h1.2.2.below hB))
  have hm := h1.2.1
  clear h1
  obtain ⟨g, k, a, len, cap, ht, hv, hc, i, t, mk, hd⟩ := p
  dsimp only [PartC.val, isFwdB] at *
  generalize areB 1099511627776 l = b4 at *
  generalize hardB ht hv hc = b3 at *
  generalize wB t 1 1099511627776 = b2 at *
  generalize wB i 1 1099511627776 = b1 at *
  unfold Gives
  have c0 : (w.alloc (.cells #[.int .i64 g, .int .i64 k, .slice a len cap, .int .i64 ht, .int .i64 hv, .int .i64 hc, .int .i64 i, .int .i64 t, .bool mk, .bool hd] 41)).cell? ⟨w.heap.size, 0, none⟩ = some (.int .i64 g) := blk_cell (Below.refl _ _) 0
  have c1 : (w.alloc (.cells #[.int .i64 g, .int .i64 k, .slice a len cap, .int .i64 ht, .int .i64 hv, .int .i64 hc, .int .i64 i, .int .i64 t, .bool mk, .bool hd] 41)).cell? ⟨w.heap.size, 1, none⟩ = some (.int .i64 k) := blk_cell (Below.refl _ _) 1
  have c2 : (w.alloc (.cells #[.int .i64 g, .int .i64 k, .slice a len cap, .int .i64 ht, .int .i64 hv, .int .i64 hc, .int .i64 i, .int .i64 t, .bool mk, .bool hd] 41)).cell? ⟨w.heap.size, 2, none⟩ = some (.slice a len cap) := blk_cell (Below.refl _ _) 2
  have c3 : (w.alloc (.cells #[.int .i64 g, .int .i64 k, .slice a len cap, .int .i64 ht, .int .i64 hv, .int .i64 hc, .int .i64 i, .int .i64 t, .bool mk, .bool hd] 41)).cell? ⟨w.heap.size, 3, none⟩ = some (.int .i64 ht) := blk_cell (Below.refl _ _) 3
  have c4 : (w.alloc (.cells #[.int .i64 g, .int .i64 k, .slice a len cap, .int .i64 ht, .int .i64 hv, .int .i64 hc, .int .i64 i, .int .i64 t, .bool mk, .bool hd] 41)).cell? ⟨w.heap.size, 4, none⟩ = some (.int .i64 hv) := blk_cell (Below.refl _ _) 4
  have c5 : (w.alloc (.cells #[.int .i64 g, .int .i64 k, .slice a len cap, .int .i64 ht, .int .i64 hv, .int .i64 hc, .int .i64 i, .int .i64 t, .bool mk, .bool hd] 41)).cell? ⟨w.heap.size, 5, none⟩ = some (.int .i64 hc) := blk_cell (Below.refl _ _) 5
  have c6 : (w.alloc (.cells #[.int .i64 g, .int .i64 k, .slice a len cap, .int .i64 ht, .int .i64 hv, .int .i64 hc, .int .i64 i, .int .i64 t, .bool mk, .bool hd] 41)).cell? ⟨w.heap.size, 6, none⟩ = some (.int .i64 i) := blk_cell (Below.refl _ _) 6
  have c7 : (w.alloc (.cells #[.int .i64 g, .int .i64 k, .slice a len cap, .int .i64 ht, .int .i64 hv, .int .i64 hc, .int .i64 i, .int .i64 t, .bool mk, .bool hd] 41)).cell? ⟨w.heap.size, 7, none⟩ = some (.int .i64 t) := blk_cell (Below.refl _ _) 7
  have c8 : (w.alloc (.cells #[.int .i64 g, .int .i64 k, .slice a len cap, .int .i64 ht, .int .i64 hv, .int .i64 hc, .int .i64 i, .int .i64 t, .bool mk, .bool hd] 41)).cell? ⟨w.heap.size, 8, none⟩ = some (.bool mk) := blk_cell (Below.refl _ _) 8
  have c9 : (w.alloc (.cells #[.int .i64 g, .int .i64 k, .slice a len cap, .int .i64 ht, .int .i64 hv, .int .i64 hc, .int .i64 i, .int .i64 t, .bool mk, .bool hd] 41)).cell? ⟨w.heap.size, 9, none⟩ = some (.bool hd) := blk_cell (Below.refl _ _) 9
  have hs : w.heap.size < (w.alloc (.cells #[.int .i64 g, .int .i64 k, .slice a len cap, .int .i64 ht, .int .i64 hv, .int .i64 hc, .int .i64 i, .int .i64 t, .bool mk, .bool hd] 41)).heap.size := by simp
  have hA : Below w.heap.size w (w.alloc (.cells #[.int .i64 g, .int .i64 k, .slice a len cap, .int .i64 ht, .int .i64 hv, .int .i64 hc, .int .i64 i, .int .i64 t, .bool mk, .bool hd] 41)) := bel_alloc (Below.refl _ _) _
  cases mk with
  | false =>
    cases hd with
    | false =>
      by_cases h0 : len = 0
      · subst h0
        go_enter Try.func67, Try.ntmps67
        go_wp2_with (first
          | (go_at_call 64; ((with_reducible refine (G1.out _).mono ?_); rintro e w1 ⟨rfl, hB⟩; replace hA := bel2 hA hB; replace c0 := (hB.cell (p := ⟨w.heap.size, 0, none⟩) hs).trans c0; replace c1 := (hB.cell (p := ⟨w.heap.size, 1, none⟩) hs).trans c1; replace c2 := (hB.cell (p := ⟨w.heap.size, 2, none⟩) hs).trans c2; replace c3 := (hB.cell (p := ⟨w.heap.size, 3, none⟩) hs).trans c3; replace c4 := (hB.cell (p := ⟨w.heap.size, 4, none⟩) hs).trans c4; replace c5 := (hB.cell (p := ⟨w.heap.size, 5, none⟩) hs).trans c5; replace c6 := (hB.cell (p := ⟨w.heap.size, 6, none⟩) hs).trans c6; replace c7 := (hB.cell (p := ⟨w.heap.size, 7, none⟩) hs).trans c7; replace c8 := (hB.cell (p := ⟨w.heap.size, 8, none⟩) hs).trans c8; replace c9 := (hB.cell (p := ⟨w.heap.size, 9, none⟩) hs).trans c9; replace hs := Nat.lt_of_lt_of_le hs hB.size; clear hB))
          | (go_at_call 65; ((with_reducible refine (G2.out _).mono ?_); rintro e w1 ⟨rfl, hB⟩; replace hA := bel2 hA hB; replace c0 := (hB.cell (p := ⟨w.heap.size, 0, none⟩) hs).trans c0; replace c1 := (hB.cell (p := ⟨w.heap.size, 1, none⟩) hs).trans c1; replace c2 := (hB.cell (p := ⟨w.heap.size, 2, none⟩) hs).trans c2; replace c3 := (hB.cell (p := ⟨w.heap.size, 3, none⟩) hs).trans c3; replace c4 := (hB.cell (p := ⟨w.heap.size, 4, none⟩) hs).trans c4; replace c5 := (hB.cell (p := ⟨w.heap.size, 5, none⟩) hs).trans c5; replace c6 := (hB.cell (p := ⟨w.heap.size, 6, none⟩) hs).trans c6; replace c7 := (hB.cell (p := ⟨w.heap.size, 7, none⟩) hs).trans c7; replace c8 := (hB.cell (p := ⟨w.heap.size, 8, none⟩) hs).trans c8; replace c9 := (hB.cell (p := ⟨w.heap.size, 9, none⟩) hs).trans c9; replace hs := Nat.lt_of_lt_of_le hs hB.size; clear hB))
          | (go_at_call 63; ((with_reducible refine (G3.out _).mono ?_); rintro e w1 ⟨rfl, hB⟩; replace hA := bel2 hA hB; replace c0 := (hB.cell (p := ⟨w.heap.size, 0, none⟩) hs).trans c0; replace c1 := (hB.cell (p := ⟨w.heap.size, 1, none⟩) hs).trans c1; replace c2 := (hB.cell (p := ⟨w.heap.size, 2, none⟩) hs).trans c2; replace c3 := (hB.cell (p := ⟨w.heap.size, 3, none⟩) hs).trans c3; replace c4 := (hB.cell (p := ⟨w.heap.size, 4, none⟩) hs).trans c4; replace c5 := (hB.cell (p := ⟨w.heap.size, 5, none⟩) hs).trans c5; replace c6 := (hB.cell (p := ⟨w.heap.size, 6, none⟩) hs).trans c6; replace c7 := (hB.cell (p := ⟨w.heap.size, 7, none⟩) hs).trans c7; replace c8 := (hB.cell (p := ⟨w.heap.size, 8, none⟩) hs).trans c8; replace c9 := (hB.cell (p := ⟨w.heap.size, 9, none⟩) hs).trans c9; replace hs := Nat.lt_of_lt_of_le hs hB.size; clear hB))
          | (go_at_call 62; ((with_reducible refine (G4.out _ hA).mono ?_); rintro e w1 ⟨rfl, hB⟩; replace hA := bel2 hA hB; replace c0 := (hB.cell (p := ⟨w.heap.size, 0, none⟩) hs).trans c0; replace c1 := (hB.cell (p := ⟨w.heap.size, 1, none⟩) hs).trans c1; replace c2 := (hB.cell (p := ⟨w.heap.size, 2, none⟩) hs).trans c2; replace c3 := (hB.cell (p := ⟨w.heap.size, 3, none⟩) hs).trans c3; replace c4 := (hB.cell (p := ⟨w.heap.size, 4, none⟩) hs).trans c4; replace c5 := (hB.cell (p := ⟨w.heap.size, 5, none⟩) hs).trans c5; replace c6 := (hB.cell (p := ⟨w.heap.size, 6, none⟩) hs).trans c6; replace c7 := (hB.cell (p := ⟨w.heap.size, 7, none⟩) hs).trans c7; replace c8 := (hB.cell (p := ⟨w.heap.size, 8, none⟩) hs).trans c8; replace c9 := (hB.cell (p := ⟨w.heap.size, 9, none⟩) hs).trans c9; replace hs := Nat.lt_of_lt_of_le hs hB.size; clear hB)))
        go_ret
        exact ⟨by simp, hA⟩
      · have h0' : (len : Int) ≠ 0 := by omega
        have hd0 := Lib.hid (show decide (len ≠ 0) = true by simp [h0])
        rw [hd0.out]
        go_enter Try.func67, Try.ntmps67
        go_wp2_with (first
          | (go_at_call 64; ((with_reducible refine (G1.out _).mono ?_); rintro e w1 ⟨rfl, hB⟩; replace hA := bel2 hA hB; replace c0 := (hB.cell (p := ⟨w.heap.size, 0, none⟩) hs).trans c0; replace c1 := (hB.cell (p := ⟨w.heap.size, 1, none⟩) hs).trans c1; replace c2 := (hB.cell (p := ⟨w.heap.size, 2, none⟩) hs).trans c2; replace c3 := (hB.cell (p := ⟨w.heap.size, 3, none⟩) hs).trans c3; replace c4 := (hB.cell (p := ⟨w.heap.size, 4, none⟩) hs).trans c4; replace c5 := (hB.cell (p := ⟨w.heap.size, 5, none⟩) hs).trans c5; replace c6 := (hB.cell (p := ⟨w.heap.size, 6, none⟩) hs).trans c6; replace c7 := (hB.cell (p := ⟨w.heap.size, 7, none⟩) hs).trans c7; replace c8 := (hB.cell (p := ⟨w.heap.size, 8, none⟩) hs).trans c8; replace c9 := (hB.cell (p := ⟨w.heap.size, 9, none⟩) hs).trans c9; replace hs := Nat.lt_of_lt_of_le hs hB.size; clear hB))
          | (go_at_call 65; ((with_reducible refine (G2.out _).mono ?_); rintro e w1 ⟨rfl, hB⟩; replace hA := bel2 hA hB; replace c0 := (hB.cell (p := ⟨w.heap.size, 0, none⟩) hs).trans c0; replace c1 := (hB.cell (p := ⟨w.heap.size, 1, none⟩) hs).trans c1; replace c2 := (hB.cell (p := ⟨w.heap.size, 2, none⟩) hs).trans c2; replace c3 := (hB.cell (p := ⟨w.heap.size, 3, none⟩) hs).trans c3; replace c4 := (hB.cell (p := ⟨w.heap.size, 4, none⟩) hs).trans c4; replace c5 := (hB.cell (p := ⟨w.heap.size, 5, none⟩) hs).trans c5; replace c6 := (hB.cell (p := ⟨w.heap.size, 6, none⟩) hs).trans c6; replace c7 := (hB.cell (p := ⟨w.heap.size, 7, none⟩) hs).trans c7; replace c8 := (hB.cell (p := ⟨w.heap.size, 8, none⟩) hs).trans c8; replace c9 := (hB.cell (p := ⟨w.heap.size, 9, none⟩) hs).trans c9; replace hs := Nat.lt_of_lt_of_le hs hB.size; clear hB))
          | (go_at_call 63; ((with_reducible refine (G3.out _).mono ?_); rintro e w1 ⟨rfl, hB⟩; replace hA := bel2 hA hB; replace c0 := (hB.cell (p := ⟨w.heap.size, 0, none⟩) hs).trans c0; replace c1 := (hB.cell (p := ⟨w.heap.size, 1, none⟩) hs).trans c1; replace c2 := (hB.cell (p := ⟨w.heap.size, 2, none⟩) hs).trans c2; replace c3 := (hB.cell (p := ⟨w.heap.size, 3, none⟩) hs).trans c3; replace c4 := (hB.cell (p := ⟨w.heap.size, 4, none⟩) hs).trans c4; replace c5 := (hB.cell (p := ⟨w.heap.size, 5, none⟩) hs).trans c5; replace c6 := (hB.cell (p := ⟨w.heap.size, 6, none⟩) hs).trans c6; replace c7 := (hB.cell (p := ⟨w.heap.size, 7, none⟩) hs).trans c7; replace c8 := (hB.cell (p := ⟨w.heap.size, 8, none⟩) hs).trans c8; replace c9 := (hB.cell (p := ⟨w.heap.size, 9, none⟩) hs).trans c9; replace hs := Nat.lt_of_lt_of_le hs hB.size; clear hB))
          | (go_at_call 62; ((with_reducible refine (G4.out _ hA).mono ?_); rintro e w1 ⟨rfl, hB⟩; replace hA := bel2 hA hB; replace c0 := (hB.cell (p := ⟨w.heap.size, 0, none⟩) hs).trans c0; replace c1 := (hB.cell (p := ⟨w.heap.size, 1, none⟩) hs).trans c1; replace c2 := (hB.cell (p := ⟨w.heap.size, 2, none⟩) hs).trans c2; replace c3 := (hB.cell (p := ⟨w.heap.size, 3, none⟩) hs).trans c3; replace c4 := (hB.cell (p := ⟨w.heap.size, 4, none⟩) hs).trans c4; replace c5 := (hB.cell (p := ⟨w.heap.size, 5, none⟩) hs).trans c5; replace c6 := (hB.cell (p := ⟨w.heap.size, 6, none⟩) hs).trans c6; replace c7 := (hB.cell (p := ⟨w.heap.size, 7, none⟩) hs).trans c7; replace c8 := (hB.cell (p := ⟨w.heap.size, 8, none⟩) hs).trans c8; replace c9 := (hB.cell (p := ⟨w.heap.size, 9, none⟩) hs).trans c9; replace hs := Nat.lt_of_lt_of_le hs hB.size; clear hB)))
        go_ret
        exact ⟨by simp, hA⟩
    | true =>
      cases b3
      all_goals
        go_enter Try.func67, Try.ntmps67
        go_wp2_with (first
          | (go_at_call 64; ((with_reducible refine (G1.out _).mono ?_); rintro e w1 ⟨rfl, hB⟩; replace hA := bel2 hA hB; replace c0 := (hB.cell (p := ⟨w.heap.size, 0, none⟩) hs).trans c0; replace c1 := (hB.cell (p := ⟨w.heap.size, 1, none⟩) hs).trans c1; replace c2 := (hB.cell (p := ⟨w.heap.size, 2, none⟩) hs).trans c2; replace c3 := (hB.cell (p := ⟨w.heap.size, 3, none⟩) hs).trans c3; replace c4 := (hB.cell (p := ⟨w.heap.size, 4, none⟩) hs).trans c4; replace c5 := (hB.cell (p := ⟨w.heap.size, 5, none⟩) hs).trans c5; replace c6 := (hB.cell (p := ⟨w.heap.size, 6, none⟩) hs).trans c6; replace c7 := (hB.cell (p := ⟨w.heap.size, 7, none⟩) hs).trans c7; replace c8 := (hB.cell (p := ⟨w.heap.size, 8, none⟩) hs).trans c8; replace c9 := (hB.cell (p := ⟨w.heap.size, 9, none⟩) hs).trans c9; replace hs := Nat.lt_of_lt_of_le hs hB.size; clear hB))
          | (go_at_call 65; ((with_reducible refine (G2.out _).mono ?_); rintro e w1 ⟨rfl, hB⟩; replace hA := bel2 hA hB; replace c0 := (hB.cell (p := ⟨w.heap.size, 0, none⟩) hs).trans c0; replace c1 := (hB.cell (p := ⟨w.heap.size, 1, none⟩) hs).trans c1; replace c2 := (hB.cell (p := ⟨w.heap.size, 2, none⟩) hs).trans c2; replace c3 := (hB.cell (p := ⟨w.heap.size, 3, none⟩) hs).trans c3; replace c4 := (hB.cell (p := ⟨w.heap.size, 4, none⟩) hs).trans c4; replace c5 := (hB.cell (p := ⟨w.heap.size, 5, none⟩) hs).trans c5; replace c6 := (hB.cell (p := ⟨w.heap.size, 6, none⟩) hs).trans c6; replace c7 := (hB.cell (p := ⟨w.heap.size, 7, none⟩) hs).trans c7; replace c8 := (hB.cell (p := ⟨w.heap.size, 8, none⟩) hs).trans c8; replace c9 := (hB.cell (p := ⟨w.heap.size, 9, none⟩) hs).trans c9; replace hs := Nat.lt_of_lt_of_le hs hB.size; clear hB))
          | (go_at_call 63; ((with_reducible refine (G3.out _).mono ?_); rintro e w1 ⟨rfl, hB⟩; replace hA := bel2 hA hB; replace c0 := (hB.cell (p := ⟨w.heap.size, 0, none⟩) hs).trans c0; replace c1 := (hB.cell (p := ⟨w.heap.size, 1, none⟩) hs).trans c1; replace c2 := (hB.cell (p := ⟨w.heap.size, 2, none⟩) hs).trans c2; replace c3 := (hB.cell (p := ⟨w.heap.size, 3, none⟩) hs).trans c3; replace c4 := (hB.cell (p := ⟨w.heap.size, 4, none⟩) hs).trans c4; replace c5 := (hB.cell (p := ⟨w.heap.size, 5, none⟩) hs).trans c5; replace c6 := (hB.cell (p := ⟨w.heap.size, 6, none⟩) hs).trans c6; replace c7 := (hB.cell (p := ⟨w.heap.size, 7, none⟩) hs).trans c7; replace c8 := (hB.cell (p := ⟨w.heap.size, 8, none⟩) hs).trans c8; replace c9 := (hB.cell (p := ⟨w.heap.size, 9, none⟩) hs).trans c9; replace hs := Nat.lt_of_lt_of_le hs hB.size; clear hB))
          | (go_at_call 62; ((with_reducible refine (G4.out _ hA).mono ?_); rintro e w1 ⟨rfl, hB⟩; replace hA := bel2 hA hB; replace c0 := (hB.cell (p := ⟨w.heap.size, 0, none⟩) hs).trans c0; replace c1 := (hB.cell (p := ⟨w.heap.size, 1, none⟩) hs).trans c1; replace c2 := (hB.cell (p := ⟨w.heap.size, 2, none⟩) hs).trans c2; replace c3 := (hB.cell (p := ⟨w.heap.size, 3, none⟩) hs).trans c3; replace c4 := (hB.cell (p := ⟨w.heap.size, 4, none⟩) hs).trans c4; replace c5 := (hB.cell (p := ⟨w.heap.size, 5, none⟩) hs).trans c5; replace c6 := (hB.cell (p := ⟨w.heap.size, 6, none⟩) hs).trans c6; replace c7 := (hB.cell (p := ⟨w.heap.size, 7, none⟩) hs).trans c7; replace c8 := (hB.cell (p := ⟨w.heap.size, 8, none⟩) hs).trans c8; replace c9 := (hB.cell (p := ⟨w.heap.size, 9, none⟩) hs).trans c9; replace hs := Nat.lt_of_lt_of_le hs hB.size; clear hB)))
        go_ret
        exact ⟨by simp, hA⟩
  | true =>
    cases b1 with
    | false =>
      go_enter Try.func67, Try.ntmps67
      go_wp2_with (first
        | (go_at_call 64; ((with_reducible refine (G1.out _).mono ?_); rintro e w1 ⟨rfl, hB⟩; replace hA := bel2 hA hB; replace c0 := (hB.cell (p := ⟨w.heap.size, 0, none⟩) hs).trans c0; replace c1 := (hB.cell (p := ⟨w.heap.size, 1, none⟩) hs).trans c1; replace c2 := (hB.cell (p := ⟨w.heap.size, 2, none⟩) hs).trans c2; replace c3 := (hB.cell (p := ⟨w.heap.size, 3, none⟩) hs).trans c3; replace c4 := (hB.cell (p := ⟨w.heap.size, 4, none⟩) hs).trans c4; replace c5 := (hB.cell (p := ⟨w.heap.size, 5, none⟩) hs).trans c5; replace c6 := (hB.cell (p := ⟨w.heap.size, 6, none⟩) hs).trans c6; replace c7 := (hB.cell (p := ⟨w.heap.size, 7, none⟩) hs).trans c7; replace c8 := (hB.cell (p := ⟨w.heap.size, 8, none⟩) hs).trans c8; replace c9 := (hB.cell (p := ⟨w.heap.size, 9, none⟩) hs).trans c9; replace hs := Nat.lt_of_lt_of_le hs hB.size; clear hB))
        | (go_at_call 65; ((with_reducible refine (G2.out _).mono ?_); rintro e w1 ⟨rfl, hB⟩; replace hA := bel2 hA hB; replace c0 := (hB.cell (p := ⟨w.heap.size, 0, none⟩) hs).trans c0; replace c1 := (hB.cell (p := ⟨w.heap.size, 1, none⟩) hs).trans c1; replace c2 := (hB.cell (p := ⟨w.heap.size, 2, none⟩) hs).trans c2; replace c3 := (hB.cell (p := ⟨w.heap.size, 3, none⟩) hs).trans c3; replace c4 := (hB.cell (p := ⟨w.heap.size, 4, none⟩) hs).trans c4; replace c5 := (hB.cell (p := ⟨w.heap.size, 5, none⟩) hs).trans c5; replace c6 := (hB.cell (p := ⟨w.heap.size, 6, none⟩) hs).trans c6; replace c7 := (hB.cell (p := ⟨w.heap.size, 7, none⟩) hs).trans c7; replace c8 := (hB.cell (p := ⟨w.heap.size, 8, none⟩) hs).trans c8; replace c9 := (hB.cell (p := ⟨w.heap.size, 9, none⟩) hs).trans c9; replace hs := Nat.lt_of_lt_of_le hs hB.size; clear hB))
        | (go_at_call 63; ((with_reducible refine (G3.out _).mono ?_); rintro e w1 ⟨rfl, hB⟩; replace hA := bel2 hA hB; replace c0 := (hB.cell (p := ⟨w.heap.size, 0, none⟩) hs).trans c0; replace c1 := (hB.cell (p := ⟨w.heap.size, 1, none⟩) hs).trans c1; replace c2 := (hB.cell (p := ⟨w.heap.size, 2, none⟩) hs).trans c2; replace c3 := (hB.cell (p := ⟨w.heap.size, 3, none⟩) hs).trans c3; replace c4 := (hB.cell (p := ⟨w.heap.size, 4, none⟩) hs).trans c4; replace c5 := (hB.cell (p := ⟨w.heap.size, 5, none⟩) hs).trans c5; replace c6 := (hB.cell (p := ⟨w.heap.size, 6, none⟩) hs).trans c6; replace c7 := (hB.cell (p := ⟨w.heap.size, 7, none⟩) hs).trans c7; replace c8 := (hB.cell (p := ⟨w.heap.size, 8, none⟩) hs).trans c8; replace c9 := (hB.cell (p := ⟨w.heap.size, 9, none⟩) hs).trans c9; replace hs := Nat.lt_of_lt_of_le hs hB.size; clear hB))
        | (go_at_call 62; ((with_reducible refine (G4.out _ hA).mono ?_); rintro e w1 ⟨rfl, hB⟩; replace hA := bel2 hA hB; replace c0 := (hB.cell (p := ⟨w.heap.size, 0, none⟩) hs).trans c0; replace c1 := (hB.cell (p := ⟨w.heap.size, 1, none⟩) hs).trans c1; replace c2 := (hB.cell (p := ⟨w.heap.size, 2, none⟩) hs).trans c2; replace c3 := (hB.cell (p := ⟨w.heap.size, 3, none⟩) hs).trans c3; replace c4 := (hB.cell (p := ⟨w.heap.size, 4, none⟩) hs).trans c4; replace c5 := (hB.cell (p := ⟨w.heap.size, 5, none⟩) hs).trans c5; replace c6 := (hB.cell (p := ⟨w.heap.size, 6, none⟩) hs).trans c6; replace c7 := (hB.cell (p := ⟨w.heap.size, 7, none⟩) hs).trans c7; replace c8 := (hB.cell (p := ⟨w.heap.size, 8, none⟩) hs).trans c8; replace c9 := (hB.cell (p := ⟨w.heap.size, 9, none⟩) hs).trans c9; replace hs := Nat.lt_of_lt_of_le hs hB.size; clear hB)))
      go_ret
      exact ⟨by simp, hA⟩
    | true =>
      cases b2 with
      | false =>
        go_enter Try.func67, Try.ntmps67
        go_wp2_with (first
          | (go_at_call 64; ((with_reducible refine (G1.out _).mono ?_); rintro e w1 ⟨rfl, hB⟩; replace hA := bel2 hA hB; replace c0 := (hB.cell (p := ⟨w.heap.size, 0, none⟩) hs).trans c0; replace c1 := (hB.cell (p := ⟨w.heap.size, 1, none⟩) hs).trans c1; replace c2 := (hB.cell (p := ⟨w.heap.size, 2, none⟩) hs).trans c2; replace c3 := (hB.cell (p := ⟨w.heap.size, 3, none⟩) hs).trans c3; replace c4 := (hB.cell (p := ⟨w.heap.size, 4, none⟩) hs).trans c4; replace c5 := (hB.cell (p := ⟨w.heap.size, 5, none⟩) hs).trans c5; replace c6 := (hB.cell (p := ⟨w.heap.size, 6, none⟩) hs).trans c6; replace c7 := (hB.cell (p := ⟨w.heap.size, 7, none⟩) hs).trans c7; replace c8 := (hB.cell (p := ⟨w.heap.size, 8, none⟩) hs).trans c8; replace c9 := (hB.cell (p := ⟨w.heap.size, 9, none⟩) hs).trans c9; replace hs := Nat.lt_of_lt_of_le hs hB.size; clear hB))
          | (go_at_call 65; ((with_reducible refine (G2.out _).mono ?_); rintro e w1 ⟨rfl, hB⟩; replace hA := bel2 hA hB; replace c0 := (hB.cell (p := ⟨w.heap.size, 0, none⟩) hs).trans c0; replace c1 := (hB.cell (p := ⟨w.heap.size, 1, none⟩) hs).trans c1; replace c2 := (hB.cell (p := ⟨w.heap.size, 2, none⟩) hs).trans c2; replace c3 := (hB.cell (p := ⟨w.heap.size, 3, none⟩) hs).trans c3; replace c4 := (hB.cell (p := ⟨w.heap.size, 4, none⟩) hs).trans c4; replace c5 := (hB.cell (p := ⟨w.heap.size, 5, none⟩) hs).trans c5; replace c6 := (hB.cell (p := ⟨w.heap.size, 6, none⟩) hs).trans c6; replace c7 := (hB.cell (p := ⟨w.heap.size, 7, none⟩) hs).trans c7; replace c8 := (hB.cell (p := ⟨w.heap.size, 8, none⟩) hs).trans c8; replace c9 := (hB.cell (p := ⟨w.heap.size, 9, none⟩) hs).trans c9; replace hs := Nat.lt_of_lt_of_le hs hB.size; clear hB))
          | (go_at_call 63; ((with_reducible refine (G3.out _).mono ?_); rintro e w1 ⟨rfl, hB⟩; replace hA := bel2 hA hB; replace c0 := (hB.cell (p := ⟨w.heap.size, 0, none⟩) hs).trans c0; replace c1 := (hB.cell (p := ⟨w.heap.size, 1, none⟩) hs).trans c1; replace c2 := (hB.cell (p := ⟨w.heap.size, 2, none⟩) hs).trans c2; replace c3 := (hB.cell (p := ⟨w.heap.size, 3, none⟩) hs).trans c3; replace c4 := (hB.cell (p := ⟨w.heap.size, 4, none⟩) hs).trans c4; replace c5 := (hB.cell (p := ⟨w.heap.size, 5, none⟩) hs).trans c5; replace c6 := (hB.cell (p := ⟨w.heap.size, 6, none⟩) hs).trans c6; replace c7 := (hB.cell (p := ⟨w.heap.size, 7, none⟩) hs).trans c7; replace c8 := (hB.cell (p := ⟨w.heap.size, 8, none⟩) hs).trans c8; replace c9 := (hB.cell (p := ⟨w.heap.size, 9, none⟩) hs).trans c9; replace hs := Nat.lt_of_lt_of_le hs hB.size; clear hB))
          | (go_at_call 62; ((with_reducible refine (G4.out _ hA).mono ?_); rintro e w1 ⟨rfl, hB⟩; replace hA := bel2 hA hB; replace c0 := (hB.cell (p := ⟨w.heap.size, 0, none⟩) hs).trans c0; replace c1 := (hB.cell (p := ⟨w.heap.size, 1, none⟩) hs).trans c1; replace c2 := (hB.cell (p := ⟨w.heap.size, 2, none⟩) hs).trans c2; replace c3 := (hB.cell (p := ⟨w.heap.size, 3, none⟩) hs).trans c3; replace c4 := (hB.cell (p := ⟨w.heap.size, 4, none⟩) hs).trans c4; replace c5 := (hB.cell (p := ⟨w.heap.size, 5, none⟩) hs).trans c5; replace c6 := (hB.cell (p := ⟨w.heap.size, 6, none⟩) hs).trans c6; replace c7 := (hB.cell (p := ⟨w.heap.size, 7, none⟩) hs).trans c7; replace c8 := (hB.cell (p := ⟨w.heap.size, 8, none⟩) hs).trans c8; replace c9 := (hB.cell (p := ⟨w.heap.size, 9, none⟩) hs).trans c9; replace hs := Nat.lt_of_lt_of_le hs hB.size; clear hB)))
        go_ret
        exact ⟨by simp, hA⟩
      | true =>
        cases hd with
        | false =>
          go_enter Try.func67, Try.ntmps67
          go_wp2_with (first
            | (go_at_call 64; ((with_reducible refine (G1.out _).mono ?_); rintro e w1 ⟨rfl, hB⟩; replace hA := bel2 hA hB; replace c0 := (hB.cell (p := ⟨w.heap.size, 0, none⟩) hs).trans c0; replace c1 := (hB.cell (p := ⟨w.heap.size, 1, none⟩) hs).trans c1; replace c2 := (hB.cell (p := ⟨w.heap.size, 2, none⟩) hs).trans c2; replace c3 := (hB.cell (p := ⟨w.heap.size, 3, none⟩) hs).trans c3; replace c4 := (hB.cell (p := ⟨w.heap.size, 4, none⟩) hs).trans c4; replace c5 := (hB.cell (p := ⟨w.heap.size, 5, none⟩) hs).trans c5; replace c6 := (hB.cell (p := ⟨w.heap.size, 6, none⟩) hs).trans c6; replace c7 := (hB.cell (p := ⟨w.heap.size, 7, none⟩) hs).trans c7; replace c8 := (hB.cell (p := ⟨w.heap.size, 8, none⟩) hs).trans c8; replace c9 := (hB.cell (p := ⟨w.heap.size, 9, none⟩) hs).trans c9; replace hs := Nat.lt_of_lt_of_le hs hB.size; clear hB))
            | (go_at_call 65; ((with_reducible refine (G2.out _).mono ?_); rintro e w1 ⟨rfl, hB⟩; replace hA := bel2 hA hB; replace c0 := (hB.cell (p := ⟨w.heap.size, 0, none⟩) hs).trans c0; replace c1 := (hB.cell (p := ⟨w.heap.size, 1, none⟩) hs).trans c1; replace c2 := (hB.cell (p := ⟨w.heap.size, 2, none⟩) hs).trans c2; replace c3 := (hB.cell (p := ⟨w.heap.size, 3, none⟩) hs).trans c3; replace c4 := (hB.cell (p := ⟨w.heap.size, 4, none⟩) hs).trans c4; replace c5 := (hB.cell (p := ⟨w.heap.size, 5, none⟩) hs).trans c5; replace c6 := (hB.cell (p := ⟨w.heap.size, 6, none⟩) hs).trans c6; replace c7 := (hB.cell (p := ⟨w.heap.size, 7, none⟩) hs).trans c7; replace c8 := (hB.cell (p := ⟨w.heap.size, 8, none⟩) hs).trans c8; replace c9 := (hB.cell (p := ⟨w.heap.size, 9, none⟩) hs).trans c9; replace hs := Nat.lt_of_lt_of_le hs hB.size; clear hB))
            | (go_at_call 63; ((with_reducible refine (G3.out _).mono ?_); rintro e w1 ⟨rfl, hB⟩; replace hA := bel2 hA hB; replace c0 := (hB.cell (p := ⟨w.heap.size, 0, none⟩) hs).trans c0; replace c1 := (hB.cell (p := ⟨w.heap.size, 1, none⟩) hs).trans c1; replace c2 := (hB.cell (p := ⟨w.heap.size, 2, none⟩) hs).trans c2; replace c3 := (hB.cell (p := ⟨w.heap.size, 3, none⟩) hs).trans c3; replace c4 := (hB.cell (p := ⟨w.heap.size, 4, none⟩) hs).trans c4; replace c5 := (hB.cell (p := ⟨w.heap.size, 5, none⟩) hs).trans c5; replace c6 := (hB.cell (p := ⟨w.heap.size, 6, none⟩) hs).trans c6; replace c7 := (hB.cell (p := ⟨w.heap.size, 7, none⟩) hs).trans c7; replace c8 := (hB.cell (p := ⟨w.heap.size, 8, none⟩) hs).trans c8; replace c9 := (hB.cell (p := ⟨w.heap.size, 9, none⟩) hs).trans c9; replace hs := Nat.lt_of_lt_of_le hs hB.size; clear hB))
            | (go_at_call 62; ((with_reducible refine (G4.out _ hA).mono ?_); rintro e w1 ⟨rfl, hB⟩; replace hA := bel2 hA hB; replace c0 := (hB.cell (p := ⟨w.heap.size, 0, none⟩) hs).trans c0; replace c1 := (hB.cell (p := ⟨w.heap.size, 1, none⟩) hs).trans c1; replace c2 := (hB.cell (p := ⟨w.heap.size, 2, none⟩) hs).trans c2; replace c3 := (hB.cell (p := ⟨w.heap.size, 3, none⟩) hs).trans c3; replace c4 := (hB.cell (p := ⟨w.heap.size, 4, none⟩) hs).trans c4; replace c5 := (hB.cell (p := ⟨w.heap.size, 5, none⟩) hs).trans c5; replace c6 := (hB.cell (p := ⟨w.heap.size, 6, none⟩) hs).trans c6; replace c7 := (hB.cell (p := ⟨w.heap.size, 7, none⟩) hs).trans c7; replace c8 := (hB.cell (p := ⟨w.heap.size, 8, none⟩) hs).trans c8; replace c9 := (hB.cell (p := ⟨w.heap.size, 9, none⟩) hs).trans c9; replace hs := Nat.lt_of_lt_of_le hs hB.size; clear hB)))
          go_ret
          exact ⟨by simp, hA⟩
        | true =>
          cases b3
          all_goals
            go_enter Try.func67, Try.ntmps67
            go_wp2_with (first
              | (go_at_call 64; ((with_reducible refine (G1.out _).mono ?_); rintro e w1 ⟨rfl, hB⟩; replace hA := bel2 hA hB; replace c0 := (hB.cell (p := ⟨w.heap.size, 0, none⟩) hs).trans c0; replace c1 := (hB.cell (p := ⟨w.heap.size, 1, none⟩) hs).trans c1; replace c2 := (hB.cell (p := ⟨w.heap.size, 2, none⟩) hs).trans c2; replace c3 := (hB.cell (p := ⟨w.heap.size, 3, none⟩) hs).trans c3; replace c4 := (hB.cell (p := ⟨w.heap.size, 4, none⟩) hs).trans c4; replace c5 := (hB.cell (p := ⟨w.heap.size, 5, none⟩) hs).trans c5; replace c6 := (hB.cell (p := ⟨w.heap.size, 6, none⟩) hs).trans c6; replace c7 := (hB.cell (p := ⟨w.heap.size, 7, none⟩) hs).trans c7; replace c8 := (hB.cell (p := ⟨w.heap.size, 8, none⟩) hs).trans c8; replace c9 := (hB.cell (p := ⟨w.heap.size, 9, none⟩) hs).trans c9; replace hs := Nat.lt_of_lt_of_le hs hB.size; clear hB))
              | (go_at_call 65; ((with_reducible refine (G2.out _).mono ?_); rintro e w1 ⟨rfl, hB⟩; replace hA := bel2 hA hB; replace c0 := (hB.cell (p := ⟨w.heap.size, 0, none⟩) hs).trans c0; replace c1 := (hB.cell (p := ⟨w.heap.size, 1, none⟩) hs).trans c1; replace c2 := (hB.cell (p := ⟨w.heap.size, 2, none⟩) hs).trans c2; replace c3 := (hB.cell (p := ⟨w.heap.size, 3, none⟩) hs).trans c3; replace c4 := (hB.cell (p := ⟨w.heap.size, 4, none⟩) hs).trans c4; replace c5 := (hB.cell (p := ⟨w.heap.size, 5, none⟩) hs).trans c5; replace c6 := (hB.cell (p := ⟨w.heap.size, 6, none⟩) hs).trans c6; replace c7 := (hB.cell (p := ⟨w.heap.size, 7, none⟩) hs).trans c7; replace c8 := (hB.cell (p := ⟨w.heap.size, 8, none⟩) hs).trans c8; replace c9 := (hB.cell (p := ⟨w.heap.size, 9, none⟩) hs).trans c9; replace hs := Nat.lt_of_lt_of_le hs hB.size; clear hB))
              | (go_at_call 63; ((with_reducible refine (G3.out _).mono ?_); rintro e w1 ⟨rfl, hB⟩; replace hA := bel2 hA hB; replace c0 := (hB.cell (p := ⟨w.heap.size, 0, none⟩) hs).trans c0; replace c1 := (hB.cell (p := ⟨w.heap.size, 1, none⟩) hs).trans c1; replace c2 := (hB.cell (p := ⟨w.heap.size, 2, none⟩) hs).trans c2; replace c3 := (hB.cell (p := ⟨w.heap.size, 3, none⟩) hs).trans c3; replace c4 := (hB.cell (p := ⟨w.heap.size, 4, none⟩) hs).trans c4; replace c5 := (hB.cell (p := ⟨w.heap.size, 5, none⟩) hs).trans c5; replace c6 := (hB.cell (p := ⟨w.heap.size, 6, none⟩) hs).trans c6; replace c7 := (hB.cell (p := ⟨w.heap.size, 7, none⟩) hs).trans c7; replace c8 := (hB.cell (p := ⟨w.heap.size, 8, none⟩) hs).trans c8; replace c9 := (hB.cell (p := ⟨w.heap.size, 9, none⟩) hs).trans c9; replace hs := Nat.lt_of_lt_of_le hs hB.size; clear hB))
              | (go_at_call 62; ((with_reducible refine (G4.out _ hA).mono ?_); rintro e w1 ⟨rfl, hB⟩; replace hA := bel2 hA hB; replace c0 := (hB.cell (p := ⟨w.heap.size, 0, none⟩) hs).trans c0; replace c1 := (hB.cell (p := ⟨w.heap.size, 1, none⟩) hs).trans c1; replace c2 := (hB.cell (p := ⟨w.heap.size, 2, none⟩) hs).trans c2; replace c3 := (hB.cell (p := ⟨w.heap.size, 3, none⟩) hs).trans c3; replace c4 := (hB.cell (p := ⟨w.heap.size, 4, none⟩) hs).trans c4; replace c5 := (hB.cell (p := ⟨w.heap.size, 5, none⟩) hs).trans c5; replace c6 := (hB.cell (p := ⟨w.heap.size, 6, none⟩) hs).trans c6; replace c7 := (hB.cell (p := ⟨w.heap.size, 7, none⟩) hs).trans c7; replace c8 := (hB.cell (p := ⟨w.heap.size, 8, none⟩) hs).trans c8; replace c9 := (hB.cell (p := ⟨w.heap.size, 9, none⟩) hs).trans c9; replace hs := Nat.lt_of_lt_of_le hs hB.size; clear hB)))
            go_ret
            exact ⟨by simp, hA⟩

end Go.Proofs.Ytdncdlbhgaehmaa

/- The contract of package part's Is. -/
namespace Go.Proofs.Ytdncdlbhgaehmaa
open Go.RowKit Go.Shelf
set_option linter.unusedVariables false
attribute [local go_sem] Oper.semAt_some wide_fn wide_round_fn

theorem arr10q {W : World} {X : Nat} {T : TypeId} {v0 v1 v2 v3 v4 v5 v6 v7 v8 v9 : Value} (h : W.heap[X]? = some (.cells #[v0, v1, v2, v3, v4, v5, v6, v7, v8, v9] T (0, 0))) :
    W.cell? ⟨X, 0, none⟩ = some v0 ∧ W.cell? ⟨X, 1, none⟩ = some v1 ∧ W.cell? ⟨X, 2, none⟩ = some v2 ∧ W.cell? ⟨X, 3, none⟩ = some v3 ∧ W.cell? ⟨X, 4, none⟩ = some v4 ∧ W.cell? ⟨X, 5, none⟩ = some v5 ∧ W.cell? ⟨X, 6, none⟩ = some v6 ∧ W.cell? ⟨X, 7, none⟩ = some v7 ∧ W.cell? ⟨X, 8, none⟩ = some v8 ∧ W.cell? ⟨X, 9, none⟩ = some v9 :=
  ⟨cell_of_row _ _ 0 _ _ _ h, cell_of_row _ _ 1 _ _ _ h, cell_of_row _ _ 2 _ _ _ h, cell_of_row _ _ 3 _ _ _ h, cell_of_row _ _ 4 _ _ _ h, cell_of_row _ _ 5 _ _ _ h, cell_of_row _ _ 6 _ _ _ h, cell_of_row _ _ 7 _ _ _ h, cell_of_row _ _ 8 _ _ _ h, cell_of_row _ _ 9 _ _ _ h⟩
theorem two_a (w : World) (A B : Array Value) (T U : TypeId) : ((w.alloc (.cells A T)).alloc (.cells B U)).heap[w.heap.size]? = some (.cells A T (0, 0)) :=
  ((bel_alloc (Below.refl _ _) _).block _ (by simp)).trans (World.alloc_heap_new w _)
theorem two_b (w : World) (A B : Array Value) (T U : TypeId) : ((w.alloc (.cells A T)).alloc (.cells B U)).heap[w.heap.size + 1]? = some (.cells B U (0, 0)) := by
  have h := World.alloc_heap_new (w.alloc (.cells A T)) (.cells B U)
  rwa [World.size_alloc] at h
/-- What else a part of this kind has. -/
def hasC (p : PartC) : PartC :=
  if p.k = 1 then ⟨p.g, p.k, p.a, p.len, p.cap, 0, 0, 0, 0, 0, false, false⟩
  else if p.k = 2 then ⟨p.g, p.k, none, 0, 0, p.ht, p.hv, p.hc, 0, 0, false, false⟩
  else if p.k = 3 ∨ p.k = 4 then ⟨p.g, p.k, none, 0, 0, 0, 0, 0, p.i, p.t, false, false⟩
  else if p.k = 6 then forwardC p
  else ⟨p.g, p.k, none, 0, 0, 0, 0, 0, 0, 0, false, false⟩
def hasL (p : PartC) (l : List EntryC) : List EntryC := if p.k = 1 ∨ p.k = 6 then l else []
def okB (p : PartC) (l : List EntryC) : Bool :=
  if p.k = 1 then decide (p.len ≠ 0) && areB 1 l
  else if p.k = 2 then hardB p.ht p.hv p.hc
  else if p.k = 3 then wB p.i 1 1099511627776 && (wB p.t 1 1099511627776 || decide (p.t = 0))
  else if p.k = 4 then wB p.i 1 1099511627776 && wB p.t 1 1099511627776
  else if p.k = 5 then true
  else if p.k = 6 then isFwdB p l
  else false
def isB (p : PartC) (l : List EntryC) : Bool := okB p l && (wB p.g 0 999 && sameB p (hasC p) l (hasL p l))
theorem hasE_nil {w : World} {p : PartC} (ha : p.a = none) (hl : p.len = 0) : HasE w p [] :=
  ⟨hl.symm, by omega, by simp [entryCells, hl], by rw [hl]; exact Nat.zero_le _, fun h => by omega⟩

set_option maxRecDepth 100000 in
set_option maxHeartbeats 4000000 in
theorem is1_any (g : Int) (a : Option Addr) (len cap : Nat) (ht hv hc i t : Int) (mk hd : Bool) (l : List EntryC) (w : World) (h1 : HasE w (⟨g, 1, a, len, cap, ht, hv, hc, i, t, mk, hd⟩ : PartC) l) : Gives Try.prog 44 #[(⟨g, 1, a, len, cap, ht, hv, hc, i, t, mk, hd⟩ : PartC).val] w (.bool (isB (⟨g, 1, a, len, cap, ht, hv, hc, i, t, mk, hd⟩ : PartC) l)) := by
  have hV := Lib.hid (show isB (⟨g, 1, a, len, cap, ht, hv, hc, i, t, mk, hd⟩ : PartC) l = ((decide (len ≠ 0) && areB 1 l) && (wB g 0 999 && sameB (⟨g, 1, a, len, cap, ht, hv, hc, i, t, mk, hd⟩ : PartC) (⟨g, 1, a, len, cap, 0, 0, 0, 0, 0, false, false⟩ : PartC) l l)) by simp [isB, okB, hasC, hasL])
  rw [hV.out]
  clear hV
  have GW := Lib.hid (within_any g 0 999)
  have GS := Lib.hid (fun W (hB : Below w.heap.size w W) => same_any (⟨g, 1, a, len, cap, ht, hv, hc, i, t, mk, hd⟩ : PartC) (⟨g, 1, a, len, cap, 0, 0, 0, 0, 0, false, false⟩ : PartC) l l W (h1.below hB) (h1.below hB))
  have G4 := Lib.hid (fun W (hB : Below w.heap.size w W) => areEntries_any a len cap l h1.1 h1.2.1 1 W (h1.2.2.below hB))
  clear h1
  generalize sameB (⟨g, 1, a, len, cap, ht, hv, hc, i, t, mk, hd⟩ : PartC) (⟨g, 1, a, len, cap, 0, 0, 0, 0, 0, false, false⟩ : PartC) l l = bs at *
  generalize wB g 0 999 = bw at *
  generalize areB 1 l = b4 at *
  dsimp only [PartC.val] at *
  unfold Gives
  have hA : Below w.heap.size w ((w.alloc (.cells #[.int .i64 g, .int .i64 1, .slice a len cap, .int .i64 ht, .int .i64 hv, .int .i64 hc, .int .i64 i, .int .i64 t, .bool mk, .bool hd] 41)).alloc (.cells #[.int .i64 g, .int .i64 1, .slice a len cap, .int .i64 0, .int .i64 0, .int .i64 0, .int .i64 0, .int .i64 0, .bool false, .bool false] 41)) := (bel_alloc (bel_alloc (Below.refl _ _) _) _)
  have hs : w.heap.size < ((w.alloc (.cells #[.int .i64 g, .int .i64 1, .slice a len cap, .int .i64 ht, .int .i64 hv, .int .i64 hc, .int .i64 i, .int .i64 t, .bool mk, .bool hd] 41)).alloc (.cells #[.int .i64 g, .int .i64 1, .slice a len cap, .int .i64 0, .int .i64 0, .int .i64 0, .int .i64 0, .int .i64 0, .bool false, .bool false] 41)).heap.size := by simp; omega
  have hs2 : w.heap.size + 1 < ((w.alloc (.cells #[.int .i64 g, .int .i64 1, .slice a len cap, .int .i64 ht, .int .i64 hv, .int .i64 hc, .int .i64 i, .int .i64 t, .bool mk, .bool hd] 41)).alloc (.cells #[.int .i64 g, .int .i64 1, .slice a len cap, .int .i64 0, .int .i64 0, .int .i64 0, .int .i64 0, .int .i64 0, .bool false, .bool false] 41)).heap.size := by simp
  obtain ⟨c0, c1, c2, c3, c4, c5, c6, c7, c8, c9⟩ := arr10q (show ((w.alloc (.cells #[.int .i64 g, .int .i64 1, .slice a len cap, .int .i64 ht, .int .i64 hv, .int .i64 hc, .int .i64 i, .int .i64 t, .bool mk, .bool hd] 41)).alloc (.cells #[.int .i64 g, .int .i64 1, .slice a len cap, .int .i64 0, .int .i64 0, .int .i64 0, .int .i64 0, .int .i64 0, .bool false, .bool false] 41)).heap[w.heap.size]? = _ from two_a w _ _ _ _)
  obtain ⟨d0, d1, d2, d3, d4, d5, d6, d7, d8, d9⟩ := arr10q (show ((w.alloc (.cells #[.int .i64 g, .int .i64 1, .slice a len cap, .int .i64 ht, .int .i64 hv, .int .i64 hc, .int .i64 i, .int .i64 t, .bool mk, .bool hd] 41)).alloc (.cells #[.int .i64 g, .int .i64 1, .slice a len cap, .int .i64 0, .int .i64 0, .int .i64 0, .int .i64 0, .int .i64 0, .bool false, .bool false] 41)).heap[w.heap.size + 1]? = _ from two_b w _ _ _ _)
  by_cases h0 : len = 0
  · subst h0
    go_enter Try.func44, Try.ntmps44
    go_wp2_with (first
      | (go_at_call 62; ((with_reducible refine (G4.out _ hA).mono ?_); rintro e w1 ⟨rfl, hB⟩; replace hA := bel2 hA hB; obtain ⟨c0, c1, c2, c3, c4, c5, c6, c7, c8, c9⟩ := above10 hs c0 c1 c2 c3 c4 c5 c6 c7 c8 c9 hB; obtain ⟨d0, d1, d2, d3, d4, d5, d6, d7, d8, d9⟩ := above10 hs2 d0 d1 d2 d3 d4 d5 d6 d7 d8 d9 hB; replace hs := Nat.lt_of_lt_of_le hs hB.size; replace hs2 := Nat.lt_of_lt_of_le hs2 hB.size; clear hB))
      | (go_at_call 68; ((with_reducible refine (GW.out _).mono ?_); rintro e w1 ⟨rfl, hB⟩; replace hA := bel2 hA hB; obtain ⟨c0, c1, c2, c3, c4, c5, c6, c7, c8, c9⟩ := above10 hs c0 c1 c2 c3 c4 c5 c6 c7 c8 c9 hB; obtain ⟨d0, d1, d2, d3, d4, d5, d6, d7, d8, d9⟩ := above10 hs2 d0 d1 d2 d3 d4 d5 d6 d7 d8 d9 hB; replace hs := Nat.lt_of_lt_of_le hs hB.size; replace hs2 := Nat.lt_of_lt_of_le hs2 hB.size; clear hB))
      | (go_at_call 69; ((with_reducible refine (GS.out _ hA).mono ?_); rintro e w1 ⟨rfl, hB⟩; replace hA := bel2 hA hB; obtain ⟨c0, c1, c2, c3, c4, c5, c6, c7, c8, c9⟩ := above10 hs c0 c1 c2 c3 c4 c5 c6 c7 c8 c9 hB; obtain ⟨d0, d1, d2, d3, d4, d5, d6, d7, d8, d9⟩ := above10 hs2 d0 d1 d2 d3 d4 d5 d6 d7 d8 d9 hB; replace hs := Nat.lt_of_lt_of_le hs hB.size; replace hs2 := Nat.lt_of_lt_of_le hs2 hB.size; clear hB)))
    go_ret
    exact ⟨by simp, hA⟩
  · have h0' : (0 : Int) < (len : Int) := by omega
    rw [show decide (len ≠ 0) = true by simp [h0]]
    cases b4 with
    | false =>
      go_enter Try.func44, Try.ntmps44
      go_wp2_with (first
        | (go_at_call 62; ((with_reducible refine (G4.out _ hA).mono ?_); rintro e w1 ⟨rfl, hB⟩; replace hA := bel2 hA hB; obtain ⟨c0, c1, c2, c3, c4, c5, c6, c7, c8, c9⟩ := above10 hs c0 c1 c2 c3 c4 c5 c6 c7 c8 c9 hB; obtain ⟨d0, d1, d2, d3, d4, d5, d6, d7, d8, d9⟩ := above10 hs2 d0 d1 d2 d3 d4 d5 d6 d7 d8 d9 hB; replace hs := Nat.lt_of_lt_of_le hs hB.size; replace hs2 := Nat.lt_of_lt_of_le hs2 hB.size; clear hB))
        | (go_at_call 68; ((with_reducible refine (GW.out _).mono ?_); rintro e w1 ⟨rfl, hB⟩; replace hA := bel2 hA hB; obtain ⟨c0, c1, c2, c3, c4, c5, c6, c7, c8, c9⟩ := above10 hs c0 c1 c2 c3 c4 c5 c6 c7 c8 c9 hB; obtain ⟨d0, d1, d2, d3, d4, d5, d6, d7, d8, d9⟩ := above10 hs2 d0 d1 d2 d3 d4 d5 d6 d7 d8 d9 hB; replace hs := Nat.lt_of_lt_of_le hs hB.size; replace hs2 := Nat.lt_of_lt_of_le hs2 hB.size; clear hB))
        | (go_at_call 69; ((with_reducible refine (GS.out _ hA).mono ?_); rintro e w1 ⟨rfl, hB⟩; replace hA := bel2 hA hB; obtain ⟨c0, c1, c2, c3, c4, c5, c6, c7, c8, c9⟩ := above10 hs c0 c1 c2 c3 c4 c5 c6 c7 c8 c9 hB; obtain ⟨d0, d1, d2, d3, d4, d5, d6, d7, d8, d9⟩ := above10 hs2 d0 d1 d2 d3 d4 d5 d6 d7 d8 d9 hB; replace hs := Nat.lt_of_lt_of_le hs hB.size; replace hs2 := Nat.lt_of_lt_of_le hs2 hB.size; clear hB)))
      go_ret
      exact ⟨by simp, hA⟩
    | true =>
      cases bw
      all_goals
        go_enter Try.func44, Try.ntmps44
        go_wp2_with (first
          | (go_at_call 62; ((with_reducible refine (G4.out _ hA).mono ?_); rintro e w1 ⟨rfl, hB⟩; replace hA := bel2 hA hB; obtain ⟨c0, c1, c2, c3, c4, c5, c6, c7, c8, c9⟩ := above10 hs c0 c1 c2 c3 c4 c5 c6 c7 c8 c9 hB; obtain ⟨d0, d1, d2, d3, d4, d5, d6, d7, d8, d9⟩ := above10 hs2 d0 d1 d2 d3 d4 d5 d6 d7 d8 d9 hB; replace hs := Nat.lt_of_lt_of_le hs hB.size; replace hs2 := Nat.lt_of_lt_of_le hs2 hB.size; clear hB))
          | (go_at_call 68; ((with_reducible refine (GW.out _).mono ?_); rintro e w1 ⟨rfl, hB⟩; replace hA := bel2 hA hB; obtain ⟨c0, c1, c2, c3, c4, c5, c6, c7, c8, c9⟩ := above10 hs c0 c1 c2 c3 c4 c5 c6 c7 c8 c9 hB; obtain ⟨d0, d1, d2, d3, d4, d5, d6, d7, d8, d9⟩ := above10 hs2 d0 d1 d2 d3 d4 d5 d6 d7 d8 d9 hB; replace hs := Nat.lt_of_lt_of_le hs hB.size; replace hs2 := Nat.lt_of_lt_of_le hs2 hB.size; clear hB))
          | (go_at_call 69; ((with_reducible refine (GS.out _ hA).mono ?_); rintro e w1 ⟨rfl, hB⟩; replace hA := bel2 hA hB; obtain ⟨c0, c1, c2, c3, c4, c5, c6, c7, c8, c9⟩ := above10 hs c0 c1 c2 c3 c4 c5 c6 c7 c8 c9 hB; obtain ⟨d0, d1, d2, d3, d4, d5, d6, d7, d8, d9⟩ := above10 hs2 d0 d1 d2 d3 d4 d5 d6 d7 d8 d9 hB; replace hs := Nat.lt_of_lt_of_le hs hB.size; replace hs2 := Nat.lt_of_lt_of_le hs2 hB.size; clear hB)))
        go_ret
        exact ⟨by simp, hA⟩

set_option maxRecDepth 100000 in
set_option maxHeartbeats 4000000 in
theorem is2_any (g : Int) (a : Option Addr) (len cap : Nat) (ht hv hc i t : Int) (mk hd : Bool) (l : List EntryC) (w : World) (h1 : HasE w (⟨g, 2, a, len, cap, ht, hv, hc, i, t, mk, hd⟩ : PartC) l) : Gives Try.prog 44 #[(⟨g, 2, a, len, cap, ht, hv, hc, i, t, mk, hd⟩ : PartC).val] w (.bool (isB (⟨g, 2, a, len, cap, ht, hv, hc, i, t, mk, hd⟩ : PartC) l)) := by
  have hV := Lib.hid (show isB (⟨g, 2, a, len, cap, ht, hv, hc, i, t, mk, hd⟩ : PartC) l = (hardB ht hv hc && (wB g 0 999 && sameB (⟨g, 2, a, len, cap, ht, hv, hc, i, t, mk, hd⟩ : PartC) (⟨g, 2, none, 0, 0, ht, hv, hc, 0, 0, false, false⟩ : PartC) l [])) by simp [isB, okB, hasC, hasL])
  rw [hV.out]
  clear hV
  have GW := Lib.hid (within_any g 0 999)
  have GS := Lib.hid (fun W (hB : Below w.heap.size w W) => same_any (⟨g, 2, a, len, cap, ht, hv, hc, i, t, mk, hd⟩ : PartC) (⟨g, 2, none, 0, 0, ht, hv, hc, 0, 0, false, false⟩ : PartC) l [] W (h1.below hB) (hasE_nil rfl rfl))
  have G3 := Lib.hid (isHard_any ht hv hc)
  clear h1
  generalize sameB (⟨g, 2, a, len, cap, ht, hv, hc, i, t, mk, hd⟩ : PartC) (⟨g, 2, none, 0, 0, ht, hv, hc, 0, 0, false, false⟩ : PartC) l [] = bs at *
  generalize wB g 0 999 = bw at *
  generalize hardB ht hv hc = b3 at *
  dsimp only [PartC.val] at *
  unfold Gives
  have hA : Below w.heap.size w ((w.alloc (.cells #[.int .i64 g, .int .i64 2, .slice a len cap, .int .i64 ht, .int .i64 hv, .int .i64 hc, .int .i64 i, .int .i64 t, .bool mk, .bool hd] 41)).alloc (.cells #[.int .i64 g, .int .i64 2, .slice none 0 0, .int .i64 ht, .int .i64 hv, .int .i64 hc, .int .i64 0, .int .i64 0, .bool false, .bool false] 41)) := (bel_alloc (bel_alloc (Below.refl _ _) _) _)
  have hs : w.heap.size < ((w.alloc (.cells #[.int .i64 g, .int .i64 2, .slice a len cap, .int .i64 ht, .int .i64 hv, .int .i64 hc, .int .i64 i, .int .i64 t, .bool mk, .bool hd] 41)).alloc (.cells #[.int .i64 g, .int .i64 2, .slice none 0 0, .int .i64 ht, .int .i64 hv, .int .i64 hc, .int .i64 0, .int .i64 0, .bool false, .bool false] 41)).heap.size := by simp; omega
  have hs2 : w.heap.size + 1 < ((w.alloc (.cells #[.int .i64 g, .int .i64 2, .slice a len cap, .int .i64 ht, .int .i64 hv, .int .i64 hc, .int .i64 i, .int .i64 t, .bool mk, .bool hd] 41)).alloc (.cells #[.int .i64 g, .int .i64 2, .slice none 0 0, .int .i64 ht, .int .i64 hv, .int .i64 hc, .int .i64 0, .int .i64 0, .bool false, .bool false] 41)).heap.size := by simp
  obtain ⟨c0, c1, c2, c3, c4, c5, c6, c7, c8, c9⟩ := arr10q (show ((w.alloc (.cells #[.int .i64 g, .int .i64 2, .slice a len cap, .int .i64 ht, .int .i64 hv, .int .i64 hc, .int .i64 i, .int .i64 t, .bool mk, .bool hd] 41)).alloc (.cells #[.int .i64 g, .int .i64 2, .slice none 0 0, .int .i64 ht, .int .i64 hv, .int .i64 hc, .int .i64 0, .int .i64 0, .bool false, .bool false] 41)).heap[w.heap.size]? = _ from two_a w _ _ _ _)
  obtain ⟨d0, d1, d2, d3, d4, d5, d6, d7, d8, d9⟩ := arr10q (show ((w.alloc (.cells #[.int .i64 g, .int .i64 2, .slice a len cap, .int .i64 ht, .int .i64 hv, .int .i64 hc, .int .i64 i, .int .i64 t, .bool mk, .bool hd] 41)).alloc (.cells #[.int .i64 g, .int .i64 2, .slice none 0 0, .int .i64 ht, .int .i64 hv, .int .i64 hc, .int .i64 0, .int .i64 0, .bool false, .bool false] 41)).heap[w.heap.size + 1]? = _ from two_b w _ _ _ _)
  cases b3 with
  | false =>
    go_enter Try.func44, Try.ntmps44
    go_wp2_with (first
      | (go_at_call 63; ((with_reducible refine (G3.out _).mono ?_); rintro e w1 ⟨rfl, hB⟩; replace hA := bel2 hA hB; obtain ⟨c0, c1, c2, c3, c4, c5, c6, c7, c8, c9⟩ := above10 hs c0 c1 c2 c3 c4 c5 c6 c7 c8 c9 hB; obtain ⟨d0, d1, d2, d3, d4, d5, d6, d7, d8, d9⟩ := above10 hs2 d0 d1 d2 d3 d4 d5 d6 d7 d8 d9 hB; replace hs := Nat.lt_of_lt_of_le hs hB.size; replace hs2 := Nat.lt_of_lt_of_le hs2 hB.size; clear hB))
      | (go_at_call 68; ((with_reducible refine (GW.out _).mono ?_); rintro e w1 ⟨rfl, hB⟩; replace hA := bel2 hA hB; obtain ⟨c0, c1, c2, c3, c4, c5, c6, c7, c8, c9⟩ := above10 hs c0 c1 c2 c3 c4 c5 c6 c7 c8 c9 hB; obtain ⟨d0, d1, d2, d3, d4, d5, d6, d7, d8, d9⟩ := above10 hs2 d0 d1 d2 d3 d4 d5 d6 d7 d8 d9 hB; replace hs := Nat.lt_of_lt_of_le hs hB.size; replace hs2 := Nat.lt_of_lt_of_le hs2 hB.size; clear hB))
      | (go_at_call 69; ((with_reducible refine (GS.out _ hA).mono ?_); rintro e w1 ⟨rfl, hB⟩; replace hA := bel2 hA hB; obtain ⟨c0, c1, c2, c3, c4, c5, c6, c7, c8, c9⟩ := above10 hs c0 c1 c2 c3 c4 c5 c6 c7 c8 c9 hB; obtain ⟨d0, d1, d2, d3, d4, d5, d6, d7, d8, d9⟩ := above10 hs2 d0 d1 d2 d3 d4 d5 d6 d7 d8 d9 hB; replace hs := Nat.lt_of_lt_of_le hs hB.size; replace hs2 := Nat.lt_of_lt_of_le hs2 hB.size; clear hB)))
    go_ret
    exact ⟨by simp, hA⟩
  | true =>
    cases bw
    all_goals
      go_enter Try.func44, Try.ntmps44
      go_wp2_with (first
        | (go_at_call 63; ((with_reducible refine (G3.out _).mono ?_); rintro e w1 ⟨rfl, hB⟩; replace hA := bel2 hA hB; obtain ⟨c0, c1, c2, c3, c4, c5, c6, c7, c8, c9⟩ := above10 hs c0 c1 c2 c3 c4 c5 c6 c7 c8 c9 hB; obtain ⟨d0, d1, d2, d3, d4, d5, d6, d7, d8, d9⟩ := above10 hs2 d0 d1 d2 d3 d4 d5 d6 d7 d8 d9 hB; replace hs := Nat.lt_of_lt_of_le hs hB.size; replace hs2 := Nat.lt_of_lt_of_le hs2 hB.size; clear hB))
        | (go_at_call 68; ((with_reducible refine (GW.out _).mono ?_); rintro e w1 ⟨rfl, hB⟩; replace hA := bel2 hA hB; obtain ⟨c0, c1, c2, c3, c4, c5, c6, c7, c8, c9⟩ := above10 hs c0 c1 c2 c3 c4 c5 c6 c7 c8 c9 hB; obtain ⟨d0, d1, d2, d3, d4, d5, d6, d7, d8, d9⟩ := above10 hs2 d0 d1 d2 d3 d4 d5 d6 d7 d8 d9 hB; replace hs := Nat.lt_of_lt_of_le hs hB.size; replace hs2 := Nat.lt_of_lt_of_le hs2 hB.size; clear hB))
        | (go_at_call 69; ((with_reducible refine (GS.out _ hA).mono ?_); rintro e w1 ⟨rfl, hB⟩; replace hA := bel2 hA hB; obtain ⟨c0, c1, c2, c3, c4, c5, c6, c7, c8, c9⟩ := above10 hs c0 c1 c2 c3 c4 c5 c6 c7 c8 c9 hB; obtain ⟨d0, d1, d2, d3, d4, d5, d6, d7, d8, d9⟩ := above10 hs2 d0 d1 d2 d3 d4 d5 d6 d7 d8 d9 hB; replace hs := Nat.lt_of_lt_of_le hs hB.size; replace hs2 := Nat.lt_of_lt_of_le hs2 hB.size; clear hB)))
      go_ret
      exact ⟨by simp, hA⟩

set_option maxRecDepth 100000 in
set_option maxHeartbeats 4000000 in
theorem is3_any (g : Int) (a : Option Addr) (len cap : Nat) (ht hv hc i t : Int) (mk hd : Bool) (l : List EntryC) (w : World) (h1 : HasE w (⟨g, 3, a, len, cap, ht, hv, hc, i, t, mk, hd⟩ : PartC) l) : Gives Try.prog 44 #[(⟨g, 3, a, len, cap, ht, hv, hc, i, t, mk, hd⟩ : PartC).val] w (.bool (isB (⟨g, 3, a, len, cap, ht, hv, hc, i, t, mk, hd⟩ : PartC) l)) := by
  have hV := Lib.hid (show isB (⟨g, 3, a, len, cap, ht, hv, hc, i, t, mk, hd⟩ : PartC) l = ((wB i 1 1099511627776 && (wB t 1 1099511627776 || decide (t = 0))) && (wB g 0 999 && sameB (⟨g, 3, a, len, cap, ht, hv, hc, i, t, mk, hd⟩ : PartC) (⟨g, 3, none, 0, 0, 0, 0, 0, i, t, false, false⟩ : PartC) l [])) by simp [isB, okB, hasC, hasL])
  rw [hV.out]
  clear hV
  have GW := Lib.hid (within_any g 0 999)
  have GS := Lib.hid (fun W (hB : Below w.heap.size w W) => same_any (⟨g, 3, a, len, cap, ht, hv, hc, i, t, mk, hd⟩ : PartC) (⟨g, 3, none, 0, 0, 0, 0, 0, i, t, false, false⟩ : PartC) l [] W (h1.below hB) (hasE_nil rfl rfl))
  have G1 := Lib.hid (isIndex_any i); have G2 := Lib.hid (isTerm_any t)
  clear h1
  generalize sameB (⟨g, 3, a, len, cap, ht, hv, hc, i, t, mk, hd⟩ : PartC) (⟨g, 3, none, 0, 0, 0, 0, 0, i, t, false, false⟩ : PartC) l [] = bs at *
  generalize wB g 0 999 = bw at *
  generalize wB i 1 1099511627776 = b1 at *
  generalize wB t 1 1099511627776 = b2 at *
  dsimp only [PartC.val] at *
  unfold Gives
  have hA : Below w.heap.size w ((w.alloc (.cells #[.int .i64 g, .int .i64 3, .slice a len cap, .int .i64 ht, .int .i64 hv, .int .i64 hc, .int .i64 i, .int .i64 t, .bool mk, .bool hd] 41)).alloc (.cells #[.int .i64 g, .int .i64 3, .slice none 0 0, .int .i64 0, .int .i64 0, .int .i64 0, .int .i64 i, .int .i64 t, .bool false, .bool false] 41)).drew := (bel_alloc (bel_alloc (Below.refl _ _) _) _).drew
  have hs : w.heap.size < ((w.alloc (.cells #[.int .i64 g, .int .i64 3, .slice a len cap, .int .i64 ht, .int .i64 hv, .int .i64 hc, .int .i64 i, .int .i64 t, .bool mk, .bool hd] 41)).alloc (.cells #[.int .i64 g, .int .i64 3, .slice none 0 0, .int .i64 0, .int .i64 0, .int .i64 0, .int .i64 i, .int .i64 t, .bool false, .bool false] 41)).drew.heap.size := by show w.heap.size < ((w.alloc (.cells #[.int .i64 g, .int .i64 3, .slice a len cap, .int .i64 ht, .int .i64 hv, .int .i64 hc, .int .i64 i, .int .i64 t, .bool mk, .bool hd] 41)).alloc (.cells #[.int .i64 g, .int .i64 3, .slice none 0 0, .int .i64 0, .int .i64 0, .int .i64 0, .int .i64 i, .int .i64 t, .bool false, .bool false] 41)).heap.size; simp; omega
  have hs2 : w.heap.size + 1 < ((w.alloc (.cells #[.int .i64 g, .int .i64 3, .slice a len cap, .int .i64 ht, .int .i64 hv, .int .i64 hc, .int .i64 i, .int .i64 t, .bool mk, .bool hd] 41)).alloc (.cells #[.int .i64 g, .int .i64 3, .slice none 0 0, .int .i64 0, .int .i64 0, .int .i64 0, .int .i64 i, .int .i64 t, .bool false, .bool false] 41)).drew.heap.size := by show w.heap.size + 1 < ((w.alloc (.cells #[.int .i64 g, .int .i64 3, .slice a len cap, .int .i64 ht, .int .i64 hv, .int .i64 hc, .int .i64 i, .int .i64 t, .bool mk, .bool hd] 41)).alloc (.cells #[.int .i64 g, .int .i64 3, .slice none 0 0, .int .i64 0, .int .i64 0, .int .i64 0, .int .i64 i, .int .i64 t, .bool false, .bool false] 41)).heap.size; simp
  obtain ⟨c0, c1, c2, c3, c4, c5, c6, c7, c8, c9⟩ := arr10q (show ((w.alloc (.cells #[.int .i64 g, .int .i64 3, .slice a len cap, .int .i64 ht, .int .i64 hv, .int .i64 hc, .int .i64 i, .int .i64 t, .bool mk, .bool hd] 41)).alloc (.cells #[.int .i64 g, .int .i64 3, .slice none 0 0, .int .i64 0, .int .i64 0, .int .i64 0, .int .i64 i, .int .i64 t, .bool false, .bool false] 41)).drew.heap[w.heap.size]? = _ from two_a w _ _ _ _)
  obtain ⟨d0, d1, d2, d3, d4, d5, d6, d7, d8, d9⟩ := arr10q (show ((w.alloc (.cells #[.int .i64 g, .int .i64 3, .slice a len cap, .int .i64 ht, .int .i64 hv, .int .i64 hc, .int .i64 i, .int .i64 t, .bool mk, .bool hd] 41)).alloc (.cells #[.int .i64 g, .int .i64 3, .slice none 0 0, .int .i64 0, .int .i64 0, .int .i64 0, .int .i64 i, .int .i64 t, .bool false, .bool false] 41)).drew.heap[w.heap.size + 1]? = _ from two_b w _ _ _ _)
  cases b1 with
  | false =>
    go_enter Try.func44, Try.ntmps44
    go_wp2
    go_region
    all_goals
      go_wp2_with (first
        | (go_at_call 64; ((with_reducible refine (G1.out _).mono ?_); rintro e w1 ⟨rfl, hB⟩; replace hA := bel2 hA hB; obtain ⟨c0, c1, c2, c3, c4, c5, c6, c7, c8, c9⟩ := above10 hs c0 c1 c2 c3 c4 c5 c6 c7 c8 c9 hB; obtain ⟨d0, d1, d2, d3, d4, d5, d6, d7, d8, d9⟩ := above10 hs2 d0 d1 d2 d3 d4 d5 d6 d7 d8 d9 hB; replace hs := Nat.lt_of_lt_of_le hs hB.size; replace hs2 := Nat.lt_of_lt_of_le hs2 hB.size; clear hB))
        | (go_at_call 65; ((with_reducible refine (G2.out _).mono ?_); rintro e w1 ⟨rfl, hB⟩; replace hA := bel2 hA hB; obtain ⟨c0, c1, c2, c3, c4, c5, c6, c7, c8, c9⟩ := above10 hs c0 c1 c2 c3 c4 c5 c6 c7 c8 c9 hB; obtain ⟨d0, d1, d2, d3, d4, d5, d6, d7, d8, d9⟩ := above10 hs2 d0 d1 d2 d3 d4 d5 d6 d7 d8 d9 hB; replace hs := Nat.lt_of_lt_of_le hs hB.size; replace hs2 := Nat.lt_of_lt_of_le hs2 hB.size; clear hB))
        | (go_at_call 68; ((with_reducible refine (GW.out _).mono ?_); rintro e w1 ⟨rfl, hB⟩; replace hA := bel2 hA hB; obtain ⟨c0, c1, c2, c3, c4, c5, c6, c7, c8, c9⟩ := above10 hs c0 c1 c2 c3 c4 c5 c6 c7 c8 c9 hB; obtain ⟨d0, d1, d2, d3, d4, d5, d6, d7, d8, d9⟩ := above10 hs2 d0 d1 d2 d3 d4 d5 d6 d7 d8 d9 hB; replace hs := Nat.lt_of_lt_of_le hs hB.size; replace hs2 := Nat.lt_of_lt_of_le hs2 hB.size; clear hB))
        | (go_at_call 69; ((with_reducible refine (GS.out _ hA).mono ?_); rintro e w1 ⟨rfl, hB⟩; replace hA := bel2 hA hB; obtain ⟨c0, c1, c2, c3, c4, c5, c6, c7, c8, c9⟩ := above10 hs c0 c1 c2 c3 c4 c5 c6 c7 c8 c9 hB; obtain ⟨d0, d1, d2, d3, d4, d5, d6, d7, d8, d9⟩ := above10 hs2 d0 d1 d2 d3 d4 d5 d6 d7 d8 d9 hB; replace hs := Nat.lt_of_lt_of_le hs hB.size; replace hs2 := Nat.lt_of_lt_of_le hs2 hB.size; clear hB)))
      go_ret
      exact ⟨by simp, hA⟩
  | true =>
    cases b2 with
    | false =>
      by_cases h0 : t = 0
      · subst h0
        cases bw
        all_goals
          go_enter Try.func44, Try.ntmps44
          go_wp2
          go_region
          all_goals
            go_wp2_with (first
              | (go_at_call 64; ((with_reducible refine (G1.out _).mono ?_); rintro e w1 ⟨rfl, hB⟩; replace hA := bel2 hA hB; obtain ⟨c0, c1, c2, c3, c4, c5, c6, c7, c8, c9⟩ := above10 hs c0 c1 c2 c3 c4 c5 c6 c7 c8 c9 hB; obtain ⟨d0, d1, d2, d3, d4, d5, d6, d7, d8, d9⟩ := above10 hs2 d0 d1 d2 d3 d4 d5 d6 d7 d8 d9 hB; replace hs := Nat.lt_of_lt_of_le hs hB.size; replace hs2 := Nat.lt_of_lt_of_le hs2 hB.size; clear hB))
              | (go_at_call 65; ((with_reducible refine (G2.out _).mono ?_); rintro e w1 ⟨rfl, hB⟩; replace hA := bel2 hA hB; obtain ⟨c0, c1, c2, c3, c4, c5, c6, c7, c8, c9⟩ := above10 hs c0 c1 c2 c3 c4 c5 c6 c7 c8 c9 hB; obtain ⟨d0, d1, d2, d3, d4, d5, d6, d7, d8, d9⟩ := above10 hs2 d0 d1 d2 d3 d4 d5 d6 d7 d8 d9 hB; replace hs := Nat.lt_of_lt_of_le hs hB.size; replace hs2 := Nat.lt_of_lt_of_le hs2 hB.size; clear hB))
              | (go_at_call 68; ((with_reducible refine (GW.out _).mono ?_); rintro e w1 ⟨rfl, hB⟩; replace hA := bel2 hA hB; obtain ⟨c0, c1, c2, c3, c4, c5, c6, c7, c8, c9⟩ := above10 hs c0 c1 c2 c3 c4 c5 c6 c7 c8 c9 hB; obtain ⟨d0, d1, d2, d3, d4, d5, d6, d7, d8, d9⟩ := above10 hs2 d0 d1 d2 d3 d4 d5 d6 d7 d8 d9 hB; replace hs := Nat.lt_of_lt_of_le hs hB.size; replace hs2 := Nat.lt_of_lt_of_le hs2 hB.size; clear hB))
              | (go_at_call 69; ((with_reducible refine (GS.out _ hA).mono ?_); rintro e w1 ⟨rfl, hB⟩; replace hA := bel2 hA hB; obtain ⟨c0, c1, c2, c3, c4, c5, c6, c7, c8, c9⟩ := above10 hs c0 c1 c2 c3 c4 c5 c6 c7 c8 c9 hB; obtain ⟨d0, d1, d2, d3, d4, d5, d6, d7, d8, d9⟩ := above10 hs2 d0 d1 d2 d3 d4 d5 d6 d7 d8 d9 hB; replace hs := Nat.lt_of_lt_of_le hs hB.size; replace hs2 := Nat.lt_of_lt_of_le hs2 hB.size; clear hB)))
            go_ret
            exact ⟨by simp, hA⟩
      · rw [show decide (t = 0) = false by simp [h0]]
        go_enter Try.func44, Try.ntmps44
        go_wp2
        go_region
        all_goals
          go_wp2_with (first
            | (go_at_call 64; ((with_reducible refine (G1.out _).mono ?_); rintro e w1 ⟨rfl, hB⟩; replace hA := bel2 hA hB; obtain ⟨c0, c1, c2, c3, c4, c5, c6, c7, c8, c9⟩ := above10 hs c0 c1 c2 c3 c4 c5 c6 c7 c8 c9 hB; obtain ⟨d0, d1, d2, d3, d4, d5, d6, d7, d8, d9⟩ := above10 hs2 d0 d1 d2 d3 d4 d5 d6 d7 d8 d9 hB; replace hs := Nat.lt_of_lt_of_le hs hB.size; replace hs2 := Nat.lt_of_lt_of_le hs2 hB.size; clear hB))
            | (go_at_call 65; ((with_reducible refine (G2.out _).mono ?_); rintro e w1 ⟨rfl, hB⟩; replace hA := bel2 hA hB; obtain ⟨c0, c1, c2, c3, c4, c5, c6, c7, c8, c9⟩ := above10 hs c0 c1 c2 c3 c4 c5 c6 c7 c8 c9 hB; obtain ⟨d0, d1, d2, d3, d4, d5, d6, d7, d8, d9⟩ := above10 hs2 d0 d1 d2 d3 d4 d5 d6 d7 d8 d9 hB; replace hs := Nat.lt_of_lt_of_le hs hB.size; replace hs2 := Nat.lt_of_lt_of_le hs2 hB.size; clear hB))
            | (go_at_call 68; ((with_reducible refine (GW.out _).mono ?_); rintro e w1 ⟨rfl, hB⟩; replace hA := bel2 hA hB; obtain ⟨c0, c1, c2, c3, c4, c5, c6, c7, c8, c9⟩ := above10 hs c0 c1 c2 c3 c4 c5 c6 c7 c8 c9 hB; obtain ⟨d0, d1, d2, d3, d4, d5, d6, d7, d8, d9⟩ := above10 hs2 d0 d1 d2 d3 d4 d5 d6 d7 d8 d9 hB; replace hs := Nat.lt_of_lt_of_le hs hB.size; replace hs2 := Nat.lt_of_lt_of_le hs2 hB.size; clear hB))
            | (go_at_call 69; ((with_reducible refine (GS.out _ hA).mono ?_); rintro e w1 ⟨rfl, hB⟩; replace hA := bel2 hA hB; obtain ⟨c0, c1, c2, c3, c4, c5, c6, c7, c8, c9⟩ := above10 hs c0 c1 c2 c3 c4 c5 c6 c7 c8 c9 hB; obtain ⟨d0, d1, d2, d3, d4, d5, d6, d7, d8, d9⟩ := above10 hs2 d0 d1 d2 d3 d4 d5 d6 d7 d8 d9 hB; replace hs := Nat.lt_of_lt_of_le hs hB.size; replace hs2 := Nat.lt_of_lt_of_le hs2 hB.size; clear hB)))
          go_ret
          exact ⟨by simp, hA⟩
    | true =>
      cases bw
      all_goals
        go_enter Try.func44, Try.ntmps44
        go_wp2
        go_region
        all_goals
          go_wp2_with (first
            | (go_at_call 64; ((with_reducible refine (G1.out _).mono ?_); rintro e w1 ⟨rfl, hB⟩; replace hA := bel2 hA hB; obtain ⟨c0, c1, c2, c3, c4, c5, c6, c7, c8, c9⟩ := above10 hs c0 c1 c2 c3 c4 c5 c6 c7 c8 c9 hB; obtain ⟨d0, d1, d2, d3, d4, d5, d6, d7, d8, d9⟩ := above10 hs2 d0 d1 d2 d3 d4 d5 d6 d7 d8 d9 hB; replace hs := Nat.lt_of_lt_of_le hs hB.size; replace hs2 := Nat.lt_of_lt_of_le hs2 hB.size; clear hB))
            | (go_at_call 65; ((with_reducible refine (G2.out _).mono ?_); rintro e w1 ⟨rfl, hB⟩; replace hA := bel2 hA hB; obtain ⟨c0, c1, c2, c3, c4, c5, c6, c7, c8, c9⟩ := above10 hs c0 c1 c2 c3 c4 c5 c6 c7 c8 c9 hB; obtain ⟨d0, d1, d2, d3, d4, d5, d6, d7, d8, d9⟩ := above10 hs2 d0 d1 d2 d3 d4 d5 d6 d7 d8 d9 hB; replace hs := Nat.lt_of_lt_of_le hs hB.size; replace hs2 := Nat.lt_of_lt_of_le hs2 hB.size; clear hB))
            | (go_at_call 68; ((with_reducible refine (GW.out _).mono ?_); rintro e w1 ⟨rfl, hB⟩; replace hA := bel2 hA hB; obtain ⟨c0, c1, c2, c3, c4, c5, c6, c7, c8, c9⟩ := above10 hs c0 c1 c2 c3 c4 c5 c6 c7 c8 c9 hB; obtain ⟨d0, d1, d2, d3, d4, d5, d6, d7, d8, d9⟩ := above10 hs2 d0 d1 d2 d3 d4 d5 d6 d7 d8 d9 hB; replace hs := Nat.lt_of_lt_of_le hs hB.size; replace hs2 := Nat.lt_of_lt_of_le hs2 hB.size; clear hB))
            | (go_at_call 69; ((with_reducible refine (GS.out _ hA).mono ?_); rintro e w1 ⟨rfl, hB⟩; replace hA := bel2 hA hB; obtain ⟨c0, c1, c2, c3, c4, c5, c6, c7, c8, c9⟩ := above10 hs c0 c1 c2 c3 c4 c5 c6 c7 c8 c9 hB; obtain ⟨d0, d1, d2, d3, d4, d5, d6, d7, d8, d9⟩ := above10 hs2 d0 d1 d2 d3 d4 d5 d6 d7 d8 d9 hB; replace hs := Nat.lt_of_lt_of_le hs hB.size; replace hs2 := Nat.lt_of_lt_of_le hs2 hB.size; clear hB)))
          go_ret
          exact ⟨by simp, hA⟩

set_option maxRecDepth 100000 in
set_option maxHeartbeats 4000000 in
theorem is4_any (g : Int) (a : Option Addr) (len cap : Nat) (ht hv hc i t : Int) (mk hd : Bool) (l : List EntryC) (w : World) (h1 : HasE w (⟨g, 4, a, len, cap, ht, hv, hc, i, t, mk, hd⟩ : PartC) l) : Gives Try.prog 44 #[(⟨g, 4, a, len, cap, ht, hv, hc, i, t, mk, hd⟩ : PartC).val] w (.bool (isB (⟨g, 4, a, len, cap, ht, hv, hc, i, t, mk, hd⟩ : PartC) l)) := by
  have hV := Lib.hid (show isB (⟨g, 4, a, len, cap, ht, hv, hc, i, t, mk, hd⟩ : PartC) l = ((wB i 1 1099511627776 && wB t 1 1099511627776) && (wB g 0 999 && sameB (⟨g, 4, a, len, cap, ht, hv, hc, i, t, mk, hd⟩ : PartC) (⟨g, 4, none, 0, 0, 0, 0, 0, i, t, false, false⟩ : PartC) l [])) by simp [isB, okB, hasC, hasL])
  rw [hV.out]
  clear hV
  have GW := Lib.hid (within_any g 0 999)
  have GS := Lib.hid (fun W (hB : Below w.heap.size w W) => same_any (⟨g, 4, a, len, cap, ht, hv, hc, i, t, mk, hd⟩ : PartC) (⟨g, 4, none, 0, 0, 0, 0, 0, i, t, false, false⟩ : PartC) l [] W (h1.below hB) (hasE_nil rfl rfl))
  have G1 := Lib.hid (isIndex_any i); have G2 := Lib.hid (isTerm_any t)
  clear h1
  generalize sameB (⟨g, 4, a, len, cap, ht, hv, hc, i, t, mk, hd⟩ : PartC) (⟨g, 4, none, 0, 0, 0, 0, 0, i, t, false, false⟩ : PartC) l [] = bs at *
  generalize wB g 0 999 = bw at *
  generalize wB i 1 1099511627776 = b1 at *
  generalize wB t 1 1099511627776 = b2 at *
  dsimp only [PartC.val] at *
  unfold Gives
  have hA : Below w.heap.size w ((w.alloc (.cells #[.int .i64 g, .int .i64 4, .slice a len cap, .int .i64 ht, .int .i64 hv, .int .i64 hc, .int .i64 i, .int .i64 t, .bool mk, .bool hd] 41)).alloc (.cells #[.int .i64 g, .int .i64 4, .slice none 0 0, .int .i64 0, .int .i64 0, .int .i64 0, .int .i64 i, .int .i64 t, .bool false, .bool false] 41)).drew := (bel_alloc (bel_alloc (Below.refl _ _) _) _).drew
  have hs : w.heap.size < ((w.alloc (.cells #[.int .i64 g, .int .i64 4, .slice a len cap, .int .i64 ht, .int .i64 hv, .int .i64 hc, .int .i64 i, .int .i64 t, .bool mk, .bool hd] 41)).alloc (.cells #[.int .i64 g, .int .i64 4, .slice none 0 0, .int .i64 0, .int .i64 0, .int .i64 0, .int .i64 i, .int .i64 t, .bool false, .bool false] 41)).drew.heap.size := by show w.heap.size < ((w.alloc (.cells #[.int .i64 g, .int .i64 4, .slice a len cap, .int .i64 ht, .int .i64 hv, .int .i64 hc, .int .i64 i, .int .i64 t, .bool mk, .bool hd] 41)).alloc (.cells #[.int .i64 g, .int .i64 4, .slice none 0 0, .int .i64 0, .int .i64 0, .int .i64 0, .int .i64 i, .int .i64 t, .bool false, .bool false] 41)).heap.size; simp; omega
  have hs2 : w.heap.size + 1 < ((w.alloc (.cells #[.int .i64 g, .int .i64 4, .slice a len cap, .int .i64 ht, .int .i64 hv, .int .i64 hc, .int .i64 i, .int .i64 t, .bool mk, .bool hd] 41)).alloc (.cells #[.int .i64 g, .int .i64 4, .slice none 0 0, .int .i64 0, .int .i64 0, .int .i64 0, .int .i64 i, .int .i64 t, .bool false, .bool false] 41)).drew.heap.size := by show w.heap.size + 1 < ((w.alloc (.cells #[.int .i64 g, .int .i64 4, .slice a len cap, .int .i64 ht, .int .i64 hv, .int .i64 hc, .int .i64 i, .int .i64 t, .bool mk, .bool hd] 41)).alloc (.cells #[.int .i64 g, .int .i64 4, .slice none 0 0, .int .i64 0, .int .i64 0, .int .i64 0, .int .i64 i, .int .i64 t, .bool false, .bool false] 41)).heap.size; simp
  obtain ⟨c0, c1, c2, c3, c4, c5, c6, c7, c8, c9⟩ := arr10q (show ((w.alloc (.cells #[.int .i64 g, .int .i64 4, .slice a len cap, .int .i64 ht, .int .i64 hv, .int .i64 hc, .int .i64 i, .int .i64 t, .bool mk, .bool hd] 41)).alloc (.cells #[.int .i64 g, .int .i64 4, .slice none 0 0, .int .i64 0, .int .i64 0, .int .i64 0, .int .i64 i, .int .i64 t, .bool false, .bool false] 41)).drew.heap[w.heap.size]? = _ from two_a w _ _ _ _)
  obtain ⟨d0, d1, d2, d3, d4, d5, d6, d7, d8, d9⟩ := arr10q (show ((w.alloc (.cells #[.int .i64 g, .int .i64 4, .slice a len cap, .int .i64 ht, .int .i64 hv, .int .i64 hc, .int .i64 i, .int .i64 t, .bool mk, .bool hd] 41)).alloc (.cells #[.int .i64 g, .int .i64 4, .slice none 0 0, .int .i64 0, .int .i64 0, .int .i64 0, .int .i64 i, .int .i64 t, .bool false, .bool false] 41)).drew.heap[w.heap.size + 1]? = _ from two_b w _ _ _ _)
  cases b1 with
  | false =>
    go_enter Try.func44, Try.ntmps44
    go_wp2
    go_region
    all_goals
      go_wp2_with (first
        | (go_at_call 64; ((with_reducible refine (G1.out _).mono ?_); rintro e w1 ⟨rfl, hB⟩; replace hA := bel2 hA hB; obtain ⟨c0, c1, c2, c3, c4, c5, c6, c7, c8, c9⟩ := above10 hs c0 c1 c2 c3 c4 c5 c6 c7 c8 c9 hB; obtain ⟨d0, d1, d2, d3, d4, d5, d6, d7, d8, d9⟩ := above10 hs2 d0 d1 d2 d3 d4 d5 d6 d7 d8 d9 hB; replace hs := Nat.lt_of_lt_of_le hs hB.size; replace hs2 := Nat.lt_of_lt_of_le hs2 hB.size; clear hB))
        | (go_at_call 65; ((with_reducible refine (G2.out _).mono ?_); rintro e w1 ⟨rfl, hB⟩; replace hA := bel2 hA hB; obtain ⟨c0, c1, c2, c3, c4, c5, c6, c7, c8, c9⟩ := above10 hs c0 c1 c2 c3 c4 c5 c6 c7 c8 c9 hB; obtain ⟨d0, d1, d2, d3, d4, d5, d6, d7, d8, d9⟩ := above10 hs2 d0 d1 d2 d3 d4 d5 d6 d7 d8 d9 hB; replace hs := Nat.lt_of_lt_of_le hs hB.size; replace hs2 := Nat.lt_of_lt_of_le hs2 hB.size; clear hB))
        | (go_at_call 68; ((with_reducible refine (GW.out _).mono ?_); rintro e w1 ⟨rfl, hB⟩; replace hA := bel2 hA hB; obtain ⟨c0, c1, c2, c3, c4, c5, c6, c7, c8, c9⟩ := above10 hs c0 c1 c2 c3 c4 c5 c6 c7 c8 c9 hB; obtain ⟨d0, d1, d2, d3, d4, d5, d6, d7, d8, d9⟩ := above10 hs2 d0 d1 d2 d3 d4 d5 d6 d7 d8 d9 hB; replace hs := Nat.lt_of_lt_of_le hs hB.size; replace hs2 := Nat.lt_of_lt_of_le hs2 hB.size; clear hB))
        | (go_at_call 69; ((with_reducible refine (GS.out _ hA).mono ?_); rintro e w1 ⟨rfl, hB⟩; replace hA := bel2 hA hB; obtain ⟨c0, c1, c2, c3, c4, c5, c6, c7, c8, c9⟩ := above10 hs c0 c1 c2 c3 c4 c5 c6 c7 c8 c9 hB; obtain ⟨d0, d1, d2, d3, d4, d5, d6, d7, d8, d9⟩ := above10 hs2 d0 d1 d2 d3 d4 d5 d6 d7 d8 d9 hB; replace hs := Nat.lt_of_lt_of_le hs hB.size; replace hs2 := Nat.lt_of_lt_of_le hs2 hB.size; clear hB)))
      go_ret
      exact ⟨by simp, hA⟩
  | true =>
    cases b2 with
    | false =>
      go_enter Try.func44, Try.ntmps44
      go_wp2
      go_region
      all_goals
        go_wp2_with (first
          | (go_at_call 64; ((with_reducible refine (G1.out _).mono ?_); rintro e w1 ⟨rfl, hB⟩; replace hA := bel2 hA hB; obtain ⟨c0, c1, c2, c3, c4, c5, c6, c7, c8, c9⟩ := above10 hs c0 c1 c2 c3 c4 c5 c6 c7 c8 c9 hB; obtain ⟨d0, d1, d2, d3, d4, d5, d6, d7, d8, d9⟩ := above10 hs2 d0 d1 d2 d3 d4 d5 d6 d7 d8 d9 hB; replace hs := Nat.lt_of_lt_of_le hs hB.size; replace hs2 := Nat.lt_of_lt_of_le hs2 hB.size; clear hB))
          | (go_at_call 65; ((with_reducible refine (G2.out _).mono ?_); rintro e w1 ⟨rfl, hB⟩; replace hA := bel2 hA hB; obtain ⟨c0, c1, c2, c3, c4, c5, c6, c7, c8, c9⟩ := above10 hs c0 c1 c2 c3 c4 c5 c6 c7 c8 c9 hB; obtain ⟨d0, d1, d2, d3, d4, d5, d6, d7, d8, d9⟩ := above10 hs2 d0 d1 d2 d3 d4 d5 d6 d7 d8 d9 hB; replace hs := Nat.lt_of_lt_of_le hs hB.size; replace hs2 := Nat.lt_of_lt_of_le hs2 hB.size; clear hB))
          | (go_at_call 68; ((with_reducible refine (GW.out _).mono ?_); rintro e w1 ⟨rfl, hB⟩; replace hA := bel2 hA hB; obtain ⟨c0, c1, c2, c3, c4, c5, c6, c7, c8, c9⟩ := above10 hs c0 c1 c2 c3 c4 c5 c6 c7 c8 c9 hB; obtain ⟨d0, d1, d2, d3, d4, d5, d6, d7, d8, d9⟩ := above10 hs2 d0 d1 d2 d3 d4 d5 d6 d7 d8 d9 hB; replace hs := Nat.lt_of_lt_of_le hs hB.size; replace hs2 := Nat.lt_of_lt_of_le hs2 hB.size; clear hB))
          | (go_at_call 69; ((with_reducible refine (GS.out _ hA).mono ?_); rintro e w1 ⟨rfl, hB⟩; replace hA := bel2 hA hB; obtain ⟨c0, c1, c2, c3, c4, c5, c6, c7, c8, c9⟩ := above10 hs c0 c1 c2 c3 c4 c5 c6 c7 c8 c9 hB; obtain ⟨d0, d1, d2, d3, d4, d5, d6, d7, d8, d9⟩ := above10 hs2 d0 d1 d2 d3 d4 d5 d6 d7 d8 d9 hB; replace hs := Nat.lt_of_lt_of_le hs hB.size; replace hs2 := Nat.lt_of_lt_of_le hs2 hB.size; clear hB)))
        go_ret
        exact ⟨by simp, hA⟩
    | true =>
      cases bw
      all_goals
        go_enter Try.func44, Try.ntmps44
        go_wp2
        go_region
        all_goals
          go_wp2_with (first
            | (go_at_call 64; ((with_reducible refine (G1.out _).mono ?_); rintro e w1 ⟨rfl, hB⟩; replace hA := bel2 hA hB; obtain ⟨c0, c1, c2, c3, c4, c5, c6, c7, c8, c9⟩ := above10 hs c0 c1 c2 c3 c4 c5 c6 c7 c8 c9 hB; obtain ⟨d0, d1, d2, d3, d4, d5, d6, d7, d8, d9⟩ := above10 hs2 d0 d1 d2 d3 d4 d5 d6 d7 d8 d9 hB; replace hs := Nat.lt_of_lt_of_le hs hB.size; replace hs2 := Nat.lt_of_lt_of_le hs2 hB.size; clear hB))
            | (go_at_call 65; ((with_reducible refine (G2.out _).mono ?_); rintro e w1 ⟨rfl, hB⟩; replace hA := bel2 hA hB; obtain ⟨c0, c1, c2, c3, c4, c5, c6, c7, c8, c9⟩ := above10 hs c0 c1 c2 c3 c4 c5 c6 c7 c8 c9 hB; obtain ⟨d0, d1, d2, d3, d4, d5, d6, d7, d8, d9⟩ := above10 hs2 d0 d1 d2 d3 d4 d5 d6 d7 d8 d9 hB; replace hs := Nat.lt_of_lt_of_le hs hB.size; replace hs2 := Nat.lt_of_lt_of_le hs2 hB.size; clear hB))
            | (go_at_call 68; ((with_reducible refine (GW.out _).mono ?_); rintro e w1 ⟨rfl, hB⟩; replace hA := bel2 hA hB; obtain ⟨c0, c1, c2, c3, c4, c5, c6, c7, c8, c9⟩ := above10 hs c0 c1 c2 c3 c4 c5 c6 c7 c8 c9 hB; obtain ⟨d0, d1, d2, d3, d4, d5, d6, d7, d8, d9⟩ := above10 hs2 d0 d1 d2 d3 d4 d5 d6 d7 d8 d9 hB; replace hs := Nat.lt_of_lt_of_le hs hB.size; replace hs2 := Nat.lt_of_lt_of_le hs2 hB.size; clear hB))
            | (go_at_call 69; ((with_reducible refine (GS.out _ hA).mono ?_); rintro e w1 ⟨rfl, hB⟩; replace hA := bel2 hA hB; obtain ⟨c0, c1, c2, c3, c4, c5, c6, c7, c8, c9⟩ := above10 hs c0 c1 c2 c3 c4 c5 c6 c7 c8 c9 hB; obtain ⟨d0, d1, d2, d3, d4, d5, d6, d7, d8, d9⟩ := above10 hs2 d0 d1 d2 d3 d4 d5 d6 d7 d8 d9 hB; replace hs := Nat.lt_of_lt_of_le hs hB.size; replace hs2 := Nat.lt_of_lt_of_le hs2 hB.size; clear hB)))
          go_ret
          exact ⟨by simp, hA⟩

set_option maxRecDepth 100000 in
set_option maxHeartbeats 4000000 in
theorem is5_any (g : Int) (a : Option Addr) (len cap : Nat) (ht hv hc i t : Int) (mk hd : Bool) (l : List EntryC) (w : World) (h1 : HasE w (⟨g, 5, a, len, cap, ht, hv, hc, i, t, mk, hd⟩ : PartC) l) : Gives Try.prog 44 #[(⟨g, 5, a, len, cap, ht, hv, hc, i, t, mk, hd⟩ : PartC).val] w (.bool (isB (⟨g, 5, a, len, cap, ht, hv, hc, i, t, mk, hd⟩ : PartC) l)) := by
  have hV := Lib.hid (show isB (⟨g, 5, a, len, cap, ht, hv, hc, i, t, mk, hd⟩ : PartC) l = (true && (wB g 0 999 && sameB (⟨g, 5, a, len, cap, ht, hv, hc, i, t, mk, hd⟩ : PartC) (⟨g, 5, none, 0, 0, 0, 0, 0, 0, 0, false, false⟩ : PartC) l [])) by simp [isB, okB, hasC, hasL])
  rw [hV.out]
  clear hV
  have GW := Lib.hid (within_any g 0 999)
  have GS := Lib.hid (fun W (hB : Below w.heap.size w W) => same_any (⟨g, 5, a, len, cap, ht, hv, hc, i, t, mk, hd⟩ : PartC) (⟨g, 5, none, 0, 0, 0, 0, 0, 0, 0, false, false⟩ : PartC) l [] W (h1.below hB) (hasE_nil rfl rfl))
  clear h1
  generalize sameB (⟨g, 5, a, len, cap, ht, hv, hc, i, t, mk, hd⟩ : PartC) (⟨g, 5, none, 0, 0, 0, 0, 0, 0, 0, false, false⟩ : PartC) l [] = bs at *
  generalize wB g 0 999 = bw at *
  dsimp only [PartC.val] at *
  unfold Gives
  have hA : Below w.heap.size w ((w.alloc (.cells #[.int .i64 g, .int .i64 5, .slice a len cap, .int .i64 ht, .int .i64 hv, .int .i64 hc, .int .i64 i, .int .i64 t, .bool mk, .bool hd] 41)).alloc (.cells #[.int .i64 g, .int .i64 5, .slice none 0 0, .int .i64 0, .int .i64 0, .int .i64 0, .int .i64 0, .int .i64 0, .bool false, .bool false] 41)) := (bel_alloc (bel_alloc (Below.refl _ _) _) _)
  have hs : w.heap.size < ((w.alloc (.cells #[.int .i64 g, .int .i64 5, .slice a len cap, .int .i64 ht, .int .i64 hv, .int .i64 hc, .int .i64 i, .int .i64 t, .bool mk, .bool hd] 41)).alloc (.cells #[.int .i64 g, .int .i64 5, .slice none 0 0, .int .i64 0, .int .i64 0, .int .i64 0, .int .i64 0, .int .i64 0, .bool false, .bool false] 41)).heap.size := by simp; omega
  have hs2 : w.heap.size + 1 < ((w.alloc (.cells #[.int .i64 g, .int .i64 5, .slice a len cap, .int .i64 ht, .int .i64 hv, .int .i64 hc, .int .i64 i, .int .i64 t, .bool mk, .bool hd] 41)).alloc (.cells #[.int .i64 g, .int .i64 5, .slice none 0 0, .int .i64 0, .int .i64 0, .int .i64 0, .int .i64 0, .int .i64 0, .bool false, .bool false] 41)).heap.size := by simp
  obtain ⟨c0, c1, c2, c3, c4, c5, c6, c7, c8, c9⟩ := arr10q (show ((w.alloc (.cells #[.int .i64 g, .int .i64 5, .slice a len cap, .int .i64 ht, .int .i64 hv, .int .i64 hc, .int .i64 i, .int .i64 t, .bool mk, .bool hd] 41)).alloc (.cells #[.int .i64 g, .int .i64 5, .slice none 0 0, .int .i64 0, .int .i64 0, .int .i64 0, .int .i64 0, .int .i64 0, .bool false, .bool false] 41)).heap[w.heap.size]? = _ from two_a w _ _ _ _)
  obtain ⟨d0, d1, d2, d3, d4, d5, d6, d7, d8, d9⟩ := arr10q (show ((w.alloc (.cells #[.int .i64 g, .int .i64 5, .slice a len cap, .int .i64 ht, .int .i64 hv, .int .i64 hc, .int .i64 i, .int .i64 t, .bool mk, .bool hd] 41)).alloc (.cells #[.int .i64 g, .int .i64 5, .slice none 0 0, .int .i64 0, .int .i64 0, .int .i64 0, .int .i64 0, .int .i64 0, .bool false, .bool false] 41)).heap[w.heap.size + 1]? = _ from two_b w _ _ _ _)
  cases bw
  all_goals
    go_enter Try.func44, Try.ntmps44
    go_wp2_with (first
      | (go_at_call 68; ((with_reducible refine (GW.out _).mono ?_); rintro e w1 ⟨rfl, hB⟩; replace hA := bel2 hA hB; obtain ⟨c0, c1, c2, c3, c4, c5, c6, c7, c8, c9⟩ := above10 hs c0 c1 c2 c3 c4 c5 c6 c7 c8 c9 hB; obtain ⟨d0, d1, d2, d3, d4, d5, d6, d7, d8, d9⟩ := above10 hs2 d0 d1 d2 d3 d4 d5 d6 d7 d8 d9 hB; replace hs := Nat.lt_of_lt_of_le hs hB.size; replace hs2 := Nat.lt_of_lt_of_le hs2 hB.size; clear hB))
      | (go_at_call 69; ((with_reducible refine (GS.out _ hA).mono ?_); rintro e w1 ⟨rfl, hB⟩; replace hA := bel2 hA hB; obtain ⟨c0, c1, c2, c3, c4, c5, c6, c7, c8, c9⟩ := above10 hs c0 c1 c2 c3 c4 c5 c6 c7 c8 c9 hB; obtain ⟨d0, d1, d2, d3, d4, d5, d6, d7, d8, d9⟩ := above10 hs2 d0 d1 d2 d3 d4 d5 d6 d7 d8 d9 hB; replace hs := Nat.lt_of_lt_of_le hs hB.size; replace hs2 := Nat.lt_of_lt_of_le hs2 hB.size; clear hB)))
    go_ret
    exact ⟨by simp, hA⟩

end Go.Proofs.Ytdncdlbhgaehmaa

/- The contract of package part's Is: the sixth kind, no kind, all. -/
namespace Go.Proofs.Ytdncdlbhgaehmaa
open Go.RowKit Go.Shelf
set_option linter.unusedVariables false
attribute [local go_sem] Oper.semAt_some wide_fn wide_round_fn

abbrev st10 (W : World) (b : Nat) (v0 v1 v2 v3 v4 v5 v6 v7 v8 v9 : Value) : World := ((((((((((W.setCell ⟨b, 0, none⟩ v0).setCell ⟨b, 1, none⟩ v1).setCell ⟨b, 2, none⟩ v2).setCell ⟨b, 3, none⟩ v3).setCell ⟨b, 4, none⟩ v4).setCell ⟨b, 5, none⟩ v5).setCell ⟨b, 6, none⟩ v6).setCell ⟨b, 7, none⟩ v7).setCell ⟨b, 8, none⟩ v8).setCell ⟨b, 9, none⟩ v9)
theorem st10_block {W : World} {b : Nat} {T : TypeId} {z0 z1 z2 z3 z4 z5 z6 z7 z8 z9 : Value} (h : W.heap[b]? = some (.cells #[z0, z1, z2, z3, z4, z5, z6, z7, z8, z9] T (0, 0))) (v0 v1 v2 v3 v4 v5 v6 v7 v8 v9 : Value) :
    (st10 W b v0 v1 v2 v3 v4 v5 v6 v7 v8 v9).heap[b]? = some (.cells #[v0, v1, v2, v3, v4, v5, v6, v7, v8, v9] T (0, 0)) := by
  have h10 := (Go.Joins.block_setCell (Go.Joins.block_setCell (Go.Joins.block_setCell (Go.Joins.block_setCell (Go.Joins.block_setCell (Go.Joins.block_setCell (Go.Joins.block_setCell (Go.Joins.block_setCell (Go.Joins.block_setCell (Go.Joins.block_setCell h v0 (i := 0)) v1 (i := 1)) v2 (i := 2)) v3 (i := 3)) v4 (i := 4)) v5 (i := 5)) v6 (i := 6)) v7 (i := 7)) v8 (i := 8)) v9 (i := 9))
  simpa only [List.setIfInBounds_toArray, List.set_cons_succ, List.set_cons_zero] using h10
theorem st10_below {n : Nat} {w W : World} {b : Nat} (h : Below n w W) (hb : n ≤ b) (v0 v1 v2 v3 v4 v5 v6 v7 v8 v9 : Value) : Below n w (st10 W b v0 v1 v2 v3 v4 v5 v6 v7 v8 v9) := ((((((((((h.setCell (p := ⟨b, 0, none⟩) hb v0).setCell (p := ⟨b, 1, none⟩) hb v1).setCell (p := ⟨b, 2, none⟩) hb v2).setCell (p := ⟨b, 3, none⟩) hb v3).setCell (p := ⟨b, 4, none⟩) hb v4).setCell (p := ⟨b, 5, none⟩) hb v5).setCell (p := ⟨b, 6, none⟩) hb v6).setCell (p := ⟨b, 7, none⟩) hb v7).setCell (p := ⟨b, 8, none⟩) hb v8).setCell (p := ⟨b, 9, none⟩) hb v9)
theorem st10_other {W : World} {b k : Nat} (hk : k ≠ b) (v0 v1 v2 v3 v4 v5 v6 v7 v8 v9 : Value) : (st10 W b v0 v1 v2 v3 v4 v5 v6 v7 v8 v9).heap[k]? = W.heap[k]? := by
  simp only [st10]
  repeat rw [heap_setCell_other _ _ _ _ hk]
theorem st10_size {W : World} {b : Nat} (v0 v1 v2 v3 v4 v5 v6 v7 v8 v9 : Value) : (st10 W b v0 v1 v2 v3 v4 v5 v6 v7 v8 v9).heap.size = W.heap.size := by simp [st10]

set_option maxRecDepth 100000 in
set_option maxHeartbeats 4000000 in
theorem is0_any (g k : Int) (a : Option Addr) (len cap : Nat) (ht hv hc i t : Int) (mk hd : Bool) (l : List EntryC) (w : World) (h1 : k ≠ 1) (h2 : k ≠ 2) (h3 : k ≠ 3) (h4 : k ≠ 4) (h5 : k ≠ 5) (h6 : k ≠ 6) : Gives Try.prog 44 #[(⟨g, k, a, len, cap, ht, hv, hc, i, t, mk, hd⟩ : PartC).val] w (.bool (isB (⟨g, k, a, len, cap, ht, hv, hc, i, t, mk, hd⟩ : PartC) l)) := by
  have hV := Lib.hid (show isB (⟨g, k, a, len, cap, ht, hv, hc, i, t, mk, hd⟩ : PartC) l = false by simp [isB, okB, h1, h2, h3, h4, h5, h6])
  rw [hV.out]
  dsimp only [PartC.val] at *
  unfold Gives
  go_enter Try.func44, Try.ntmps44
  go_wp2
  go_ret
  exact ⟨by simp, bel_alloc (bel_alloc (Below.refl _ _) _) _⟩

set_option maxRecDepth 100000 in
set_option maxHeartbeats 4000000 in
theorem is6_any (g : Int) (a : Option Addr) (len cap : Nat) (ht hv hc i t : Int) (mk hd : Bool) (l : List EntryC) (w : World) (h1 : HasE w (⟨g, 6, a, len, cap, ht, hv, hc, i, t, mk, hd⟩ : PartC) l) : Gives Try.prog 44 #[(⟨g, 6, a, len, cap, ht, hv, hc, i, t, mk, hd⟩ : PartC).val] w (.bool (isB (⟨g, 6, a, len, cap, ht, hv, hc, i, t, mk, hd⟩ : PartC) l)) := by
  have hV := Lib.hid (show isB (⟨g, 6, a, len, cap, ht, hv, hc, i, t, mk, hd⟩ : PartC) l = (isFwdB (⟨g, 6, a, len, cap, ht, hv, hc, i, t, mk, hd⟩ : PartC) l && (wB g 0 999 && sameB (⟨g, 6, a, len, cap, ht, hv, hc, i, t, mk, hd⟩ : PartC) (forwardC (⟨g, 6, a, len, cap, ht, hv, hc, i, t, mk, hd⟩ : PartC)) l l)) by simp [isB, okB, hasC, hasL])
  rw [hV.out]
  clear hV
  have GW := Lib.hid (within_any g 0 999)
  have GS := Lib.hid (fun W (hB : Below w.heap.size w W) => same_any (⟨g, 6, a, len, cap, ht, hv, hc, i, t, mk, hd⟩ : PartC) (forwardC (⟨g, 6, a, len, cap, ht, hv, hc, i, t, mk, hd⟩ : PartC)) l l W (h1.below hB) (by have := h1.below hB; cases mk <;> cases hd <;> exact this))
  have GF := Lib.hid (forwarded_any (⟨g, 6, a, len, cap, ht, hv, hc, i, t, mk, hd⟩ : PartC))
  have GI := Lib.hid (fun W (hB : Below w.heap.size w W) => isForward_any (⟨g, 6, a, len, cap, ht, hv, hc, i, t, mk, hd⟩ : PartC) l W (h1.below hB))
  clear h1
  generalize sameB (⟨g, 6, a, len, cap, ht, hv, hc, i, t, mk, hd⟩ : PartC) (forwardC (⟨g, 6, a, len, cap, ht, hv, hc, i, t, mk, hd⟩ : PartC)) l l = bs at *
  generalize wB g 0 999 = bw at *
  generalize isFwdB (⟨g, 6, a, len, cap, ht, hv, hc, i, t, mk, hd⟩ : PartC) l = bi at *
  obtain ⟨ht', hv', hc', i', t', hF⟩ : ∃ ht' hv' hc' i' t', (forwardC (⟨g, 6, a, len, cap, ht, hv, hc, i, t, mk, hd⟩ : PartC)) = ⟨g, 6, a, len, cap, ht', hv', hc', i', t', mk, hd⟩ := by cases mk <;> cases hd <;> exact ⟨_, _, _, _, _, rfl⟩
  rw [hF] at GS GF
  clear hF
  dsimp only [PartC.val] at *
  unfold Gives
  have hA : Below w.heap.size w ((w.alloc (.cells #[.int .i64 g, .int .i64 6, .slice a len cap, .int .i64 ht, .int .i64 hv, .int .i64 hc, .int .i64 i, .int .i64 t, .bool mk, .bool hd] 41)).alloc (.cells #[.int .i64 g, .int .i64 6, .slice none 0 0, .int .i64 0, .int .i64 0, .int .i64 0, .int .i64 0, .int .i64 0, .bool false, .bool false] 41)) := bel_alloc (bel_alloc (Below.refl _ _) _) _
  have hs : w.heap.size < ((w.alloc (.cells #[.int .i64 g, .int .i64 6, .slice a len cap, .int .i64 ht, .int .i64 hv, .int .i64 hc, .int .i64 i, .int .i64 t, .bool mk, .bool hd] 41)).alloc (.cells #[.int .i64 g, .int .i64 6, .slice none 0 0, .int .i64 0, .int .i64 0, .int .i64 0, .int .i64 0, .int .i64 0, .bool false, .bool false] 41)).heap.size := by simp; omega
  have hs2 : w.heap.size + 1 < ((w.alloc (.cells #[.int .i64 g, .int .i64 6, .slice a len cap, .int .i64 ht, .int .i64 hv, .int .i64 hc, .int .i64 i, .int .i64 t, .bool mk, .bool hd] 41)).alloc (.cells #[.int .i64 g, .int .i64 6, .slice none 0 0, .int .i64 0, .int .i64 0, .int .i64 0, .int .i64 0, .int .i64 0, .bool false, .bool false] 41)).heap.size := by simp
  have hbp : ((w.alloc (.cells #[.int .i64 g, .int .i64 6, .slice a len cap, .int .i64 ht, .int .i64 hv, .int .i64 hc, .int .i64 i, .int .i64 t, .bool mk, .bool hd] 41)).alloc (.cells #[.int .i64 g, .int .i64 6, .slice none 0 0, .int .i64 0, .int .i64 0, .int .i64 0, .int .i64 0, .int .i64 0, .bool false, .bool false] 41)).heap[w.heap.size]? = some (.cells #[.int .i64 g, .int .i64 6, .slice a len cap, .int .i64 ht, .int .i64 hv, .int .i64 hc, .int .i64 i, .int .i64 t, .bool mk, .bool hd] 41 (0, 0)) := ((bel_alloc (Below.refl (w.alloc (.cells #[.int .i64 g, .int .i64 6, .slice a len cap, .int .i64 ht, .int .i64 hv, .int .i64 hc, .int .i64 i, .int .i64 t, .bool mk, .bool hd] 41)).heap.size _) _).block _ (by rw [World.size_alloc]; omega)).trans (World.alloc_heap_new w _)
  have hbq : ((w.alloc (.cells #[.int .i64 g, .int .i64 6, .slice a len cap, .int .i64 ht, .int .i64 hv, .int .i64 hc, .int .i64 i, .int .i64 t, .bool mk, .bool hd] 41)).alloc (.cells #[.int .i64 g, .int .i64 6, .slice none 0 0, .int .i64 0, .int .i64 0, .int .i64 0, .int .i64 0, .int .i64 0, .bool false, .bool false] 41)).heap[w.heap.size + 1]? = some (.cells #[.int .i64 g, .int .i64 6, .slice none 0 0, .int .i64 0, .int .i64 0, .int .i64 0, .int .i64 0, .int .i64 0, .bool false, .bool false] 41 (0, 0)) := by have := World.alloc_heap_new (w.alloc (.cells #[.int .i64 g, .int .i64 6, .slice a len cap, .int .i64 ht, .int .i64 hv, .int .i64 hc, .int .i64 i, .int .i64 t, .bool mk, .bool hd] 41)) (.cells #[.int .i64 g, .int .i64 6, .slice none 0 0, .int .i64 0, .int .i64 0, .int .i64 0, .int .i64 0, .int .i64 0, .bool false, .bool false] 41); rwa [World.size_alloc] at this
  cases bi with
  | false =>
    go_enter Try.func44, Try.ntmps44
    go_wp2_with (first
      | (go_at_call 66; ((with_reducible refine (GF.out _).mono ?_); rintro e w1 ⟨rfl, hB⟩; replace hA := bel2 hA hB; replace hbp := (hB.block _ hs).trans hbp; replace hbq := (hB.block _ hs2).trans hbq; replace hs := Nat.lt_of_lt_of_le hs hB.size; replace hs2 := Nat.lt_of_lt_of_le hs2 hB.size; clear hB; have f0 := frozen_of_row _ _ 0 _ _ hbq; have d0 : w1.cell? ⟨w.heap.size + 1, 0, none⟩ = some (.int .i64 g) := cell_of_row _ _ 0 _ _ _ hbq; have f1 := frozen_of_row _ _ 1 _ _ hbq; have d1 : w1.cell? ⟨w.heap.size + 1, 1, none⟩ = some (.int .i64 6) := cell_of_row _ _ 1 _ _ _ hbq; have f2 := frozen_of_row _ _ 2 _ _ hbq; have d2 : w1.cell? ⟨w.heap.size + 1, 2, none⟩ = some (.slice none 0 0) := cell_of_row _ _ 2 _ _ _ hbq; have f3 := frozen_of_row _ _ 3 _ _ hbq; have d3 : w1.cell? ⟨w.heap.size + 1, 3, none⟩ = some (.int .i64 0) := cell_of_row _ _ 3 _ _ _ hbq; have f4 := frozen_of_row _ _ 4 _ _ hbq; have d4 : w1.cell? ⟨w.heap.size + 1, 4, none⟩ = some (.int .i64 0) := cell_of_row _ _ 4 _ _ _ hbq; have f5 := frozen_of_row _ _ 5 _ _ hbq; have d5 : w1.cell? ⟨w.heap.size + 1, 5, none⟩ = some (.int .i64 0) := cell_of_row _ _ 5 _ _ _ hbq; have f6 := frozen_of_row _ _ 6 _ _ hbq; have d6 : w1.cell? ⟨w.heap.size + 1, 6, none⟩ = some (.int .i64 0) := cell_of_row _ _ 6 _ _ _ hbq; have f7 := frozen_of_row _ _ 7 _ _ hbq; have d7 : w1.cell? ⟨w.heap.size + 1, 7, none⟩ = some (.int .i64 0) := cell_of_row _ _ 7 _ _ _ hbq; have f8 := frozen_of_row _ _ 8 _ _ hbq; have d8 : w1.cell? ⟨w.heap.size + 1, 8, none⟩ = some (.bool false) := cell_of_row _ _ 8 _ _ _ hbq; have f9 := frozen_of_row _ _ 9 _ _ hbq; have d9 : w1.cell? ⟨w.heap.size + 1, 9, none⟩ = some (.bool false) := cell_of_row _ _ 9 _ _ _ hbq; have c0 : w1.cell? ⟨w.heap.size, 0, none⟩ = some (.int .i64 g) := cell_of_row _ _ 0 _ _ _ hbp; have c1 : w1.cell? ⟨w.heap.size, 1, none⟩ = some (.int .i64 6) := cell_of_row _ _ 1 _ _ _ hbp; have c2 : w1.cell? ⟨w.heap.size, 2, none⟩ = some (.slice a len cap) := cell_of_row _ _ 2 _ _ _ hbp; have c3 : w1.cell? ⟨w.heap.size, 3, none⟩ = some (.int .i64 ht) := cell_of_row _ _ 3 _ _ _ hbp; have c4 : w1.cell? ⟨w.heap.size, 4, none⟩ = some (.int .i64 hv) := cell_of_row _ _ 4 _ _ _ hbp; have c5 : w1.cell? ⟨w.heap.size, 5, none⟩ = some (.int .i64 hc) := cell_of_row _ _ 5 _ _ _ hbp; have c6 : w1.cell? ⟨w.heap.size, 6, none⟩ = some (.int .i64 i) := cell_of_row _ _ 6 _ _ _ hbp; have c7 : w1.cell? ⟨w.heap.size, 7, none⟩ = some (.int .i64 t) := cell_of_row _ _ 7 _ _ _ hbp; have c8 : w1.cell? ⟨w.heap.size, 8, none⟩ = some (.bool mk) := cell_of_row _ _ 8 _ _ _ hbp; have c9 : w1.cell? ⟨w.heap.size, 9, none⟩ = some (.bool hd) := cell_of_row _ _ 9 _ _ _ hbp))
      | (go_at_call 67; ((with_reducible refine (GI.out _ (st10_below hA (Nat.le_succ _) (.int .i64 g) (.int .i64 6) (.slice a len cap) (.int .i64 ht') (.int .i64 hv') (.int .i64 hc') (.int .i64 i') (.int .i64 t') (.bool mk) (.bool hd))).mono ?_); rintro e w2 ⟨rfl, hB⟩; replace hA := bel2 (st10_below hA (Nat.le_succ _) (.int .i64 g) (.int .i64 6) (.slice a len cap) (.int .i64 ht') (.int .i64 hv') (.int .i64 hc') (.int .i64 i') (.int .i64 t') (.bool mk) (.bool hd)) hB; replace hbp := (hB.block _ (by rw [st10_size]; exact hs)).trans ((st10_other (by omega) (.int .i64 g) (.int .i64 6) (.slice a len cap) (.int .i64 ht') (.int .i64 hv') (.int .i64 hc') (.int .i64 i') (.int .i64 t') (.bool mk) (.bool hd)).trans hbp); replace hbq := (hB.block _ (by rw [st10_size]; exact hs2)).trans (st10_block hbq (.int .i64 g) (.int .i64 6) (.slice a len cap) (.int .i64 ht') (.int .i64 hv') (.int .i64 hc') (.int .i64 i') (.int .i64 t') (.bool mk) (.bool hd)); replace hs : w.heap.size < w2.heap.size := Nat.lt_of_lt_of_le hs (by have := hB.size; rwa [st10_size] at this); replace hs2 : w.heap.size + 1 < w2.heap.size := Nat.lt_of_lt_of_le hs2 (by have := hB.size; rwa [st10_size] at this); clear hB; clear c0 c1 c2 c3 c4 c5 c6 c7 c8 c9 d0 d1 d2 d3 d4 d5 d6 d7 d8 d9 f0 f1 f2 f3 f4 f5 f6 f7 f8 f9; have c0 : w2.cell? ⟨w.heap.size, 0, none⟩ = some (.int .i64 g) := cell_of_row _ _ 0 _ _ _ hbp; have d0 : w2.cell? ⟨w.heap.size + 1, 0, none⟩ = some (.int .i64 g) := cell_of_row _ _ 0 _ _ _ hbq; have c1 : w2.cell? ⟨w.heap.size, 1, none⟩ = some (.int .i64 6) := cell_of_row _ _ 1 _ _ _ hbp; have d1 : w2.cell? ⟨w.heap.size + 1, 1, none⟩ = some (.int .i64 6) := cell_of_row _ _ 1 _ _ _ hbq; have c2 : w2.cell? ⟨w.heap.size, 2, none⟩ = some (.slice a len cap) := cell_of_row _ _ 2 _ _ _ hbp; have d2 : w2.cell? ⟨w.heap.size + 1, 2, none⟩ = some (.slice a len cap) := cell_of_row _ _ 2 _ _ _ hbq; have c3 : w2.cell? ⟨w.heap.size, 3, none⟩ = some (.int .i64 ht) := cell_of_row _ _ 3 _ _ _ hbp; have d3 : w2.cell? ⟨w.heap.size + 1, 3, none⟩ = some (.int .i64 ht') := cell_of_row _ _ 3 _ _ _ hbq; have c4 : w2.cell? ⟨w.heap.size, 4, none⟩ = some (.int .i64 hv) := cell_of_row _ _ 4 _ _ _ hbp; have d4 : w2.cell? ⟨w.heap.size + 1, 4, none⟩ = some (.int .i64 hv') := cell_of_row _ _ 4 _ _ _ hbq; have c5 : w2.cell? ⟨w.heap.size, 5, none⟩ = some (.int .i64 hc) := cell_of_row _ _ 5 _ _ _ hbp; have d5 : w2.cell? ⟨w.heap.size + 1, 5, none⟩ = some (.int .i64 hc') := cell_of_row _ _ 5 _ _ _ hbq; have c6 : w2.cell? ⟨w.heap.size, 6, none⟩ = some (.int .i64 i) := cell_of_row _ _ 6 _ _ _ hbp; have d6 : w2.cell? ⟨w.heap.size + 1, 6, none⟩ = some (.int .i64 i') := cell_of_row _ _ 6 _ _ _ hbq; have c7 : w2.cell? ⟨w.heap.size, 7, none⟩ = some (.int .i64 t) := cell_of_row _ _ 7 _ _ _ hbp; have d7 : w2.cell? ⟨w.heap.size + 1, 7, none⟩ = some (.int .i64 t') := cell_of_row _ _ 7 _ _ _ hbq; have c8 : w2.cell? ⟨w.heap.size, 8, none⟩ = some (.bool mk) := cell_of_row _ _ 8 _ _ _ hbp; have d8 : w2.cell? ⟨w.heap.size + 1, 8, none⟩ = some (.bool mk) := cell_of_row _ _ 8 _ _ _ hbq; have c9 : w2.cell? ⟨w.heap.size, 9, none⟩ = some (.bool hd) := cell_of_row _ _ 9 _ _ _ hbp; have d9 : w2.cell? ⟨w.heap.size + 1, 9, none⟩ = some (.bool hd) := cell_of_row _ _ 9 _ _ _ hbq))
      | (go_at_call 68; ((with_reducible refine (GW.out _).mono ?_); rintro e w1 ⟨rfl, hB⟩; replace hA := bel2 hA hB; replace c0 := (hB.cell (p := ⟨w.heap.size, 0, none⟩) hs).trans c0; replace c1 := (hB.cell (p := ⟨w.heap.size, 1, none⟩) hs).trans c1; replace c2 := (hB.cell (p := ⟨w.heap.size, 2, none⟩) hs).trans c2; replace c3 := (hB.cell (p := ⟨w.heap.size, 3, none⟩) hs).trans c3; replace c4 := (hB.cell (p := ⟨w.heap.size, 4, none⟩) hs).trans c4; replace c5 := (hB.cell (p := ⟨w.heap.size, 5, none⟩) hs).trans c5; replace c6 := (hB.cell (p := ⟨w.heap.size, 6, none⟩) hs).trans c6; replace c7 := (hB.cell (p := ⟨w.heap.size, 7, none⟩) hs).trans c7; replace c8 := (hB.cell (p := ⟨w.heap.size, 8, none⟩) hs).trans c8; replace c9 := (hB.cell (p := ⟨w.heap.size, 9, none⟩) hs).trans c9; replace d0 := (hB.cell (p := ⟨w.heap.size + 1, 0, none⟩) hs2).trans d0; replace d1 := (hB.cell (p := ⟨w.heap.size + 1, 1, none⟩) hs2).trans d1; replace d2 := (hB.cell (p := ⟨w.heap.size + 1, 2, none⟩) hs2).trans d2; replace d3 := (hB.cell (p := ⟨w.heap.size + 1, 3, none⟩) hs2).trans d3; replace d4 := (hB.cell (p := ⟨w.heap.size + 1, 4, none⟩) hs2).trans d4; replace d5 := (hB.cell (p := ⟨w.heap.size + 1, 5, none⟩) hs2).trans d5; replace d6 := (hB.cell (p := ⟨w.heap.size + 1, 6, none⟩) hs2).trans d6; replace d7 := (hB.cell (p := ⟨w.heap.size + 1, 7, none⟩) hs2).trans d7; replace d8 := (hB.cell (p := ⟨w.heap.size + 1, 8, none⟩) hs2).trans d8; replace d9 := (hB.cell (p := ⟨w.heap.size + 1, 9, none⟩) hs2).trans d9; replace hs := Nat.lt_of_lt_of_le hs hB.size; replace hs2 := Nat.lt_of_lt_of_le hs2 hB.size; clear hB))
      | (go_at_call 69; ((with_reducible refine (GS.out _ hA).mono ?_); rintro e w1 ⟨rfl, hB⟩; replace hA := bel2 hA hB; replace c0 := (hB.cell (p := ⟨w.heap.size, 0, none⟩) hs).trans c0; replace c1 := (hB.cell (p := ⟨w.heap.size, 1, none⟩) hs).trans c1; replace c2 := (hB.cell (p := ⟨w.heap.size, 2, none⟩) hs).trans c2; replace c3 := (hB.cell (p := ⟨w.heap.size, 3, none⟩) hs).trans c3; replace c4 := (hB.cell (p := ⟨w.heap.size, 4, none⟩) hs).trans c4; replace c5 := (hB.cell (p := ⟨w.heap.size, 5, none⟩) hs).trans c5; replace c6 := (hB.cell (p := ⟨w.heap.size, 6, none⟩) hs).trans c6; replace c7 := (hB.cell (p := ⟨w.heap.size, 7, none⟩) hs).trans c7; replace c8 := (hB.cell (p := ⟨w.heap.size, 8, none⟩) hs).trans c8; replace c9 := (hB.cell (p := ⟨w.heap.size, 9, none⟩) hs).trans c9; replace d0 := (hB.cell (p := ⟨w.heap.size + 1, 0, none⟩) hs2).trans d0; replace d1 := (hB.cell (p := ⟨w.heap.size + 1, 1, none⟩) hs2).trans d1; replace d2 := (hB.cell (p := ⟨w.heap.size + 1, 2, none⟩) hs2).trans d2; replace d3 := (hB.cell (p := ⟨w.heap.size + 1, 3, none⟩) hs2).trans d3; replace d4 := (hB.cell (p := ⟨w.heap.size + 1, 4, none⟩) hs2).trans d4; replace d5 := (hB.cell (p := ⟨w.heap.size + 1, 5, none⟩) hs2).trans d5; replace d6 := (hB.cell (p := ⟨w.heap.size + 1, 6, none⟩) hs2).trans d6; replace d7 := (hB.cell (p := ⟨w.heap.size + 1, 7, none⟩) hs2).trans d7; replace d8 := (hB.cell (p := ⟨w.heap.size + 1, 8, none⟩) hs2).trans d8; replace d9 := (hB.cell (p := ⟨w.heap.size + 1, 9, none⟩) hs2).trans d9; replace hs := Nat.lt_of_lt_of_le hs hB.size; replace hs2 := Nat.lt_of_lt_of_le hs2 hB.size; clear hB)))
    go_ret
    exact ⟨by simp, hA⟩
  | true =>
    cases bw
    all_goals
      go_enter Try.func44, Try.ntmps44
      go_wp2_with (first
        | (go_at_call 66; ((with_reducible refine (GF.out _).mono ?_); rintro e w1 ⟨rfl, hB⟩; replace hA := bel2 hA hB; replace hbp := (hB.block _ hs).trans hbp; replace hbq := (hB.block _ hs2).trans hbq; replace hs := Nat.lt_of_lt_of_le hs hB.size; replace hs2 := Nat.lt_of_lt_of_le hs2 hB.size; clear hB; have f0 := frozen_of_row _ _ 0 _ _ hbq; have d0 : w1.cell? ⟨w.heap.size + 1, 0, none⟩ = some (.int .i64 g) := cell_of_row _ _ 0 _ _ _ hbq; have f1 := frozen_of_row _ _ 1 _ _ hbq; have d1 : w1.cell? ⟨w.heap.size + 1, 1, none⟩ = some (.int .i64 6) := cell_of_row _ _ 1 _ _ _ hbq; have f2 := frozen_of_row _ _ 2 _ _ hbq; have d2 : w1.cell? ⟨w.heap.size + 1, 2, none⟩ = some (.slice none 0 0) := cell_of_row _ _ 2 _ _ _ hbq; have f3 := frozen_of_row _ _ 3 _ _ hbq; have d3 : w1.cell? ⟨w.heap.size + 1, 3, none⟩ = some (.int .i64 0) := cell_of_row _ _ 3 _ _ _ hbq; have f4 := frozen_of_row _ _ 4 _ _ hbq; have d4 : w1.cell? ⟨w.heap.size + 1, 4, none⟩ = some (.int .i64 0) := cell_of_row _ _ 4 _ _ _ hbq; have f5 := frozen_of_row _ _ 5 _ _ hbq; have d5 : w1.cell? ⟨w.heap.size + 1, 5, none⟩ = some (.int .i64 0) := cell_of_row _ _ 5 _ _ _ hbq; have f6 := frozen_of_row _ _ 6 _ _ hbq; have d6 : w1.cell? ⟨w.heap.size + 1, 6, none⟩ = some (.int .i64 0) := cell_of_row _ _ 6 _ _ _ hbq; have f7 := frozen_of_row _ _ 7 _ _ hbq; have d7 : w1.cell? ⟨w.heap.size + 1, 7, none⟩ = some (.int .i64 0) := cell_of_row _ _ 7 _ _ _ hbq; have f8 := frozen_of_row _ _ 8 _ _ hbq; have d8 : w1.cell? ⟨w.heap.size + 1, 8, none⟩ = some (.bool false) := cell_of_row _ _ 8 _ _ _ hbq; have f9 := frozen_of_row _ _ 9 _ _ hbq; have d9 : w1.cell? ⟨w.heap.size + 1, 9, none⟩ = some (.bool false) := cell_of_row _ _ 9 _ _ _ hbq; have c0 : w1.cell? ⟨w.heap.size, 0, none⟩ = some (.int .i64 g) := cell_of_row _ _ 0 _ _ _ hbp; have c1 : w1.cell? ⟨w.heap.size, 1, none⟩ = some (.int .i64 6) := cell_of_row _ _ 1 _ _ _ hbp; have c2 : w1.cell? ⟨w.heap.size, 2, none⟩ = some (.slice a len cap) := cell_of_row _ _ 2 _ _ _ hbp; have c3 : w1.cell? ⟨w.heap.size, 3, none⟩ = some (.int .i64 ht) := cell_of_row _ _ 3 _ _ _ hbp; have c4 : w1.cell? ⟨w.heap.size, 4, none⟩ = some (.int .i64 hv) := cell_of_row _ _ 4 _ _ _ hbp; have c5 : w1.cell? ⟨w.heap.size, 5, none⟩ = some (.int .i64 hc) := cell_of_row _ _ 5 _ _ _ hbp; have c6 : w1.cell? ⟨w.heap.size, 6, none⟩ = some (.int .i64 i) := cell_of_row _ _ 6 _ _ _ hbp; have c7 : w1.cell? ⟨w.heap.size, 7, none⟩ = some (.int .i64 t) := cell_of_row _ _ 7 _ _ _ hbp; have c8 : w1.cell? ⟨w.heap.size, 8, none⟩ = some (.bool mk) := cell_of_row _ _ 8 _ _ _ hbp; have c9 : w1.cell? ⟨w.heap.size, 9, none⟩ = some (.bool hd) := cell_of_row _ _ 9 _ _ _ hbp))
        | (go_at_call 67; ((with_reducible refine (GI.out _ (st10_below hA (Nat.le_succ _) (.int .i64 g) (.int .i64 6) (.slice a len cap) (.int .i64 ht') (.int .i64 hv') (.int .i64 hc') (.int .i64 i') (.int .i64 t') (.bool mk) (.bool hd))).mono ?_); rintro e w2 ⟨rfl, hB⟩; replace hA := bel2 (st10_below hA (Nat.le_succ _) (.int .i64 g) (.int .i64 6) (.slice a len cap) (.int .i64 ht') (.int .i64 hv') (.int .i64 hc') (.int .i64 i') (.int .i64 t') (.bool mk) (.bool hd)) hB; replace hbp := (hB.block _ (by rw [st10_size]; exact hs)).trans ((st10_other (by omega) (.int .i64 g) (.int .i64 6) (.slice a len cap) (.int .i64 ht') (.int .i64 hv') (.int .i64 hc') (.int .i64 i') (.int .i64 t') (.bool mk) (.bool hd)).trans hbp); replace hbq := (hB.block _ (by rw [st10_size]; exact hs2)).trans (st10_block hbq (.int .i64 g) (.int .i64 6) (.slice a len cap) (.int .i64 ht') (.int .i64 hv') (.int .i64 hc') (.int .i64 i') (.int .i64 t') (.bool mk) (.bool hd)); replace hs : w.heap.size < w2.heap.size := Nat.lt_of_lt_of_le hs (by have := hB.size; rwa [st10_size] at this); replace hs2 : w.heap.size + 1 < w2.heap.size := Nat.lt_of_lt_of_le hs2 (by have := hB.size; rwa [st10_size] at this); clear hB; clear c0 c1 c2 c3 c4 c5 c6 c7 c8 c9 d0 d1 d2 d3 d4 d5 d6 d7 d8 d9 f0 f1 f2 f3 f4 f5 f6 f7 f8 f9; have c0 : w2.cell? ⟨w.heap.size, 0, none⟩ = some (.int .i64 g) := cell_of_row _ _ 0 _ _ _ hbp; have d0 : w2.cell? ⟨w.heap.size + 1, 0, none⟩ = some (.int .i64 g) := cell_of_row _ _ 0 _ _ _ hbq; have c1 : w2.cell? ⟨w.heap.size, 1, none⟩ = some (.int .i64 6) := cell_of_row _ _ 1 _ _ _ hbp; have d1 : w2.cell? ⟨w.heap.size + 1, 1, none⟩ = some (.int .i64 6) := cell_of_row _ _ 1 _ _ _ hbq; have c2 : w2.cell? ⟨w.heap.size, 2, none⟩ = some (.slice a len cap) := cell_of_row _ _ 2 _ _ _ hbp; have d2 : w2.cell? ⟨w.heap.size + 1, 2, none⟩ = some (.slice a len cap) := cell_of_row _ _ 2 _ _ _ hbq; have c3 : w2.cell? ⟨w.heap.size, 3, none⟩ = some (.int .i64 ht) := cell_of_row _ _ 3 _ _ _ hbp; have d3 : w2.cell? ⟨w.heap.size + 1, 3, none⟩ = some (.int .i64 ht') := cell_of_row _ _ 3 _ _ _ hbq; have c4 : w2.cell? ⟨w.heap.size, 4, none⟩ = some (.int .i64 hv) := cell_of_row _ _ 4 _ _ _ hbp; have d4 : w2.cell? ⟨w.heap.size + 1, 4, none⟩ = some (.int .i64 hv') := cell_of_row _ _ 4 _ _ _ hbq; have c5 : w2.cell? ⟨w.heap.size, 5, none⟩ = some (.int .i64 hc) := cell_of_row _ _ 5 _ _ _ hbp; have d5 : w2.cell? ⟨w.heap.size + 1, 5, none⟩ = some (.int .i64 hc') := cell_of_row _ _ 5 _ _ _ hbq; have c6 : w2.cell? ⟨w.heap.size, 6, none⟩ = some (.int .i64 i) := cell_of_row _ _ 6 _ _ _ hbp; have d6 : w2.cell? ⟨w.heap.size + 1, 6, none⟩ = some (.int .i64 i') := cell_of_row _ _ 6 _ _ _ hbq; have c7 : w2.cell? ⟨w.heap.size, 7, none⟩ = some (.int .i64 t) := cell_of_row _ _ 7 _ _ _ hbp; have d7 : w2.cell? ⟨w.heap.size + 1, 7, none⟩ = some (.int .i64 t') := cell_of_row _ _ 7 _ _ _ hbq; have c8 : w2.cell? ⟨w.heap.size, 8, none⟩ = some (.bool mk) := cell_of_row _ _ 8 _ _ _ hbp; have d8 : w2.cell? ⟨w.heap.size + 1, 8, none⟩ = some (.bool mk) := cell_of_row _ _ 8 _ _ _ hbq; have c9 : w2.cell? ⟨w.heap.size, 9, none⟩ = some (.bool hd) := cell_of_row _ _ 9 _ _ _ hbp; have d9 : w2.cell? ⟨w.heap.size + 1, 9, none⟩ = some (.bool hd) := cell_of_row _ _ 9 _ _ _ hbq))
        | (go_at_call 68; ((with_reducible refine (GW.out _).mono ?_); rintro e w1 ⟨rfl, hB⟩; replace hA := bel2 hA hB; replace c0 := (hB.cell (p := ⟨w.heap.size, 0, none⟩) hs).trans c0; replace c1 := (hB.cell (p := ⟨w.heap.size, 1, none⟩) hs).trans c1; replace c2 := (hB.cell (p := ⟨w.heap.size, 2, none⟩) hs).trans c2; replace c3 := (hB.cell (p := ⟨w.heap.size, 3, none⟩) hs).trans c3; replace c4 := (hB.cell (p := ⟨w.heap.size, 4, none⟩) hs).trans c4; replace c5 := (hB.cell (p := ⟨w.heap.size, 5, none⟩) hs).trans c5; replace c6 := (hB.cell (p := ⟨w.heap.size, 6, none⟩) hs).trans c6; replace c7 := (hB.cell (p := ⟨w.heap.size, 7, none⟩) hs).trans c7; replace c8 := (hB.cell (p := ⟨w.heap.size, 8, none⟩) hs).trans c8; replace c9 := (hB.cell (p := ⟨w.heap.size, 9, none⟩) hs).trans c9; replace d0 := (hB.cell (p := ⟨w.heap.size + 1, 0, none⟩) hs2).trans d0; replace d1 := (hB.cell (p := ⟨w.heap.size + 1, 1, none⟩) hs2).trans d1; replace d2 := (hB.cell (p := ⟨w.heap.size + 1, 2, none⟩) hs2).trans d2; replace d3 := (hB.cell (p := ⟨w.heap.size + 1, 3, none⟩) hs2).trans d3; replace d4 := (hB.cell (p := ⟨w.heap.size + 1, 4, none⟩) hs2).trans d4; replace d5 := (hB.cell (p := ⟨w.heap.size + 1, 5, none⟩) hs2).trans d5; replace d6 := (hB.cell (p := ⟨w.heap.size + 1, 6, none⟩) hs2).trans d6; replace d7 := (hB.cell (p := ⟨w.heap.size + 1, 7, none⟩) hs2).trans d7; replace d8 := (hB.cell (p := ⟨w.heap.size + 1, 8, none⟩) hs2).trans d8; replace d9 := (hB.cell (p := ⟨w.heap.size + 1, 9, none⟩) hs2).trans d9; replace hs := Nat.lt_of_lt_of_le hs hB.size; replace hs2 := Nat.lt_of_lt_of_le hs2 hB.size; clear hB))
        | (go_at_call 69; ((with_reducible refine (GS.out _ hA).mono ?_); rintro e w1 ⟨rfl, hB⟩; replace hA := bel2 hA hB; replace c0 := (hB.cell (p := ⟨w.heap.size, 0, none⟩) hs).trans c0; replace c1 := (hB.cell (p := ⟨w.heap.size, 1, none⟩) hs).trans c1; replace c2 := (hB.cell (p := ⟨w.heap.size, 2, none⟩) hs).trans c2; replace c3 := (hB.cell (p := ⟨w.heap.size, 3, none⟩) hs).trans c3; replace c4 := (hB.cell (p := ⟨w.heap.size, 4, none⟩) hs).trans c4; replace c5 := (hB.cell (p := ⟨w.heap.size, 5, none⟩) hs).trans c5; replace c6 := (hB.cell (p := ⟨w.heap.size, 6, none⟩) hs).trans c6; replace c7 := (hB.cell (p := ⟨w.heap.size, 7, none⟩) hs).trans c7; replace c8 := (hB.cell (p := ⟨w.heap.size, 8, none⟩) hs).trans c8; replace c9 := (hB.cell (p := ⟨w.heap.size, 9, none⟩) hs).trans c9; replace d0 := (hB.cell (p := ⟨w.heap.size + 1, 0, none⟩) hs2).trans d0; replace d1 := (hB.cell (p := ⟨w.heap.size + 1, 1, none⟩) hs2).trans d1; replace d2 := (hB.cell (p := ⟨w.heap.size + 1, 2, none⟩) hs2).trans d2; replace d3 := (hB.cell (p := ⟨w.heap.size + 1, 3, none⟩) hs2).trans d3; replace d4 := (hB.cell (p := ⟨w.heap.size + 1, 4, none⟩) hs2).trans d4; replace d5 := (hB.cell (p := ⟨w.heap.size + 1, 5, none⟩) hs2).trans d5; replace d6 := (hB.cell (p := ⟨w.heap.size + 1, 6, none⟩) hs2).trans d6; replace d7 := (hB.cell (p := ⟨w.heap.size + 1, 7, none⟩) hs2).trans d7; replace d8 := (hB.cell (p := ⟨w.heap.size + 1, 8, none⟩) hs2).trans d8; replace d9 := (hB.cell (p := ⟨w.heap.size + 1, 9, none⟩) hs2).trans d9; replace hs := Nat.lt_of_lt_of_le hs hB.size; replace hs2 := Nat.lt_of_lt_of_le hs2 hB.size; clear hB)))
      go_ret
      exact ⟨by simp, hA⟩

theorem is_any (p : PartC) (l : List EntryC) (w : World) (h : HasE w p l) : Gives Try.prog 44 #[p.val] w (.bool (isB p l)) := by
  obtain ⟨g, k, a, len, cap, ht, hv, hc, i, t, mk, hd⟩ := p
  by_cases h1 : k = 1
  · subst h1; exact is1_any g a len cap ht hv hc i t mk hd l w h
  by_cases h2 : k = 2
  · subst h2; exact is2_any g a len cap ht hv hc i t mk hd l w h
  by_cases h3 : k = 3
  · subst h3; exact is3_any g a len cap ht hv hc i t mk hd l w h
  by_cases h4 : k = 4
  · subst h4; exact is4_any g a len cap ht hv hc i t mk hd l w h
  by_cases h5 : k = 5
  · subst h5; exact is5_any g a len cap ht hv hc i t mk hd l w h
  by_cases h6 : k = 6
  · subst h6; exact is6_any g a len cap ht hv hc i t mk hd l w h
  exact is0_any g k a len cap ht hv hc i t mk hd l w h1 h2 h3 h4 h5 h6

end Go.Proofs.Ytdncdlbhgaehmaa
