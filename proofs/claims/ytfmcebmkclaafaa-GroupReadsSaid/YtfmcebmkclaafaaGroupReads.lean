/- Law GroupReads: for every input the call answers true; its arguments read as they did. No condition. -/
import Derived.Test.YtfmcebmkclaafaaLaw
import Derived.Test.YtfmcebmkclaafaaFew6
import Derived.Test.YtfmcebmkclaafaaRef6b
namespace Go.Proofs.Ytfmcebmkclaafaa.groupReads
open Go.ChangeShapes Go.WideShapes Go.ChangeAt Go.RowKit Go.Shelf
open Go.ChangeMaps (open_string shut_string)
set_option linter.unusedVariables false
attribute [local go_sem] Oper.semAt_some wide_fn wide_round_fn

attribute [local irreducible] wpQuiet
set_option maxRecDepth 100000 in
set_option maxHeartbeats 4000000 in
theorem grd_1 (id fi te ht hv hc : Int) (l : List EntryC) (a : Option Addr) (cap : Nat) (lo hi i : Int) (w : World) (hg : GoodG w ⟨id, fi, te, ht, hv, hc, l⟩ a) (hcap : l.length ≤ cap) (hi64 : hi ≤ 9223372036854775807) (hf : fewGB l = false) : Calls Try.prog 4 #[.agg #[.int .i64 id, .int .i64 fi, .int .i64 te, .int .i64 ht, .int .i64 hv, .int .i64 hc, .slice a l.length cap], .int .i64 lo, .int .i64 hi, .int .i64 i] w fun e w' => e = .returned (.bool true) ∧ Below w.heap.size w w' := by
  have GK := Lib.hid group_known
  have GFG := Lib.hid (fun W (hB : Below w.heap.size w W) => fewG_any id fi te ht hv hc l a cap W (hg.2.1.below hB) (fun e he => (hg.2.2 e he).2.2))
  rw [hf] at GFG
  clear hg
  have hg := World.alloc_heap_new w (.cells #[.int .i64 id, .int .i64 fi, .int .i64 te, .int .i64 ht, .int .i64 hv, .int .i64 hc, .slice a l.length cap] 26)
  have hA : Below w.heap.size w (w.alloc (.cells #[.int .i64 id, .int .i64 fi, .int .i64 te, .int .i64 ht, .int .i64 hv, .int .i64 hc, .slice a l.length cap] 26)) := bel_alloc (Below.refl _ _) _
  obtain ⟨g0, g1, g2, g3, g4, g5, g6, -⟩ := cells7 hg
  go_enter Try.func4, Try.ntmps4
  go_wp2_with (first
  | (go_at_call 12; ((with_reducible refine (GK.out _).mono ?_); rintro e w1 ⟨rfl, hB⟩; clear g0 g1 g2 g3 g4 g5 g6; replace hA := bel2 hA hB; replace hg := (hB.block _ (heap_lt hg)).trans hg; obtain ⟨g0, g1, g2, g3, g4, g5, g6, -⟩ := cells7 hg; clear hB))
  | (go_at_call 13; ((with_reducible refine (GFG.out _ hA).mono ?_); rintro e w2 ⟨rfl, hB⟩; clear g0 g1 g2 g3 g4 g5 g6; replace hA := bel2 hA hB; replace hg := (hB.block _ (heap_lt hg)).trans hg; obtain ⟨g0, g1, g2, g3, g4, g5, g6, -⟩ := cells7 hg; clear hB)))
  go_ret
  exact ⟨by simp, hA⟩

set_option maxRecDepth 100000 in
set_option maxHeartbeats 4000000 in
theorem grd_2 (id fi te ht hv hc : Int) (l : List EntryC) (a : Option Addr) (cap : Nat) (lo hi i : Int) (w : World) (hg : GoodG w ⟨id, fi, te, ht, hv, hc, l⟩ a) (hcap : l.length ≤ cap) (hi64 : hi ≤ 9223372036854775807) (hf : fewGB l = true) (hG : isG ⟨id, fi, te, ht, hv, hc, l⟩ = false) : Calls Try.prog 4 #[.agg #[.int .i64 id, .int .i64 fi, .int .i64 te, .int .i64 ht, .int .i64 hv, .int .i64 hc, .slice a l.length cap], .int .i64 lo, .int .i64 hi, .int .i64 i] w fun e w' => e = .returned (.bool true) ∧ Below w.heap.size w w' := by
  have GK := Lib.hid group_known
  have GFG := Lib.hid (fun W (hB : Below w.heap.size w W) => fewG_any id fi te ht hv hc l a cap W (hg.2.1.below hB) (fun e he => (hg.2.2 e he).2.2))
  obtain ⟨hGH, h30⟩ := hg.has hf
  have GI := Lib.hid (fun W (hB : Below w.heap.size w W) => refIsG_any id fi te ht hv hc l a cap W (hGH.below hB))
  rw [hf] at GFG
  rw [hG] at GI
  clear hGH
  clear hg
  have hg := World.alloc_heap_new w (.cells #[.int .i64 id, .int .i64 fi, .int .i64 te, .int .i64 ht, .int .i64 hv, .int .i64 hc, .slice a l.length cap] 26)
  have hA : Below w.heap.size w (w.alloc (.cells #[.int .i64 id, .int .i64 fi, .int .i64 te, .int .i64 ht, .int .i64 hv, .int .i64 hc, .slice a l.length cap] 26)) := bel_alloc (Below.refl _ _) _
  obtain ⟨g0, g1, g2, g3, g4, g5, g6, -⟩ := cells7 hg
  go_enter Try.func4, Try.ntmps4
  go_wp2_with (first
  | (go_at_call 12; ((with_reducible refine (GK.out _).mono ?_); rintro e w1 ⟨rfl, hB⟩; clear g0 g1 g2 g3 g4 g5 g6; replace hA := bel2 hA hB; replace hg := (hB.block _ (heap_lt hg)).trans hg; obtain ⟨g0, g1, g2, g3, g4, g5, g6, -⟩ := cells7 hg; clear hB))
  | (go_at_call 13; ((with_reducible refine (GFG.out _ hA).mono ?_); rintro e w2 ⟨rfl, hB⟩; clear g0 g1 g2 g3 g4 g5 g6; replace hA := bel2 hA hB; replace hg := (hB.block _ (heap_lt hg)).trans hg; obtain ⟨g0, g1, g2, g3, g4, g5, g6, -⟩ := cells7 hg; clear hB))
  | (go_at_call 16; ((with_reducible refine (GI.out _ hA).mono ?_); rintro e w3 ⟨rfl, hB⟩; clear g0 g1 g2 g3 g4 g5 g6; replace hA := bel2 hA hB; replace hg := (hB.block _ (heap_lt hg)).trans hg; obtain ⟨g0, g1, g2, g3, g4, g5, g6, -⟩ := cells7 hg; clear hB)))
  go_ret
  exact ⟨by simp, hA⟩

set_option maxRecDepth 100000 in
set_option maxHeartbeats 4000000 in
theorem grd_3 (id fi te ht hv hc : Int) (l : List EntryC) (a : Option Addr) (cap : Nat) (lo hi i : Int) (w : World) (hg : GoodG w ⟨id, fi, te, ht, hv, hc, l⟩ a) (hcap : l.length ≤ cap) (hi64 : hi ≤ 9223372036854775807) (hf : fewGB l = true) (hG : isG ⟨id, fi, te, ht, hv, hc, l⟩ = true) : Calls Try.prog 4 #[.agg #[.int .i64 id, .int .i64 fi, .int .i64 te, .int .i64 ht, .int .i64 hv, .int .i64 hc, .slice a l.length cap], .int .i64 lo, .int .i64 hi, .int .i64 i] w fun e w' => e = .returned (.bool true) ∧ Below w.heap.size w w' := by
  have GK := Lib.hid group_known
  have GFG := Lib.hid (fun W (hB : Below w.heap.size w W) => fewG_any id fi te ht hv hc l a cap W (hg.2.1.below hB) (fun e he => (hg.2.2 e he).2.2))
  obtain ⟨hGH, h30⟩ := hg.has hf
  have GI := Lib.hid (fun W (hB : Below w.heap.size w W) => refIsG_any id fi te ht hv hc l a cap W (hGH.below hB))
  rw [hf] at GFG
  rw [hG] at GI
  dsimp only at h30
  have GT1 := Lib.hid (fun W (hB : Below w.heap.size w W) => term_any id fi te ht hv hc l a cap i W (hGH.below hB) hG)
  have GT2 := Lib.hid (fun W (hB : Below w.heap.size w W) => refTerm_any id fi te ht hv hc l a cap i W (hGH.below hB) hG)
  have GE1 := Lib.hid (fun W (hB : Below w.heap.size w W) => ents_any id fi te ht hv hc l a cap lo hi W (hGH.below hB) hG (by omega))
  have GE2 := Lib.hid (fun W (hB : Below w.heap.size w W) => refEnts_any id fi te ht hv hc l a cap lo hi W (hGH.below hB) hG hcap hi64)
  have hXl : (entsG ⟨id, fi, te, ht, hv, hc, l⟩ lo hi).1.length ≤ 100 := by
    unfold entsG
    split
    · simp
    · split
      · simp
      · split
        · simp
        · split
          · simp
          · exact Nat.le_trans (btw_len _ _ _) (by show l.length ≤ 100; omega)
  generalize termG ⟨id, fi, te, ht, hv, hc, l⟩ i = u at *
  generalize entsG ⟨id, fi, te, ht, hv, hc, l⟩ lo hi = XX at *
  obtain ⟨u, v⟩ := u
  obtain ⟨X, x⟩ := XX
  dsimp only at GT1 GT2 GE1 GE2 hXl
  have GS := Lib.hid (fun W xa xc ya yc (h : RowV W xa X.length 3 (entryCells X)) (h2 : RowV W ya X.length 3 (entryCells X)) => (show Gives Try.prog 18 #[.agg #[.int .i64 0, .int .i64 0, .int .i64 0, .int .i64 0, .int .i64 0, .int .i64 0, .slice xa X.length xc], .agg #[.int .i64 0, .int .i64 0, .int .i64 0, .int .i64 0, .int .i64 0, .int .i64 0, .slice ya X.length yc]] W (.bool true) from by have := refSame6_any 0 0 0 0 0 0 X xa xc 0 0 0 0 0 0 X ya yc W ⟨by show X.length < 1000000; omega, h⟩ ⟨by show X.length < 1000000; omega, h2⟩; rwa [show sameG ⟨0, 0, 0, 0, 0, 0, X⟩ ⟨0, 0, 0, 0, 0, 0, X⟩ = true from sameG_iff.2 (by simp)] at this))
  clear hGH hXl h30 hcap hi64
  clear hg
  have hg := World.alloc_heap_new w (.cells #[.int .i64 id, .int .i64 fi, .int .i64 te, .int .i64 ht, .int .i64 hv, .int .i64 hc, .slice a l.length cap] 26)
  have hA : Below w.heap.size w (w.alloc (.cells #[.int .i64 id, .int .i64 fi, .int .i64 te, .int .i64 ht, .int .i64 hv, .int .i64 hc, .slice a l.length cap] 26)) := bel_alloc (Below.refl _ _) _
  obtain ⟨g0, g1, g2, g3, g4, g5, g6, -⟩ := cells7 hg
  go_enter Try.func4, Try.ntmps4
  go_wp2_with (first
  | (go_at_call 12; ((with_reducible refine (GK.out _).mono ?_); rintro e w1 ⟨rfl, hB⟩; clear g0 g1 g2 g3 g4 g5 g6; replace hA := bel2 hA hB; replace hg := (hB.block _ (heap_lt hg)).trans hg; obtain ⟨g0, g1, g2, g3, g4, g5, g6, -⟩ := cells7 hg; clear hB))
  | (go_at_call 13; ((with_reducible refine (GFG.out _ hA).mono ?_); rintro e w2 ⟨rfl, hB⟩; clear g0 g1 g2 g3 g4 g5 g6; replace hA := bel2 hA hB; replace hg := (hB.block _ (heap_lt hg)).trans hg; obtain ⟨g0, g1, g2, g3, g4, g5, g6, -⟩ := cells7 hg; clear hB))
  | (go_at_call 16; ((with_reducible refine (GI.out _ hA).mono ?_); rintro e w3 ⟨rfl, hB⟩; clear g0 g1 g2 g3 g4 g5 g6; replace hA := bel2 hA hB; replace hg := (hB.block _ (heap_lt hg)).trans hg; obtain ⟨g0, g1, g2, g3, g4, g5, g6, -⟩ := cells7 hg; clear hB))
  | (go_at_call 27; ((with_reducible refine (GT1.out _ hA).mono ?_); rintro e w4 ⟨rfl, hB⟩; clear g0 g1 g2 g3 g4 g5 g6; replace hA := bel2 hA hB; replace hg := (hB.block _ (heap_lt hg)).trans hg; obtain ⟨g0, g1, g2, g3, g4, g5, g6, -⟩ := cells7 hg; clear hB))
  | (go_at_call 28; ((with_reducible refine (GT2.out _ hA).mono ?_); rintro e w5 ⟨rfl, hB⟩; clear g0 g1 g2 g3 g4 g5 g6; replace hA := bel2 hA hB; replace hg := (hB.block _ (heap_lt hg)).trans hg; obtain ⟨g0, g1, g2, g3, g4, g5, g6, -⟩ := cells7 hg; clear hB))
  | (go_at_call 29; ((with_reducible refine (GE1.out _ hA).mono ?_); rintro e w6 ⟨xa, xc, rfl, hrx, hB⟩; clear g0 g1 g2 g3 g4 g5 g6; replace hA := bel2 hA hB; replace hg := (hB.block _ (heap_lt hg)).trans hg; obtain ⟨g0, g1, g2, g3, g4, g5, g6, -⟩ := cells7 hg; clear hB))
  | (go_at_call 30; ((with_reducible refine (GE2.out _ hA).mono ?_); rintro e w7 ⟨ya, yc, rfl, hry, hB⟩; clear g0 g1 g2 g3 g4 g5 g6; replace hA := bel2 hA hB; replace hrx := hrx.below hB; replace hg := (hB.block _ (heap_lt hg)).trans hg; obtain ⟨g0, g1, g2, g3, g4, g5, g6, -⟩ := cells7 hg; clear hB))
  | (go_at_call 18; ((with_reducible refine (GS.out _ _ _ _ _ hrx hry).mono ?_); rintro e w8 ⟨rfl, hB⟩; clear g0 g1 g2 g3 g4 g5 g6; replace hA := bel2 hA hB; replace hg := (hB.block _ (heap_lt hg)).trans hg; obtain ⟨g0, g1, g2, g3, g4, g5, g6, -⟩ := cells7 hg; clear hB)))
  go_ret
  exact ⟨by simp, hA⟩

theorem walk (w : World) (g : GM) (a : Option Addr) (cap : Nat) (hg : GoodG w g a) (hcap : g.l.length ≤ cap) (lo : Int) (_ : in64 lo) (hi : Int) (hhi : in64 hi) (i : Int) (_ : in64 i) : Calls Try.prog 4 #[g.val a cap, .int .i64 lo, .int .i64 hi, .int .i64 i] w fun e w' => e = .returned (.bool true) ∧ Below w.heap.size w w' := by
  obtain ⟨id, fi, te, ht, hv, hc, l⟩ := g
  have h64 : hi ≤ 9223372036854775807 := Int.le_of_lt_add_one hhi.2
  cases hf : fewGB l
  · exact grd_1 id fi te ht hv hc l a cap lo hi i w hg hcap h64 hf
  cases hG : isG ⟨id, fi, te, ht, hv, hc, l⟩
  · exact grd_2 id fi te ht hv hc l a cap lo hi i w hg hcap h64 hf hG
  · exact grd_3 id fi te ht hv hc l a cap lo hi i w hg hcap h64 hf hG

set_option maxRecDepth 100000 in
theorem lifted (os : Os) (started : os.Started) (H : Type) (enc : TypeId × Value → H) :
    ReturnsInHanded {} Try.checked os 4 .any (Rows.groupReadsSpec.pre6 enc Try.prog Try.f4 Rows.groupReadsRow.domain false) (Rows.groupReadsSpec.post enc Try.prog Try.f4 false true false false) := by
  refine returnsInHanded_of_change (C := Try.checked) Try.own started (by kernel_rfl) Try.func4
    (ChangeSpec.witness6 (enc := enc) (C := Try.checked) false ⟨#[], #[.agg #[.int .i64 0, .int .i64 0, .int .i64 0, .int .i64 0, .int .i64 0, .int .i64 0, .slice none 0 0], .int .i64 0, .int .i64 0, .int .i64 0], []⟩ 8 (by kernel_rfl) (by kernel_rfl) (by kernel_rfl) (by kernel_rfl)) ?_
  intro W base args ds gs before hval hW _ _
  refine law_contract (T := 4) (n := 4) Try.laid Try.underlying4 rfl rfl ⟨rfl, fun H ds h => by match ds, h with | [_, _, _, _], _ => rfl⟩ (of_all (by kernel_rfl)) hW ?_
  intro ps hA
  rw [Try.params4] at hA hval
  obtain ⟨v0, vs0, d0, ds0, p0, q0, hargs, rfl, rfl, h0, r0⟩ := trodAll_cons hA
  obtain ⟨v1, vs1, d1, ds1, p1, q1, rfl, rfl, rfl, h1, r1⟩ := trodAll_cons r0
  obtain ⟨v2, vs2, d2, ds2, p2, q2, rfl, rfl, rfl, h2, r2⟩ := trodAll_cons r1
  obtain ⟨v3, vs3, d3, ds3, p3, q3, rfl, rfl, rfl, h3, r3⟩ := trodAll_cons r2
  obtain ⟨rfl, rfl, rfl⟩ := trodAll_nil r3
  obtain rfl : args = #[v0, v1, v2, v3] := by cases args; simp_all
  obtain ⟨p0, a0, c0, rfl, g0⟩ := open_group (hval 0 26 v0 rfl rfl) h0
  obtain ⟨a1, rfl, rfl, rfl, w1⟩ := open_int Try.underlying3 (hval 1 3 v1 rfl rfl) h1
  obtain ⟨a2, rfl, rfl, rfl, w2⟩ := open_int Try.underlying3 (hval 2 3 v2 rfl rfl) h2
  obtain ⟨a3, rfl, rfl, rfl, w3⟩ := open_int Try.underlying3 (hval 3 3 v3 rfl rfl) h3
  exact walk W p0 a0 c0 g0 (group_le h0) a1 (bounds_i64 w1) a2 (bounds_i64 w2) a3 (bounds_i64 w3)

theorem holds : Rows.GroupReadsSaid :=
  OpenClaim.holds_of_wide 4 Try.f4 rfl rfl rfl rfl rfl rfl rfl ⟨rfl, rfl, rfl, rfl, rfl⟩ rfl rfl rfl rfl rfl (by kernel_rfl) Try.func4 (by kernel_rfl)
    (of_decide_eq_true (by kernel_rfl)) (by unfold Func.isWrapper; first | (rw [if_pos (by decide +kernel)]; kernel_rfl) | (rw [if_neg (by decide +kernel)]; exact ⟨rfl, rfl⟩))
    (fun os started H enc _ => lifted os started H enc)

end Go.Proofs.Ytfmcebmkclaafaa.groupReads
