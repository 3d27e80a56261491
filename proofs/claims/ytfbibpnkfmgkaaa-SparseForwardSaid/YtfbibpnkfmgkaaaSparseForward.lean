/- Law SparseForward: for every input the call answers true; its arguments read as they did. No condition. -/
import Derived.Deep.AppendLies
import Derived.Test.YtfbibpnkfmgkaaaLaw
import Derived.Test.YtfbibpnkfmgkaaaKnown12
import Derived.Test.YtfbibpnkfmgkaaaSprFam
import Derived.Test.YtfbibpnkfmgkaaaFew12
import Derived.Test.YtfbibpnkfmgkaaaRef6a
import Derived.Test.YtfbibpnkfmgkaaaRefIs6
import Derived.Test.YtfbibpnkfmgkaaaOpenPart
import Derived.Test.YtfbibpnkfmgkaaaCrc
namespace Go.Proofs.Ytfbibpnkfmgkaaa.sparseForward
open Go.ChangeShapes Go.WideShapes Go.ChangeAt Go.RowKit Go.Shelf
open Go.ChangeMaps (open_string shut_string)
set_option linter.unusedVariables false
attribute [local go_sem] Oper.semAt_some wide_fn wide_round_fn

open Go.ChangeShapes Go.WideShapes Go.ChangeAt
attribute [local irreducible] wpQuiet
set_option maxRecDepth 100000 in
set_option maxHeartbeats 4000000 in
theorem sf_1 (w : World) (id fi te ht hv hc : Int) (l : List EntryC) (a : Option Addr) (cap : Nat) (hg : GoodG w ⟨id, fi, te, ht, hv, hc, l⟩ a) (hcap : l.length ≤ cap) (kp : Nat) (hkp : kp < 4294967296) (n : Nat) (hn : n < 256) (hf1 : fewGB l = false) : Calls Try.prog 5 #[.agg #[.int .i64 id, .int .i64 fi, .int .i64 te, .int .i64 ht, .int .i64 hv, .int .i64 hc, .slice a l.length cap], .int .u32 kp, .int .u8 n] w fun e w' => e = .returned (.bool true) ∧ Below w.heap.size w w' := by
  have GK := Lib.hid spr_known
  have GF1 := Lib.hid (fun W (hB : Below w.heap.size w W) => fewG12_any id fi te ht hv hc l a cap W (hg.2.1.below hB) (fun e he => (hg.2.2 e he).2.2))
  rw [hf1] at GF1
  clear hg
  have hC : Below w.heap.size w (w.alloc (.cells #[.int .i64 id, .int .i64 fi, .int .i64 te, .int .i64 ht, .int .i64 hv, .int .i64 hc, .slice a l.length cap] 26)) := bel_alloc (Below.refl _ _) _
  have hgb := World.alloc_heap_new w (.cells #[.int .i64 id, .int .i64 fi, .int .i64 te, .int .i64 ht, .int .i64 hv, .int .i64 hc, .slice a l.length cap] 26)
  obtain ⟨x0, x1, x2, x3, x4, x5, x6, -⟩ := cells7 hgb
  go_enter Try.func5, Try.ntmps5
  go_wp2_with (first
    | (go_at_call 9; ((with_reducible refine (GK.out _).mono ?_); rintro e w1 ⟨rfl, hB⟩; replace hC := bel2 hC hB; replace hgb := (hB.block _ (heap_lt hgb)).trans hgb; clear hB x0 x1 x2 x3 x4 x5 x6; obtain ⟨x0, x1, x2, x3, x4, x5, x6, -⟩ := cells7 hgb))
    | (go_at_call 10; ((with_reducible refine (GF1.out _ hC).mono ?_); rintro e w2 ⟨rfl, hB⟩; replace hC := bel2 hC hB; replace hgb := (hB.block _ (heap_lt hgb)).trans hgb; clear hB x0 x1 x2 x3 x4 x5 x6; obtain ⟨x0, x1, x2, x3, x4, x5, x6, -⟩ := cells7 hgb)))
  go_ret
  exact ⟨by simp, hC⟩

set_option maxRecDepth 100000 in
set_option maxHeartbeats 4000000 in
theorem sf_2 (w : World) (id fi te ht hv hc : Int) (l : List EntryC) (a : Option Addr) (cap : Nat) (hg : GoodG w ⟨id, fi, te, ht, hv, hc, l⟩ a) (hcap : l.length ≤ cap) (kp : Nat) (hkp : kp < 4294967296) (n : Nat) (hn : n < 256) (hf1 : fewGB l = true) (hG : isG ⟨id, fi, te, ht, hv, hc, l⟩ = false) : Calls Try.prog 5 #[.agg #[.int .i64 id, .int .i64 fi, .int .i64 te, .int .i64 ht, .int .i64 hv, .int .i64 hc, .slice a l.length cap], .int .u32 kp, .int .u8 n] w fun e w' => e = .returned (.bool true) ∧ Below w.heap.size w w' := by
  have GK := Lib.hid spr_known
  have GF1 := Lib.hid (fun W (hB : Below w.heap.size w W) => fewG12_any id fi te ht hv hc l a cap W (hg.2.1.below hB) (fun e he => (hg.2.2 e he).2.2))
  rw [hf1] at GF1
  obtain ⟨hGH, h30⟩ := hg.has hf1
  dsimp only at h30
  have GI := Lib.hid (fun W (hB : Below w.heap.size w W) => refIsG_any id fi te ht hv hc l a cap W (hGH.below hB))
  rw [hG] at GI
  clear hg hGH h30
  have hC : Below w.heap.size w (w.alloc (.cells #[.int .i64 id, .int .i64 fi, .int .i64 te, .int .i64 ht, .int .i64 hv, .int .i64 hc, .slice a l.length cap] 26)) := bel_alloc (Below.refl _ _) _
  have hgb := World.alloc_heap_new w (.cells #[.int .i64 id, .int .i64 fi, .int .i64 te, .int .i64 ht, .int .i64 hv, .int .i64 hc, .slice a l.length cap] 26)
  obtain ⟨x0, x1, x2, x3, x4, x5, x6, -⟩ := cells7 hgb
  go_enter Try.func5, Try.ntmps5
  go_wp2_with (first
    | (go_at_call 9; ((with_reducible refine (GK.out _).mono ?_); rintro e w1 ⟨rfl, hB⟩; replace hC := bel2 hC hB; replace hgb := (hB.block _ (heap_lt hgb)).trans hgb; clear hB x0 x1 x2 x3 x4 x5 x6; obtain ⟨x0, x1, x2, x3, x4, x5, x6, -⟩ := cells7 hgb))
    | (go_at_call 10; ((with_reducible refine (GF1.out _ hC).mono ?_); rintro e w2 ⟨rfl, hB⟩; replace hC := bel2 hC hB; replace hgb := (hB.block _ (heap_lt hgb)).trans hgb; clear hB x0 x1 x2 x3 x4 x5 x6; obtain ⟨x0, x1, x2, x3, x4, x5, x6, -⟩ := cells7 hgb))
    | (go_at_call 16; ((with_reducible refine (GI.out _ hC).mono ?_); rintro e w3 ⟨rfl, hB⟩; replace hC := bel2 hC hB; replace hgb := (hB.block _ (heap_lt hgb)).trans hgb; clear hB x0 x1 x2 x3 x4 x5 x6; obtain ⟨x0, x1, x2, x3, x4, x5, x6, -⟩ := cells7 hgb)))
  go_ret
  exact ⟨by simp, hC⟩

set_option maxRecDepth 100000 in
set_option maxHeartbeats 4000000 in
theorem sf_3 (w : World) (id fi te ht hv hc : Int) (l : List EntryC) (a : Option Addr) (cap : Nat) (hg : GoodG w ⟨id, fi, te, ht, hv, hc, l⟩ a) (hcap : l.length ≤ cap) (kp : Nat) (hkp : kp < 4294967296) (n : Nat) (hn : n < 256) (hf1 : fewGB l = true) (hG : isG ⟨id, fi, te, ht, hv, hc, l⟩ = true) (h1 : 1 < fi) (h2 : te = 0) : Calls Try.prog 5 #[.agg #[.int .i64 id, .int .i64 fi, .int .i64 te, .int .i64 ht, .int .i64 hv, .int .i64 hc, .slice a l.length cap], .int .u32 kp, .int .u8 n] w fun e w' => e = .returned (.bool true) ∧ Below w.heap.size w w' := by
  have GK := Lib.hid spr_known
  have GF1 := Lib.hid (fun W (hB : Below w.heap.size w W) => fewG12_any id fi te ht hv hc l a cap W (hg.2.1.below hB) (fun e he => (hg.2.2 e he).2.2))
  rw [hf1] at GF1
  obtain ⟨hGH, h30⟩ := hg.has hf1
  dsimp only at h30
  have GI := Lib.hid (fun W (hB : Below w.heap.size w W) => refIsG_any id fi te ht hv hc l a cap W (hGH.below hB))
  rw [hG] at GI
  have d1 : decide (1 < fi) = true := decide_eq_true h1
  have d2 : (fi == 1) = false := by rw [beq_eq_false_iff_ne]; omega
  have d3 : (te == 0) = true := by rw [beq_iff_eq]; omega
  have d4 : (te != 0) = false := by rw [bne_eq_false_iff_eq]; omega
  clear hg hGH h30 h1 h2
  have hC : Below w.heap.size w (w.alloc (.cells #[.int .i64 id, .int .i64 fi, .int .i64 te, .int .i64 ht, .int .i64 hv, .int .i64 hc, .slice a l.length cap] 26)) := bel_alloc (Below.refl _ _) _
  have hgb := World.alloc_heap_new w (.cells #[.int .i64 id, .int .i64 fi, .int .i64 te, .int .i64 ht, .int .i64 hv, .int .i64 hc, .slice a l.length cap] 26)
  obtain ⟨x0, x1, x2, x3, x4, x5, x6, -⟩ := cells7 hgb
  go_enter Try.func5, Try.ntmps5
  go_wp2_with (first
    | (go_at_call 9; ((with_reducible refine (GK.out _).mono ?_); rintro e w1 ⟨rfl, hB⟩; replace hC := bel2 hC hB; replace hgb := (hB.block _ (heap_lt hgb)).trans hgb; clear hB x0 x1 x2 x3 x4 x5 x6; obtain ⟨x0, x1, x2, x3, x4, x5, x6, -⟩ := cells7 hgb))
    | (go_at_call 10; ((with_reducible refine (GF1.out _ hC).mono ?_); rintro e w2 ⟨rfl, hB⟩; replace hC := bel2 hC hB; replace hgb := (hB.block _ (heap_lt hgb)).trans hgb; clear hB x0 x1 x2 x3 x4 x5 x6; obtain ⟨x0, x1, x2, x3, x4, x5, x6, -⟩ := cells7 hgb))
    | (go_at_call 16; ((with_reducible refine (GI.out _ hC).mono ?_); rintro e w3 ⟨rfl, hB⟩; replace hC := bel2 hC hB; replace hgb := (hB.block _ (heap_lt hgb)).trans hgb; clear hB x0 x1 x2 x3 x4 x5 x6; obtain ⟨x0, x1, x2, x3, x4, x5, x6, -⟩ := cells7 hgb)))
  go_ret
  exact ⟨by simp, hC⟩

set_option maxRecDepth 100000 in
set_option maxHeartbeats 4000000 in
theorem sf_4 (w : World) (id fi te ht hv hc : Int) (l : List EntryC) (a : Option Addr) (cap : Nat) (hg : GoodG w ⟨id, fi, te, ht, hv, hc, l⟩ a) (hcap : l.length ≤ cap) (kp : Nat) (hkp : kp < 4294967296) (n : Nat) (hn : n < 256) (hf1 : fewGB l = true) (hG : isG ⟨id, fi, te, ht, hv, hc, l⟩ = true) (h1 : fi = 1) (h2 : te ≠ 0) : Calls Try.prog 5 #[.agg #[.int .i64 id, .int .i64 fi, .int .i64 te, .int .i64 ht, .int .i64 hv, .int .i64 hc, .slice a l.length cap], .int .u32 kp, .int .u8 n] w fun e w' => e = .returned (.bool true) ∧ Below w.heap.size w w' := by
  have GK := Lib.hid spr_known
  have GF1 := Lib.hid (fun W (hB : Below w.heap.size w W) => fewG12_any id fi te ht hv hc l a cap W (hg.2.1.below hB) (fun e he => (hg.2.2 e he).2.2))
  rw [hf1] at GF1
  obtain ⟨hGH, h30⟩ := hg.has hf1
  dsimp only at h30
  have GI := Lib.hid (fun W (hB : Below w.heap.size w W) => refIsG_any id fi te ht hv hc l a cap W (hGH.below hB))
  rw [hG] at GI
  have d1 : decide (1 < fi) = false := decide_eq_false_iff_not.2 (by omega)
  have d2 : (fi == 1) = true := by rw [beq_iff_eq]; omega
  have d3 : (te == 0) = false := by rw [beq_eq_false_iff_ne]; omega
  have d4 : (te != 0) = true := by rw [bne_iff_ne]; omega
  clear hg hGH h30 h2 h1
  have hC : Below w.heap.size w (w.alloc (.cells #[.int .i64 id, .int .i64 fi, .int .i64 te, .int .i64 ht, .int .i64 hv, .int .i64 hc, .slice a l.length cap] 26)) := bel_alloc (Below.refl _ _) _
  have hgb := World.alloc_heap_new w (.cells #[.int .i64 id, .int .i64 fi, .int .i64 te, .int .i64 ht, .int .i64 hv, .int .i64 hc, .slice a l.length cap] 26)
  obtain ⟨x0, x1, x2, x3, x4, x5, x6, -⟩ := cells7 hgb
  go_enter Try.func5, Try.ntmps5
  go_wp2_with (first
    | (go_at_call 9; ((with_reducible refine (GK.out _).mono ?_); rintro e w1 ⟨rfl, hB⟩; replace hC := bel2 hC hB; replace hgb := (hB.block _ (heap_lt hgb)).trans hgb; clear hB x0 x1 x2 x3 x4 x5 x6; obtain ⟨x0, x1, x2, x3, x4, x5, x6, -⟩ := cells7 hgb))
    | (go_at_call 10; ((with_reducible refine (GF1.out _ hC).mono ?_); rintro e w2 ⟨rfl, hB⟩; replace hC := bel2 hC hB; replace hgb := (hB.block _ (heap_lt hgb)).trans hgb; clear hB x0 x1 x2 x3 x4 x5 x6; obtain ⟨x0, x1, x2, x3, x4, x5, x6, -⟩ := cells7 hgb))
    | (go_at_call 16; ((with_reducible refine (GI.out _ hC).mono ?_); rintro e w3 ⟨rfl, hB⟩; replace hC := bel2 hC hB; replace hgb := (hB.block _ (heap_lt hgb)).trans hgb; clear hB x0 x1 x2 x3 x4 x5 x6; obtain ⟨x0, x1, x2, x3, x4, x5, x6, -⟩ := cells7 hgb)))
  go_ret
  exact ⟨by simp, hC⟩

set_option maxRecDepth 100000 in
set_option maxHeartbeats 4000000 in
theorem sf_5 (w : World) (id fi te ht hv hc : Int) (l : List EntryC) (a : Option Addr) (cap : Nat) (hg : GoodG w ⟨id, fi, te, ht, hv, hc, l⟩ a) (hcap : l.length ≤ cap) (kp : Nat) (hkp : kp < 4294967296) (n : Nat) (hn : n < 256) (hf1 : fewGB l = true) (hG : isG ⟨id, fi, te, ht, hv, hc, l⟩ = true) (h1 : 1 < fi) (h2 : te ≠ 0) : Calls Try.prog 5 #[.agg #[.int .i64 id, .int .i64 fi, .int .i64 te, .int .i64 ht, .int .i64 hv, .int .i64 hc, .slice a l.length cap], .int .u32 kp, .int .u8 n] w fun e w' => e = .returned (.bool true) ∧ Below w.heap.size w w' := by
  have GK := Lib.hid spr_known
  have GF1 := Lib.hid (fun W (hB : Below w.heap.size w W) => fewG12_any id fi te ht hv hc l a cap W (hg.2.1.below hB) (fun e he => (hg.2.2 e he).2.2))
  rw [hf1] at GF1
  obtain ⟨hGH, h30⟩ := hg.has hf1
  dsimp only at h30
  have GI := Lib.hid (fun W (hB : Below w.heap.size w W) => refIsG_any id fi te ht hv hc l a cap W (hGH.below hB))
  rw [hG] at GI
  have d1 : decide (1 < fi) = true := decide_eq_true h1
  have d2 : (fi == 1) = false := by rw [beq_eq_false_iff_ne]; omega
  have d3 : (te == 0) = false := by rw [beq_eq_false_iff_ne]; omega
  have d4 : (te != 0) = true := by rw [bne_iff_ne]; omega
  obtain ⟨i9, hi9, hz0, hz1, hz2⟩ := info_parts infoEntry
  have hcs : RowV w a l.length 3 (entryCells l) := hGH.2
  have hd := (isG_iff.1 hG).2.2
  dsimp only at hd
  clear hg
  have hC : Below w.heap.size w (w.alloc (.cells #[.int .i64 id, .int .i64 fi, .int .i64 te, .int .i64 ht, .int .i64 hv, .int .i64 hc, .slice a l.length cap] 26)) := bel_alloc (Below.refl _ _) _
  have hgb := World.alloc_heap_new w (.cells #[.int .i64 id, .int .i64 fi, .int .i64 te, .int .i64 ht, .int .i64 hv, .int .i64 hc, .slice a l.length cap] 26)
  obtain ⟨x0, x1, x2, x3, x4, x5, x6, -⟩ := cells7 hgb
  go_enter Try.func5, Try.ntmps5
  go_wp2_with (first
    | (go_at_call 9; ((with_reducible refine (GK.out _).mono ?_); rintro e w1 ⟨rfl, hB⟩; replace hC := bel2 hC hB; replace hgb := (hB.block _ (heap_lt hgb)).trans hgb; clear hB x0 x1 x2 x3 x4 x5 x6; obtain ⟨x0, x1, x2, x3, x4, x5, x6, -⟩ := cells7 hgb))
    | (go_at_call 10; ((with_reducible refine (GF1.out _ hC).mono ?_); rintro e w2 ⟨rfl, hB⟩; replace hC := bel2 hC hB; replace hgb := (hB.block _ (heap_lt hgb)).trans hgb; clear hB x0 x1 x2 x3 x4 x5 x6; obtain ⟨x0, x1, x2, x3, x4, x5, x6, -⟩ := cells7 hgb))
    | (go_at_call 16; ((with_reducible refine (GI.out _ hC).mono ?_); rintro e w3 ⟨rfl, hB⟩; replace hC := bel2 hC hB; replace hgb := (hB.block _ (heap_lt hgb)).trans hgb; clear hB x0 x1 x2 x3 x4 x5 x6; obtain ⟨x0, x1, x2, x3, x4, x5, x6, -⟩ := cells7 hgb)))
  have hCx : Below w.heap.size w w3 := hC
  have hg3 := hgb
  clear x0 x1 x2 x3 x4 x5 x6
  go_loopw [8] (fun i wr => ∃ (q : Nat) (v : Value) (K : List EntryC), q ≤ l.length ∧ i = .int .i64 q ∧ wr.heap[w3.heap.size]? = some (.cells #[.int .i64 id, .int .i64 1, .int .i64 0, .int .i64 0, .int .i64 0, .int .i64 0, v] 26 (0, 0)) ∧ wr.ownsRow (w3.heap.size + 1) 38 3 v K.length (entryCells K) ∧ (Pw K ∧ ∀ e ∈ K, e ∈ l.take q) ∧ K.length ≤ q ∧ Below w3.heap.size w3 wr) (fun i _ => l.length - (intOf i).toNat)
  case atStart => exact ⟨0, .slice none 0 0, [], by omega, rfl, World.alloc_heap_new _ _, World.ownsRow_nil _ _ _ _, ⟨List.Pairwise.nil, fun e he => by simp at he⟩, by simp, bel_alloc (Below.refl _ _) _⟩
  case round =>
  obtain ⟨q, v, K, hq, rfl, hblk, hown, hPK, hKq, hB⟩ := hrel
  have hBw : Below w.heap.size w wr := bel2 hCx hB
  have hgr := (hB.block _ (heap_lt hg3)).trans hg3
  have hHlt := heap_lt hblk
  have hglt := heap_lt hg3
  obtain ⟨x0, x1, x2, x3, x4, x5, x6, -⟩ := cells7 hgr
  by_cases hlt : q < l.length
  · have hlt' : (q : Int) < (l.length : Int) := by omega
    have hq0 : (0 : Int) ≤ (q : Int) := by omega
    have hqw : (q : Int) % 18446744073709551616 = (q : Int) := by omega
    obtain ⟨gb, go, rfl, hgb2, hgc⟩ := hcs.2.2 (by omega)
    obtain ⟨e0, e1, e2⟩ := entry_at hgb2 hBw hgc hlt
    have hbt := bit_at' kp q hkp
    cases hT : kp.testBit q
    · rw [hT] at hbt
      replace hbt : bits .and .u32 ((kp : Int) / 2 ^ q) 1 = 0 := hbt
      clear hgc hT
      go_wp2
      go_roundw
      case rel => exact ⟨q + 1, v, K, by omega, by go_num, hblk, hown, ⟨hPK.1, fun e he => List.take_subset_take_left _ (by omega) (hPK.2 e he)⟩, by omega, hB⟩
      case measure => simp [intOf]; omega
    · rw [hT] at hbt
      replace hbt : bits .and .u32 ((kp : Int) / 2 ^ q) 1 = 1 := hbt
      have HSN := Lib.hid (fw_snoc hd hlt hPK.1 hPK.2)
      obtain ⟨⟨xi, xt, xd⟩, hx⟩ : ∃ x, x = l[q] := ⟨_, rfl⟩
      rw [← hx] at e0 e1 e2 HSN
      dsimp only at e0 e1 e2
      have HCE := Lib.hid (entryCells_snoc K ⟨xi, xt, xd⟩)
      have h6 : wr.cell? ⟨w3.heap.size, 6, none⟩ = some v := cell_of_row _ _ 6 _ _ _ hblk
      have hf6 : wr.frozen? ⟨w3.heap.size, 6, none⟩ = false := frozen_of_row _ _ 6 _ _ hblk
      clear hgc hT hx hPK
      go_wp2
      have xd6 : wr.drew.cell? ⟨w.heap.size, 6, none⟩ = _ := x6
      have ed0 : wr.drew.cell? ⟨gb, go + q * 3, none⟩ = _ := e0
      have ed1 : wr.drew.cell? ⟨gb, go + q * 3 + 1, none⟩ = _ := e1
      have ed2 : wr.drew.cell? ⟨gb, go + q * 3 + 2, none⟩ = _ := e2
      have hd6 : wr.drew.cell? ⟨w3.heap.size, 6, none⟩ = _ := h6
      have he6 := ((bel_alloc (Below.refl wr.drew.heap.size wr.drew) (.cells [.int .i64 xi, .int .i64 xt, .string xd].toArray 38)).cell (p := ⟨w3.heap.size, 6, none⟩) hHlt).trans hd6
      have hf6' := he6
      go_region_law (first
        | ((refine step_append_lies _ (by rfl) _ _ _ (by rfl) (w3.heap.size + 1) 38 i9 (.agg #[.int .i64 0, .int .i64 0, .string ⟨#[]⟩]) 3 32 Try.underlying24 hi9 hz0 hz1 hz2 rfl (by omega) v K.length (entryCells K) (by rfl) (by first | exact (hown.alloc _) | exact (hown.alloc _).drew | exact (hown.drew.alloc _)) ⟨wr.heap.size, 0, none⟩ 1 1 [.int .i64 xi, .int .i64 xt, .string xd] (by rfl) (by rfl) (by first | exact news_new _ _ _ | exact World.news_of_block (cs := [.int .i64 xi, .int .i64 xt, .string xd].toArray) (World.alloc_heap_new _ _)) (by simp [Value.oneCell']) (by omega) (by unfold maxLen; omega) (by omega) (by simp; omega) _ rfl ?_; intro g1 c1 w4 hown4 hgrow4 hat4 hlt4; have hA1 := bel_alloc (Below.refl wr.heap.size wr) (.cells [.int .i64 xi, .int .i64 xt, .string xd].toArray 38); have hne : ∀ k, k < (w3.heap.size + 1) → v.ownBlock ≠ some k := (fun k hk e => by have := ownBlock_ge hown e; omega); have FC : ∀ (p : Addr) x, p.block < wr.heap.size → p.block < (w3.heap.size + 1) → wr.cell? p = some x → w4.cell? p = some x := (fun p x h1 h2 hx => (hgrow4.cell_far p (by simp; omega) (fun e => hne _ h2 e.symm)).trans ((hA1.cell h1).trans hx)); have s0 := FC _ _ (by show w.heap.size < wr.heap.size; omega) (by show w.heap.size < (w3.heap.size + 1); omega) x6; have s1 := FC _ _ (by show gb < wr.heap.size; omega) (by show gb < (w3.heap.size + 1); omega) e0; have s2 := FC _ _ (by show gb < wr.heap.size; omega) (by show gb < (w3.heap.size + 1); omega) e1; have s3 := FC _ _ (by show gb < wr.heap.size; omega) (by show gb < (w3.heap.size + 1); omega) e2; have hb4 := (hgrow4.block w3.heap.size (by simp; omega) (fun e => hne _ (by omega) e.symm)).trans ((hA1.block _ hHlt).trans hblk); have k6 : w4.cell? ⟨w3.heap.size, 6, none⟩ = some v := cell_of_row _ _ 6 _ _ _ hb4; have kf6 := frozen_of_row _ _ 6 _ _ hb4; have hB4 := hgrow4; have TC : ∀ (p : Addr) x, p.block ≠ w3.heap.size → w4.cell? p = some x → (w4.setCell ⟨w3.heap.size, 6, none⟩ (.slice (some ⟨g1, 0, none⟩) (K.length + 1) c1)).cell? p = some x := (fun p x h1 hx => (World.cell?_of_block (heap_setCell_other _ _ _ _ h1)).trans hx); have t0 := TC _ _ (by show w.heap.size ≠ w3.heap.size; omega) s0; have t1 := TC _ _ (by show gb ≠ w3.heap.size; omega) s1; have t2 := TC _ _ (by show gb ≠ w3.heap.size; omega) s2; have t3 := TC _ _ (by show gb ≠ w3.heap.size; omega) s3; clear FC TC)))
      all_goals
        have hb5 := Go.Joins.block_setCell hb4 (.slice (some ⟨g1, 0, none⟩) (K.length + 1) c1) (i := 6)
        simp only [List.setIfInBounds_toArray, List.set_cons_succ, List.set_cons_zero] at hb5
        have hF5 := FrameT.setCell w4 (w3.heap.size) 6 (.slice (some ⟨g1, 0, none⟩) (K.length + 1) c1)
        have hown5 := own_frame hown4 hF5 (fun k hk h => by omega)
        have hB45 : Below w3.heap.size w3 w4 := (by first | exact (hB.trans (hA1.mono hB.size)).grown hB4 (by simp; omega) (fun k hk => by have := ownBlock_ge hown hk; omega) | exact (hB.trans (hA1.mono hB.size)).drew.grown hB4 (by simp; omega) (fun k hk => by have := ownBlock_ge hown hk; omega) | exact (hB.drew.trans (hA1.mono hB.size)).grown hB4 (by simp; omega) (fun k hk => by have := ownBlock_ge hown hk; omega))
        have hB5 := hB45.setCell (p := ⟨w3.heap.size, 6, none⟩) (Nat.le_refl _) (.slice (some ⟨g1, 0, none⟩) (K.length + 1) c1)
        clear x0 x1 x2 x3 x4 x5 x6 e0 e1 e2 s0 s1 s2 s3 t0 t1 t2 t3 h6 hf6 k6 kf6 hbt xd6 ed0 ed1 ed2 hd6 he6 hf6'
        go_wp2
        go_roundw
        case rel => exact ⟨q + 1, _, K ++ [⟨xi, xt, xd⟩], by omega, by go_num, hb5, by rw [List.length_append, HCE.out]; exact hown5, HSN.out, by rw [List.length_append]; simp; omega, hB5⟩
        case measure => simp [intOf]; omega
  have hOQ : q = l.length := by omega
  subst q
  have hKl : FW l K 0 := ⟨hPK.1, fun e he => List.mem_of_mem_take (hPK.2 e he), fun j h h2 => absurd h2 (by omega)⟩
  obtain ⟨pa, pc, rfl, hpc, hprow⟩ := rowV_own hown
  have hS : FS w3 w3.heap.size ⟨id, 1, 0, 0, 0, 0, K⟩ pa pc wr := ⟨hblk, ⟨by show K.length < 1000000; omega, hprow⟩, hpc, Nat.le_refl _, hB⟩
  obtain ⟨r, hr, hr6⟩ : ∃ r : Nat, (n : Int) % 6 = (r : Int) ∧ r < 6 := ⟨n % 6, by omega, by omega⟩
  obtain ⟨m1, m2, m3⟩ := mrk_do hG hKl h1 h2
  have hw1 : IntKind.i64.wrap (fi - 1) = fi - 1 := IntWalk.i64_in _ (by have := (isG_iff.1 hG).1.2.1; dsimp only at this; omega)
  have GD1 := Lib.hid (fun W (h : HasG W pa ⟨id, 1, 0, 0, 0, 0, K⟩) => (show Calls Try.prog 12 #[.agg #[.int .i64 id, .int .i64 1, .int .i64 0, .int .i64 0, .int .i64 0, .int .i64 0, .slice pa K.length pc], .agg #[.int .i64 id, .int .i64 6, .slice none 0 0, .int .i64 0, .int .i64 0, .int .i64 0, .int .i64 (fi - 1), .int .i64 te, .bool true, .bool false]] W (SDoP W ⟨id, fi, te, 0, 0, 0, K⟩) from by
    have := sdo_valid id 1 0 0 0 0 K pa pc 6 none 0 0 0 0 0 (fi - 1) te true false [] W h hpc (hasE_nil rfl rfl) (Nat.zero_le _) (by omega) m1 m2
    rwa [m3] at this))
  clear m1 m2 m3
  obtain ⟨n1, n2, n3⟩ := hrd_do hG hKl
  have GD2 := Lib.hid (fun a1 c1 W (hc1 : K.length ≤ c1) (h : HasG W a1 ⟨id, fi, te, 0, 0, 0, K⟩) => (show Calls Try.prog 12 #[.agg #[.int .i64 id, .int .i64 fi, .int .i64 te, .int .i64 0, .int .i64 0, .int .i64 0, .slice a1 K.length c1], .agg #[.int .i64 id, .int .i64 6, .slice none 0 0, .int .i64 ht, .int .i64 hv, .int .i64 hc, .int .i64 0, .int .i64 0, .bool false, .bool true]] W (SDoP W ⟨id, fi, te, ht, hv, hc, K⟩) from by
    have := sdo_valid id fi te 0 0 0 K a1 c1 6 none 0 0 ht hv hc 0 0 false true [] W h hc1 (hasE_nil rfl rfl) (Nat.zero_le _) (by omega) n1 n2
    rwa [n3] at this))
  clear n1 n2 n3
  unfold SDoP at GD1 GD2
  dsimp only at GD1 GD2
  obtain ⟨h0, h1, h2, h3, h4, h5, h6, -⟩ := cells7 hS.1
  have HS := Lib.hid hS
  have HKl := Lib.hid hKl
  clear hblk hown hprow hPK hlt hS hKl
  go_wp2_with (first
    | (go_at_call 12; ((with_reducible refine (GD2.out _ _ _ HS1.out.2.2.1 HS1.out.2.1).mono ?_); rintro e w10 ⟨da, dc, rfl, hDH, hdc, hB9, hN9⟩; have hSa := HS1.out; have hbz := (hB9.block _ (heap_lt hSa.1)).trans hSa.1; obtain ⟨z0, z1, z2, z3, z4, z5, z6, -⟩ := cells7 hbz; have fz := (fun i => frozen_of_row _ _ i _ _ hbz); have hS2 := FS.step (g' := ⟨id, fi, te, ht, hv, hc, K⟩) (a' := da) (cap' := dc) hSa hB9 hDH hN9 hdc; simp only [st7] at hS2; have hG9 := (hS2.2.2.2.2.block _ hglt).trans hg3; clear hbz hSa))
    | (go_at_call 12; ((with_reducible refine (GD1.out _ HS.out.2.1).mono ?_); rintro e w9 ⟨da, dc, rfl, hDH, hdc, hB9, hN9⟩; have hSa := HS.out; have hbz := (hB9.block _ (heap_lt hSa.1)).trans hSa.1; obtain ⟨z0, z1, z2, z3, z4, z5, z6, -⟩ := cells7 hbz; have fz := (fun i => frozen_of_row _ _ i _ _ hbz); have hS1 := FS.step (g' := ⟨id, fi, te, 0, 0, 0, K⟩) (a' := da) (cap' := dc) hSa hB9 hDH hN9 hdc; simp only [st7] at hS1; have hG9 := (hS1.2.2.2.2.block _ hglt).trans hg3; clear hbz hSa; obtain ⟨y0, y1, y2, y3, y4, y5, y6, -⟩ := cells7 hS1.1; have HS1 := Lib.hid hS1; clear hS1; obtain ⟨u0, u1, u2, u3, u4, u5, u6, -⟩ := cells7 hG9; clear hG9 hDH hB9 hN9)))
  obtain ⟨wp, rfl⟩ : ∃ wp : World, wp = wr := ⟨_, rfl⟩
  clear h0 h1 h2 h3 h4 h5 h6 hgr hBw hKq GK GF1 GI
  go_loopw [10] (fun i wr => ∃ (q : Nat) (L : List EntryC) (a2 : Option Addr) (c2 : Nat), q ≤ l.length + 5 ∧ i = .int .i64 q ∧ FS w3 w3.heap.size ⟨id, fi, te, ht, hv, hc, L⟩ a2 c2 wr ∧ FW l L q) (fun i _ => l.length + 6 - (intOf i).toNat)
  case atStart => exact ⟨0, K, da, dc, by omega, rfl, hS2, HKl.out⟩
  case round =>
  obtain ⟨q, L, a2, c2, hq, rfl, hS, hF⟩ := hrel
  have hLl := fw_len hd hF
  have hg5 := (hS.2.2.2.2.block _ hglt).trans hg3
  have hBw : Below w.heap.size w wr := bel2 hCx hS.2.2.2.2
  obtain ⟨x0, x1, x2, x3, x4, x5, x6, -⟩ := cells7 hg5
  by_cases hlt : q < l.length
  · obtain ⟨gb, go, rfl, hgb2, hgc⟩ := hcs.2.2 (by omega)
    obtain ⟨m, hm⟩ : ∃ m, m = min (q + (r + 1)) l.length := ⟨_, rfl⟩
    have hqm : q < m := by omega
    have hml : m ≤ l.length := by omega
    have hmI : min ((q : Int) + ((r : Int) + 1)) (l.length : Int) = (m : Int) := by omega
    have hws : IntKind.i64.wrap ((q : Int) + ((r : Int) + 1)) = (q : Int) + ((r : Int) + 1) := IntWalk.i64_in _ (by omega)
    have hlt' : (q : Int) < (l.length : Int) := by omega
    have hq0 : (0 : Int) ≤ (q : Int) := by omega
    have hqm' : (q : Int) ≤ (m : Int) := by omega
    have hml' : (m : Int) ≤ (l.length : Int) := by omega
    have hmc' : (m : Int) ≤ (cap : Int) := by omega
    have hm0 : (0 : Int) ≤ (m : Int) := by omega
    have hlc' : (l.length : Int) ≤ (cap : Int) := by omega
    have hnc : ¬ cap = q := by omega
    have HM := Lib.hid hm
    have hrow := row_part hgb2 hgc hqm hml (by omega)
    have HF := Lib.hid hF
    have HS := Lib.hid hS
    clear hm hS hF hgc
    go_wp2
    go_region_held3 (fun W' => W'.cell? ⟨w.heap.size, 0, none⟩ = some (.int .i64 id) ∧ W'.cell? ⟨w.heap.size, 6, none⟩ = some (.slice (some ⟨gb, go, none⟩) l.length cap)) (go_keep) (fail)
    all_goals
      have hBn : Below wr.heap.size wr (wr.alloc (.cells #[.int .i64 id, .int .i64 6, .slice (some ⟨gb, go + q * 3, none⟩) (m - q) (cap - q), .int .i64 0, .int .i64 0, .int .i64 0, .int .i64 0, .int .i64 0, .bool false, .bool false] 28)).drew := (bel_alloc (Below.refl _ _) _).drew
      have hP5 : (wr.alloc (.cells #[.int .i64 id, .int .i64 6, .slice (some ⟨gb, go + q * 3, none⟩) (m - q) (cap - q), .int .i64 0, .int .i64 0, .int .i64 0, .int .i64 0, .int .i64 0, .bool false, .bool false] 28)).drew.heap[wr.heap.size]? = some (.cells #[.int .i64 id, .int .i64 6, .slice (some ⟨gb, go + q * 3, none⟩) (m - q) (cap - q), .int .i64 0, .int .i64 0, .int .i64 0, .int .i64 0, .int .i64 0, .bool false, .bool false] 28 (0, 0)) := World.alloc_heap_new wr _
      obtain ⟨X, hX⟩ : ∃ X, X = wr.heap.size := ⟨_, rfl⟩
      rw [← hX] at hP5
      rw [← hX]
      generalize (wr.alloc (.cells #[.int .i64 id, .int .i64 6, .slice (some ⟨gb, go + q * 3, none⟩) (m - q) (cap - q), .int .i64 0, .int .i64 0, .int .i64 0, .int .i64 0, .int .i64 0, .bool false, .bool false] 28)).drew = w4 at *
      have HS4 := Lib.hid (HS.out.below hBn)
      have hE4 : HasE w4 ⟨id, 6, some ⟨gb, go + q * 3, none⟩, m - q, cap - q, 0, 0, 0, 0, 0, false, false⟩ ((l.take m).drop q) := ⟨by simp; omega, by show m - q < 1000000; omega, by have hl9 : ((l.take m).drop q).length = m - q := (by simp; omega); have := hrow.below (bel2 hBw hBn); rw [hl9] at this; exact this⟩
      have hg6 := (HS4.out.2.2.2.2.block _ (heap_lt hg3)).trans hg3
      clear x0 x1 x2 x3 x4 x5 x6 hX hg5 HS hrow hws hmI hBn
      obtain ⟨x0, x1, x2, x3, x4, x5, x6, -⟩ := cells7 hg6
      obtain ⟨p0, p1, p2, p3, p4, p5, p6, p7, p8, p9⟩ := cells10a hP5
      obtain ⟨h0, h1, h2, h3, h4, h5, h6, -⟩ := cells7 HS4.out.1
      have GIs := Lib.hid (refIs_any ⟨id, 6, some ⟨gb, go + q * 3, none⟩, m - q, cap - q, 0, 0, 0, 0, 0, false, false⟩ ((l.take m).drop q) w4 hE4)
      cases hbb : isB ⟨id, 6, some ⟨gb, go + q * 3, none⟩, m - q, cap - q, 0, 0, 0, 0, 0, false, false⟩ ((l.take m).drop q)
      · rw [hbb] at GIs
        go_wp2_with (go_at_call 22; ((with_reducible refine (GIs.out).mono ?_); rintro e w5 ⟨rfl, hB5⟩))
        go_ret
        exact ⟨rfl, bel2 (bel2 hCx HS4.out.2.2.2.2) hB5⟩
      · rw [hbb] at GIs
        have hfw := fw_do (s := r + 1) (n := m - q) (c := cap - q) (a := some ⟨gb, go + q * 3, none⟩) hG HF.out (by rw [← HM.out]; exact hbb)
        rw [← HM.out] at hfw
        obtain ⟨hdo, hF2⟩ := hfw
        have HF2 := Lib.hid hF2
        have GD3 := Lib.hid (fun W (hW : Below w4.heap.size w4 W) => (show Calls Try.prog 12 #[.agg #[.int .i64 id, .int .i64 fi, .int .i64 te, .int .i64 ht, .int .i64 hv, .int .i64 hc, .slice a2 L.length c2], .agg #[.int .i64 id, .int .i64 6, .slice (some ⟨gb, go + q * 3, none⟩) (m - q) (cap - q), .int .i64 0, .int .i64 0, .int .i64 0, .int .i64 0, .int .i64 0, .bool false, .bool false]] W (SDoP W ⟨id, fi, te, ht, hv, hc, (mrg L ((l.take m).drop q))⟩) from by
          have := sdo_valid id fi te ht hv hc L a2 c2 6 (some ⟨gb, go + q * 3, none⟩) (m - q) (cap - q) 0 0 0 0 0 false false ((l.take m).drop q) W (HS4.out.2.1.below hW) HS4.out.2.2.1 (hE4.below hW) (by simp; omega) (by omega) (fw_isSp hG HF.out) hbb
          rwa [hdo] at this))
        unfold SDoP at GD3
        clear hdo hF2 hE4 HF
        generalize (mrg L ((l.take m).drop q)) = L9 at *
        dsimp only at GD3
        clear hbb
        go_wp2_with (first
          | (go_at_call 22; ((with_reducible refine (GIs.out).mono ?_); rintro e w5 ⟨rfl, hB5⟩; have HS5 := Lib.hid (HS4.out.below hB5); have hP6 := (hB5.block _ (heap_lt hP5)).trans hP5; clear x0 x1 x2 x3 x4 x5 x6 p0 p1 p2 p3 p4 p5 p6 p7 p8 p9 h0 h1 h2 h3 h4 h5 h6; obtain ⟨p0, p1, p2, p3, p4, p5, p6, p7, p8, p9⟩ := cells10a hP6; obtain ⟨h0, h1, h2, h3, h4, h5, h6, -⟩ := cells7 HS5.out.1))
          | (go_at_call 12; ((with_reducible refine (GD3.out _ hB5).mono ?_); rintro e w6 ⟨da, dc, rfl, hDH, hdc, hB9, hN9⟩; have hSa := HS5.out; have hbz := (hB9.block _ (heap_lt hSa.1)).trans hSa.1; obtain ⟨z0, z1, z2, z3, z4, z5, z6, -⟩ := cells7 hbz; have fz := (fun i => frozen_of_row _ _ i _ _ hbz); have hS6 := FS.step (g' := ⟨id, fi, te, ht, hv, hc, L9⟩) (a' := da) (cap' := dc) hSa hB9 hDH hN9 hdc; simp only [st7] at hS6; have hG9 := (hS6.2.2.2.2.block _ hglt).trans hg3; clear hbz hSa)))
        go_roundw
        case rel => exact ⟨q + (r + 1), L9, da, dc, by omega, by go_num, hS6, HF2.out⟩
        case measure => simp [intOf]; omega
  obtain rfl : l = L := (fw_end hd hF (by omega)).symm
  have GS := Lib.hid (fun W (hW : Below wr.heap.size wr W) => (show Gives Try.prog 17 #[.agg #[.int .i64 id, .int .i64 fi, .int .i64 te, .int .i64 ht, .int .i64 hv, .int .i64 hc, .slice a2 l.length c2], .agg #[.int .i64 id, .int .i64 fi, .int .i64 te, .int .i64 ht, .int .i64 hv, .int .i64 hc, .slice a l.length cap]] W (.bool true) from by have := refSame6_any id fi te ht hv hc l a2 c2 id fi te ht hv hc l a cap W (hS.2.1.below hW) (hGH.below (bel2 hBw hW)); rwa [show sameG ⟨id, fi, te, ht, hv, hc, l⟩ ⟨id, fi, te, ht, hv, hc, l⟩ = true from sameG_iff.2 (by simp)] at this))
  obtain ⟨h0, h1, h2, h3, h4, h5, h6, -⟩ := cells7 hS.1
  clear hS hF
  go_wp2_with (go_at_call 17; ((with_reducible refine (GS.out _ (Below.refl _ _)).mono ?_); rintro e w5 ⟨rfl, hB5⟩))
  go_ret
  exact ⟨rfl, bel2 hBw hB5⟩

set_option maxRecDepth 100000 in
set_option maxHeartbeats 4000000 in
theorem sf_6 (w : World) (id fi te ht hv hc : Int) (l : List EntryC) (a : Option Addr) (cap : Nat) (hg : GoodG w ⟨id, fi, te, ht, hv, hc, l⟩ a) (hcap : l.length ≤ cap) (kp : Nat) (hkp : kp < 4294967296) (n : Nat) (hn : n < 256) (hf1 : fewGB l = true) (hG : isG ⟨id, fi, te, ht, hv, hc, l⟩ = true) (h1 : fi = 1) (h2 : te = 0) : Calls Try.prog 5 #[.agg #[.int .i64 id, .int .i64 fi, .int .i64 te, .int .i64 ht, .int .i64 hv, .int .i64 hc, .slice a l.length cap], .int .u32 kp, .int .u8 n] w fun e w' => e = .returned (.bool true) ∧ Below w.heap.size w w' := by
  have GK := Lib.hid spr_known
  have GF1 := Lib.hid (fun W (hB : Below w.heap.size w W) => fewG12_any id fi te ht hv hc l a cap W (hg.2.1.below hB) (fun e he => (hg.2.2 e he).2.2))
  rw [hf1] at GF1
  obtain ⟨hGH, h30⟩ := hg.has hf1
  dsimp only at h30
  have GI := Lib.hid (fun W (hB : Below w.heap.size w W) => refIsG_any id fi te ht hv hc l a cap W (hGH.below hB))
  rw [hG] at GI
  have d1 : decide (1 < fi) = false := decide_eq_false_iff_not.2 (by omega)
  have d2 : (fi == 1) = true := by rw [beq_iff_eq]; omega
  have d3 : (te == 0) = true := by rw [beq_iff_eq]; omega
  have d4 : (te != 0) = false := by rw [bne_eq_false_iff_eq]; omega
  obtain ⟨i9, hi9, hz0, hz1, hz2⟩ := info_parts infoEntry
  have hcs : RowV w a l.length 3 (entryCells l) := hGH.2
  have hd := (isG_iff.1 hG).2.2
  dsimp only at hd
  clear hg
  have H1 := Lib.hid h1
  have H2 := Lib.hid h2
  clear h1 h2
  have hC : Below w.heap.size w (w.alloc (.cells #[.int .i64 id, .int .i64 fi, .int .i64 te, .int .i64 ht, .int .i64 hv, .int .i64 hc, .slice a l.length cap] 26)) := bel_alloc (Below.refl _ _) _
  have hgb := World.alloc_heap_new w (.cells #[.int .i64 id, .int .i64 fi, .int .i64 te, .int .i64 ht, .int .i64 hv, .int .i64 hc, .slice a l.length cap] 26)
  obtain ⟨x0, x1, x2, x3, x4, x5, x6, -⟩ := cells7 hgb
  go_enter Try.func5, Try.ntmps5
  go_wp2_with (first
    | (go_at_call 9; ((with_reducible refine (GK.out _).mono ?_); rintro e w1 ⟨rfl, hB⟩; replace hC := bel2 hC hB; replace hgb := (hB.block _ (heap_lt hgb)).trans hgb; clear hB x0 x1 x2 x3 x4 x5 x6; obtain ⟨x0, x1, x2, x3, x4, x5, x6, -⟩ := cells7 hgb))
    | (go_at_call 10; ((with_reducible refine (GF1.out _ hC).mono ?_); rintro e w2 ⟨rfl, hB⟩; replace hC := bel2 hC hB; replace hgb := (hB.block _ (heap_lt hgb)).trans hgb; clear hB x0 x1 x2 x3 x4 x5 x6; obtain ⟨x0, x1, x2, x3, x4, x5, x6, -⟩ := cells7 hgb))
    | (go_at_call 16; ((with_reducible refine (GI.out _ hC).mono ?_); rintro e w3 ⟨rfl, hB⟩; replace hC := bel2 hC hB; replace hgb := (hB.block _ (heap_lt hgb)).trans hgb; clear hB x0 x1 x2 x3 x4 x5 x6; obtain ⟨x0, x1, x2, x3, x4, x5, x6, -⟩ := cells7 hgb)))
  have hCx : Below w.heap.size w w3 := hC
  have hg3 := hgb
  clear x0 x1 x2 x3 x4 x5 x6
  go_loopw [8] (fun i wr => ∃ (q : Nat) (v : Value) (K : List EntryC), q ≤ l.length ∧ i = .int .i64 q ∧ wr.heap[w3.heap.size]? = some (.cells #[.int .i64 id, .int .i64 1, .int .i64 0, .int .i64 0, .int .i64 0, .int .i64 0, v] 26 (0, 0)) ∧ wr.ownsRow (w3.heap.size + 1) 38 3 v K.length (entryCells K) ∧ (Pw K ∧ ∀ e ∈ K, e ∈ l.take q) ∧ K.length ≤ q ∧ Below w3.heap.size w3 wr) (fun i _ => l.length - (intOf i).toNat)
  case atStart => exact ⟨0, .slice none 0 0, [], by omega, rfl, World.alloc_heap_new _ _, World.ownsRow_nil _ _ _ _, ⟨List.Pairwise.nil, fun e he => by simp at he⟩, by simp, bel_alloc (Below.refl _ _) _⟩
  case round =>
  obtain ⟨q, v, K, hq, rfl, hblk, hown, hPK, hKq, hB⟩ := hrel
  have hBw : Below w.heap.size w wr := bel2 hCx hB
  have hgr := (hB.block _ (heap_lt hg3)).trans hg3
  have hHlt := heap_lt hblk
  have hglt := heap_lt hg3
  obtain ⟨x0, x1, x2, x3, x4, x5, x6, -⟩ := cells7 hgr
  by_cases hlt : q < l.length
  · have hlt' : (q : Int) < (l.length : Int) := by omega
    have hq0 : (0 : Int) ≤ (q : Int) := by omega
    have hqw : (q : Int) % 18446744073709551616 = (q : Int) := by omega
    obtain ⟨gb, go, rfl, hgb2, hgc⟩ := hcs.2.2 (by omega)
    obtain ⟨e0, e1, e2⟩ := entry_at hgb2 hBw hgc hlt
    have hbt := bit_at' kp q hkp
    cases hT : kp.testBit q
    · rw [hT] at hbt
      replace hbt : bits .and .u32 ((kp : Int) / 2 ^ q) 1 = 0 := hbt
      clear hgc hT
      go_wp2
      go_roundw
      case rel => exact ⟨q + 1, v, K, by omega, by go_num, hblk, hown, ⟨hPK.1, fun e he => List.take_subset_take_left _ (by omega) (hPK.2 e he)⟩, by omega, hB⟩
      case measure => simp [intOf]; omega
    · rw [hT] at hbt
      replace hbt : bits .and .u32 ((kp : Int) / 2 ^ q) 1 = 1 := hbt
      have HSN := Lib.hid (fw_snoc hd hlt hPK.1 hPK.2)
      obtain ⟨⟨xi, xt, xd⟩, hx⟩ : ∃ x, x = l[q] := ⟨_, rfl⟩
      rw [← hx] at e0 e1 e2 HSN
      dsimp only at e0 e1 e2
      have HCE := Lib.hid (entryCells_snoc K ⟨xi, xt, xd⟩)
      have h6 : wr.cell? ⟨w3.heap.size, 6, none⟩ = some v := cell_of_row _ _ 6 _ _ _ hblk
      have hf6 : wr.frozen? ⟨w3.heap.size, 6, none⟩ = false := frozen_of_row _ _ 6 _ _ hblk
      clear hgc hT hx hPK
      go_wp2
      have xd6 : wr.drew.cell? ⟨w.heap.size, 6, none⟩ = _ := x6
      have ed0 : wr.drew.cell? ⟨gb, go + q * 3, none⟩ = _ := e0
      have ed1 : wr.drew.cell? ⟨gb, go + q * 3 + 1, none⟩ = _ := e1
      have ed2 : wr.drew.cell? ⟨gb, go + q * 3 + 2, none⟩ = _ := e2
      have hd6 : wr.drew.cell? ⟨w3.heap.size, 6, none⟩ = _ := h6
      have he6 := ((bel_alloc (Below.refl wr.drew.heap.size wr.drew) (.cells [.int .i64 xi, .int .i64 xt, .string xd].toArray 38)).cell (p := ⟨w3.heap.size, 6, none⟩) hHlt).trans hd6
      have hf6' := he6
      go_region_law (first
        | ((refine step_append_lies _ (by rfl) _ _ _ (by rfl) (w3.heap.size + 1) 38 i9 (.agg #[.int .i64 0, .int .i64 0, .string ⟨#[]⟩]) 3 32 Try.underlying24 hi9 hz0 hz1 hz2 rfl (by omega) v K.length (entryCells K) (by rfl) (by first | exact (hown.alloc _) | exact (hown.alloc _).drew | exact (hown.drew.alloc _)) ⟨wr.heap.size, 0, none⟩ 1 1 [.int .i64 xi, .int .i64 xt, .string xd] (by rfl) (by rfl) (by first | exact news_new _ _ _ | exact World.news_of_block (cs := [.int .i64 xi, .int .i64 xt, .string xd].toArray) (World.alloc_heap_new _ _)) (by simp [Value.oneCell']) (by omega) (by unfold maxLen; omega) (by omega) (by simp; omega) _ rfl ?_; intro g1 c1 w4 hown4 hgrow4 hat4 hlt4; have hA1 := bel_alloc (Below.refl wr.heap.size wr) (.cells [.int .i64 xi, .int .i64 xt, .string xd].toArray 38); have hne : ∀ k, k < (w3.heap.size + 1) → v.ownBlock ≠ some k := (fun k hk e => by have := ownBlock_ge hown e; omega); have FC : ∀ (p : Addr) x, p.block < wr.heap.size → p.block < (w3.heap.size + 1) → wr.cell? p = some x → w4.cell? p = some x := (fun p x h1 h2 hx => (hgrow4.cell_far p (by simp; omega) (fun e => hne _ h2 e.symm)).trans ((hA1.cell h1).trans hx)); have s0 := FC _ _ (by show w.heap.size < wr.heap.size; omega) (by show w.heap.size < (w3.heap.size + 1); omega) x6; have s1 := FC _ _ (by show gb < wr.heap.size; omega) (by show gb < (w3.heap.size + 1); omega) e0; have s2 := FC _ _ (by show gb < wr.heap.size; omega) (by show gb < (w3.heap.size + 1); omega) e1; have s3 := FC _ _ (by show gb < wr.heap.size; omega) (by show gb < (w3.heap.size + 1); omega) e2; have hb4 := (hgrow4.block w3.heap.size (by simp; omega) (fun e => hne _ (by omega) e.symm)).trans ((hA1.block _ hHlt).trans hblk); have k6 : w4.cell? ⟨w3.heap.size, 6, none⟩ = some v := cell_of_row _ _ 6 _ _ _ hb4; have kf6 := frozen_of_row _ _ 6 _ _ hb4; have hB4 := hgrow4; have TC : ∀ (p : Addr) x, p.block ≠ w3.heap.size → w4.cell? p = some x → (w4.setCell ⟨w3.heap.size, 6, none⟩ (.slice (some ⟨g1, 0, none⟩) (K.length + 1) c1)).cell? p = some x := (fun p x h1 hx => (World.cell?_of_block (heap_setCell_other _ _ _ _ h1)).trans hx); have t0 := TC _ _ (by show w.heap.size ≠ w3.heap.size; omega) s0; have t1 := TC _ _ (by show gb ≠ w3.heap.size; omega) s1; have t2 := TC _ _ (by show gb ≠ w3.heap.size; omega) s2; have t3 := TC _ _ (by show gb ≠ w3.heap.size; omega) s3; clear FC TC)))
      all_goals
        have hb5 := Go.Joins.block_setCell hb4 (.slice (some ⟨g1, 0, none⟩) (K.length + 1) c1) (i := 6)
        simp only [List.setIfInBounds_toArray, List.set_cons_succ, List.set_cons_zero] at hb5
        have hF5 := FrameT.setCell w4 (w3.heap.size) 6 (.slice (some ⟨g1, 0, none⟩) (K.length + 1) c1)
        have hown5 := own_frame hown4 hF5 (fun k hk h => by omega)
        have hB45 : Below w3.heap.size w3 w4 := (by first | exact (hB.trans (hA1.mono hB.size)).grown hB4 (by simp; omega) (fun k hk => by have := ownBlock_ge hown hk; omega) | exact (hB.trans (hA1.mono hB.size)).drew.grown hB4 (by simp; omega) (fun k hk => by have := ownBlock_ge hown hk; omega) | exact (hB.drew.trans (hA1.mono hB.size)).grown hB4 (by simp; omega) (fun k hk => by have := ownBlock_ge hown hk; omega))
        have hB5 := hB45.setCell (p := ⟨w3.heap.size, 6, none⟩) (Nat.le_refl _) (.slice (some ⟨g1, 0, none⟩) (K.length + 1) c1)
        clear x0 x1 x2 x3 x4 x5 x6 e0 e1 e2 s0 s1 s2 s3 t0 t1 t2 t3 h6 hf6 k6 kf6 hbt xd6 ed0 ed1 ed2 hd6 he6 hf6'
        go_wp2
        go_roundw
        case rel => exact ⟨q + 1, _, K ++ [⟨xi, xt, xd⟩], by omega, by go_num, hb5, by rw [List.length_append, HCE.out]; exact hown5, HSN.out, by rw [List.length_append]; simp; omega, hB5⟩
        case measure => simp [intOf]; omega
  have hOQ : q = l.length := by omega
  subst q
  have hKl : FW l K 0 := ⟨hPK.1, fun e he => List.mem_of_mem_take (hPK.2 e he), fun j h h2 => absurd h2 (by omega)⟩
  obtain ⟨pa, pc, rfl, hpc, hprow⟩ := rowV_own hown
  have hS : FS w3 w3.heap.size ⟨id, 1, 0, 0, 0, 0, K⟩ pa pc wr := ⟨hblk, ⟨by show K.length < 1000000; omega, hprow⟩, hpc, Nat.le_refl _, hB⟩
  obtain ⟨r, hr, hr6⟩ : ∃ r : Nat, (n : Int) % 6 = (r : Int) ∧ r < 6 := ⟨n % 6, by omega, by omega⟩
  obtain ⟨n1, n2, n3⟩ := hrd_do hG hKl
  have GD2 := Lib.hid (fun a1 c1 W (hc1 : K.length ≤ c1) (h : HasG W a1 ⟨id, fi, te, 0, 0, 0, K⟩) => (show Calls Try.prog 12 #[.agg #[.int .i64 id, .int .i64 fi, .int .i64 te, .int .i64 0, .int .i64 0, .int .i64 0, .slice a1 K.length c1], .agg #[.int .i64 id, .int .i64 6, .slice none 0 0, .int .i64 ht, .int .i64 hv, .int .i64 hc, .int .i64 0, .int .i64 0, .bool false, .bool true]] W (SDoP W ⟨id, fi, te, ht, hv, hc, K⟩) from by
    have := sdo_valid id fi te 0 0 0 K a1 c1 6 none 0 0 ht hv hc 0 0 false true [] W h hc1 (hasE_nil rfl rfl) (Nat.zero_le _) (by omega) n1 n2
    rwa [n3] at this))
  clear n1 n2 n3
  unfold SDoP at GD2
  dsimp only at GD2
  replace hS : FS w3 w3.heap.size ⟨id, fi, te, 0, 0, 0, K⟩ pa pc wr := by rw [H1.out, H2.out]; exact hS
  obtain ⟨h0, h1, h2, h3, h4, h5, h6, -⟩ := cells7 hS.1
  have HS := Lib.hid hS
  have HKl := Lib.hid hKl
  clear hblk hown hprow hPK hlt hS hKl
  go_wp2_with (first
    | (go_at_call 12; ((with_reducible refine (GD2.out _ _ _ HS.out.2.2.1 HS.out.2.1).mono ?_); rintro e w10 ⟨da, dc, rfl, hDH, hdc, hB9, hN9⟩; have hSa := HS.out; have hbz := (hB9.block _ (heap_lt hSa.1)).trans hSa.1; obtain ⟨z0, z1, z2, z3, z4, z5, z6, -⟩ := cells7 hbz; have fz := (fun i => frozen_of_row _ _ i _ _ hbz); have hS2 := FS.step (g' := ⟨id, fi, te, ht, hv, hc, K⟩) (a' := da) (cap' := dc) hSa hB9 hDH hN9 hdc; simp only [st7] at hS2; have hG9 := (hS2.2.2.2.2.block _ hglt).trans hg3; clear hbz hSa)))
  obtain ⟨wp, rfl⟩ : ∃ wp : World, wp = wr := ⟨_, rfl⟩
  clear h0 h1 h2 h3 h4 h5 h6 hgr hBw hKq GK GF1 GI
  go_loopw [10] (fun i wr => ∃ (q : Nat) (L : List EntryC) (a2 : Option Addr) (c2 : Nat), q ≤ l.length + 5 ∧ i = .int .i64 q ∧ FS w3 w3.heap.size ⟨id, fi, te, ht, hv, hc, L⟩ a2 c2 wr ∧ FW l L q) (fun i _ => l.length + 6 - (intOf i).toNat)
  case atStart => exact ⟨0, K, da, dc, by omega, rfl, hS2, HKl.out⟩
  case round =>
  obtain ⟨q, L, a2, c2, hq, rfl, hS, hF⟩ := hrel
  have hLl := fw_len hd hF
  have hg5 := (hS.2.2.2.2.block _ hglt).trans hg3
  have hBw : Below w.heap.size w wr := bel2 hCx hS.2.2.2.2
  obtain ⟨x0, x1, x2, x3, x4, x5, x6, -⟩ := cells7 hg5
  by_cases hlt : q < l.length
  · obtain ⟨gb, go, rfl, hgb2, hgc⟩ := hcs.2.2 (by omega)
    obtain ⟨m, hm⟩ : ∃ m, m = min (q + (r + 1)) l.length := ⟨_, rfl⟩
    have hqm : q < m := by omega
    have hml : m ≤ l.length := by omega
    have hmI : min ((q : Int) + ((r : Int) + 1)) (l.length : Int) = (m : Int) := by omega
    have hws : IntKind.i64.wrap ((q : Int) + ((r : Int) + 1)) = (q : Int) + ((r : Int) + 1) := IntWalk.i64_in _ (by omega)
    have hlt' : (q : Int) < (l.length : Int) := by omega
    have hq0 : (0 : Int) ≤ (q : Int) := by omega
    have hqm' : (q : Int) ≤ (m : Int) := by omega
    have hml' : (m : Int) ≤ (l.length : Int) := by omega
    have hmc' : (m : Int) ≤ (cap : Int) := by omega
    have hm0 : (0 : Int) ≤ (m : Int) := by omega
    have hlc' : (l.length : Int) ≤ (cap : Int) := by omega
    have hnc : ¬ cap = q := by omega
    have HM := Lib.hid hm
    have hrow := row_part hgb2 hgc hqm hml (by omega)
    have HF := Lib.hid hF
    have HS := Lib.hid hS
    clear hm hS hF hgc
    go_wp2
    go_region_held3 (fun W' => W'.cell? ⟨w.heap.size, 0, none⟩ = some (.int .i64 id) ∧ W'.cell? ⟨w.heap.size, 6, none⟩ = some (.slice (some ⟨gb, go, none⟩) l.length cap)) (go_keep) (fail)
    all_goals
      have hBn : Below wr.heap.size wr (wr.alloc (.cells #[.int .i64 id, .int .i64 6, .slice (some ⟨gb, go + q * 3, none⟩) (m - q) (cap - q), .int .i64 0, .int .i64 0, .int .i64 0, .int .i64 0, .int .i64 0, .bool false, .bool false] 28)).drew := (bel_alloc (Below.refl _ _) _).drew
      have hP5 : (wr.alloc (.cells #[.int .i64 id, .int .i64 6, .slice (some ⟨gb, go + q * 3, none⟩) (m - q) (cap - q), .int .i64 0, .int .i64 0, .int .i64 0, .int .i64 0, .int .i64 0, .bool false, .bool false] 28)).drew.heap[wr.heap.size]? = some (.cells #[.int .i64 id, .int .i64 6, .slice (some ⟨gb, go + q * 3, none⟩) (m - q) (cap - q), .int .i64 0, .int .i64 0, .int .i64 0, .int .i64 0, .int .i64 0, .bool false, .bool false] 28 (0, 0)) := World.alloc_heap_new wr _
      obtain ⟨X, hX⟩ : ∃ X, X = wr.heap.size := ⟨_, rfl⟩
      rw [← hX] at hP5
      rw [← hX]
      generalize (wr.alloc (.cells #[.int .i64 id, .int .i64 6, .slice (some ⟨gb, go + q * 3, none⟩) (m - q) (cap - q), .int .i64 0, .int .i64 0, .int .i64 0, .int .i64 0, .int .i64 0, .bool false, .bool false] 28)).drew = w4 at *
      have HS4 := Lib.hid (HS.out.below hBn)
      have hE4 : HasE w4 ⟨id, 6, some ⟨gb, go + q * 3, none⟩, m - q, cap - q, 0, 0, 0, 0, 0, false, false⟩ ((l.take m).drop q) := ⟨by simp; omega, by show m - q < 1000000; omega, by have hl9 : ((l.take m).drop q).length = m - q := (by simp; omega); have := hrow.below (bel2 hBw hBn); rw [hl9] at this; exact this⟩
      have hg6 := (HS4.out.2.2.2.2.block _ (heap_lt hg3)).trans hg3
      clear x0 x1 x2 x3 x4 x5 x6 hX hg5 HS hrow hws hmI hBn
      obtain ⟨x0, x1, x2, x3, x4, x5, x6, -⟩ := cells7 hg6
      obtain ⟨p0, p1, p2, p3, p4, p5, p6, p7, p8, p9⟩ := cells10a hP5
      obtain ⟨h0, h1, h2, h3, h4, h5, h6, -⟩ := cells7 HS4.out.1
      have GIs := Lib.hid (refIs_any ⟨id, 6, some ⟨gb, go + q * 3, none⟩, m - q, cap - q, 0, 0, 0, 0, 0, false, false⟩ ((l.take m).drop q) w4 hE4)
      cases hbb : isB ⟨id, 6, some ⟨gb, go + q * 3, none⟩, m - q, cap - q, 0, 0, 0, 0, 0, false, false⟩ ((l.take m).drop q)
      · rw [hbb] at GIs
        go_wp2_with (go_at_call 22; ((with_reducible refine (GIs.out).mono ?_); rintro e w5 ⟨rfl, hB5⟩))
        go_ret
        exact ⟨rfl, bel2 (bel2 hCx HS4.out.2.2.2.2) hB5⟩
      · rw [hbb] at GIs
        have hfw := fw_do (s := r + 1) (n := m - q) (c := cap - q) (a := some ⟨gb, go + q * 3, none⟩) hG HF.out (by rw [← HM.out]; exact hbb)
        rw [← HM.out] at hfw
        obtain ⟨hdo, hF2⟩ := hfw
        have HF2 := Lib.hid hF2
        have GD3 := Lib.hid (fun W (hW : Below w4.heap.size w4 W) => (show Calls Try.prog 12 #[.agg #[.int .i64 id, .int .i64 fi, .int .i64 te, .int .i64 ht, .int .i64 hv, .int .i64 hc, .slice a2 L.length c2], .agg #[.int .i64 id, .int .i64 6, .slice (some ⟨gb, go + q * 3, none⟩) (m - q) (cap - q), .int .i64 0, .int .i64 0, .int .i64 0, .int .i64 0, .int .i64 0, .bool false, .bool false]] W (SDoP W ⟨id, fi, te, ht, hv, hc, (mrg L ((l.take m).drop q))⟩) from by
          have := sdo_valid id fi te ht hv hc L a2 c2 6 (some ⟨gb, go + q * 3, none⟩) (m - q) (cap - q) 0 0 0 0 0 false false ((l.take m).drop q) W (HS4.out.2.1.below hW) HS4.out.2.2.1 (hE4.below hW) (by simp; omega) (by omega) (fw_isSp hG HF.out) hbb
          rwa [hdo] at this))
        unfold SDoP at GD3
        clear hdo hF2 hE4 HF
        generalize (mrg L ((l.take m).drop q)) = L9 at *
        dsimp only at GD3
        clear hbb
        go_wp2_with (first
          | (go_at_call 22; ((with_reducible refine (GIs.out).mono ?_); rintro e w5 ⟨rfl, hB5⟩; have HS5 := Lib.hid (HS4.out.below hB5); have hP6 := (hB5.block _ (heap_lt hP5)).trans hP5; clear x0 x1 x2 x3 x4 x5 x6 p0 p1 p2 p3 p4 p5 p6 p7 p8 p9 h0 h1 h2 h3 h4 h5 h6; obtain ⟨p0, p1, p2, p3, p4, p5, p6, p7, p8, p9⟩ := cells10a hP6; obtain ⟨h0, h1, h2, h3, h4, h5, h6, -⟩ := cells7 HS5.out.1))
          | (go_at_call 12; ((with_reducible refine (GD3.out _ hB5).mono ?_); rintro e w6 ⟨da, dc, rfl, hDH, hdc, hB9, hN9⟩; have hSa := HS5.out; have hbz := (hB9.block _ (heap_lt hSa.1)).trans hSa.1; obtain ⟨z0, z1, z2, z3, z4, z5, z6, -⟩ := cells7 hbz; have fz := (fun i => frozen_of_row _ _ i _ _ hbz); have hS6 := FS.step (g' := ⟨id, fi, te, ht, hv, hc, L9⟩) (a' := da) (cap' := dc) hSa hB9 hDH hN9 hdc; simp only [st7] at hS6; have hG9 := (hS6.2.2.2.2.block _ hglt).trans hg3; clear hbz hSa)))
        go_roundw
        case rel => exact ⟨q + (r + 1), L9, da, dc, by omega, by go_num, hS6, HF2.out⟩
        case measure => simp [intOf]; omega
  obtain rfl : l = L := (fw_end hd hF (by omega)).symm
  have GS := Lib.hid (fun W (hW : Below wr.heap.size wr W) => (show Gives Try.prog 17 #[.agg #[.int .i64 id, .int .i64 fi, .int .i64 te, .int .i64 ht, .int .i64 hv, .int .i64 hc, .slice a2 l.length c2], .agg #[.int .i64 id, .int .i64 fi, .int .i64 te, .int .i64 ht, .int .i64 hv, .int .i64 hc, .slice a l.length cap]] W (.bool true) from by have := refSame6_any id fi te ht hv hc l a2 c2 id fi te ht hv hc l a cap W (hS.2.1.below hW) (hGH.below (bel2 hBw hW)); rwa [show sameG ⟨id, fi, te, ht, hv, hc, l⟩ ⟨id, fi, te, ht, hv, hc, l⟩ = true from sameG_iff.2 (by simp)] at this))
  obtain ⟨h0, h1, h2, h3, h4, h5, h6, -⟩ := cells7 hS.1
  clear hS hF
  go_wp2_with (go_at_call 17; ((with_reducible refine (GS.out _ (Below.refl _ _)).mono ?_); rintro e w5 ⟨rfl, hB5⟩))
  go_ret
  exact ⟨rfl, bel2 hBw hB5⟩

theorem walk (w : World) (g : GM) (a : Option Addr) (cap : Nat) (hg : GoodG w g a) (hcap : g.l.length ≤ cap) (kp : Nat) (hkp : kp < 4294967296) (n : Nat) (hn : n < 256) : Calls Try.prog 5 #[g.val a cap, .int .u32 kp, .int .u8 n] w fun e w' => e = .returned (.bool true) ∧ Below w.heap.size w w' := by
  obtain ⟨id, fi, te, ht, hv, hc, l⟩ := g
  cases hf1 : fewGB l
  · exact sf_1 w id fi te ht hv hc l a cap hg hcap kp hkp n hn hf1
  cases hG : isG ⟨id, fi, te, ht, hv, hc, l⟩
  · exact sf_2 w id fi te ht hv hc l a cap hg hcap kp hkp n hn hf1 hG
  have hb := (isG_iff.1 hG).1.2.1
  dsimp only at hb
  by_cases h1 : 1 < fi
  · by_cases h2 : te = 0
    · exact sf_3 w id fi te ht hv hc l a cap hg hcap kp hkp n hn hf1 hG h1 h2
    · exact sf_5 w id fi te ht hv hc l a cap hg hcap kp hkp n hn hf1 hG h1 h2
  · by_cases h2 : te = 0
    · exact sf_6 w id fi te ht hv hc l a cap hg hcap kp hkp n hn hf1 hG (by omega) h2
    · exact sf_4 w id fi te ht hv hc l a cap hg hcap kp hkp n hn hf1 hG (by omega) h2

set_option maxRecDepth 100000 in
theorem lifted (os : Os) (started : os.Started) (H : Type) (enc : TypeId × Value → H) :
    ReturnsInHanded {} Try.checked os 5 .any (Rows.sparseForwardSpec.pre6 enc Try.prog Try.f5 Rows.sparseForwardRow.domain false) (Rows.sparseForwardSpec.post enc Try.prog Try.f5 false true false false) := by
  refine returnsInHanded_of_change (C := Try.checked) Try.own started (by kernel_rfl) Try.func5
    (ChangeSpec.witness6 (enc := enc) (C := Try.checked) false ⟨#[], #[.agg #[.int .i64 0, .int .i64 0, .int .i64 0, .int .i64 0, .int .i64 0, .int .i64 0, .slice none 0 0], .int .u32 0, .int .u8 0], []⟩ 8 (by kernel_rfl) (by kernel_rfl) (by kernel_rfl) (by kernel_rfl)) ?_
  intro W base args ds gs before hval hW _ _
  refine law_contract (T := 4) (n := 3) Try.laid Try.underlying4 rfl rfl ⟨rfl, fun H ds h => by match ds, h with | [_, _, _], _ => rfl⟩ (of_all (by kernel_rfl)) hW ?_
  intro ps hA
  rw [Try.params5] at hA hval
  obtain ⟨v0, vs0, d0, ds0, p0, q0, hargs, rfl, rfl, h0, r0⟩ := trodAll_cons hA
  obtain ⟨v1, vs1, d1, ds1, p1, q1, rfl, rfl, rfl, h1, r1⟩ := trodAll_cons r0
  obtain ⟨v2, vs2, d2, ds2, p2, q2, rfl, rfl, rfl, h2, r2⟩ := trodAll_cons r1
  obtain ⟨rfl, rfl, rfl⟩ := trodAll_nil r2
  obtain rfl : args = #[v0, v1, v2] := by cases args; simp_all
  obtain ⟨p0, a0, c0, rfl, g0⟩ := open_group (hval 0 26 v0 rfl rfl) h0
  obtain ⟨a1, rfl, rfl, rfl, w1⟩ := open_int Try.underlying39 (hval 1 39 v1 rfl rfl) h1
  obtain ⟨a2, rfl, rfl, rfl, w2⟩ := open_int Try.underlying5 (hval 2 5 v2 rfl rfl) h2
  obtain ⟨n1, rfl, b1⟩ := nat_of_u32 w1
  obtain ⟨n2, rfl, b2⟩ := nat_of_u8 w2
  exact walk W p0 a0 c0 g0 (group_le h0) n1 b1 n2 b2

theorem holds : Rows.SparseForwardSaid :=
  OpenClaim.holds_of_wide 5 Try.f5 rfl rfl rfl rfl rfl rfl rfl ⟨rfl, rfl, rfl, rfl, rfl⟩ rfl rfl rfl rfl rfl (by kernel_rfl) Try.func5 (by kernel_rfl)
    (of_decide_eq_true (by kernel_rfl)) (by unfold Func.isWrapper; first | (rw [if_pos (by decide +kernel)]; kernel_rfl) | (rw [if_neg (by decide +kernel)]; exact ⟨rfl, rfl⟩))
    (fun os started H enc _ => lifted os started H enc)

end Go.Proofs.Ytfbibpnkfmgkaaa.sparseForward
