/- What the fifteenth layer's laws hold by themselves: the examples. -/
import Derived.Test.YtpdpdohkhiplpaaLiveRec
import Derived.Test.YtpdpdohkhiplpaaKnown16
namespace Go.Proofs.Ytpdpdohkhiplpaa
open Go.RowKit Go.Shelf
set_option linter.unusedVariables false

def l15 : List SpotC := [⟨1, 1, 2, 16⟩, ⟨1, 2, 2, 16⟩, ⟨3, 0, 4, 0⟩]
theorem count_at (a : Option Addr) (len cap : Nat) (l : List SpotC) (z : Int) (n : Nat) (hl : l.length = len) (hm : len < 1000000) (h : cnt l z = n) (w : World) (hrow : RowV w a len 4 (spotCells l)) : Gives Try.prog 16 #[.slice a len cap, .int .i64 z] w (.int .i64 n) := by
  have := count_any a len cap l z hl hm w hrow
  rwa [h] at this
theorem records_at (a : Option Addr) (len cap : Nat) (l : List SpotC) (z : Int) (n : Nat) (hl : l.length = len) (hm : len < 1000000) (hw : ∀ f ∈ l, wfP f) (h : recs (inL l z) = n) (w : World) (hrow : RowV w a len 4 (spotCells l)) : Gives Try.prog 17 #[.slice a len cap, .int .i64 z] w (.int .i64 n) := by
  have := records_any a len cap l z hl hm hw w hrow
  rwa [h] at this
/-- The cells of a row of the call's own, in later worlds. -/
theorem own_cells {w : World} {base : Nat} {e : TypeId} {sz n : Nat} {v : Value} {xs : List Value} (h : w.ownsRow base e sz v n xs) (hn : 0 < n) : ∃ g cap, v = .slice (some ⟨g, 0, none⟩) n cap ∧ n ≤ cap ∧ ∀ W, Below w.heap.size w W → ∀ j u, xs[j]? = some u → W.cell? ⟨g, j, none⟩ = some u := by
  rcases h.2 with ⟨_, h0⟩ | ⟨g, cap, cur, rfl, hb, hg, hc, _⟩
  · omega
  · refine ⟨g, cap, rfl, hc, fun W hW j u hu => ?_⟩
    have := h.cells (g := g) rfl j u hu
    rw [add_off, Nat.zero_add] at this
    exact (hW.cell (p := ⟨g, j, none⟩) (Array.getElem?_eq_some_iff.1 hg).1).trans this

set_option maxRecDepth 100000 in
set_option maxHeartbeats 2000000 in
theorem live_known (w : World) : Gives Try.prog 11 #[] w (.bool true) := by
  have hw15 : ∀ f ∈ l15, wfP f := by unfold l15 wfP; decide
  obtain ⟨w0, hw0⟩ : ∃ w0, w0 = w.alloc (.cells #[.int .i64 1, .int .i64 1, .int .i64 2, .int .i64 16, .int .i64 1, .int .i64 2, .int .i64 2, .int .i64 16, .int .i64 3, .int .i64 0, .int .i64 4, .int .i64 0] 33) := ⟨_, rfl⟩
  have hr : RowV w0 (some ⟨w.heap.size, 0, none⟩) 3 4 (spotCells l15) := by
    rw [hw0]; exact rowV_new w 33 #[.int .i64 1, .int .i64 1, .int .i64 2, .int .i64 16, .int .i64 1, .int .i64 2, .int .i64 2, .int .i64 16, .int .i64 3, .int .i64 0, .int .i64 4, .int .i64 0] 3 4 rfl (by unfold maxLen; omega)
  have hs0 : w0.heap.size = w.heap.size + 1 := by rw [hw0]; simp
  have hb0 : Below w.heap.size w w0 := by rw [hw0]; exact bel_alloc (Below.refl _ _) _
  have h1 := rowI_new w0 [2, 3, 4] 3 rfl (by unfold maxLen; omega) (by decide) 3 #[.int .i64 2, .int .i64 3, .int .i64 4] rfl
  have hb1 : Below w0.heap.size w0 (w0.alloc (.cells #[.int .i64 2, .int .i64 3, .int .i64 4] 3)) := bel_alloc (Below.refl _ _) _
  rw [hs0] at h1
  have hbd : ∀ f ∈ l15, -9223372036854775808 ≤ f.s ∧ f.s < 9223372036854775808 := by unfold l15; simp
  have C := counts_any l15 [2, 3, 4] hbd (some ⟨w.heap.size, 0, none⟩) (some ⟨w.heap.size + 1, 0, none⟩) 3 3 3 3 rfl (by decide) (by decide) _ (hr.below hb1) h1
  rw [hw0] at C
  have C0 := Lib.hid C
  have HN := Lib.hid (fun (W : World) (hW : Below w0.heap.size w0 W) => show Gives Try.prog 16 #[.slice (some ⟨w.heap.size, 0, none⟩) 3 3, .int .i64 2] W (.int .i64 (2 : Nat)) from count_at _ 3 3 l15 2 2 rfl (by decide) (by decide) W (hr.below hW))
  have HR := Lib.hid (fun (W : World) (hW : Below w0.heap.size w0 W) => show Gives Try.prog 17 #[.slice (some ⟨w.heap.size, 0, none⟩) 3 3, .int .i64 2] W (.int .i64 (1 : Nat)) from records_at _ 3 3 l15 2 1 rfl (by decide) hw15 (by decide) W (hr.below hW))
  have HI := Lib.hid (fun (W : World) (hW : Below w0.heap.size w0 W) => show GivesRow Try.prog 15 #[.slice (some ⟨w.heap.size, 0, none⟩) 3 3, .int .i64 4] W 33 4 1 (spotCells [⟨3, 0, 4, 0⟩]) from in_any _ 3 3 l15 4 rfl (by decide) W (hr.below hW))
  have HZ := Lib.hid (fun (W : World) => show Gives Try.prog 16 #[.slice none 0 0, .int .i64 1] W (.int .i64 (0 : Nat)) from count_at none 0 0 [] 1 0 rfl (by decide) (by decide) W (RowV.nil _ _ _))
  have HB0 := Lib.hid (show Below w0.heap.size w0 (w0.alloc (.cells #[.int .i64 2, .int .i64 3, .int .i64 4] 3)) from hb1)
  rw [hw0] at HB0 HN HR HI hb0
  clear hw0 hr hs0 h1 hb1 C hw15 hbd
  unfold Gives
  go_enter Try.func11, Try.ntmps11
  go_wp2_with (first
    | (go_at_call 12; ((with_reducible refine (C0.out).mono ?_); rintro e w1 ⟨v, rfl, hown, hB1⟩; obtain ⟨g, cap, rfl, hcap, hcells⟩ := own_cells hown (by decide); have HB1 := bel2 HB0.out hB1; have HCL := Lib.hid hcells; clear hcells hown))
    | (go_at_call 16; ((with_reducible refine (HN.out _ HB1).mono ?_); rintro e w2 ⟨rfl, hB2⟩; have HB2 := bel2 HB1 hB2))
    | (go_at_call 17; ((with_reducible refine (HR.out _ HB2).mono ?_); rintro e w3 ⟨rfl, hB3⟩; have HB3 := bel2 HB2 hB3; have d0 : w3.cell? ⟨g, 0, none⟩ = some (.int .i64 2) := HCL.out w3 (bel2 hB2 hB3) 0 _ rfl; have d1 : w3.cell? ⟨g, 1, none⟩ = some (.int .i64 0) := HCL.out w3 (bel2 hB2 hB3) 1 _ rfl; have d2 : w3.cell? ⟨g, 2, none⟩ = some (.int .i64 1) := HCL.out w3 (bel2 hB2 hB3) 2 _ rfl))
    | (go_at_call 15; ((with_reducible refine (HI.out _ HB3).mono ?_); rintro e w4 ⟨v, rfl, hown4, hB4⟩; obtain ⟨a', c', rfl, hn', hrow⟩ := rowV_own hown4; have HB4 := bel2 HB3 hB4; clear hown4 hrow))
    | (go_at_call 16; ((with_reducible refine (HZ.out _).mono ?_); rintro e w5 ⟨rfl, hB5⟩)))
  go_ret
  exact ⟨rfl, bel2 hb0 (bel2 HB4 hB5)⟩

end Go.Proofs.Ytpdpdohkhiplpaa
