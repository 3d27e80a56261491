/- The contracts of package group's checkAppend, checkCompact, Check. -/
import Derived.Test.YtfbibpnkfmgkaaaGrpIs
import Derived.Test.YtfbibpnkfmgkaaaQuietC
namespace Go.Proofs.Ytfbibpnkfmgkaaa
open Go.RowKit Go.Shelf
set_option linter.unusedVariables false
attribute [local go_sem] Oper.semAt_some wide_fn wide_round_fn

theorem gp_cells {w W : World} {id fi te ht hv hc : Int} {l : List EntryC} {a : Option Addr} {cap : Nat} {pg pk : Int} {pa : Option Addr} {plen pcap : Nat} {pht phv phc pi pt : Int} {pm ph : Bool} (h : Below ((w.alloc (.cells #[.int .i64 id, .int .i64 fi, .int .i64 te, .int .i64 ht, .int .i64 hv, .int .i64 hc, .slice a l.length cap] 26)).alloc (.cells #[.int .i64 pg, .int .i64 pk, .slice pa plen pcap, .int .i64 pht, .int .i64 phv, .int .i64 phc, .int .i64 pi, .int .i64 pt, .bool pm, .bool ph] 28)).heap.size ((w.alloc (.cells #[.int .i64 id, .int .i64 fi, .int .i64 te, .int .i64 ht, .int .i64 hv, .int .i64 hc, .slice a l.length cap] 26)).alloc (.cells #[.int .i64 pg, .int .i64 pk, .slice pa plen pcap, .int .i64 pht, .int .i64 phv, .int .i64 phc, .int .i64 pi, .int .i64 pt, .bool pm, .bool ph] 28)) W) :
    W.cell? ⟨w.heap.size, 0, none⟩ = some (.int .i64 id) ∧ W.cell? ⟨w.heap.size, 1, none⟩ = some (.int .i64 fi) ∧ W.cell? ⟨w.heap.size, 2, none⟩ = some (.int .i64 te) ∧ W.cell? ⟨w.heap.size, 3, none⟩ = some (.int .i64 ht) ∧ W.cell? ⟨w.heap.size, 4, none⟩ = some (.int .i64 hv) ∧ W.cell? ⟨w.heap.size, 5, none⟩ = some (.int .i64 hc) ∧ W.cell? ⟨w.heap.size, 6, none⟩ = some (.slice a l.length cap) ∧ W.cell? ⟨w.heap.size + 1, 0, none⟩ = some (.int .i64 pg) ∧ W.cell? ⟨w.heap.size + 1, 1, none⟩ = some (.int .i64 pk) ∧ W.cell? ⟨w.heap.size + 1, 2, none⟩ = some (.slice pa plen pcap) ∧ W.cell? ⟨w.heap.size + 1, 3, none⟩ = some (.int .i64 pht) ∧ W.cell? ⟨w.heap.size + 1, 4, none⟩ = some (.int .i64 phv) ∧ W.cell? ⟨w.heap.size + 1, 5, none⟩ = some (.int .i64 phc) ∧ W.cell? ⟨w.heap.size + 1, 6, none⟩ = some (.int .i64 pi) ∧ W.cell? ⟨w.heap.size + 1, 7, none⟩ = some (.int .i64 pt) ∧ W.cell? ⟨w.heap.size + 1, 8, none⟩ = some (.bool pm) ∧ W.cell? ⟨w.heap.size + 1, 9, none⟩ = some (.bool ph) := by
  have c1 : ∀ j, W.cell? ⟨w.heap.size, j, none⟩ = (#[.int .i64 id, .int .i64 fi, .int .i64 te, .int .i64 ht, .int .i64 hv, .int .i64 hc, .slice a l.length cap] : Array Value)[j]? := fun j => cell_of_row _ _ j _ _ _ ((h.block _ (by simp; omega)).trans (two_a w _ _ _ _))
  have c2 : ∀ j, W.cell? ⟨w.heap.size + 1, j, none⟩ = (#[.int .i64 pg, .int .i64 pk, .slice pa plen pcap, .int .i64 pht, .int .i64 phv, .int .i64 phc, .int .i64 pi, .int .i64 pt, .bool pm, .bool ph] : Array Value)[j]? := fun j => cell_of_row _ _ j _ _ _ ((h.block _ (by simp)).trans (two_b w _ _ _ _))
  exact ⟨c1 0, c1 1, c1 2, c1 3, c1 4, c1 5, c1 6, c2 0, c2 1, c2 2, c2 3, c2 4, c2 5, c2 6, c2 7, c2 8, c2 9⟩
theorem gp_bel (w : World) (A B : Array Value) (T U : TypeId) : Below w.heap.size w ((w.alloc (.cells A T)).alloc (.cells B U)) := bel_alloc (bel_alloc (Below.refl _ _) _) _

attribute [local irreducible] wpQuiet
end Go.Proofs.Ytfbibpnkfmgkaaa
