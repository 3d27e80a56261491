/- Few entries, few parts, few groups: the copies that layer 12 has. -/
import Derived.Test.YtfbibpnkfmgkaaaRef6c
namespace Go.Proofs.Ytfbibpnkfmgkaaa
open Go.RowKit Go.Shelf Go.ChangeShapes Go.WideShapes Go.Deep
set_option linter.unusedVariables false
open Go.ChangeMaps (open_string)
attribute [local go_sem] Oper.semAt_some wide_fn wide_round_fn

set_option maxRecDepth 100000 in
set_option maxHeartbeats 1000000 in
theorem few12_any (p : PartC) (l : List EntryC) (w : World) (hl : l.length = p.len) (hrow : RowV w p.a p.len 3 (entryCells l)) (hg : ∀ e ∈ l, e.d.size ≤ maxLen) : Gives Try.prog 11 #[p.val] w (.bool (few6B l)) := by
  obtain ⟨g, k, a, len, cap, ht, hv, hc, i, t, mk, hd⟩ := p
  dsimp only [PartC.val] at *
  unfold Gives
  have hm := hrow.2.1
  unfold maxLen at hm
  have hcs := hrow.2.2
  have c2 : (w.alloc (.cells #[.int .i64 g, .int .i64 k, .slice a len cap, .int .i64 ht, .int .i64 hv, .int .i64 hc, .int .i64 i, .int .i64 t, .bool mk, .bool hd] 28)).cell? ⟨w.heap.size, 2, none⟩ = some (.slice a len cap) := cell_of_row _ _ 2 _ _ _ (World.alloc_heap_new w _)
  have hA := bel_alloc (Below.refl w.heap.size w) (.cells #[.int .i64 g, .int .i64 k, .slice a len cap, .int .i64 ht, .int .i64 hv, .int .i64 hc, .int .i64 i, .int .i64 t, .bool mk, .bool hd] 28)
  clear hrow
  go_enter Try.func11, Try.ntmps11
  go_wp2
  go_loop [3] (fun q => ∃ n : Nat, n ≤ len ∧ q = .int .i64 n ∧ (l.take n).all (fun e => decide (e.d.size ≤ 60)) = true) (fun q => len - (intOf q).toNat)
  case atStart => exact ⟨0, by omega, rfl, rfl⟩
  case round =>
    obtain ⟨n, hn, rfl, ha⟩ := hrel
    have HA := Lib.hid ha
    clear ha
    by_cases hlt : n < len
    · obtain ⟨b, off, rfl, hb, hx⟩ := hcs (by omega)
      have hkl : n < l.length := by omega
      obtain ⟨d0, d1, d2⟩ := entry_at hb hA hx hkl
      have hsz := hg l[n] (List.getElem_mem _)
      unfold maxLen at hsz
      have HT := Lib.hid (show l[n].d.size ≤ 60 → (l.take (n + 1)).all (fun e => decide (e.d.size ≤ 60)) = true from fun h => by rw [List.take_succ_eq_append_getElem hkl, List.all_append, HA.out]; simp [h])
      have HF := Lib.hid (show 60 < l[n].d.size → few6B l = false from fun h => by
        have : l.all (fun e => decide (e.d.size ≤ 60)) = false := by
          rw [List.all_eq_false]; exact ⟨l[n], List.getElem_mem _, by simp; omega⟩
        unfold few6B; rw [this]; rfl)
      clear hx hcs
      generalize l[n] = x at *
      by_cases h6 : x.d.size ≤ 60
      · go_wp2
        go_round
        case rel => exact ⟨n + 1, by omega, by go_num, HT.out h6⟩
        case measure => simp [intOf]; omega
      · have h6' : 60 < x.d.size := by omega
        go_wp2
        go_ret
        exact ⟨by rw [HF.out h6']; rfl, hA⟩
    · obtain rfl : n = len := by omega
      rw [List.take_of_length_le (by omega)] at HA
      have HV := Lib.hid (show few6B l = decide ((n : Int) ≤ 8) by unfold few6B; rw [HA.out, hl, Bool.true_and]; exact decide_eq_decide.2 (by omega))
      go_wp2
      go_ret
      exact ⟨by rw [HV.out]; rfl, hA⟩


set_option maxRecDepth 100000 in
set_option maxHeartbeats 1000000 in
theorem fewG12_any (id fi te ht hv hc : Int) (l : List EntryC) (a : Option Addr) (cap : Nat) (w : World) (hrow : RowV w a l.length 3 (entryCells l)) (hg : ∀ e ∈ l, e.d.size ≤ maxLen) : Gives Try.prog 10 #[.agg #[.int .i64 id, .int .i64 fi, .int .i64 te, .int .i64 ht, .int .i64 hv, .int .i64 hc, .slice a l.length cap]] w (.bool (fewGB l)) := by
  unfold Gives
  have hm := hrow.2.1
  unfold maxLen at hm
  have hcs := hrow.2.2
  have c2 : (w.alloc (.cells #[.int .i64 id, .int .i64 fi, .int .i64 te, .int .i64 ht, .int .i64 hv, .int .i64 hc, .slice a l.length cap] 26)).cell? ⟨w.heap.size, 6, none⟩ = some (.slice a l.length cap) := cell_of_row _ _ 6 _ _ _ (World.alloc_heap_new w _)
  have hA := bel_alloc (Below.refl w.heap.size w) (.cells #[.int .i64 id, .int .i64 fi, .int .i64 te, .int .i64 ht, .int .i64 hv, .int .i64 hc, .slice a l.length cap] 26)
  clear hrow
  go_enter Try.func10, Try.ntmps10
  go_wp2
  go_loop [3] (fun q => ∃ n : Nat, n ≤ l.length ∧ q = .int .i64 n ∧ (l.take n).all (fun e => decide (e.d.size ≤ 60)) = true) (fun q => l.length - (intOf q).toNat)
  case atStart => exact ⟨0, by omega, rfl, rfl⟩
  case round =>
    obtain ⟨n, hn, rfl, ha⟩ := hrel
    have HA := Lib.hid ha
    clear ha
    by_cases hlt : n < l.length
    · obtain ⟨b, off, rfl, hb, hx⟩ := hcs (by omega)
      have hkl : n < l.length := hlt
      obtain ⟨d0, d1, d2⟩ := entry_at hb hA hx hkl
      have hsz := hg l[n] (List.getElem_mem _)
      unfold maxLen at hsz
      have HT := Lib.hid (show l[n].d.size ≤ 60 → (l.take (n + 1)).all (fun e => decide (e.d.size ≤ 60)) = true from fun h => by rw [List.take_succ_eq_append_getElem hkl, List.all_append, HA.out]; simp [h])
      have HF := Lib.hid (show 60 < l[n].d.size → fewGB l = false from fun h => by
        have : l.all (fun e => decide (e.d.size ≤ 60)) = false := by
          rw [List.all_eq_false]; exact ⟨l[n], List.getElem_mem _, by simp; omega⟩
        unfold fewGB; rw [this]; rfl)
      clear hx hcs
      generalize l[n] = x at *
      by_cases h6 : x.d.size ≤ 60
      · go_wp2
        go_round
        case rel => exact ⟨n + 1, by omega, by go_num, HT.out h6⟩
        case measure => simp [intOf]; omega
      · have h6' : 60 < x.d.size := by omega
        go_wp2
        go_ret
        exact ⟨by rw [HF.out h6']; rfl, hA⟩
    · obtain rfl : n = l.length := by omega
      rw [List.take_of_length_le (by omega)] at HA
      have HV := Lib.hid (show fewGB l = decide ((l.length : Int) ≤ 30) by unfold fewGB; rw [HA.out, Bool.true_and]; exact decide_eq_decide.2 (by omega))
      go_wp2
      go_ret
      exact ⟨by rw [HV.out]; rfl, hA⟩




/-- A part that came in is no longer than there is room. -/
theorem part_le {H : Type} {enc : TypeId × Value → H} {W : World} {d : DataW H} {ps : List MemPlace} {p : PartC}
    (h : DataW.Trod enc Try.prog W 0 (fun _ => true) true 28 p.val d ps) : p.len ≤ p.cap := by
  obtain ⟨pg, pk, pa, plen, pcap, pht, phv, phc, pi, pt, pm, ph⟩ := p
  replace h : DataW.Trod enc Try.prog W 0 (fun _ => true) true 28 (.agg #[.int .i64 pg, .int .i64 pk, .slice pa plen pcap, .int .i64 pht, .int .i64 phv, .int .i64 phc, .int .i64 pi, .int .i64 pt, .bool pm, .bool ph]) d ps := h
  obtain ⟨fuel, hf⟩ := h
  have ks : Try.prog.cellsOf 24 = 1 := by kernel_rfl
  simp only [Value.cells] at hf
  obtain ⟨xs, n', _, _, _, hxl, hf⟩ := DataW.trod_struct Try.underlying28 hf
  match xs, hxl with
  | [y0, y1, y2, y3, y4, y5, y6, y7], _ =>
    have hen := trod_field hf 2 2 1 24 rfl ks
    rcases open_slice Try.underlying24 hen with ⟨hcs, _⟩ | ⟨ad, len', cap', _, _, _, _, hcs, _, hl, _⟩
    · simp at hcs; simp [hcs]
    · simp at hcs; obtain ⟨-, rfl, rfl⟩ := hcs; exact hl

end Go.Proofs.Ytfbibpnkfmgkaaa
