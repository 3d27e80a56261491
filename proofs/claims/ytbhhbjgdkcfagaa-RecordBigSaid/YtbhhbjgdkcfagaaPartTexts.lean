/- The contract of package part's texts. -/
import Derived.Test.YtbhhbjgdkcfagaaPutFwd
import Derived.Test.YtbhhbjgdkcfagaaPartSteps
import Derived.Test.YtbhhbjgdkcfagaaRead
import Derived.Stop.RegionWithIn
namespace Go.Proofs.Ytbhhbjgdkcfagaa
open Go.RowKit Go.Shelf
set_option linter.unusedVariables false
attribute [local go_sem] Oper.semAt_some wide_fn wide_round_fn

def putS (n : Int) : ByteArray := ⟨(sevL n.toNat).toArray⟩
def textS (d : ByteArray) : ByteArray := ⟨(sevL d.size).toArray⟩ ++ d
def textOf (k : Int) (e : EntryC) : ByteArray := if k = 6 then putS e.i ++ (putS e.t ++ textS e.d) else putS e.t ++ textS e.d
def entryR (e : EntryC) : Prop := e.i < 9223372036854775808 ∧ e.t < 9223372036854775808 ∧ e.d.size < 1000000000

set_option maxRecDepth 100000 in
set_option maxHeartbeats 4000000 in
theorem texts_iter (Bp : Nat) (p : PartC) (l : List EntryC) (hl : l.length = p.len) (hm : p.len < 1000000) (hwf : ∀ e ∈ l, entryR e) (S : Nat → Prop) (hS : S Bp) (hSb : ∀ k, inBlkE p.a p.len k → S k) (w0 : World)
    (hBp : w0.heap[Bp]? = some (.cells p.arr 30 (0, 0))) (hrow : RowV w0 p.a p.len 3 (entryCells l)) :
    Iter Try.prog 78 #[.pointer (some ⟨Bp, 0, none⟩)] (fun s : ByteArray => #[.string s]) (l.map (textOf p.k)) S (fun _ => False) w0 := by
  obtain ⟨g, kd, a, len, cap, ht, hv, hc, i, t, mk, hd⟩ := p
  dsimp only [PartC.arr] at *
  intro L J Jx W hW hJs _ hY h0
  have hK0 : W.cell? ⟨Bp, 1, none⟩ = some (.int .i64 kd) := cell_of_row _ _ 1 _ _ _ (hW.get hBp hS)
  have hcl0 : W.cell? ⟨Bp, 2, none⟩ = some (.slice a len cap) := cell_of_row _ _ 2 _ _ _ (hW.get hBp hS)
  obtain ⟨hlen, hml, hcs⟩ := hrow
  refine callsIn_of_wp Try.func78 rfl trivial ?_ rfl
  simp only [Try.ntmps78, List.size_toArray, List.length_cons, List.length_nil, Nat.reduceAdd, Nat.reduceSub, Array.replicate_succ, Array.replicate_zero, List.push_toArray, List.append_toArray, List.nil_append, List.cons_append]
  gi_wp2
  gi_loopw [9] (fun q wr => ∃ (k : Nat) (pre : List ByteArray), k ≤ len ∧ q = .int .i64 k ∧ l.map (textOf kd) = pre ++ (l.drop k).map (textOf kd) ∧ J pre wr ∧ Rd W.heap.size S W wr) (fun q _ => len - (intOf q).toNat)
  case atStart => exact ⟨0, [], by omega, rfl, rfl, h0, Rd.refl _ _ _⟩
  case round =>
    obtain ⟨k, pre, hk, rfl, hX, hJ, hR⟩ := hrel
    have HX0 := Lib.hid hX
    clear hX
    by_cases hlt : k < len
    · obtain ⟨b, off, rfl, hb, hc⟩ := hcs (by omega)
      have hSbb := hSb b ⟨b, off, rfl, by omega, rfl⟩
      have hkl : k < l.length := by omega
      have cell : ∀ (W2 : World), Rd W.heap.size S W W2 → ∀ m (hm : m < l.length) i v, i < 3 → (l[m].cells)[i]? = some v → W2.cell? ⟨b, off + (m * 3 + i), none⟩ = some v := fun W2 h2 m hm i v hi hv =>
        h2.cell (hW.cell (RowV.at_ (len := len) (sz := 3) hc (by rw [entryCells, flat_at EntryC.cells 3 EntryC.len l m i hm hi]; exact hv)) hSbb) hSbb
      have c0 : wr.cell? ⟨b, off + k * 3, none⟩ = some (.int .i64 l[k].i) := cell wr hR k hkl 0 _ (by decide) rfl
      have c1 : wr.cell? ⟨b, off + k * 3 + 1, none⟩ = some (.int .i64 l[k].t) := cell wr hR k hkl 1 _ (by decide) rfl
      have c2 : wr.cell? ⟨b, off + k * 3 + 2, none⟩ = some (.string l[k].d) := cell wr hR k hkl 2 _ (by decide) rfl
      have HX := Lib.hid (show l.map (textOf kd) = pre ++ (textOf kd l[k] :: (l.drop (k + 1)).map (textOf kd)) by rw [HX0.out, List.drop_eq_getElem_cons hkl]; rfl)
      have hwx := hwf l[k] (List.getElem_mem _)
      clear cell hc HX0
      generalize l[k] = x at *
      obtain ⟨hxi, hxt, hxd⟩ := hwx
      have GI := Lib.hid (put_any x.i hxi)
      have GT := Lib.hid (put_any x.t hxt)
      have GD := Lib.hid (text_any x.d (by omega))
      gi_wp2
      have d0 : (wr.alloc (.cells #[.int .i64 x.i, .int .i64 x.t, .string x.d] 37)).cell? ⟨wr.heap.size, 0, none⟩ = some (.int .i64 x.i) := blk_cell (Below.refl _ _) 0
      have d1 : (wr.alloc (.cells #[.int .i64 x.i, .int .i64 x.t, .string x.d] 37)).cell? ⟨wr.heap.size, 1, none⟩ = some (.int .i64 x.t) := blk_cell (Below.refl _ _) 1
      have d2 : (wr.alloc (.cells #[.int .i64 x.i, .int .i64 x.t, .string x.d] 37)).cell? ⟨wr.heap.size, 2, none⟩ = some (.string x.d) := blk_cell (Below.refl _ _) 2
      have hRR := (hR.alloc (.cells #[.int .i64 x.i, .int .i64 x.t, .string x.d] 37)).drew
      have hJJ := hJs _ _ _ hJ (Moves.below ((bel_alloc (Below.refl wr.heap.size wr) (.cells #[.int .i64 x.i, .int .i64 x.t, .string x.d] 37)).drew))
      have hXX : wr.heap.size < (wr.alloc (.cells #[.int .i64 x.i, .int .i64 x.t, .string x.d] 37)).drew.heap.size := by show wr.heap.size < (wr.alloc _).heap.size; simp
      have cK := (hR.alloc (.cells #[.int .i64 x.i, .int .i64 x.t, .string x.d] 37)).cell hK0 hS
      clear c0 c1 c2 hJ
      have hl1 := sevL_len x.t.toNat; have hl2 := sevL_len x.d.size; have hl3 := sevL_len x.i.toNat
      have hz1 : (⟨(sevL x.t.toNat).toArray⟩ : ByteArray).size = (sevL x.t.toNat).length := rfl
      have hz2 : (⟨(sevL x.d.size).toArray⟩ : ByteArray).size = (sevL x.d.size).length := rfl
      have hz3 : (⟨(sevL x.i.toNat).toArray⟩ : ByteArray).size = (sevL x.i.toNat).length := rfl
      by_cases h6 : kd = 6
      · subst h6
        have HT := Lib.hid (show textOf 6 x = ⟨(sevL x.i.toNat).toArray⟩ ++ (⟨(sevL x.t.toNat).toArray⟩ ++ (⟨(sevL x.d.size).toArray⟩ ++ x.d)) by simp [textOf, putS, textS])
        rw [HT.out] at HX
        gi_region_with (first
          | (gi_at_call 38; refine (callsIn_wide.2 (GT.out _)).mono ?_; rintro e w4 ⟨rfl, hB⟩; replace d0 := (hB.cell (p := ⟨wr.heap.size, 0, none⟩) hXX).trans d0; replace d1 := (hB.cell (p := ⟨wr.heap.size, 1, none⟩) hXX).trans d1; replace d2 := (hB.cell (p := ⟨wr.heap.size, 2, none⟩) hXX).trans d2; replace hXX := Nat.lt_of_lt_of_le hXX hB.size; replace hRR := hRR.trans (Rd.below hB); replace hJJ := hJs _ _ _ hJJ (Moves.below hB); replace cK := hRR.cell hK0 hS; clear hB)
          | (gi_at_call 79; refine (callsIn_wide.2 (GD.out _)).mono ?_; rintro e w5 ⟨rfl, hB⟩; replace d0 := (hB.cell (p := ⟨wr.heap.size, 0, none⟩) hXX).trans d0; replace d1 := (hB.cell (p := ⟨wr.heap.size, 1, none⟩) hXX).trans d1; replace d2 := (hB.cell (p := ⟨wr.heap.size, 2, none⟩) hXX).trans d2; replace hXX := Nat.lt_of_lt_of_le hXX hB.size; replace hRR := hRR.trans (Rd.below hB); replace hJJ := hJs _ _ _ hJJ (Moves.below hB); replace cK := hRR.cell hK0 hS; clear hB))
        all_goals
          gi_wp2_with (gi_at_call 38; refine (callsIn_wide.2 (GI.out _)).mono ?_; rintro e w6 ⟨rfl, hB⟩; replace d0 := (hB.cell (p := ⟨wr.heap.size, 0, none⟩) hXX).trans d0; replace d1 := (hB.cell (p := ⟨wr.heap.size, 1, none⟩) hXX).trans d1; replace d2 := (hB.cell (p := ⟨wr.heap.size, 2, none⟩) hXX).trans d2; replace hXX := Nat.lt_of_lt_of_le hXX hB.size; replace hRR := hRR.trans (Rd.below hB); replace hJJ := hJs _ _ _ hJJ (Moves.below hB); replace cK := hRR.cell hK0 hS; clear hB; obtain ⟨fn, tmps, assign, body, hy, hR1⟩ := hY _ _ _ w6 HX.out hJJ)
          refine (roundIn_wide_n hR1).mono ?_
          rintro e W3 (⟨rfl, hJ3, hk3⟩ | ⟨rfl, hJx3⟩)
          · gi_wp2
            go_roundw
            case rel => exact ⟨k + 1, _, by omega, by go_num, by rw [HX.out]; simp, hJ3, hRR.trans hk3⟩
            case measure => simp [intOf]; omega
          · gi_wp2
            refine bodyPost_ret (results_none rfl _ _ _) rfl ?_
            exact ⟨⟨_, rfl⟩, .inr ⟨_, _, _, HX.out, hJx3⟩⟩
      · have HT := Lib.hid (show textOf kd x = ⟨(sevL x.t.toNat).toArray⟩ ++ (⟨(sevL x.d.size).toArray⟩ ++ x.d) by simp [textOf, putS, textS, h6])
        rw [HT.out] at HX
        gi_region_with (first
          | (gi_at_call 38; refine (callsIn_wide.2 (GT.out _)).mono ?_; rintro e w4 ⟨rfl, hB⟩; replace d0 := (hB.cell (p := ⟨wr.heap.size, 0, none⟩) hXX).trans d0; replace d1 := (hB.cell (p := ⟨wr.heap.size, 1, none⟩) hXX).trans d1; replace d2 := (hB.cell (p := ⟨wr.heap.size, 2, none⟩) hXX).trans d2; replace hXX := Nat.lt_of_lt_of_le hXX hB.size; replace hRR := hRR.trans (Rd.below hB); replace hJJ := hJs _ _ _ hJJ (Moves.below hB); replace cK := hRR.cell hK0 hS; clear hB)
          | (gi_at_call 79; refine (callsIn_wide.2 (GD.out _)).mono ?_; rintro e w5 ⟨rfl, hB⟩; replace d0 := (hB.cell (p := ⟨wr.heap.size, 0, none⟩) hXX).trans d0; replace d1 := (hB.cell (p := ⟨wr.heap.size, 1, none⟩) hXX).trans d1; replace d2 := (hB.cell (p := ⟨wr.heap.size, 2, none⟩) hXX).trans d2; replace hXX := Nat.lt_of_lt_of_le hXX hB.size; replace hRR := hRR.trans (Rd.below hB); replace hJJ := hJs _ _ _ hJJ (Moves.below hB); replace cK := hRR.cell hK0 hS; clear hB))
        all_goals
          obtain ⟨fn, tmps, assign, body, hy, hR1⟩ := hY _ _ _ _ HX.out hJJ
          gi_wp2
          refine (roundIn_wide_n hR1).mono ?_
          rintro e W3 (⟨rfl, hJ3, hk3⟩ | ⟨rfl, hJx3⟩)
          · gi_wp2
            go_roundw
            case rel => exact ⟨k + 1, _, by omega, by go_num, by rw [HX.out]; simp, hJ3, hRR.trans hk3⟩
            case measure => simp [intOf]; omega
          · gi_wp2
            refine bodyPost_ret (results_none rfl _ _ _) rfl ?_
            exact ⟨⟨_, rfl⟩, .inr ⟨_, _, _, HX.out, hJx3⟩⟩
    · obtain rfl : k = len := by omega
      have HX := Lib.hid (show l.map (textOf kd) = pre by rw [HX0.out, List.drop_of_length_le (by omega)]; simp)
      gi_wp2
      refine bodyPost_end (results_none rfl _ _ _) rfl ?_
      exact ⟨⟨_, rfl⟩, .inl (by rw [HX.out]; exact hJ)⟩

theorem texts_makes (p : PartC) (l : List EntryC) (w : World) (h : HasE w p l) (hwf : ∀ e ∈ l, entryR e) :
    Calls Try.prog 68 #[p.val] w fun e w' => ∃ lb, e = .returned (.func (.func 78) #[] lb) ∧ w' = w.alloc (.cells p.arr 30) ∧
      Iter Try.prog 78 lb (fun s : ByteArray => #[.string s]) (l.map (textOf p.k)) (fun k => inBlkE p.a p.len k ∨ k = w.heap.size) (fun _ => False) w' := by
  have hrow := h.2.2.below (bel_alloc (Below.refl _ _) (.cells p.arr 30))
  have hI := texts_iter w.heap.size p l h.1 h.2.1 hwf (fun k => inBlkE p.a p.len k ∨ k = w.heap.size) (.inr rfl) (fun k h => .inl h) (w.alloc (.cells p.arr 30)) (World.alloc_heap_new w _) hrow
  have HI := Lib.hid hI
  clear hI hrow h hwf
  go_enter Try.func68, Try.ntmps68
  go_wp2
  go_ret
  exact ⟨_, rfl, rfl, HI.out⟩

end Go.Proofs.Ytbhhbjgdkcfagaa
