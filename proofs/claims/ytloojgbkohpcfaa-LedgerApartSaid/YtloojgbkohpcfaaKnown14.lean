/- What the fourteenth layer's laws hold by themselves: the examples. -/
import Derived.Test.YtloojgbkohpcfaaLgK
namespace Go.Proofs.Ytloojgbkohpcfaa
open Go.RowKit Go.Shelf
set_option linter.unusedVariables false
set_option linter.unusedSimpArgs false
attribute [local go_sem] Oper.semAt_some wide_fn wide_round_fn

theorem kl1 (X : Nat) : ldo [] [(⟨3, 2, none, 0, 0, 2, 0, 0, 0, 0, false, false⟩, []), (⟨1, 1, (some ⟨X, 0, none⟩), 1, 1, 0, 0, 0, 0, 0, false, false⟩, [⟨4, 1, ⟨#[]⟩⟩])] 1 16 = [⟨⟨1, 1, 0, 0, 0, 0, [⟨4, 1, ⟨#[]⟩⟩]⟩, [⟨4, 1, 16⟩]⟩, ⟨⟨3, 1, 0, 2, 0, 0, []⟩, [⟨-1, 1, 16⟩]⟩] := by kernel_rfl
theorem kl2 : ldo [⟨⟨1, 1, 0, 0, 0, 0, [⟨4, 1, ⟨#[]⟩⟩]⟩, [⟨4, 1, 16⟩]⟩, ⟨⟨3, 1, 0, 2, 0, 0, []⟩, [⟨-1, 1, 16⟩]⟩] [(⟨1, 5, none, 0, 0, 0, 0, 0, 0, 0, false, false⟩, [])] 2 0 = [⟨⟨3, 1, 0, 2, 0, 0, []⟩, [⟨-1, 1, 16⟩]⟩] := by kernel_rfl
theorem klS : flA [⟨⟨1, 1, 0, 0, 0, 0, [⟨4, 1, ⟨#[]⟩⟩]⟩, [⟨4, 1, 16⟩]⟩, ⟨⟨3, 1, 0, 2, 0, 0, []⟩, [⟨-1, 1, 16⟩]⟩] = [⟨1, 4, 1, 16⟩, ⟨3, -1, 1, 16⟩] := by kernel_rfl
theorem kl_ok : okA 20 [⟨⟨1, 1, 0, 0, 0, 0, [⟨4, 1, ⟨#[]⟩⟩]⟩, [⟨4, 1, 16⟩]⟩, ⟨⟨3, 1, 0, 2, 0, 0, []⟩, [⟨-1, 1, 16⟩]⟩] ∧ okA 20 [⟨⟨3, 1, 0, 2, 0, 0, []⟩, [⟨-1, 1, 16⟩]⟩] := by
  refine ⟨fun L hL => ?_, fun L hL => ?_⟩
  · rcases List.mem_cons.1 hL with rfl | hL
    · exact ⟨by kernel_rfl, by decide, by decide⟩
    · rw [List.mem_singleton.1 hL]; exact ⟨by kernel_rfl, by decide, by decide⟩
  · rw [List.mem_singleton.1 hL]; exact ⟨by kernel_rfl, by decide, by decide⟩
theorem rowP_of {W : World} {b : Nat} {cs : Array Value} {L : List PL} {n : Nat} (hb : W.heap[b]? = some (.cells cs 39 (0, 0))) (hc : cs.toList = partCells L) (hl : L.length = n) (hn : n < 1000000) (hE : ∀ x ∈ L, HasE W x.1 x.2) : HasP W (some ⟨b, 0, none⟩) n L := by
  refine ⟨hl, hn, ?_, hE⟩
  rw [← hc]
  have h10 : cs.size = n * 10 := by
    have h1 : (partCells L).length = L.length * 10 := by
      clear hl hE hc
      induction L with
      | nil => rfl
      | cons x r ih =>
        unfold partCells at ih ⊢
        rw [List.map_cons, List.flatten_cons, List.length_append, ih]
        show 10 + r.length * 10 = (r.length + 1) * 10
        omega
    rw [← hc, hl] at h1
    simpa using h1
  exact rowV_block (n := n) (sz := 10) hb h10 (by unfold maxLen; omega)
set_option maxRecDepth 100000 in
set_option maxHeartbeats 4000000 in
theorem known14_any (w : World) : Gives Try.prog 21 #[] w (.bool true) := by
  have GN := Lib.hid (gNew1 (Below.refl w.heap.size w))
  have D1 := Lib.hid (fun W e X B (h : LG1 w e [] W) (hx : W.heap[X]? = some (.cells #[.int .i64 4, .int .i64 1, .string ⟨#[]⟩] 57 (0, 0))) (hb : W.heap[B]? = some (.cells #[.int .i64 3, .int .i64 2, .slice none 0 0, .int .i64 2, .int .i64 0, .int .i64 0, .int .i64 0, .int .i64 0, .bool false, .bool false, .int .i64 1, .int .i64 1, .slice (some ⟨X, 0, none⟩) 1 1, .int .i64 0, .int .i64 0, .int .i64 0, .int .i64 0, .int .i64 0, .bool false, .bool false] 39 (0, 0))) => (show Calls Try.prog 24 #[.pointer (some ⟨e, 0, none⟩), .slice (some ⟨B, 0, none⟩) 2 2, .agg #[.int .i64 1, .int .i64 16]] W (fun r w' => (∃ v, r = .returned v) ∧ LG1 w e [⟨⟨1, 1, 0, 0, 0, 0, [⟨4, 1, ⟨#[]⟩⟩]⟩, [⟨4, 1, 16⟩]⟩, ⟨⟨3, 1, 0, 2, 0, 0, []⟩, [⟨-1, 1, 16⟩]⟩] w') from by
    have := gDo1 (N := 0) (c := 8) h (fun L hL => by cases hL) (some ⟨B, 0, none⟩) 2 2 [(⟨3, 2, none, 0, 0, 2, 0, 0, 0, 0, false, false⟩, []), (⟨1, 1, (some ⟨X, 0, none⟩), 1, 1, 0, 0, 0, 0, 0, false, false⟩, [⟨4, 1, ⟨#[]⟩⟩])] (rowP_of hb rfl rfl (by decide) (fun x hx2 => by
      rcases List.mem_cons.1 hx2 with rfl | hx2
      · exact hasE_nil rfl rfl
      · rw [List.mem_singleton.1 hx2]; exact ⟨rfl, (show (1 : Nat) < 1000000 by decide), by exact rowV_block (cs := #[.int .i64 4, .int .i64 1, .string ⟨#[]⟩]) (n := 1) (sz := 3) hx rfl (by decide)⟩)) (fun x hx2 => by
      rcases List.mem_cons.1 hx2 with rfl | hx2
      · exact ⟨by decide, by decide⟩
      · rw [List.mem_singleton.1 hx2]; exact ⟨by simp, by simp⟩) (by decide) (by decide) 1 16
    rw [kl1] at this
    exact this))
  have D2 := Lib.hid (fun wc W e B (h : LG1 wc e [⟨⟨1, 1, 0, 0, 0, 0, [⟨4, 1, ⟨#[]⟩⟩]⟩, [⟨4, 1, 16⟩]⟩, ⟨⟨3, 1, 0, 2, 0, 0, []⟩, [⟨-1, 1, 16⟩]⟩] W) (hb : W.heap[B]? = some (.cells #[.int .i64 1, .int .i64 5, .slice none 0 0, .int .i64 0, .int .i64 0, .int .i64 0, .int .i64 0, .int .i64 0, .bool false, .bool false] 39 (0, 0))) => (show Calls Try.prog 24 #[.pointer (some ⟨e, 0, none⟩), .slice (some ⟨B, 0, none⟩) 1 1, .agg #[.int .i64 2, .int .i64 0]] W (fun r w' => (∃ v, r = .returned v) ∧ LG1 wc e [⟨⟨3, 1, 0, 2, 0, 0, []⟩, [⟨-1, 1, 16⟩]⟩] w') from by
    have := gDo1 (N := 20) (c := 8) h kl_ok.1 (some ⟨B, 0, none⟩) 1 1 [(⟨1, 5, none, 0, 0, 0, 0, 0, 0, 0, false, false⟩, [])] (rowP_of hb rfl rfl (by decide) (fun x hx2 => by
      rw [List.mem_singleton.1 hx2]; exact hasE_nil rfl rfl)) (fun x hx2 => by rw [List.mem_singleton.1 hx2]; exact ⟨by decide, by decide⟩) (by decide) (by decide) 2 0
    rw [kl2] at this
    exact this))
  have GS := Lib.hid (fun W e (h : LG1 w e [⟨⟨1, 1, 0, 0, 0, 0, [⟨4, 1, ⟨#[]⟩⟩]⟩, [⟨4, 1, 16⟩]⟩, ⟨⟨3, 1, 0, 2, 0, 0, []⟩, [⟨-1, 1, 16⟩]⟩] W) => (show Calls Try.prog 26 #[.pointer (some ⟨e, 0, none⟩)] W (fun r w' => ∃ a c, r = .returned (.slice a 2 c) ∧ RowV w' a ([⟨1, 4, 1, 16⟩, ⟨3, -1, 1, 16⟩] : List SpotC).length 4 (spotCells [⟨1, 4, 1, 16⟩, ⟨3, -1, 1, 16⟩]) ∧ Below W.heap.size W w') from by
    have := tSpots (N := 20) h.choose_spec.1 (by decide) kl_ok.1 (by decide)
    rw [klS] at this
    exact this))
  have GGt := Lib.hid (fun W e (h : LG1 w e [⟨⟨1, 1, 0, 0, 0, 0, [⟨4, 1, ⟨#[]⟩⟩]⟩, [⟨4, 1, 16⟩]⟩, ⟨⟨3, 1, 0, 2, 0, 0, []⟩, [⟨-1, 1, 16⟩]⟩] W) => (show Calls Try.prog 25 #[.pointer (some ⟨e, 0, none⟩), .int .i64 3] W (fun r w' => ∃ va vc, r = .returned (.tuple #[.agg #[.int .i64 3, .int .i64 1, .int .i64 0, .int .i64 2, .int .i64 0, .int .i64 0, .slice va 0 vc], .bool true]) ∧ Below W.heap.size W w') from by
    refine (tGet h.choose_spec.1 3 (by decide)).mono ?_
    rintro r w' ⟨hB, ⟨L, va, vc, h1, rfl, -⟩ | ⟨h1, -⟩⟩
    · have : L = ⟨⟨3, 1, 0, 2, 0, 0, []⟩, [⟨-1, 1, 16⟩]⟩ := (Option.some.inj ((show getZ LG.n [⟨⟨1, 1, 0, 0, 0, 0, [⟨4, 1, ⟨#[]⟩⟩]⟩, [⟨4, 1, 16⟩]⟩, ⟨⟨3, 1, 0, 2, 0, 0, []⟩, [⟨-1, 1, 16⟩]⟩] 3 = some ⟨⟨3, 1, 0, 2, 0, 0, []⟩, [⟨-1, 1, 16⟩]⟩ by kernel_rfl).symm.trans h1)).symm
      subst this
      exact ⟨va, vc, rfl, hB⟩
    · rw [show getZ LG.n [⟨⟨1, 1, 0, 0, 0, 0, [⟨4, 1, ⟨#[]⟩⟩]⟩, [⟨4, 1, 16⟩]⟩, ⟨⟨3, 1, 0, 2, 0, 0, []⟩, [⟨-1, 1, 16⟩]⟩] 3 = some ⟨⟨3, 1, 0, 2, 0, 0, []⟩, [⟨-1, 1, 16⟩]⟩ by kernel_rfl] at h1; cases h1))
  have GC := Lib.hid (fun W e (h : LG1 w e [⟨⟨1, 1, 0, 0, 0, 0, [⟨4, 1, ⟨#[]⟩⟩]⟩, [⟨4, 1, 16⟩]⟩, ⟨⟨3, 1, 0, 2, 0, 0, []⟩, [⟨-1, 1, 16⟩]⟩] W) => tCopy h.choose_spec.1 (show ([⟨⟨1, 1, 0, 0, 0, 0, [⟨4, 1, ⟨#[]⟩⟩]⟩, [⟨4, 1, 16⟩]⟩, ⟨⟨3, 1, 0, 2, 0, 0, []⟩, [⟨-1, 1, 16⟩]⟩] : List LG).length ≤ 1000 by decide))
  have GD1 := Lib.hid (fun W e (h : LG1 w e [⟨⟨1, 1, 0, 0, 0, 0, [⟨4, 1, ⟨#[]⟩⟩]⟩, [⟨4, 1, 16⟩]⟩, ⟨⟨3, 1, 0, 2, 0, 0, []⟩, [⟨-1, 1, 16⟩]⟩] W) => (show Calls Try.prog 27 #[.pointer (some ⟨e, 0, none⟩)] W (fun r w' => r = .returned (.bool false) ∧ Below W.heap.size W w') from by
    have := tDense h.choose_spec.1 (by decide)
    rw [show denA [⟨⟨1, 1, 0, 0, 0, 0, [⟨4, 1, ⟨#[]⟩⟩]⟩, [⟨4, 1, 16⟩]⟩, ⟨⟨3, 1, 0, 2, 0, 0, []⟩, [⟨-1, 1, 16⟩]⟩] = false by kernel_rfl] at this
    exact this))
  have GD2 := Lib.hid (fun wc W e (h : LG1 wc e [⟨⟨3, 1, 0, 2, 0, 0, []⟩, [⟨-1, 1, 16⟩]⟩] W) => (show Calls Try.prog 27 #[.pointer (some ⟨e, 0, none⟩)] W (fun r w' => r = .returned (.bool true) ∧ Below W.heap.size W w') from by
    have := tDense h.choose_spec.1 (by decide)
    rw [show denA [⟨⟨3, 1, 0, 2, 0, 0, []⟩, [⟨-1, 1, 16⟩]⟩] = true by kernel_rfl] at this
    exact this))
  have GG2 := Lib.hid (fun wc W e (h : LG1 wc e [⟨⟨3, 1, 0, 2, 0, 0, []⟩, [⟨-1, 1, 16⟩]⟩] W) => (show Calls Try.prog 28 #[.pointer (some ⟨e, 0, none⟩)] W (fun r w' => ∃ a c, r = .returned (.slice a 1 c) ∧ Below W.heap.size W w') from (tGroups h.choose_spec.1 (by decide)).mono (fun r w' ⟨a, c, Gs, h1, _, _, h2⟩ => ⟨a, c, h1, h2⟩)))
  have GG1 := Lib.hid (fun W e (h : LG1 w e [⟨⟨1, 1, 0, 0, 0, 0, [⟨4, 1, ⟨#[]⟩⟩]⟩, [⟨4, 1, 16⟩]⟩, ⟨⟨3, 1, 0, 2, 0, 0, []⟩, [⟨-1, 1, 16⟩]⟩] W) => (show Calls Try.prog 28 #[.pointer (some ⟨e, 0, none⟩)] W (fun r w' => ∃ a c, r = .returned (.slice a 2 c) ∧ Below W.heap.size W w') from (tGroups h.choose_spec.1 (by decide)).mono (fun r w' ⟨a, c, Gs, h1, _, _, h2⟩ => ⟨a, c, h1, h2⟩)))
  have GS1 := Lib.hid (fun wd W e e2 (h : LG1 w e [⟨⟨1, 1, 0, 0, 0, 0, [⟨4, 1, ⟨#[]⟩⟩]⟩, [⟨4, 1, 16⟩]⟩, ⟨⟨3, 1, 0, 2, 0, 0, []⟩, [⟨-1, 1, 16⟩]⟩] W) (h2 : LG1 wd e2 [⟨⟨1, 1, 0, 0, 0, 0, [⟨4, 1, ⟨#[]⟩⟩]⟩, [⟨4, 1, 16⟩]⟩, ⟨⟨3, 1, 0, 2, 0, 0, []⟩, [⟨-1, 1, 16⟩]⟩] W) => (show Calls Try.prog 46 #[.pointer (some ⟨e, 0, none⟩), .pointer (some ⟨e2, 0, none⟩)] W (fun r w' => r = .returned (.bool true) ∧ Below W.heap.size W w') from by
    have := tSame (N := 20) h.choose_spec.1 h2.choose_spec.1 (by decide) (by decide) kl_ok.1 kl_ok.1 (by decide) (by decide) (by decide)
    rw [show sameA [⟨⟨1, 1, 0, 0, 0, 0, [⟨4, 1, ⟨#[]⟩⟩]⟩, [⟨4, 1, 16⟩]⟩, ⟨⟨3, 1, 0, 2, 0, 0, []⟩, [⟨-1, 1, 16⟩]⟩] [⟨⟨1, 1, 0, 0, 0, 0, [⟨4, 1, ⟨#[]⟩⟩]⟩, [⟨4, 1, 16⟩]⟩, ⟨⟨3, 1, 0, 2, 0, 0, []⟩, [⟨-1, 1, 16⟩]⟩] = true by kernel_rfl] at this
    exact this))
  have GS2 := Lib.hid (fun wd W e e2 (h : LG1 w e [⟨⟨1, 1, 0, 0, 0, 0, [⟨4, 1, ⟨#[]⟩⟩]⟩, [⟨4, 1, 16⟩]⟩, ⟨⟨3, 1, 0, 2, 0, 0, []⟩, [⟨-1, 1, 16⟩]⟩] W) (h2 : LG1 wd e2 [⟨⟨3, 1, 0, 2, 0, 0, []⟩, [⟨-1, 1, 16⟩]⟩] W) => (show Calls Try.prog 46 #[.pointer (some ⟨e, 0, none⟩), .pointer (some ⟨e2, 0, none⟩)] W (fun r w' => r = .returned (.bool false) ∧ Below W.heap.size W w') from by
    have := tSame (N := 20) h.choose_spec.1 h2.choose_spec.1 (by decide) (by decide) kl_ok.1 kl_ok.2 (by decide) (by decide) (by decide)
    rw [show sameA [⟨⟨1, 1, 0, 0, 0, 0, [⟨4, 1, ⟨#[]⟩⟩]⟩, [⟨4, 1, 16⟩]⟩, ⟨⟨3, 1, 0, 2, 0, 0, []⟩, [⟨-1, 1, 16⟩]⟩] [⟨⟨3, 1, 0, 2, 0, 0, []⟩, [⟨-1, 1, 16⟩]⟩] = false by kernel_rfl] at this
    exact this))
  unfold Gives
  go_enter Try.func21, Try.ntmps21
  go_wp2_with (first
    | (go_at_call 23; ((with_reducible refine (GN.out).mono ?_); rintro r w1 ⟨e, rfl, hK, -, -⟩; have H1 := Lib.hid hK; clear hK))
    | (go_at_call 24; ((with_reducible refine (D2.out _ _ _ _ (HC6.out.below (bel_alloc (Below.refl _ _) _)) (World.alloc_heap_new w6 _)).mono ?_); rintro r w8 ⟨⟨v8, rfl⟩, hK⟩; have hKb := hK.bel; have H8 := Lib.hid (H4.out.below hKb); have HK8 := Lib.hid hK; obtain ⟨sb, so, rfl, hsb, hrow⟩ := spotRow_at (HR4.out.below hKb) (by decide); have s00 : w8.cell? ⟨sb, so, none⟩ = some (.int .i64 1) := (hrow 0 (by decide)).1; have s01 : w8.cell? ⟨sb, so + 1, none⟩ = some (.int .i64 4) := (hrow 0 (by decide)).2.1; have s11 : w8.cell? ⟨sb, so + 4 + 1, none⟩ = some (.int .i64 (-1)) := (hrow 1 (by decide)).2.1; have x3 : w8.cell? ⟨w4.heap.size, 3, none⟩ = some (.int .i64 2) := cell_of_row _ _ 3 _ _ _ ((hKb.block _ (heap_lt HQ.out)).trans HQ.out); clear hK hKb hrow hsb HC6 HR4 HQ))
    | (go_at_call 27; ((with_reducible refine (GD2.out _ _ _ HK8.out).mono ?_); rintro r w9 ⟨rfl, hB⟩; have HK9 := Lib.hid (HK8.out.below hB); have H9 := Lib.hid (H8.out.below hB); clear hB HK8 H8))
    | (go_at_call 27; ((with_reducible refine (GD1.out _ _ H5.out).mono ?_); rintro r w6 ⟨rfl, hB⟩; have HC6 := Lib.hid (HC.out.below hB); clear hB H5 HC))
    | (go_at_call 28; ((with_reducible refine (GG1.out _ _ H10.out).mono ?_); rintro r w11 ⟨ga, gc, rfl, hB⟩; have HK11 := Lib.hid (HK10.out.below hB); have H11 := Lib.hid (H10.out.below hB); clear hB HK10 H10))
    | (go_at_call 28; ((with_reducible refine (GG2.out _ _ _ HK9.out).mono ?_); rintro r w10 ⟨gb, gd, rfl, hB⟩; have HK10 := Lib.hid (HK9.out.below hB); have H10 := Lib.hid (H9.out.below hB); clear hB HK9 H9))
    | (go_at_call 45; ((with_reducible refine (GC.out _ _ H11.out).mono ?_); rintro r w12 ⟨e3, rfl, hK⟩; have HD12 := Lib.hid hK; have H12 := Lib.hid (H11.out.below hK.bel); have HK12 := Lib.hid (HK11.out.below hK.bel); clear hK H11 HK11))
    | (go_at_call 46; ((with_reducible refine (GS2.out _ _ _ _ H13.out HK13.out).mono ?_); rintro r w14 ⟨rfl, hB⟩; have H14 := Lib.hid (H13.out.below hB); clear hB H13 HK13))
    | (go_at_call 46; ((with_reducible refine (GS1.out _ _ _ _ H12.out HD12.out).mono ?_); rintro r w13 ⟨rfl, hB⟩; have HK13 := Lib.hid (HK12.out.below hB); have H13 := Lib.hid (H12.out.below hB); clear hB H12 HD12 HK12))
    | (go_at_call 24; ((with_reducible refine (D1.out _ _ _ _ (H1.out.below (bel_alloc (bel_alloc (Below.refl _ _) _) _)) (two_a w1 _ _ _ _) (two_b w1 _ _ _ _)).mono ?_); rintro r w2 ⟨⟨v2, rfl⟩, hK⟩; have H2 := Lib.hid hK; clear hK H1))
    | (go_at_call 26; ((with_reducible refine (GS.out _ _ H2.out).mono ?_); rintro r w3 ⟨sa, sc, rfl, hR, hB⟩; have HR := Lib.hid hR; have H3 := Lib.hid (H2.out.below hB); clear hR hB H2))
    | (go_at_call 25; ((with_reducible refine (GGt.out _ _ H3.out).mono ?_); rintro r w4 ⟨va, vc, rfl, hB⟩; have hA4 := bel2 hB (bel_alloc (Below.refl w4.heap.size w4) (.cells #[.int .i64 3, .int .i64 1, .int .i64 0, .int .i64 2, .int .i64 0, .int .i64 0, .slice va 0 vc] 31)); have HQ := Lib.hid (World.alloc_heap_new w4 (.cells #[.int .i64 3, .int .i64 1, .int .i64 0, .int .i64 2, .int .i64 0, .int .i64 0, .slice va 0 vc] 31)); have HR4 := Lib.hid (HR.out.below hA4); have H4 := Lib.hid (H3.out.below hA4); clear hB hA4 H3 HR))
    | (go_at_call 45; ((with_reducible refine (GC.out _ _ H4.out).mono ?_); rintro r w5 ⟨e2, rfl, hK⟩; have HC := Lib.hid hK; have H5 := Lib.hid (H4.out.below hK.bel); clear hK)))
  go_ret
  exact ⟨rfl, H14.out.bel⟩

end Go.Proofs.Ytloojgbkohpcfaa
