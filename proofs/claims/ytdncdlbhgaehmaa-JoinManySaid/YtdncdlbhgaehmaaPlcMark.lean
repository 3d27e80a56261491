/- The contract of package place's isMark. -/
import Derived.Test.YtdncdlbhgaehmaaPlc
namespace Go.Proofs.Ytdncdlbhgaehmaa
open Go.RowKit Go.Shelf
set_option linter.unusedVariables false
set_option linter.unusedSimpArgs false
attribute [local go_sem] Oper.semAt_some wide_fn wide_round_fn
attribute [local irreducible] wpQuiet

theorem arr10p {W : World} {b : Nat} {T : TypeId} {v0 v1 v2 v3 v4 v5 v6 v7 v8 v9 : Value} (h : W.heap[b]? = some (.cells #[v0, v1, v2, v3, v4, v5, v6, v7, v8, v9] T (0, 0))) :
    W.cell? ⟨b, 0, none⟩ = some v0 ∧ W.cell? ⟨b, 1, none⟩ = some v1 ∧ W.cell? ⟨b, 2, none⟩ = some v2 ∧ W.cell? ⟨b, 3, none⟩ = some v3 ∧ W.cell? ⟨b, 4, none⟩ = some v4 ∧ W.cell? ⟨b, 5, none⟩ = some v5 ∧ W.cell? ⟨b, 6, none⟩ = some v6 ∧ W.cell? ⟨b, 7, none⟩ = some v7 ∧ W.cell? ⟨b, 8, none⟩ = some v8 ∧ W.cell? ⟨b, 9, none⟩ = some v9 :=
  ⟨cell_of_row _ _ 0 _ _ _ h, cell_of_row _ _ 1 _ _ _ h, cell_of_row _ _ 2 _ _ _ h, cell_of_row _ _ 3 _ _ _ h, cell_of_row _ _ 4 _ _ _ h, cell_of_row _ _ 5 _ _ _ h, cell_of_row _ _ 6 _ _ _ h, cell_of_row _ _ 7 _ _ _ h, cell_of_row _ _ 8 _ _ _ h, cell_of_row _ _ 9 _ _ _ h⟩
set_option maxRecDepth 100000 in
set_option maxHeartbeats 4000000 in
theorem pmark_any {W : World} {d m : Nat} {g : GM} {a : Option Addr} {c : Nat} (h : LogG W d m g a c) (hG : 1 ≤ g.fi ∧ g.fi ≤ 1099511627777) (pg pk : Int) (pa : Option Addr) (plen pcap : Nat) (pht phv phc pi pt : Int) (pm ph : Bool) (fi0 : Int) :
    Gives Try.prog 98 #[.pointer (some ⟨d, 0, none⟩), .agg #[.int .i64 pg, .int .i64 pk, .slice pa plen pcap, .int .i64 pht, .int .i64 phv, .int .i64 phc, .int .i64 pi, .int .i64 pt, .bool pm, .bool ph], .int .i64 fi0] W (.bool (markB g ⟨pg, pk, pa, plen, pcap, pht, phv, phc, pi, pt, pm, ph⟩ fi0)) := by
  obtain ⟨c0, c1, c2, -⟩ := cells8 h.1
  have hd := heap_lt h.1
  clear h
  obtain ⟨id, fi, te, ht, hv, hc, l⟩ := g
  dsimp only at *
  unfold Gives markB
  dsimp only
  have hA := bel_alloc (Below.refl W.heap.size W) (.cells #[.int .i64 pg, .int .i64 pk, .slice pa plen pcap, .int .i64 pht, .int .i64 phv, .int .i64 phc, .int .i64 pi, .int .i64 pt, .bool pm, .bool ph] 41)
  have hp := World.alloc_heap_new W (.cells #[.int .i64 pg, .int .i64 pk, .slice pa plen pcap, .int .i64 pht, .int .i64 phv, .int .i64 phc, .int .i64 pi, .int .i64 pt, .bool pm, .bool ph] 41)
  obtain ⟨p0, p1, p2, p3, p4, p5, p6, p7, p8, p9⟩ := arr10p hp
  have d1 := (hA.cell (p := ⟨d, 1, none⟩) hd).trans c1
  have HA := Lib.hid hA
  have hw1 : IntKind.i64.wrap (fi - 1) = fi - 1 := IntWalk.i64_in _ (by omega)
  by_cases h34 : pk = 3 ∨ pk = 4
  · rw [if_pos h34]
    rcases h34 with rfl | rfl
    all_goals
      clear hA hp
      go_enter Try.func98, Try.ntmps98
      go_wp2
      go_ret
      refine ⟨?_, HA.out⟩
      by_cases e : fi = fi0 <;> simp [e]
  · rw [if_neg h34]
    have h3 : ¬ pk = 3 := fun e => h34 (.inl e)
    have h4 : ¬ pk = 4 := fun e => h34 (.inr e)
    have h3b : (pk == 3) = false := by rw [beq_eq_false_iff_ne]; exact h3
    have h4b : (pk == 4) = false := by rw [beq_eq_false_iff_ne]; exact h4
    clear h34
    by_cases h6 : pk = 6
    · subst h6
      rw [if_pos rfl]
      have HS := Lib.hid (fun W' (hW : Above (W.alloc (.cells #[.int .i64 pg, .int .i64 6, .slice pa plen pcap, .int .i64 pht, .int .i64 phv, .int .i64 phc, .int .i64 pi, .int .i64 pt, .bool pm, .bool ph] 41)) W') => (show W'.cell? ⟨d, 1, none⟩ = some (.int .i64 fi) ∧ W'.cell? ⟨d, 2, none⟩ = some (.int .i64 te) ∧ W'.cell? ⟨W.heap.size, 6, none⟩ = some (.int .i64 pi) ∧ W'.cell? ⟨W.heap.size, 7, none⟩ = some (.int .i64 pt) ∧ W'.cell? ⟨W.heap.size, 8, none⟩ = some (.bool pm) from by
        have hB : Below _ _ W' := hW
        have h2 := bel2 hA hB
        have h3 := (hB.block _ (heap_lt hp)).trans hp
        exact ⟨(h2.cell (p := ⟨d, 1, none⟩) hd).trans c1, (h2.cell (p := ⟨d, 2, none⟩) hd).trans c2, cell_of_row _ _ 6 _ _ _ h3, cell_of_row _ _ 7 _ _ _ h3, cell_of_row _ _ 8 _ _ _ h3⟩))
      clear hA hp d1 c0 c1 c2
      cases pm
      · go_enter Try.func98, Try.ntmps98
        go_wp2
        refine wp_region_below (by kernel_rfl) (by kernel_rfl) ?_
        repeat (first
          | (refine BigFrame.wpQuiet_skip (by rfl) ?_; (try simp only [Act.put, List.setIfInBounds_toArray, List.set_cons_zero, List.set_cons_succ]))
          | (refine BigFrame.wpQuiet_want (by rfl) (fun K hK => ?_); apply Exists.intro; refine ⟨fun W hW => ?_, hK _ ?_⟩; (focus (obtain ⟨s0, s1, s2, s3, s4⟩ := HS.out _ hW; go_simp; (first | done | with_reducible rfl | (fail) | (rw [if_neg (by omega)]; go_simp; (first | done | with_reducible rfl))))); clear hK K; (try simp only [Act.put, List.setIfInBounds_toArray, List.set_cons_zero, List.set_cons_succ])))
        refine wpQuiet_nil ?_
        intro w9 hB9
        replace hB9 : Below _ _ w9 := hB9
        replace hB9 := bel2 HA.out hB9
        go_wp2
        go_ret
        exact ⟨rfl, hB9⟩
      · by_cases hi : pi = fi - 1
        · have hib : decide (pi = fi - 1) = true := decide_eq_true hi
          rw [hib]
          by_cases ht2 : pt = te
          · rw [decide_eq_true ht2]
            subst ht2
            subst hi
            go_enter Try.func98, Try.ntmps98
            go_wp2
            refine wp_region_below (by kernel_rfl) (by kernel_rfl) ?_
            repeat (first
              | (refine BigFrame.wpQuiet_skip (by rfl) ?_; (try simp only [Act.put, List.setIfInBounds_toArray, List.set_cons_zero, List.set_cons_succ]))
              | (refine BigFrame.wpQuiet_want (by rfl) (fun K hK => ?_); apply Exists.intro; refine ⟨fun W hW => ?_, hK _ ?_⟩; (focus (obtain ⟨s0, s1, s2, s3, s4⟩ := HS.out _ hW; go_simp; (first | done | with_reducible rfl | (fail) | (rw [if_neg (by omega)]; go_simp; (first | done | with_reducible rfl))))); clear hK K; (try simp only [Act.put, List.setIfInBounds_toArray, List.set_cons_zero, List.set_cons_succ])))
            refine wpQuiet_nil ?_
            intro w9 hB9
            replace hB9 : Below _ _ w9 := hB9
            replace hB9 := bel2 HA.out hB9
            go_wp2
            go_ret
            exact ⟨rfl, hB9⟩
          · rw [decide_eq_false ht2]
            have htb : (pt == te) = false := by rw [beq_eq_false_iff_ne]; exact ht2
            subst hi
            go_enter Try.func98, Try.ntmps98
            go_wp2
            refine wp_region_below (by kernel_rfl) (by kernel_rfl) ?_
            repeat (first
              | (refine BigFrame.wpQuiet_skip (by rfl) ?_; (try simp only [Act.put, List.setIfInBounds_toArray, List.set_cons_zero, List.set_cons_succ]))
              | (refine BigFrame.wpQuiet_want (by rfl) (fun K hK => ?_); apply Exists.intro; refine ⟨fun W hW => ?_, hK _ ?_⟩; (focus (obtain ⟨s0, s1, s2, s3, s4⟩ := HS.out _ hW; go_simp; (first | done | with_reducible rfl | (fail) | (rw [if_neg (by omega)]; go_simp; (first | done | with_reducible rfl))))); clear hK K; (try simp only [Act.put, List.setIfInBounds_toArray, List.set_cons_zero, List.set_cons_succ])))
            refine wpQuiet_nil ?_
            intro w9 hB9
            replace hB9 : Below _ _ w9 := hB9
            replace hB9 := bel2 HA.out hB9
            go_wp2
            go_ret
            exact ⟨rfl, hB9⟩
        · rw [decide_eq_false hi]
          have hib : (pi == fi - 1) = false := by rw [beq_eq_false_iff_ne]; exact hi
          go_enter Try.func98, Try.ntmps98
          go_wp2
          refine wp_region_below (by kernel_rfl) (by kernel_rfl) ?_
          repeat (first
            | (refine BigFrame.wpQuiet_skip (by rfl) ?_; (try simp only [Act.put, List.setIfInBounds_toArray, List.set_cons_zero, List.set_cons_succ]))
            | (refine BigFrame.wpQuiet_want (by rfl) (fun K hK => ?_); apply Exists.intro; refine ⟨fun W hW => ?_, hK _ ?_⟩; (focus (obtain ⟨s0, s1, s2, s3, s4⟩ := HS.out _ hW; go_simp; (first | done | with_reducible rfl | (fail) | (rw [if_neg (by omega)]; go_simp; (first | done | with_reducible rfl))))); clear hK K; (try simp only [Act.put, List.setIfInBounds_toArray, List.set_cons_zero, List.set_cons_succ])))
          refine wpQuiet_nil ?_
          intro w9 hB9
          replace hB9 : Below _ _ w9 := hB9
          replace hB9 := bel2 HA.out hB9
          go_wp2
          go_ret
          exact ⟨rfl, hB9⟩
    · rw [if_neg h6]
      have h6b : (pk == 6) = false := by rw [beq_eq_false_iff_ne]; exact h6
      clear hA hp
      go_enter Try.func98, Try.ntmps98
      go_wp2
      go_ret
      exact ⟨rfl, HA.out⟩

end Go.Proofs.Ytdncdlbhgaehmaa
