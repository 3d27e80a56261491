/- The contracts of package place's New, Group, spot. -/
import Derived.Test.YtdncdlbhgaehmaaPlc
import Derived.Test.YtdncdlbhgaehmaaGrp
import Derived.Test.YtdncdlbhgaehmaaGrpDo
namespace Go.Proofs.Ytdncdlbhgaehmaa
open Go.RowKit Go.Shelf
set_option linter.unusedVariables false
set_option linter.unusedSimpArgs false
attribute [local go_sem] Oper.semAt_some wide_fn wide_round_fn

def newP (i : Int) : GM := ⟨i, 1, 0, 0, 0, 0, []⟩
set_option maxRecDepth 100000 in
theorem pnew_any (id : Int) (W : World) : Calls Try.prog 70 #[.int .i64 id] W fun e w' => ∃ d m, e = .returned (.pointer (some ⟨d, 0, none⟩)) ∧ W.heap.size ≤ m ∧ m < d ∧ LogAt w' d m (newP id) none 0 [] ∧ Below W.heap.size W w' := by
  have hmm := @run_makeMap Try.prog
  have GN := Lib.hid (fun W => new_any id W)
  go_enter Try.func70, Try.ntmps70
  go_wp2_with (go_at_call 89; ((with_reducible refine (GN.out _).mono ?_); rintro e w1 ⟨rfl, hB1⟩))
  have hB2 := bel2 hB1 (bel_alloc (bel_alloc (Below.refl w1.heap.size w1) (.map #[] 0)) (.cells (logArr (newP id) none 0 w1.heap.size) 124))
  have hb := World.alloc_heap_new (w1.alloc (.map #[] 0)) (.cells (logArr (newP id) none 0 w1.heap.size) 124)
  rw [World.size_alloc] at hb
  refine bodyPost_ret (results_tmp rfl _ _ _) rfl ⟨w1.heap.size + 1, w1.heap.size, rfl, hB1.size, Nat.lt_succ_self _, ⟨hb, ?_, ⟨by show (0 : Nat) < 1000000; decide, RowV.nil _ _ _⟩, Nat.zero_le _⟩, hB2⟩
  exact (World.ownsMap_made w1 Try.prog 3 plcElem).alloc _
def spotArr (g i : Int) (v : Value) : Array Value := match v with
  | .agg #[s, t] => #[.int .i64 g, .int .i64 i, s, t]
  | _ => #[]
theorem lookP_is (F : List LV) (i : Int) : ∃ s t : Int, lookP F i = .agg #[.int .i64 s, .int .i64 t] := by
  unfold lookP
  cases getZ LV.k F i with
  | none => exact ⟨0, 0, rfl⟩
  | some x => exact ⟨x.s, x.t, rfl⟩
set_option maxRecDepth 100000 in
theorem pspot_any {W : World} {d m : Nat} {g : GM} {a : Option Addr} {c : Nat} {F : List LV} (h : LogAt W d m g a c F) (i : Int) (hi : (Lit.int .i64 i).wf = true) (s t : Int) (hl : lookP F i = .agg #[.int .i64 s, .int .i64 t]) :
    Gives Try.prog 109 #[.pointer (some ⟨d, 0, none⟩), .int .i64 i] W (.agg #[.int .i64 g.id, .int .i64 i, .int .i64 s, .int .i64 t]) := by
  have hA := bel_alloc (Below.refl W.heap.size W) (.cells #[.int .i64 0, .int .i64 0, .int .i64 0, .int .i64 0] 86)
  have hr := World.alloc_heap_new W (.cells #[.int .i64 0, .int .i64 0, .int .i64 0, .int .i64 0] 86)
  obtain ⟨c0, c1, c2, c3, c4, c5, c6, c7⟩ := cells8 ((hA.block _ (heap_lt h.1)).trans h.1)
  have hlk := HasPl.look1 (h.2.1.below hA) i hi
  rw [hl] at hlk
  have HR := Lib.hid hr
  have HPL := Lib.hid (h.2.1.below hA)
  have HLP := Lib.hid hl
  clear h hl hr
  unfold Gives
  go_enter Try.func109, Try.ntmps109
  go_wp2
  obtain ⟨r0, r1, r2, r3⟩ := (show _ ∧ _ ∧ _ ∧ _ from ⟨cell_of_row _ _ 0 _ _ _ HR.out, cell_of_row _ _ 1 _ _ _ HR.out, cell_of_row _ _ 2 _ _ _ HR.out, cell_of_row _ _ 3 _ _ _ HR.out⟩)
  have f0 := frozen_of_row _ W.heap.size 0 _ _ HR.out
  have f1 := frozen_of_row _ W.heap.size 1 _ _ HR.out
  have f2 := frozen_of_row _ W.heap.size 2 _ _ HR.out
  have f3 := frozen_of_row _ W.heap.size 3 _ _ HR.out
  have hlkd : (Instr.lookup 122 (.map (some m)) (.int .i64 i) false).run Try.prog (W.alloc (.cells #[.int .i64 0, .int .i64 0, .int .i64 0, .int .i64 0] 86)).drew = .ok (.agg #[.int .i64 s, .int .i64 t]) (W.alloc (.cells #[.int .i64 0, .int .i64 0, .int .i64 0, .int .i64 0] 86)).drew := by
    have := HasPl.look1 (HPL.out.below ((Below.refl _ (W.alloc (.cells #[.int .i64 0, .int .i64 0, .int .i64 0, .int .i64 0] 86))).drew)) i hi
    rwa [HLP.out] at this
  go_region
  all_goals
    clear r0 r1 r2 r3 f0 f1 f2 f3 hlkd c0 c1 c2 c3 c4 c5 c6 c7 hlk
    go_wp2
    have hb := World.alloc_heap_new W (.cells #[.int .i64 g.id, .int .i64 i, .int .i64 s, .int .i64 t] 86)
    have e0 : (W.alloc (.cells #[.int .i64 g.id, .int .i64 i, .int .i64 s, .int .i64 t] 86)).drew.cell? ⟨W.heap.size, 0, none⟩ = some (.int .i64 g.id) := cell_of_row _ _ 0 _ _ _ hb
    have e1 : (W.alloc (.cells #[.int .i64 g.id, .int .i64 i, .int .i64 s, .int .i64 t] 86)).drew.cell? ⟨W.heap.size, 1, none⟩ = some (.int .i64 i) := cell_of_row _ _ 1 _ _ _ hb
    have e2 : (W.alloc (.cells #[.int .i64 g.id, .int .i64 i, .int .i64 s, .int .i64 t] 86)).drew.cell? ⟨W.heap.size, 2, none⟩ = some (.int .i64 s) := cell_of_row _ _ 2 _ _ _ hb
    have e3 : (W.alloc (.cells #[.int .i64 g.id, .int .i64 i, .int .i64 s, .int .i64 t] 86)).drew.cell? ⟨W.heap.size, 3, none⟩ = some (.int .i64 t) := cell_of_row _ _ 3 _ _ _ hb
    refine bodyPost_ret (v := .agg #[.int .i64 g.id, .int .i64 i, .int .i64 s, .int .i64 t]) (by simp [results, Try.results109, go_sem, e0, e1, e2, e3]) rfl ⟨rfl, (bel_alloc (Below.refl W.heap.size W) _).drew⟩

set_option maxRecDepth 100000 in
set_option maxHeartbeats 1000000 in
theorem pgroupN_any {W : World} {d m : Nat} {g : GM} {a : Option Addr} {c : Nat} (h : LogG W d m g a c) : Calls Try.prog 52 #[.pointer (some ⟨d, 0, none⟩)] W fun e w' => ∃ va vc, e = .returned (g.val va vc) ∧ HasG w' va g ∧ g.l.length ≤ vc ∧ Below W.heap.size W w' ∧ ∀ k, inBlkE va g.l.length k → W.heap.size ≤ k := by
  obtain ⟨id, fi, te, ht, hv, hc, l⟩ := g
  have GC := Lib.hid (fun W' (hB : Below W.heap.size W W') => clone_ent a l.length c l rfl h.2.1 W' (h.2.2.below hB))
  have hm := h.2.1
  have hA0 := bel_alloc (Below.refl W.heap.size W) (.cells #[.int .i64 0, .int .i64 0, .int .i64 0, .int .i64 0, .int .i64 0, .int .i64 0, .slice none 0 0] 65)
  have hA := bel_alloc hA0 (.cells #[.int .i64 id, .int .i64 fi, .int .i64 te, .int .i64 ht, .int .i64 hv, .int .i64 hc, .slice a l.length c] 65)
  have q1 : ((W.alloc (.cells #[.int .i64 0, .int .i64 0, .int .i64 0, .int .i64 0, .int .i64 0, .int .i64 0, .slice none 0 0] 65)).alloc (.cells #[.int .i64 id, .int .i64 fi, .int .i64 te, .int .i64 ht, .int .i64 hv, .int .i64 hc, .slice a l.length c] 65)).heap[W.heap.size]? = some (.cells #[.int .i64 0, .int .i64 0, .int .i64 0, .int .i64 0, .int .i64 0, .int .i64 0, .slice none 0 0] 65 (0, 0)) := (Below.heap_alloc _ _ _ (by simp)).trans (World.alloc_heap_new W _)
  have q0 : ((W.alloc (.cells #[.int .i64 0, .int .i64 0, .int .i64 0, .int .i64 0, .int .i64 0, .int .i64 0, .slice none 0 0] 65)).alloc (.cells #[.int .i64 id, .int .i64 fi, .int .i64 te, .int .i64 ht, .int .i64 hv, .int .i64 hc, .slice a l.length c] 65)).heap[W.heap.size + 1]? = some (.cells #[.int .i64 id, .int .i64 fi, .int .i64 te, .int .i64 ht, .int .i64 hv, .int .i64 hc, .slice a l.length c] 65 (0, 0)) := by
    have := World.alloc_heap_new (W.alloc (.cells #[.int .i64 0, .int .i64 0, .int .i64 0, .int .i64 0, .int .i64 0, .int .i64 0, .slice none 0 0] 65)) (.cells #[.int .i64 id, .int .i64 fi, .int .i64 te, .int .i64 ht, .int .i64 hv, .int .i64 hc, .slice a l.length c] 65)
    rwa [World.size_alloc] at this
  obtain ⟨d0, d1, d2, d3, d4, d5, d6, d7⟩ := cells8 ((hA0.block _ (heap_lt h.1)).trans h.1)
  have HQ0 := Lib.hid q0
  have HQ1 := Lib.hid q1
  have HA := Lib.hid hA
  clear h q0 q1 hA hA0
  unfold GivesOwn at GC
  dsimp only [GM.val, logArr] at *
  go_enter Try.func52, Try.ntmps52
  go_wp2_with (go_at_call 82; ((with_reducible refine (GC.out _ HA.out).mono ?_); rintro e w2 ⟨v, rfl, hown, hB2⟩; obtain ⟨va, vc, rfl, hle, -⟩ := rowV_own hown; have hb0 := (hB2.block _ (heap_lt HQ0.out)).trans HQ0.out; have hb1 := (hB2.block _ (heap_lt HQ1.out)).trans HQ1.out; have H0 := Lib.hid hb0; have H1 := Lib.hid hb1; clear d0 d1 d2 d3 d4 d5 d6 d7; obtain ⟨g0, g1, g2, g3, g4, g5, g6, fg⟩ := cells7 hb0; obtain ⟨r0, r1, r2, r3, r4, r5, r6, fr⟩ := cells7 hb1; have HO := Lib.hid hown; have HB2 := Lib.hid hB2; clear hb0 hb1 hown hB2))
  clear g0 g1 g2 g3 g4 g5 g6 fg r0 r1 r2 r3 r4 r5 r6 fr
  have hb1' : (w2.setCell ⟨W.heap.size + 1, 6, none⟩ (.slice va l.length vc)).heap[W.heap.size]? = some (.cells #[.int .i64 0, .int .i64 0, .int .i64 0, .int .i64 0, .int .i64 0, .int .i64 0, .slice none 0 0] 65 (0, 0)) := (heap_setCell_other _ _ _ _ (by simp)).trans H1.out
  have hb7 := st7_block hb1' (.int .i64 id) (.int .i64 fi) (.int .i64 te) (.int .i64 ht) (.int .i64 hv) (.int .i64 hc) (.slice va l.length vc)
  have hF7 := (FrameT.setCell w2 (W.heap.size + 1) 6 (.slice va l.length vc)).mono (U := fun k => k = W.heap.size ∨ k = W.heap.size + 1) (fun k h => .inr h)
  have hF8 := hF7.trans ((st7_frame (w2.setCell ⟨W.heap.size + 1, 6, none⟩ (.slice va l.length vc)) W.heap.size (.int .i64 id) (.int .i64 fi) (.int .i64 te) (.int .i64 ht) (.int .i64 hv) (.int .i64 hc) (.slice va l.length vc)).mono (fun k h => .inl h))
  have hown2 := own_frame HO.out hF8 (fun k hk h => by simp at hk; rcases h with h | h <;> omega)
  have hbel0 := bel2 HA.out HB2.out
  have hbel := hbel0.trans (hF8.toBelow hbel0.size (fun k h => by rcases h with h | h <;> omega))
  obtain ⟨e0, e1, e2, e3, e4, e5, e6, -⟩ := cells7 hb7
  obtain ⟨va', vc', hx, -, hrow⟩ := rowV_own hown2
  cases hx
  refine bodyPost_ret (v := .agg #[.int .i64 id, .int .i64 fi, .int .i64 te, .int .i64 ht, .int .i64 hv, .int .i64 hc, .slice va l.length vc]) (by simp [results, Try.results52, go_sem, e0, e1, e2, e3, e4, e5, e6]) rfl ?_
  refine ⟨va, vc, rfl, ⟨hm, hrow⟩, hle, hbel, fun k hk => ?_⟩
  obtain ⟨k, off, e, h0, rfl⟩ := hk
  rcases hown2.2 with ⟨hv, _⟩ | ⟨g, cap, cur, hv, hg, _⟩
  · have h9 := (Value.slice.inj hv).1
    rw [h9] at e; cases e
  · have h9 := (Value.slice.inj hv).1
    rw [h9] at e
    cases e
    simp only [World.size_alloc] at hg
    omega
theorem pgroup_any {W : World} {d m : Nat} {g : GM} {a : Option Addr} {c : Nat} (h : LogG W d m g a c) : Calls Try.prog 52 #[.pointer (some ⟨d, 0, none⟩)] W fun e w' => ∃ va vc, e = .returned (g.val va vc) ∧ HasG w' va g ∧ g.l.length ≤ vc ∧ Below W.heap.size W w' :=
  (pgroupN_any h).mono (fun e w' ⟨va, vc, h1, h2, h3, h4, _⟩ => ⟨va, vc, h1, h2, h3, h4⟩)

end Go.Proofs.Ytdncdlbhgaehmaa
