/- Read6, ReadAny: in one text. -/
import Derived.Test.YtbhhbjgdkcfagaaReadP
import Derived.Test.YtbhhbjgdkcfagaaFwdAny
import Derived.RegionTactic
import Derived.Test.YtbhhbjgdkcfagaaRead0
import Derived.Test.YtbhhbjgdkcfagaaRead1
import Derived.Test.YtbhhbjgdkcfagaaRead2
import Derived.Test.YtbhhbjgdkcfagaaRead3
/- The contract of part.Read: kind 6. -/
namespace Go.Proofs.Ytbhhbjgdkcfagaa
open Go.RowKit Go.Shelf
set_option linter.unusedVariables false
attribute [local go_sem] Oper.semAt_some wide_fn wide_round_fn

set_option maxRecDepth 100000 in
set_option maxHeartbeats 8000000 in
theorem read6_any (s : ByteArray) (hs : s.size < 4611686018427387904) (w : World) (hk : (numTo s 6 (numM s ⟨0, 0⟩).2).1 = 6) :
    Calls Try.prog 58 #[.string s] w (ReadPost s w) := by
  have G1 := Lib.hid (fun W (hW : RdAt (w.heap.size + 1) s ⟨0, 0⟩ W) => number_any (w.heap.size + 1) s hs ⟨0, 0⟩ (rst0_ok s) W hW)
  have G2 := Lib.hid (fun W (hW : RdAt (w.heap.size + 1) s (numM s ⟨0, 0⟩).2 W) => numberTo_any (w.heap.size + 1) s hs 6 (numM s ⟨0, 0⟩).2 (numM_ok (rst0_ok s)) W hW)
  rw [hk] at G2
  replace G2 := Lib.hid (fun W (hW : RdAt (w.heap.size + 1) s (numM s ⟨0, 0⟩).2 W) => (show Reads 71 #[.pointer (some ⟨w.heap.size + 1, 0, none⟩), .int .i64 6] (w.heap.size + 1) s W (.int .i64 6) (numTo s 6 (numM s ⟨0, 0⟩).2).2 from G2.out W hW))
  have HQ := Lib.hid (show rawM s = bodyM s (numM s ⟨0, 0⟩).1 6 (numTo s 6 (numM s ⟨0, 0⟩).2).2 by unfold rawM; rw [hk])
  have hok2 : (numTo s 6 (numM s ⟨0, 0⟩).2).2.ok s := numTo_ok (numM_ok (rst0_ok s))
  clear hk
  have HZ : ((w.alloc (.cells #[.int .i64 0, .int .i64 0, .slice none 0 0, .int .i64 0, .int .i64 0, .int .i64 0, .int .i64 0, .int .i64 0, .bool false, .bool false] 30)).alloc (.cells #[.string s, .int .i64 0, .int .i64 0] 116)).heap[w.heap.size + 1]? = some (.cells #[.string s, .int .i64 0, .int .i64 0] 116 (0, 0)) := by have := World.alloc_heap_new (w.alloc (.cells #[.int .i64 0, .int .i64 0, .slice none 0 0, .int .i64 0, .int .i64 0, .int .i64 0, .int .i64 0, .int .i64 0, .bool false, .bool false] 30)) (.cells #[.string s, .int .i64 0, .int .i64 0] 116); rwa [World.size_alloc] at this
  have H0 : RdAt (w.heap.size + 1) s ⟨0, 0⟩ ((w.alloc (.cells #[.int .i64 0, .int .i64 0, .slice none 0 0, .int .i64 0, .int .i64 0, .int .i64 0, .int .i64 0, .int .i64 0, .bool false, .bool false] 30)).alloc (.cells #[.string s, .int .i64 0, .int .i64 0] 116)) := HZ
  clear HZ
  have hr0 : ((w.alloc (.cells #[.int .i64 0, .int .i64 0, .slice none 0 0, .int .i64 0, .int .i64 0, .int .i64 0, .int .i64 0, .int .i64 0, .bool false, .bool false] 30)).alloc (.cells #[.string s, .int .i64 0, .int .i64 0] 116)).heap[w.heap.size]? = some (.cells #[.int .i64 0, .int .i64 0, .slice none 0 0, .int .i64 0, .int .i64 0, .int .i64 0, .int .i64 0, .int .i64 0, .bool false, .bool false] 30 (0, 0)) := ((bel_alloc (Below.refl _ _) _).block _ (by simp)).trans (World.alloc_heap_new w _)
  have hBz : Below w.heap.size w ((w.alloc (.cells #[.int .i64 0, .int .i64 0, .slice none 0 0, .int .i64 0, .int .i64 0, .int .i64 0, .int .i64 0, .int .i64 0, .bool false, .bool false] 30)).alloc (.cells #[.string s, .int .i64 0, .int .i64 0] 116)) := bel_alloc (bel_alloc (Below.refl _ _) _) _
  have hBs : w.heap.size < ((w.alloc (.cells #[.int .i64 0, .int .i64 0, .slice none 0 0, .int .i64 0, .int .i64 0, .int .i64 0, .int .i64 0, .int .i64 0, .bool false, .bool false] 30)).alloc (.cells #[.string s, .int .i64 0, .int .i64 0] 116)).heap.size := by simp; omega
  have hBt : w.heap.size + 2 ≤ ((w.alloc (.cells #[.int .i64 0, .int .i64 0, .slice none 0 0, .int .i64 0, .int .i64 0, .int .i64 0, .int .i64 0, .int .i64 0, .bool false, .bool false] 30)).alloc (.cells #[.string s, .int .i64 0, .int .i64 0] 116)).heap.size := by simp
  have hxl := fwdM_len s (numM s ⟨0, 0⟩).1 (numTo s 6 (numM s ⟨0, 0⟩).2).2
  obtain ⟨hk6, hg6⟩ := fwdM_kind s (numM s ⟨0, 0⟩).1 (numTo s 6 (numM s ⟨0, 0⟩).2).2
  have GF := Lib.hid (fun W (hW : RdAt (w.heap.size + 1) s (numTo s 6 (numM s ⟨0, 0⟩).2).2 W) X (hX : X ≠ w.heap.size + 1) hp => (show Calls Try.prog 76 #[.pointer (some ⟨w.heap.size + 1, 0, none⟩), .pointer (some ⟨X, 0, none⟩)] W (fun e w' => e = .returned (.tuple #[]) ∧ RdAt (w.heap.size + 1) s (fwdM s (numM s ⟨0, 0⟩).1 (numTo s 6 (numM s ⟨0, 0⟩).2).2).2 w' ∧ (∃ a cap, w'.heap[X]? = some (.cells ((fwdM s (numM s ⟨0, 0⟩).1 (numTo s 6 (numM s ⟨0, 0⟩).2).2).1.part a cap).arr 30 (0, 0)) ∧ RowV w' a (fwdM s (numM s ⟨0, 0⟩).1 (numTo s 6 (numM s ⟨0, 0⟩).2).2).1.l.length 3 (entryCells (fwdM s (numM s ⟨0, 0⟩).1 (numTo s 6 (numM s ⟨0, 0⟩).2).2).1.l) ∧ ∀ k, inBlkE a (fwdM s (numM s ⟨0, 0⟩).1 (numTo s 6 (numM s ⟨0, 0⟩).2).2).1.l.length k → W.heap.size ≤ k) ∧ FrameT (fun k => k = w.heap.size + 1 ∨ k = X) W w') from forward_any (w.heap.size + 1) X s hs (numTo s 6 (numM s ⟨0, 0⟩).2).2 hok2 (numM s ⟨0, 0⟩).1 hX W hW hp))
  have HQ2 := Lib.hid (show bodyM s (numM s ⟨0, 0⟩).1 6 (numTo s 6 (numM s ⟨0, 0⟩).2).2 = (fwdM s (numM s ⟨0, 0⟩).1 (numTo s 6 (numM s ⟨0, 0⟩).2).2) from by simp [bodyM])
  rw [HQ2.out] at HQ
  clear HQ2 hok2
  generalize hR : (fwdM s (numM s ⟨0, 0⟩).1 (numTo s 6 (numM s ⟨0, 0⟩).2).2) = R3 at *
  generalize numTo s 6 (numM s ⟨0, 0⟩).2 = R2 at *
  generalize numM s ⟨0, 0⟩ = R1 at *
  clear hR
  obtain ⟨n1, s1⟩ := R1
  obtain ⟨m2, s2⟩ := R2
  obtain ⟨⟨g6, k6, xs, x1, x2, x3, xi, xt, mk, hd⟩, s3⟩ := R3
  obtain ⟨aF, eF⟩ := s3
  dsimp only [ReadC.part] at *
  subst hk6
  subst hg6
  by_cases he : eF = 0
  · subst he
    by_cases hI : isB (⟨n1, 6, none, xs.length, 0, x1, x2, x3, xi, xt, mk, hd⟩ : PartC) xs = true
    · have HE := Lib.hid (show errM (rawM s) = 0 by rw [errM, HQ.out]; simp only [ReadC.part]; rw [if_neg (by rintro ⟨_, h⟩; exact absurd (hI.symm.trans h) (by decide))])
      have hIa : ∀ (a : Option Addr) (c : Nat), isB (⟨n1, 6, a, xs.length, c, x1, x2, x3, xi, xt, mk, hd⟩ : PartC) xs = true := fun _ _ => (isB_addr _ _ _ _ _ _ _ _ _ _ _ _ _).trans hI
      have GI := Lib.hid (fun (a : Option Addr) (c : Nat) W (hE : HasE W (⟨n1, 6, a, xs.length, c, x1, x2, x3, xi, xt, mk, hd⟩ : PartC) xs) => is_any (⟨n1, 6, a, xs.length, c, x1, x2, x3, xi, xt, mk, hd⟩ : PartC) xs W hE)
      simp only [hIa] at GI
      clear hIa
      dsimp only [PartC.val] at GI
      clear hI
      go_enter Try.func58, Try.ntmps58
      go_wp2_with (first
        | (go_at_call 70; ((with_reducible refine (G1.out _ H0).mono ?_); rintro e w1 ⟨rfl, H1, hF⟩; have hr1 := hF.get hr0 (by omega); have hs1 := Nat.le_trans hBt hF.size; have hA1 := bel_alloc (Below.refl w1.heap.size w1) (.cells #[.int .i64 n1, .int .i64 0, .slice none 0 0, .int .i64 0, .int .i64 0, .int .i64 0, .int .i64 0, .int .i64 0, .bool false, .bool false] 30); have H1a : RdAt (w.heap.size + 1) s s1 (w1.alloc (.cells #[.int .i64 n1, .int .i64 0, .slice none 0 0, .int .i64 0, .int .i64 0, .int .i64 0, .int .i64 0, .int .i64 0, .bool false, .bool false] 30)) := H1.below hA1; have hr1a := (hA1.block _ (heap_ltP hr1)).trans hr1; have hp1 := World.alloc_heap_new w1 (.cells #[.int .i64 n1, .int .i64 0, .slice none 0 0, .int .i64 0, .int .i64 0, .int .i64 0, .int .i64 0, .int .i64 0, .bool false, .bool false] 30); have hB1 := ((hBz.trans (hF.toBelow (Nat.le_of_lt hBs) (fun k hk => by omega))).trans (hA1.mono (by omega))); clear hF hA1))
        | (go_at_call 71; ((with_reducible refine (G2.out _ H1a).mono ?_); rintro e w2 ⟨rfl, H2, hF⟩; have hX : w1.heap.size ≠ w.heap.size + 1 := (by omega); have hXr : w1.heap.size ≠ w.heap.size := (by omega); have hr2 := hF.get hr1a (by omega); have hp2 := hF.get hp1 hX; have hB2 := hB1.trans (hF.toBelow hB1.size (fun k hk => by omega)); have f0 := frozen_of_row _ _ 1 _ _ hp2; have k0 : w2.cell? ⟨w1.heap.size, 1, none⟩ = some (.int .i64 0) := cell_of_row _ _ 1 _ _ _ hp2; have hp2a := Go.Joins.block_setCell hp2 (.int .i64 6) (i := 1); simp only [List.setIfInBounds_toArray, List.set_cons_succ, List.set_cons_zero] at hp2a; have H2a : RdAt (w.heap.size + 1) s s2 (w2.setCell ⟨w1.heap.size, 1, none⟩ (.int .i64 6)) := (heap_setCell_other w2 ⟨w1.heap.size, 1, none⟩ (w.heap.size + 1) (.int .i64 6) (show w.heap.size + 1 ≠ w1.heap.size by omega)).trans H2; have hr2a := (heap_setCell_other w2 ⟨w1.heap.size, 1, none⟩ w.heap.size (.int .i64 6) (show w.heap.size ≠ w1.heap.size by omega)).trans hr2; have hB2a := hB2.setCell (p := ⟨w1.heap.size, 1, none⟩) (show w.heap.size ≤ w1.heap.size by omega) (.int .i64 6); clear hF; have f1 := frozen_of_row _ _ 1 _ _ hp2a; have k1 : (w2.setCell ⟨w1.heap.size, 1, none⟩ (.int .i64 6)).cell? ⟨w1.heap.size, 1, none⟩ = some (.int .i64 6) := cell_of_row _ _ 1 _ _ _ hp2a; skip))
        | (go_at_call 76; ((with_reducible refine (GF.out _ H2a _ hX hp2a).mono ?_); rintro e w3 ⟨rfl, H3, ⟨xa, xc, hp3, hrow, hoff⟩, hF⟩; have hs2 := heap_ltP hp2a; have hr3 := hF.get hr2a (by omega); have hB3 := hB2a.trans (hF.toBelow hB2a.size (fun k hk => by omega)); have hent : HasE w3 (⟨n1, 6, xa, xs.length, xc, x1, x2, x3, xi, xt, mk, hd⟩ : PartC) xs := ⟨rfl, (by dsimp only; omega), hrow⟩; have HM := Lib.hid (show MidW w s (w.heap.size + 1) w1.heap.size (⟨n1, 6, xa, xs.length, xc, x1, x2, x3, xi, xt, mk, hd⟩ : PartC) xs ⟨aF, 0⟩ w3 from ⟨H3, hp3, hr3, hent, fun k hk => by have := hoff k hk; omega, hB3⟩); obtain ⟨m1, m2, mf, y0, y1, y2, y3, y4, y5, y6, y7, y8, y9, r0, r1, r2, r3, r4, r5, r6, r7, r8, r9, v0, v1, v2, v3, v4, v5, v6, v7, v8, v9⟩ := HM.out.cells; dsimp only at m1 m2 y0 y1 y2 y3 y4 y5 y6 y7 y8 y9; clear hent hrow hF))
        | (go_at_call 19; ((with_reducible refine (GI.out _ _ _ HM.out.ent).mono ?_); rintro e w9 ⟨rfl, hB9⟩; have HM9 := Lib.hid (HM.out.after hB9); clear hB9 y0 r0 v0 y1 r1 v1 y2 r2 v2 y3 r3 v3 y4 r4 v4 y5 r5 v5 y6 r6 v6 y7 r7 v7 y8 r8 v8 y9 r9 v9 m1 m2 mf; obtain ⟨m1, m2, mf, y0, y1, y2, y3, y4, y5, y6, y7, y8, y9, r0, r1, r2, r3, r4, r5, r6, r7, r8, r9, v0, v1, v2, v3, v4, v5, v6, v7, v8, v9⟩ := HM9.out.cells; dsimp only at m1 m2 y0 y1 y2 y3 y4 y5 y6 y7 y8 y9)))
      go_region
      go_wp2
      have hq := st10_block (W := w9) HM9.out.res (.int .i64 n1) (.int .i64 6) (.slice xa xs.length xc) (.int .i64 x1) (.int .i64 x2) (.int .i64 x3) (.int .i64 xi) (.int .i64 xt) (.bool mk) (.bool hd)
      have hBF := Lib.hid ((st10_below HM9.out.below (Nat.le_refl _) (.int .i64 n1) (.int .i64 6) (.slice xa xs.length xc) (.int .i64 x1) (.int .i64 x2) (.int .i64 x3) (.int .i64 xi) (.int .i64 xt) (.bool mk) (.bool hd)).drew)
      have hEF := Lib.hid (HasE.put10 (R := w.heap.size) HM9.out.ent HM9.out.off (.int .i64 n1) (.int .i64 6) (.slice xa xs.length xc) (.int .i64 x1) (.int .i64 x2) (.int .i64 x3) (.int .i64 xi) (.int .i64 xt) (.bool mk) (.bool hd))
      have hOF := Lib.hid HM9.out.off
      simp only [st10] at hq hBF hEF
      have c0 := cell_of_row _ _ 0 _ _ _ hq; have c1 := cell_of_row _ _ 1 _ _ _ hq; have c2 := cell_of_row _ _ 2 _ _ _ hq; have c3 := cell_of_row _ _ 3 _ _ _ hq; have c4 := cell_of_row _ _ 4 _ _ _ hq; have c5 := cell_of_row _ _ 5 _ _ _ hq; have c6 := cell_of_row _ _ 6 _ _ _ hq; have c7 := cell_of_row _ _ 7 _ _ _ hq; have c8 := cell_of_row _ _ 8 _ _ _ hq; have c9 := cell_of_row _ _ 9 _ _ _ hq; simp only [List.getElem?_toArray, List.getElem?_cons_zero, List.getElem?_cons_succ] at c0 c1 c2 c3 c4 c5 c6 c7 c8 c9
      refine bodyPost_ret (v := .tuple #[.agg #[.int .i64 n1, .int .i64 6, .slice xa xs.length xc, .int .i64 x1, .int .i64 x2, .int .i64 x3, .int .i64 xi, .int .i64 xt, .bool mk, .bool hd], .int .i64 aF, .int .i64 0]) (by simp [results, Try.results58, go_sem, c0, c1, c2, c3, c4, c5, c6, c7, c8, c9]) rfl ?_
      exact readPost_ok (⟨n1, 6, xa, xs.length, xc, x1, x2, x3, xi, xt, mk, hd⟩ : PartC) xs aF HE.out (by rw [HQ.out]; rfl) (by rw [HQ.out]) (by rw [HQ.out]) rfl hEF.out hBF.out hOF.out
    · have hI := Bool.eq_false_iff.2 hI
      have HE := Lib.hid (show errM (rawM s) = 11 by rw [errM, HQ.out]; simp only [ReadC.part]; rw [if_pos ⟨trivial, hI⟩])
      have hIa : ∀ (a : Option Addr) (c : Nat), isB (⟨n1, 6, a, xs.length, c, x1, x2, x3, xi, xt, mk, hd⟩ : PartC) xs = false := fun _ _ => (isB_addr _ _ _ _ _ _ _ _ _ _ _ _ _).trans hI
      have GI := Lib.hid (fun (a : Option Addr) (c : Nat) W (hE : HasE W (⟨n1, 6, a, xs.length, c, x1, x2, x3, xi, xt, mk, hd⟩ : PartC) xs) => is_any (⟨n1, 6, a, xs.length, c, x1, x2, x3, xi, xt, mk, hd⟩ : PartC) xs W hE)
      simp only [hIa] at GI
      clear hIa
      dsimp only [PartC.val] at GI
      clear hI
      go_enter Try.func58, Try.ntmps58
      go_wp2_with (first
        | (go_at_call 70; ((with_reducible refine (G1.out _ H0).mono ?_); rintro e w1 ⟨rfl, H1, hF⟩; have hr1 := hF.get hr0 (by omega); have hs1 := Nat.le_trans hBt hF.size; have hA1 := bel_alloc (Below.refl w1.heap.size w1) (.cells #[.int .i64 n1, .int .i64 0, .slice none 0 0, .int .i64 0, .int .i64 0, .int .i64 0, .int .i64 0, .int .i64 0, .bool false, .bool false] 30); have H1a : RdAt (w.heap.size + 1) s s1 (w1.alloc (.cells #[.int .i64 n1, .int .i64 0, .slice none 0 0, .int .i64 0, .int .i64 0, .int .i64 0, .int .i64 0, .int .i64 0, .bool false, .bool false] 30)) := H1.below hA1; have hr1a := (hA1.block _ (heap_ltP hr1)).trans hr1; have hp1 := World.alloc_heap_new w1 (.cells #[.int .i64 n1, .int .i64 0, .slice none 0 0, .int .i64 0, .int .i64 0, .int .i64 0, .int .i64 0, .int .i64 0, .bool false, .bool false] 30); have hB1 := ((hBz.trans (hF.toBelow (Nat.le_of_lt hBs) (fun k hk => by omega))).trans (hA1.mono (by omega))); clear hF hA1))
        | (go_at_call 71; ((with_reducible refine (G2.out _ H1a).mono ?_); rintro e w2 ⟨rfl, H2, hF⟩; have hX : w1.heap.size ≠ w.heap.size + 1 := (by omega); have hXr : w1.heap.size ≠ w.heap.size := (by omega); have hr2 := hF.get hr1a (by omega); have hp2 := hF.get hp1 hX; have hB2 := hB1.trans (hF.toBelow hB1.size (fun k hk => by omega)); have f0 := frozen_of_row _ _ 1 _ _ hp2; have k0 : w2.cell? ⟨w1.heap.size, 1, none⟩ = some (.int .i64 0) := cell_of_row _ _ 1 _ _ _ hp2; have hp2a := Go.Joins.block_setCell hp2 (.int .i64 6) (i := 1); simp only [List.setIfInBounds_toArray, List.set_cons_succ, List.set_cons_zero] at hp2a; have H2a : RdAt (w.heap.size + 1) s s2 (w2.setCell ⟨w1.heap.size, 1, none⟩ (.int .i64 6)) := (heap_setCell_other w2 ⟨w1.heap.size, 1, none⟩ (w.heap.size + 1) (.int .i64 6) (show w.heap.size + 1 ≠ w1.heap.size by omega)).trans H2; have hr2a := (heap_setCell_other w2 ⟨w1.heap.size, 1, none⟩ w.heap.size (.int .i64 6) (show w.heap.size ≠ w1.heap.size by omega)).trans hr2; have hB2a := hB2.setCell (p := ⟨w1.heap.size, 1, none⟩) (show w.heap.size ≤ w1.heap.size by omega) (.int .i64 6); clear hF; have f1 := frozen_of_row _ _ 1 _ _ hp2a; have k1 : (w2.setCell ⟨w1.heap.size, 1, none⟩ (.int .i64 6)).cell? ⟨w1.heap.size, 1, none⟩ = some (.int .i64 6) := cell_of_row _ _ 1 _ _ _ hp2a; skip))
        | (go_at_call 76; ((with_reducible refine (GF.out _ H2a _ hX hp2a).mono ?_); rintro e w3 ⟨rfl, H3, ⟨xa, xc, hp3, hrow, hoff⟩, hF⟩; have hs2 := heap_ltP hp2a; have hr3 := hF.get hr2a (by omega); have hB3 := hB2a.trans (hF.toBelow hB2a.size (fun k hk => by omega)); have hent : HasE w3 (⟨n1, 6, xa, xs.length, xc, x1, x2, x3, xi, xt, mk, hd⟩ : PartC) xs := ⟨rfl, (by dsimp only; omega), hrow⟩; have HM := Lib.hid (show MidW w s (w.heap.size + 1) w1.heap.size (⟨n1, 6, xa, xs.length, xc, x1, x2, x3, xi, xt, mk, hd⟩ : PartC) xs ⟨aF, 0⟩ w3 from ⟨H3, hp3, hr3, hent, fun k hk => by have := hoff k hk; omega, hB3⟩); obtain ⟨m1, m2, mf, y0, y1, y2, y3, y4, y5, y6, y7, y8, y9, r0, r1, r2, r3, r4, r5, r6, r7, r8, r9, v0, v1, v2, v3, v4, v5, v6, v7, v8, v9⟩ := HM.out.cells; dsimp only at m1 m2 y0 y1 y2 y3 y4 y5 y6 y7 y8 y9; clear hent hrow hF))
        | (go_at_call 19; ((with_reducible refine (GI.out _ _ _ HM.out.ent).mono ?_); rintro e w9 ⟨rfl, hB9⟩; have HM9 := Lib.hid (HM.out.after hB9); clear hB9 y0 r0 v0 y1 r1 v1 y2 r2 v2 y3 r3 v3 y4 r4 v4 y5 r5 v5 y6 r6 v6 y7 r7 v7 y8 r8 v8 y9 r9 v9 m1 m2 mf; obtain ⟨m1, m2, mf, y0, y1, y2, y3, y4, y5, y6, y7, y8, y9, r0, r1, r2, r3, r4, r5, r6, r7, r8, r9, v0, v1, v2, v3, v4, v5, v6, v7, v8, v9⟩ := HM9.out.cells; dsimp only at m1 m2 y0 y1 y2 y3 y4 y5 y6 y7 y8 y9)))
      go_region
      go_wp2
      have hq := st10_block (W := w9.setCell ⟨w.heap.size + 1, 2, none⟩ (.int .i64 11)) ((heap_setCell_other w9 ⟨w.heap.size + 1, 2, none⟩ w.heap.size (.int .i64 11) (show w.heap.size ≠ w.heap.size + 1 by omega)).trans HM9.out.res) (.int .i64 0) (.int .i64 0) (.slice none 0 0) (.int .i64 0) (.int .i64 0) (.int .i64 0) (.int .i64 0) (.int .i64 0) (.bool false) (.bool false)
      have hBF := Lib.hid ((st10_below (HM9.out.below.setCell (p := ⟨w.heap.size + 1, 2, none⟩) (Nat.le_succ _) (.int .i64 11)) (Nat.le_refl _) (.int .i64 0) (.int .i64 0) (.slice none 0 0) (.int .i64 0) (.int .i64 0) (.int .i64 0) (.int .i64 0) (.int .i64 0) (.bool false) (.bool false)).drew)
      simp only [st10] at hq hBF
      have c0 := cell_of_row _ _ 0 _ _ _ hq; have c1 := cell_of_row _ _ 1 _ _ _ hq; have c2 := cell_of_row _ _ 2 _ _ _ hq; have c3 := cell_of_row _ _ 3 _ _ _ hq; have c4 := cell_of_row _ _ 4 _ _ _ hq; have c5 := cell_of_row _ _ 5 _ _ _ hq; have c6 := cell_of_row _ _ 6 _ _ _ hq; have c7 := cell_of_row _ _ 7 _ _ _ hq; have c8 := cell_of_row _ _ 8 _ _ _ hq; have c9 := cell_of_row _ _ 9 _ _ _ hq; simp only [List.getElem?_toArray, List.getElem?_cons_zero, List.getElem?_cons_succ] at c0 c1 c2 c3 c4 c5 c6 c7 c8 c9
      refine bodyPost_ret (v := .tuple #[.agg #[.int .i64 0, .int .i64 0, .slice none 0 0, .int .i64 0, .int .i64 0, .int .i64 0, .int .i64 0, .int .i64 0, .bool false, .bool false], .int .i64 0, .int .i64 11]) (by simp [results, Try.results58, go_sem, c0, c1, c2, c3, c4, c5, c6, c7, c8, c9]) rfl ?_
      exact readPost_err 11 HE.out (by decide) rfl hBF.out
  · have HE := Lib.hid (show errM (rawM s) = eF by rw [errM, HQ.out]; dsimp only; rw [if_neg (by rintro ⟨h, _⟩; exact he h)])
    have he1 : (0 : Int) < (eF : Int) := by omega
    have HN := Lib.hid he
    clear he
    go_enter Try.func58, Try.ntmps58
    go_wp2_with (first
      | (go_at_call 70; ((with_reducible refine (G1.out _ H0).mono ?_); rintro e w1 ⟨rfl, H1, hF⟩; have hr1 := hF.get hr0 (by omega); have hs1 := Nat.le_trans hBt hF.size; have hA1 := bel_alloc (Below.refl w1.heap.size w1) (.cells #[.int .i64 n1, .int .i64 0, .slice none 0 0, .int .i64 0, .int .i64 0, .int .i64 0, .int .i64 0, .int .i64 0, .bool false, .bool false] 30); have H1a : RdAt (w.heap.size + 1) s s1 (w1.alloc (.cells #[.int .i64 n1, .int .i64 0, .slice none 0 0, .int .i64 0, .int .i64 0, .int .i64 0, .int .i64 0, .int .i64 0, .bool false, .bool false] 30)) := H1.below hA1; have hr1a := (hA1.block _ (heap_ltP hr1)).trans hr1; have hp1 := World.alloc_heap_new w1 (.cells #[.int .i64 n1, .int .i64 0, .slice none 0 0, .int .i64 0, .int .i64 0, .int .i64 0, .int .i64 0, .int .i64 0, .bool false, .bool false] 30); have hB1 := ((hBz.trans (hF.toBelow (Nat.le_of_lt hBs) (fun k hk => by omega))).trans (hA1.mono (by omega))); clear hF hA1))
      | (go_at_call 71; ((with_reducible refine (G2.out _ H1a).mono ?_); rintro e w2 ⟨rfl, H2, hF⟩; have hX : w1.heap.size ≠ w.heap.size + 1 := (by omega); have hXr : w1.heap.size ≠ w.heap.size := (by omega); have hr2 := hF.get hr1a (by omega); have hp2 := hF.get hp1 hX; have hB2 := hB1.trans (hF.toBelow hB1.size (fun k hk => by omega)); have f0 := frozen_of_row _ _ 1 _ _ hp2; have k0 : w2.cell? ⟨w1.heap.size, 1, none⟩ = some (.int .i64 0) := cell_of_row _ _ 1 _ _ _ hp2; have hp2a := Go.Joins.block_setCell hp2 (.int .i64 6) (i := 1); simp only [List.setIfInBounds_toArray, List.set_cons_succ, List.set_cons_zero] at hp2a; have H2a : RdAt (w.heap.size + 1) s s2 (w2.setCell ⟨w1.heap.size, 1, none⟩ (.int .i64 6)) := (heap_setCell_other w2 ⟨w1.heap.size, 1, none⟩ (w.heap.size + 1) (.int .i64 6) (show w.heap.size + 1 ≠ w1.heap.size by omega)).trans H2; have hr2a := (heap_setCell_other w2 ⟨w1.heap.size, 1, none⟩ w.heap.size (.int .i64 6) (show w.heap.size ≠ w1.heap.size by omega)).trans hr2; have hB2a := hB2.setCell (p := ⟨w1.heap.size, 1, none⟩) (show w.heap.size ≤ w1.heap.size by omega) (.int .i64 6); clear hF; have f1 := frozen_of_row _ _ 1 _ _ hp2a; have k1 : (w2.setCell ⟨w1.heap.size, 1, none⟩ (.int .i64 6)).cell? ⟨w1.heap.size, 1, none⟩ = some (.int .i64 6) := cell_of_row _ _ 1 _ _ _ hp2a; skip))
      | (go_at_call 76; ((with_reducible refine (GF.out _ H2a _ hX hp2a).mono ?_); rintro e w3 ⟨rfl, H3, ⟨xa, xc, hp3, hrow, hoff⟩, hF⟩; have hs2 := heap_ltP hp2a; have hr3 := hF.get hr2a (by omega); have hB3 := hB2a.trans (hF.toBelow hB2a.size (fun k hk => by omega)); have hent : HasE w3 (⟨n1, 6, xa, xs.length, xc, x1, x2, x3, xi, xt, mk, hd⟩ : PartC) xs := ⟨rfl, (by dsimp only; omega), hrow⟩; have HM := Lib.hid (show MidW w s (w.heap.size + 1) w1.heap.size (⟨n1, 6, xa, xs.length, xc, x1, x2, x3, xi, xt, mk, hd⟩ : PartC) xs ⟨aF, eF⟩ w3 from ⟨H3, hp3, hr3, hent, fun k hk => by have := hoff k hk; omega, hB3⟩); obtain ⟨m1, m2, mf, y0, y1, y2, y3, y4, y5, y6, y7, y8, y9, r0, r1, r2, r3, r4, r5, r6, r7, r8, r9, v0, v1, v2, v3, v4, v5, v6, v7, v8, v9⟩ := HM.out.cells; dsimp only at m1 m2 y0 y1 y2 y3 y4 y5 y6 y7 y8 y9; clear hent hrow hF)))
    go_region
    go_wp2
    have hq := st10_block (W := w3) HM.out.res (.int .i64 0) (.int .i64 0) (.slice none 0 0) (.int .i64 0) (.int .i64 0) (.int .i64 0) (.int .i64 0) (.int .i64 0) (.bool false) (.bool false)
    have hBF := Lib.hid ((st10_below HM.out.below (Nat.le_refl _) (.int .i64 0) (.int .i64 0) (.slice none 0 0) (.int .i64 0) (.int .i64 0) (.int .i64 0) (.int .i64 0) (.int .i64 0) (.bool false) (.bool false)).drew)
    simp only [st10] at hq hBF
    have c0 := cell_of_row _ _ 0 _ _ _ hq; have c1 := cell_of_row _ _ 1 _ _ _ hq; have c2 := cell_of_row _ _ 2 _ _ _ hq; have c3 := cell_of_row _ _ 3 _ _ _ hq; have c4 := cell_of_row _ _ 4 _ _ _ hq; have c5 := cell_of_row _ _ 5 _ _ _ hq; have c6 := cell_of_row _ _ 6 _ _ _ hq; have c7 := cell_of_row _ _ 7 _ _ _ hq; have c8 := cell_of_row _ _ 8 _ _ _ hq; have c9 := cell_of_row _ _ 9 _ _ _ hq; simp only [List.getElem?_toArray, List.getElem?_cons_zero, List.getElem?_cons_succ] at c0 c1 c2 c3 c4 c5 c6 c7 c8 c9
    refine bodyPost_ret (v := .tuple #[.agg #[.int .i64 0, .int .i64 0, .slice none 0 0, .int .i64 0, .int .i64 0, .int .i64 0, .int .i64 0, .int .i64 0, .bool false, .bool false], .int .i64 0, .int .i64 eF]) (by simp [results, Try.results58, go_sem, c0, c1, c2, c3, c4, c5, c6, c7, c8, c9]) rfl ?_
    exact readPost_err eF HE.out HN.out rfl hBF.out

end Go.Proofs.Ytbhhbjgdkcfagaa

/- The contract of part.Read. -/
namespace Go.Proofs.Ytbhhbjgdkcfagaa
open Go.RowKit Go.Shelf
set_option linter.unusedVariables false

theorem partRead_any (s : ByteArray) (hs : s.size < 4611686018427387904) (w : World) : Calls Try.prog 58 #[.string s] w (ReadPost s w) := by
  have h := numTo_le s 6 (numM s ⟨0, 0⟩).2
  rcases (by omega : (numTo s 6 (numM s ⟨0, 0⟩).2).1 = 0 ∨ (numTo s 6 (numM s ⟨0, 0⟩).2).1 = 1 ∨ (numTo s 6 (numM s ⟨0, 0⟩).2).1 = 2 ∨ (numTo s 6 (numM s ⟨0, 0⟩).2).1 = 3 ∨ (numTo s 6 (numM s ⟨0, 0⟩).2).1 = 4 ∨ (numTo s 6 (numM s ⟨0, 0⟩).2).1 = 5 ∨ (numTo s 6 (numM s ⟨0, 0⟩).2).1 = 6) with h | h | h | h | h | h | h
  · exact read0_any s hs w h
  · exact read1_any s hs w h
  · exact read2_any s hs w h
  · exact read3_any s hs w h
  · exact read4_any s hs w h
  · exact read5_any s hs w h
  · exact read6_any s hs w h

theorem partRead_new (s : ByteArray) (r : ReadC) (n e : Nat) (hs : s.size < 4611686018427387904) (h : readM s = (r, n, e)) (w : World) :
    Calls Try.prog 58 #[.string s] w fun en w' => ∃ a cap, en = .returned (.tuple #[(r.part a cap).val, .int .i64 n, .int .i64 e]) ∧ HasE w' (r.part a cap) r.l ∧ Below w.heap.size w w' ∧ ∀ k, inBlkE a r.l.length k → w.heap.size < k := by
  have := partRead_any s hs w
  unfold ReadPost at this
  rwa [h] at this
theorem partRead_at (s : ByteArray) (r : ReadC) (n e : Nat) (hs : s.size < 4611686018427387904) (h : readM s = (r, n, e)) (w : World) :
    Calls Try.prog 58 #[.string s] w fun en w' => ∃ a cap, en = .returned (.tuple #[(r.part a cap).val, .int .i64 n, .int .i64 e]) ∧ HasE w' (r.part a cap) r.l ∧ Below w.heap.size w w' :=
  (partRead_new s r n e hs h w).mono fun _ _ ⟨a, c, h1, h2, h3, _⟩ => ⟨a, c, h1, h2, h3⟩

end Go.Proofs.Ytbhhbjgdkcfagaa
