/- What the laws of package shard hold by themselves: the example. -/
import Derived.Test.YtdncdlbhgaehmaaShdS
import Derived.Test.YtdncdlbhgaehmaaPartSame
namespace Go.Proofs.Ytdncdlbhgaehmaa
open Go.RowKit Go.Shelf
set_option linter.unusedVariables false
attribute [local go_sem] Oper.semAt_some wide_fn wide_round_fn

/-- The fields of a record that was found. -/
theorem fnew_at {C : Nat} {w W : World} {a : Option Addr} {len : Nat} {L : List FV} (h : FNew C w a len L) (hB : Below w.heap.size w W) {k : Nat} (hk : k < L.length) :
    ∃ b off, a = some ⟨b, off, none⟩ ∧ b < w.heap.size ∧ W.cell? ⟨b, off + k * 4, none⟩ = some (.int .i64 L[k].q) ∧ W.cell? ⟨b, off + k * 4 + 1, none⟩ = some (.slice L[k].a L[k].len L[k].cap) ∧ W.cell? ⟨b, off + k * 4 + 2, none⟩ = some (.int .i64 L[k].s) ∧ W.cell? ⟨b, off + k * 4 + 3, none⟩ = some (.int .i64 L[k].t) := by
  obtain ⟨b, off, rfl, hb, hx⟩ := h.2.2.1.2.2 (by have := h.1; omega)
  exact ⟨b, off, rfl, hb, fv_at4 hb hB hx hk⟩
theorem shRow_at {W : World} {R : Nat} {Sh : List SV} (h : W.heap[R]? = some (.cells (Sh.map SV.val).toArray 22 (0, 0))) {k : Nat} (hk : k < Sh.length) : W.cell? ⟨R, k, none⟩ = some Sh[k].val := by
  rw [Lib.cell_of_heap h]
  simp [hk]
def bq (g k : Int) : PartC := ⟨g, k, none, 0, 0, 0, 0, 0, 0, 0, false, false⟩
def k18F (b : Nat) : FV := ⟨4, some ⟨b, 0, none⟩, 2, 2, [(bq 1 5, []), (bq 2 5, [])], 3, 16⟩
theorem k18_at (w : World) : FoundsAt ((w.alloc (.cells #[.int .i64 1, .int .i64 5, .slice none 0 0, .int .i64 0, .int .i64 0, .int .i64 0, .int .i64 0, .int .i64 0, .bool false, .bool false, .int .i64 2, .int .i64 5, .slice none 0 0, .int .i64 0, .int .i64 0, .int .i64 0, .int .i64 0, .int .i64 0, .bool false, .bool false] 41)).alloc (.cells #[.int .i64 4, .slice (some ⟨w.heap.size, 0, none⟩) 2 2, .int .i64 3, .int .i64 16] 36)) (some ⟨w.heap.size + 1, 0, none⟩) 1 [k18F w.heap.size] := by
  have hr := rowV_new (w.alloc (.cells #[.int .i64 1, .int .i64 5, .slice none 0 0, .int .i64 0, .int .i64 0, .int .i64 0, .int .i64 0, .int .i64 0, .bool false, .bool false, .int .i64 2, .int .i64 5, .slice none 0 0, .int .i64 0, .int .i64 0, .int .i64 0, .int .i64 0, .int .i64 0, .bool false, .bool false] 41)) 36 #[.int .i64 4, .slice (some ⟨w.heap.size, 0, none⟩) 2 2, .int .i64 3, .int .i64 16] 1 4 rfl (by decide)
  rw [show (w.alloc (.cells #[.int .i64 1, .int .i64 5, .slice none 0 0, .int .i64 0, .int .i64 0, .int .i64 0, .int .i64 0, .int .i64 0, .bool false, .bool false, .int .i64 2, .int .i64 5, .slice none 0 0, .int .i64 0, .int .i64 0, .int .i64 0, .int .i64 0, .int .i64 0, .bool false, .bool false] 41)).heap.size = w.heap.size + 1 by simp] at hr
  refine ⟨rfl, by decide, hr, fun x hx => ?_⟩
  rw [List.mem_singleton.1 hx]
  refine ⟨HasP.below ⟨rfl, by show 2 < 1000000; decide, rowV_new w 41 _ 2 10 rfl (by decide), fun y hy => ?_⟩ (bel_alloc (Below.refl _ _) _), fun y hy => ?_⟩
  · rcases List.mem_cons.1 hy with rfl | hy
    · exact hasE_nil rfl rfl
    · rw [List.mem_singleton.1 hy]; exact hasE_nil rfl rfl
  · rcases List.mem_cons.1 hy with rfl | hy
    · exact ⟨by show (-9223372036854775808 : Int) ≤ 1; decide, by show (1 : Int) < _; decide⟩
    · rw [List.mem_singleton.1 hy]; exact ⟨by show (-9223372036854775808 : Int) ≤ 2; decide, by show (2 : Int) < _; decide⟩
def k18C : FC := ⟨4, [core (bq 1 5, []), core (bq 2 5, [])], 3, 16⟩
theorem one_of_map {L : List FV} {c : FC} (h : L.map fcore = [c]) : ∃ x, L = [x] ∧ fcore x = c := by
  match L, h with
  | [x], h => exact ⟨x, rfl, by simpa using h⟩
theorem onep_of_map {L : List PL} {c : ReadC} (h : L.map core = [c]) : ∃ x, L = [x] ∧ core x = c := by
  match L, h with
  | [x], h => exact ⟨x, rfl, by simpa using h⟩
/-- What is asked of Split's answer. -/
def K18P (R b0 o0 c0 b1 o1 c1 pb po pn pc : Nat) (W : World) : Prop := W.cell? ⟨R, 0, none⟩ = some (.slice (some ⟨b0, o0, none⟩) 1 c0) ∧ W.cell? ⟨R, 1, none⟩ = some (.slice (some ⟨b1, o1, none⟩) 1 c1) ∧ W.cell? ⟨b0, o0 + 1, none⟩ = some (.slice (some ⟨pb, po, none⟩) 1 pc) ∧ W.cell? ⟨pb, po, none⟩ = some (.int .i64 2) ∧ W.cell? ⟨b1, o1, none⟩ = some (.int .i64 4) ∧ W.cell? ⟨b1, o1 + 2, none⟩ = some (.int .i64 3) ∧ W.cell? ⟨b1, o1 + 3, none⟩ = some (.int .i64 16)
theorem k18_post {W w' : World} {e : Ending} (h : SplitPost 2 [k18C] W e w') : ∃ R b0 o0 c0 b1 o1 c1 pb po pn pc, e = .returned (.slice (some ⟨R, 0, none⟩) 2 2) ∧ K18P R b0 o0 c0 b1 o1 c1 pb po pn pc w' ∧ Below W.heap.size W w' ∧ R < w'.heap.size ∧ b0 < w'.heap.size ∧ b1 < w'.heap.size ∧ pb < w'.heap.size := by
  obtain ⟨R, Sh, rfl, hl, hR, _, hd, hB⟩ := h
  have hl2 : Sh.length = 2 := by
    have : heldI 2 = 2 := by kernel_rfl
    omega
  have d0 := hd 0 (by omega)
  have d1 := hd 1 (by omega)
  have r0 := shRow_at hR (k := 0) (by omega)
  have r1 := shRow_at hR (k := 1) (by omega)
  rw [show splitC ((0 : Nat) : Int) 2 [k18C] = [⟨4, [core (bq 2 5, [])], 3, 16⟩] by kernel_rfl] at d0
  rw [show splitC ((1 : Nat) : Int) 2 [k18C] = [⟨4, [core (bq 1 5, [])], 3, 16⟩] by kernel_rfl] at d1
  obtain ⟨f0, e0, g0⟩ := one_of_map d0.2.2
  obtain ⟨f1, e1, g1⟩ := one_of_map d1.2.2
  have n0 := d0.1
  have n1 := d1.1
  rw [e0] at n0
  rw [e1] at n1
  obtain ⟨b0, o0, a0, l0, q0, p0, s0, t0⟩ := fnew_at n0 (Below.refl _ _) (k := 0) (by show 0 < 1; decide)
  obtain ⟨b1, o1, a1, l1, q1, p1, s1, t1⟩ := fnew_at n1 (Below.refl _ _) (k := 0) (by show 0 < 1; decide)
  obtain ⟨x0, i0, j0⟩ := onep_of_map (show f0.L.map core = [core (bq 2 5, [])] from congrArg FC.ps g0)
  have hp := (n0.2.2.2.2 f0 (by simp)).1
  have hln : f0.len = 1 := by rw [← hp.1, i0]; rfl
  obtain ⟨pb, po, pa, pl, px⟩ := hp.2.2.1.2.2 (by omega)
  have pg := (part_at10 pl (Below.refl _ _) px (k := 0) (by rw [i0]; exact Nat.zero_lt_one)).1
  have hg2 : x0.1.g = 2 := congrArg ReadC.g j0
  simp only [List.getElem_cons_zero, Nat.zero_mul, Nat.add_zero] at q0 p0 s0 t0 q1 p1 s1 t1 pg
  have v0 : Sh[0].val = .slice (some ⟨b0, o0, none⟩) 1 Sh[0].c := by show Value.slice Sh[0].a Sh[0].L.length Sh[0].c = _; rw [a0, e0]; rfl
  have v1 : Sh[1].val = .slice (some ⟨b1, o1, none⟩) 1 Sh[1].c := by show Value.slice Sh[1].a Sh[1].L.length Sh[1].c = _; rw [a1, e1]; rfl
  have x2 : (f0.L[0]'(by rw [i0]; exact Nat.zero_lt_one)).1.g = 2 := by simp only [i0, List.getElem_cons_zero]; exact hg2
  rw [v0] at r0
  rw [v1] at r1
  rw [x2] at pg
  rw [pa, hln] at p0
  rw [show f1.q = 4 from congrArg FC.q g1] at q1
  rw [show f1.s = 3 from congrArg FC.s g1] at s1
  rw [show f1.t = 16 from congrArg FC.t g1] at t1
  exact ⟨R, b0, o0, _, b1, o1, _, pb, po, 0, _, by rw [hl2], ⟨r0, r1, p0, pg, q1, s1, t1⟩, hB, heap_lt hR, l0, l1, pl⟩

theorem K18P.below {R b0 o0 c0 b1 o1 c1 pb po pn pc : Nat} {W W' : World} (h : K18P R b0 o0 c0 b1 o1 c1 pb po pn pc W) (hl : R < W.heap.size ∧ b0 < W.heap.size ∧ b1 < W.heap.size ∧ pb < W.heap.size) (hB : Below W.heap.size W W') : K18P R b0 o0 c0 b1 o1 c1 pb po pn pc W' :=
  ⟨(hB.cell (p := ⟨R, 0, none⟩) hl.1).trans h.1, (hB.cell (p := ⟨R, 1, none⟩) hl.1).trans h.2.1, (hB.cell (p := ⟨b0, o0 + 1, none⟩) hl.2.1).trans h.2.2.1, (hB.cell (p := ⟨pb, po, none⟩) hl.2.2.2).trans h.2.2.2.1, (hB.cell (p := ⟨b1, o1, none⟩) hl.2.2.1).trans h.2.2.2.2.1, (hB.cell (p := ⟨b1, o1 + 2, none⟩) hl.2.2.1).trans h.2.2.2.2.2.1, (hB.cell (p := ⟨b1, o1 + 3, none⟩) hl.2.2.1).trans h.2.2.2.2.2.2⟩
theorem foundsAt_nil (W : World) (a : Option Addr) : FoundsAt W a 0 [] := ⟨rfl, by decide, RowV.nil _ _ _, fun x hx => by cases hx⟩
theorem split_nil99 (W : World) : Calls Try.prog 12 #[.slice none 0 0, .int .i64 99] W fun e w' => ∃ q, e = .returned (.slice (some ⟨q, 0, none⟩) 64 64) ∧ Below W.heap.size W w' := by
  refine (split_any 99 none 0 0 [] W (foundsAt_nil W none)).mono ?_
  rintro e w' ⟨R, Sh, rfl, hl, _, _, _, hB⟩
  have h : heldI 99 = 64 := by kernel_rfl
  have hl2 : Sh.length = 64 := by omega
  exact ⟨R, by rw [hl2], hB⟩
set_option maxRecDepth 100000 in
set_option maxHeartbeats 8000000 in
theorem known18_any (w : World) : Gives Try.prog 10 #[] w (.bool true) := by
  have HF := Lib.hid (k18_at w)
  have hBl := bel_alloc (bel_alloc (Below.refl w.heap.size w) (.cells #[.int .i64 1, .int .i64 5, .slice none 0 0, .int .i64 0, .int .i64 0, .int .i64 0, .int .i64 0, .int .i64 0, .bool false, .bool false, .int .i64 2, .int .i64 5, .slice none 0 0, .int .i64 0, .int .i64 0, .int .i64 0, .int .i64 0, .int .i64 0, .bool false, .bool false] 41)) (.cells #[.int .i64 4, .slice (some ⟨w.heap.size, 0, none⟩) 2 2, .int .i64 3, .int .i64 16] 36)
  have hrow := two_b w #[.int .i64 1, .int .i64 5, .slice none 0 0, .int .i64 0, .int .i64 0, .int .i64 0, .int .i64 0, .int .i64 0, .bool false, .bool false, .int .i64 2, .int .i64 5, .slice none 0 0, .int .i64 0, .int .i64 0, .int .i64 0, .int .i64 0, .int .i64 0, .bool false, .bool false] #[.int .i64 4, .slice (some ⟨w.heap.size, 0, none⟩) 2 2, .int .i64 3, .int .i64 16] 41 36
  have HB0 := Lib.hid hBl
  have HR0 := Lib.hid hrow
  have GS := Lib.hid (fun W (h : FoundsAt W (some ⟨w.heap.size + 1, 0, none⟩) 1 [k18F w.heap.size]) => (split_any 2 (some ⟨w.heap.size + 1, 0, none⟩) 1 1 _ W h).mono fun e w' h => k18_post h)
  have GN := Lib.hid split_nil99
  have GO := Lib.hid (fun W => (show Gives Try.prog 15 #[.int .i64 5, .int .i64 2] W (.int .i64 1) from by
    have := shOf_any 5 2 ⟨by decide, by decide⟩ W
    rwa [show shOf 5 2 = 1 by kernel_rfl] at this))
  clear hBl hrow
  unfold Gives
  go_enter Try.func10, Try.ntmps10
  go_wp2_with (go_at_call 12; ((with_reducible refine (GS.out _ HF.out).mono ?_); rintro e w1 ⟨R, b0, o0, c0, b1, o1, c1, pb, po, pn, pc, rfl, hK, hB1, hl1, hl2, hl3, hl4⟩; have HK := Lib.hid hK; have HL := Lib.hid (And.intro hl1 (And.intro hl2 (And.intro hl3 hl4))); have HB1 := Lib.hid hB1; clear hK hB1 hl1 hl2 hl3 hl4))
  have hRw := (HB1.out.block _ (heap_lt HR0.out)).trans HR0.out
  have HC := Lib.hid (fun W' (hW : Below w1.heap.size w1 W') => (show W'.cell? ⟨R, 0, none⟩ = some (.slice (some ⟨b0, o0, none⟩) 1 c0) ∧ W'.cell? ⟨R, 1, none⟩ = some (.slice (some ⟨b1, o1, none⟩) 1 c1) ∧ W'.cell? ⟨b0, o0 + 1, none⟩ = some (.slice (some ⟨pb, po, none⟩) 1 pc) ∧ W'.cell? ⟨pb, po, none⟩ = some (.int .i64 2) ∧ W'.cell? ⟨b1, o1, none⟩ = some (.int .i64 4) ∧ W'.cell? ⟨b1, o1 + 2, none⟩ = some (.int .i64 3) ∧ W'.cell? ⟨b1, o1 + 3, none⟩ = some (.int .i64 16) ∧ W'.cell? ⟨w.heap.size + 1, 2, none⟩ = some (.int .i64 3) ∧ W'.cell? ⟨w.heap.size + 1, 3, none⟩ = some (.int .i64 16) from by
    obtain ⟨a0, a1, a2, a3, a4, a5, a6⟩ := HK.out.below HL.out hW
    have hr := (hW.block _ (heap_lt hRw)).trans hRw
    exact ⟨a0, a1, a2, a3, a4, a5, a6, cell_of_row _ _ 2 _ _ _ hr, cell_of_row _ _ 3 _ _ _ hr⟩))
  obtain ⟨k0, k1, k2, k3, k4, k5, k6, k7, k8⟩ := HC.out w1 (Below.refl _ _)
  clear hRw
  go_region_held3 (fun W' => W'.cell? ⟨R, 0, none⟩ = some (.slice (some ⟨b0, o0, none⟩) 1 c0) ∧ W'.cell? ⟨R, 1, none⟩ = some (.slice (some ⟨b1, o1, none⟩) 1 c1) ∧ W'.cell? ⟨b0, o0 + 1, none⟩ = some (.slice (some ⟨pb, po, none⟩) 1 pc) ∧ W'.cell? ⟨pb, po, none⟩ = some (.int .i64 2) ∧ W'.cell? ⟨b1, o1, none⟩ = some (.int .i64 4) ∧ W'.cell? ⟨b1, o1 + 2, none⟩ = some (.int .i64 3) ∧ W'.cell? ⟨b1, o1 + 3, none⟩ = some (.int .i64 16) ∧ W'.cell? ⟨w.heap.size + 1, 2, none⟩ = some (.int .i64 3) ∧ W'.cell? ⟨w.heap.size + 1, 3, none⟩ = some (.int .i64 16)) (go_keep) (first
    | (go_at_call 15; ((with_reducible refine (GO.out _).mono ?_); rintro e w2 ⟨rfl, hB2⟩; have hX2 : Below w1.heap.size w1 w2 := (by first | exact hB2 | exact bel2 (Below.refl _ _).drew hB2); obtain ⟨y0, y1, y2, y3, y4, y5, y6, y7, y8⟩ := HC.out w2 hX2))
    | (go_at_call 12; ((with_reducible refine (GN.out _).mono ?_); rintro e w3 ⟨q, rfl, hB3⟩; have hX3 : Below w1.heap.size w1 w3 := (by first | exact bel2 hX2 hB3 | exact bel2 hX2.drew hB3); obtain ⟨z0, z1, z2, z3, z4, z5, z6, z7, z8⟩ := HC.out w3 hX3)))
  have hend := bel2 (bel2 HB0.out HB1.out) hX3
  go_wp2
  go_ret
  exact ⟨rfl, hend⟩

end Go.Proofs.Ytdncdlbhgaehmaa
