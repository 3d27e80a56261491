/- ManD, ManO: in one text. -/
import Derived.Test.YthedmemkckclpaaGreatMan
import Derived.StillTailTactics
import Derived.Test.YthedmemkckclpaaGreatManI
import Derived.Deep.RegionHeld3
/- (*Many).do: one part done to the groups. -/
namespace Go.Proofs.YthedmemkckclpaaGreat
open Go.RowKit Go.Shelf
set_option linter.unusedVariables false
attribute [local go_sem] Oper.semAt_some wide_fn wide_round_fn

theorem wf64 {n : Int} (h : -9223372036854775808 ≤ n ∧ n < 9223372036854775808) : (Lit.int .i64 n).wf = true := by
  simp [Lit.wf, IntKind.min, IntKind.max, IntKind.signed, IntKind.bits]; omega
/-- What a part leaves: the map has turned, nothing else. -/
def StepM (W : World) (d m : Nat) (F : List GV) (L' : List GM) (W' : World) : Prop := ∃ F', ManAt W' d m F' ∧ F'.map GV.g = L' ∧ FrameT (fun k => k = m) W W' ∧ ∀ y ∈ F', y ∈ F ∨ ∀ k, inG y k → W.heap.size ≤ k
theorem stepM_same {W W' : World} {d m : Nat} {F : List GV} (h : ManAt W d m F) (hB : Below W.heap.size W W') : StepM W d m F (F.map GV.g) W' := ⟨F, h.below hB, rfl, FrameT.below hB, fun y hy => .inl hy⟩
theorem ManAt.ne {W : World} {d m : Nat} {F : List GV} (h : ManAt W d m F) : d ≠ m := fun e => by
  obtain ⟨es, clock, hb⟩ := h.2.block
  rw [← e, h.1] at hb; cases hb
theorem frame_turned {w w' : World} {m : Nat} (h : w.mapTurned w' m) : FrameT (fun k => k = m) w w' := gframe_map h.grown
theorem stepM_del {W w1 w2 : World} {d m : Nat} {F : List GV} (h : ManAt W d m F) (hB : Below W.heap.size W w1) (s : Int) {n' : Nat} (hm : w2.ownsMap Tryz.prog 3 valElem m n' ((gmap F).del (.int .i64 s))) (hF : FrameT (fun k => k = m) w1 w2) : StepM W d m F (delZ GM.id (F.map GV.g) s) w2 := by
  have h1 := h.below hB
  refine ⟨delZ GV.id F s, ⟨hF.get h1.1 h1.ne, h1.2.del s hm hF⟩, delZ_map (g := GV.g) (nm := GV.id) (nb := GM.id) (fun _ => rfl) F s, (FrameT.below hB).trans hF, fun y hy => .inl (mem_delZ.1 hy).1⟩
theorem stepM_put {W w1 w2 : World} {d m : Nat} {F : List GV} (h : ManAt W d m F) (hB : Below W.heap.size W w1) (x : GV) (hx : HasG w1 x.a x.g) (hnew : ∀ k, inG x k → W.heap.size ≤ k) {n' : Nat} (hm : w2.ownsMap Tryz.prog 3 valElem m n' ((gmap F).put (.int .i64 x.id) (.held x.val))) (hF : FrameT (fun k => k = m) w1 w2) : StepM W d m F (putZ GM.id x.g (F.map GV.g)) w2 := by
  have h1 := h.below hB
  refine ⟨putZ GV.id x F, ⟨hF.get h1.1 h1.ne, h1.2.put x hx hm hF⟩, putZ_map (g := GV.g) (nm := GV.id) (nb := GM.id) (fun _ => rfl) x F, (FrameT.below hB).trans hF, fun y hy => by
    rcases mem_putZ.1 hy with rfl | ⟨hy, _⟩
    · exact .inr hnew
    · exact .inl hy⟩
theorem two_m (w : World) (A B : Array Value) (T U : TypeId) : ((w.alloc (.cells A T)).alloc (.cells B U)).heap[w.heap.size]? = some (.cells A T (0, 0)) ∧ ((w.alloc (.cells A T)).alloc (.cells B U)).heap[w.heap.size + 1]? = some (.cells B U (0, 0)) := by
  have h1 := World.alloc_heap_new w (.cells A T)
  have h2 := World.alloc_heap_new (w.alloc (.cells A T)) (.cells B U)
  rw [World.size_alloc] at h2
  exact ⟨(Below.heap_alloc _ _ _ (by simp)).trans h1, h2⟩
set_option maxRecDepth 100000 in
set_option maxHeartbeats 1000000 in
theorem mdo_ref {W : World} {d m : Nat} {F : List GV} (h : ManAt W d m F) (x : PL) (hx : HasE W x.1 x.2) (g : GM) (ga : Option Addr) (gc : Nat) (b : Bool) (hr : refP x = true) :
    Calls Tryz.prog 51 #[.pointer (some ⟨d, 0, none⟩), x.1.val, g.val ga gc, .bool b] W fun e w' => e = .returned (.int .i64 11) ∧ Below W.heap.size W w' := by
  have GR := Lib.hid (fun W' (hB : Below W.heap.size W W') => refused_any x.1 x.2 W' (hx.below hB))
  rw [show refP (x.1, x.2) = true from hr] at GR
  obtain ⟨⟨pg, pk, pa, len, cap, pht, phv, phc, i, t, pm, ph⟩, l⟩ := x
  obtain ⟨id, fi, te, ht, hv, hc, gl⟩ := g
  dsimp only [GM.val, PartC.val] at *
  obtain ⟨q0, q1⟩ := two_m W #[.int .i64 pg, .int .i64 pk, .slice pa len cap, .int .i64 pht, .int .i64 phv, .int .i64 phc, .int .i64 i, .int .i64 t, .bool pm, .bool ph] #[.int .i64 id, .int .i64 fi, .int .i64 te, .int .i64 ht, .int .i64 hv, .int .i64 hc, .slice ga gl.length gc] 30 39
  have hA := bel_alloc (bel_alloc (Below.refl W.heap.size W) (.cells #[.int .i64 pg, .int .i64 pk, .slice pa len cap, .int .i64 pht, .int .i64 phv, .int .i64 phc, .int .i64 i, .int .i64 t, .bool pm, .bool ph] 30)) (.cells #[.int .i64 id, .int .i64 fi, .int .i64 te, .int .i64 ht, .int .i64 hv, .int .i64 hc, .slice ga gl.length gc] 39)
  obtain ⟨p0, p1, p2, p3, p4, p5, p6, p7, p8, p9⟩ := arr10q q0
  have HA := Lib.hid hA
  clear h hx hr q0 q1 hA
  unfold Gives at *
  go_enter Tryz.func51, Tryz.ntmps51
  go_wp2_with (go_at_call 35; ((with_reducible refine (GR.out _ HA.out).mono ?_); rintro e w1 ⟨rfl, hB1⟩))
  go_ret
  exact ⟨rfl, bel2 HA.out hB1⟩
set_option maxRecDepth 100000 in
set_option maxHeartbeats 1000000 in
/-- A compaction, a destruction of a group that isn't there. -/
theorem mdo_none {W : World} {d m : Nat} {F : List GV} (h : ManAt W d m F) (x : PL) (hx : HasE W x.1 x.2) (g : GM) (ga : Option Addr) (gc : Nat) (hr : refP x = false) (hk : x.1.k = 3 ∨ x.1.k = 5) :
    Calls Tryz.prog 51 #[.pointer (some ⟨d, 0, none⟩), x.1.val, g.val ga gc, .bool false] W fun e w' => e = .returned (.int .i64 13) ∧ Below W.heap.size W w' := by
  have GR := Lib.hid (fun W' (hB : Below W.heap.size W W') => refused_any x.1 x.2 W' (hx.below hB))
  rw [show refP (x.1, x.2) = false from hr] at GR
  obtain ⟨⟨pg, pk, pa, len, cap, pht, phv, phc, i, t, pm, ph⟩, l⟩ := x
  obtain ⟨id, fi, te, ht, hv, hc, gl⟩ := g
  dsimp only [GM.val, PartC.val] at *
  obtain ⟨q0, q1⟩ := two_m W #[.int .i64 pg, .int .i64 pk, .slice pa len cap, .int .i64 pht, .int .i64 phv, .int .i64 phc, .int .i64 i, .int .i64 t, .bool pm, .bool ph] #[.int .i64 id, .int .i64 fi, .int .i64 te, .int .i64 ht, .int .i64 hv, .int .i64 hc, .slice ga gl.length gc] 30 39
  have hA := bel_alloc (bel_alloc (Below.refl W.heap.size W) (.cells #[.int .i64 pg, .int .i64 pk, .slice pa len cap, .int .i64 pht, .int .i64 phv, .int .i64 phc, .int .i64 i, .int .i64 t, .bool pm, .bool ph] 30)) (.cells #[.int .i64 id, .int .i64 fi, .int .i64 te, .int .i64 ht, .int .i64 hv, .int .i64 hc, .slice ga gl.length gc] 39)
  obtain ⟨p0, p1, p2, p3, p4, p5, p6, p7, p8, p9⟩ := arr10q q0
  have HA := Lib.hid hA
  have HQ := Lib.hid q0
  clear h hx hr q0 q1 hA
  unfold Gives at *
  rcases hk with rfl | rfl
  all_goals
    go_enter Tryz.func51, Tryz.ntmps51
    go_wp2_with (go_at_call 35; ((with_reducible refine (GR.out _ HA.out).mono ?_); rintro e w1 ⟨rfl, hB1⟩; clear p0 p1 p2 p3 p4 p5 p6 p7 p8 p9; obtain ⟨p0, p1, p2, p3, p4, p5, p6, p7, p8, p9⟩ := arr10q ((hB1.block _ (heap_lt HQ.out)).trans HQ.out)))
    go_ret
    exact ⟨rfl, bel2 HA.out hB1⟩
set_option maxRecDepth 100000 in
set_option maxHeartbeats 1000000 in
/-- A group is destroyed. -/
theorem mdo_del {W : World} {d m : Nat} {F : List GV} (h : ManAt W d m F) (x : PL) (hx : HasE W x.1 x.2) (g : GM) (ga : Option Addr) (gc : Nat) (hr : refP x = false) (hk : x.1.k = 5) :
    Calls Tryz.prog 51 #[.pointer (some ⟨d, 0, none⟩), x.1.val, g.val ga gc, .bool true] W fun e w' => e = .returned (.int .i64 0) ∧ StepM W d m F (delZ GM.id (F.map GV.g) x.1.g) w' := by
  have GR := Lib.hid (fun W' (hB : Below W.heap.size W W') => refused_any x.1 x.2 W' (hx.below hB))
  rw [show refP (x.1, x.2) = false from hr] at GR
  have hgid := isB_gid (refP_no hr).1
  obtain ⟨⟨pg, pk, pa, len, cap, pht, phv, phc, i, t, pm, ph⟩, l⟩ := x
  obtain ⟨id, fi, te, ht, hv, hc, gl⟩ := g
  dsimp only [GM.val, PartC.val] at *
  subst hk
  obtain ⟨q0, q1⟩ := two_m W #[.int .i64 pg, .int .i64 5, .slice pa len cap, .int .i64 pht, .int .i64 phv, .int .i64 phc, .int .i64 i, .int .i64 t, .bool pm, .bool ph] #[.int .i64 id, .int .i64 fi, .int .i64 te, .int .i64 ht, .int .i64 hv, .int .i64 hc, .slice ga gl.length gc] 30 39
  have hA := bel_alloc (bel_alloc (Below.refl W.heap.size W) (.cells #[.int .i64 pg, .int .i64 5, .slice pa len cap, .int .i64 pht, .int .i64 phv, .int .i64 phc, .int .i64 i, .int .i64 t, .bool pm, .bool ph] 30)) (.cells #[.int .i64 id, .int .i64 fi, .int .i64 te, .int .i64 ht, .int .i64 hv, .int .i64 hc, .slice ga gl.length gc] 39)
  obtain ⟨p0, p1, p2, p3, p4, p5, p6, p7, p8, p9⟩ := arr10q q0
  have HA := Lib.hid hA
  have HQ := Lib.hid q0
  have HM := Lib.hid h
  have HSt := Lib.hid (fun w1 w2 (hB : Below W.heap.size W w1) n' hm hF => stepM_del h (w1 := w1) (w2 := w2) hB pg (n' := n') hm hF)
  have hkey := Maps.keyOf_int_mk Tryz.underlying3 (wf64 (n := pg) ⟨by omega, by omega⟩)
  clear h hx hr q0 q1 hA hgid
  unfold Gives at *
  go_enter Tryz.func51, Tryz.ntmps51
  go_wp2_with (go_at_call 35; ((with_reducible refine (GR.out _ HA.out).mono ?_); rintro e w1 ⟨rfl, hB1⟩; clear p0 p1 p2 p3 p4 p5 p6 p7 p8 p9; obtain ⟨p0, p1, p2, p3, p4, p5, p6, p7, p8, p9⟩ := arr10q ((hB1.block _ (heap_lt HQ.out)).trans HQ.out); have hM1 := Lib.hid (HM.out.below (bel2 HA.out hB1)); have c0 := cell_of_row w1 d 0 _ _ _ hM1.out.1))
  go_still_tail 6, (by kernel_rfl)
  change wpList _ _ _ _ _ w1.drew
  have hown := Lib.hid hM1.out.2.map.drew
  go_wp2_with (at_delete; refine wpList_delete_own _ rfl _ _ 40 3 rfl 39 lawG Tryz.underlying40 valElem m F.length (gmap F) rfl hown.out _ _ rfl hkey ?_; intro w2 hown2 hturn2)
  go_ret
  exact ⟨rfl, HSt.out w1.drew w2 (bel2 HA.out hB1).drew _ hown2 (frame_turned hturn2)⟩
theorem manE_no {L : List GM} {x : PL} (hr : refP x = true) : manE L x = 11 := by unfold manE manE1; rw [if_pos hr]
set_option maxRecDepth 100000 in
set_option maxHeartbeats 2000000 in
/-- A part that is done by the group. -/
theorem mdo_put {W : World} {d m : Nat} {F : List GV} (h : ManAt W d m F) (hF : F.length < 100000) (x : PL) (hx : HasE W x.1 x.2) (g : GM) (ga : Option Addr) (gc : Nat) (hg : HasG W ga g) (hG : isG g = true) (hgl : g.l.length ≤ 100000) (hid : (doG g x.1 x.2).id = x.1.g) (hr : refP x = false) (b : Bool) (hk : b = true ∨ x.1.k ≠ 3) (hk5 : x.1.k ≠ 5) :
    Calls Tryz.prog 51 #[.pointer (some ⟨d, 0, none⟩), x.1.val, g.val ga gc, .bool b] W fun e w' => e = .returned (.int .i64 (chkG g x.1 x.2)) ∧ StepM W d m F (if chkG g x.1 x.2 = 0 then putZ GM.id (doG g x.1 x.2) (F.map GV.g) else F.map GV.g) w' := by
  have GR := Lib.hid (fun W' (hB : Below W.heap.size W W') => refused_any x.1 x.2 W' (hx.below hB))
  rw [show refP (x.1, x.2) = false from hr] at GR
  have hgid := isB_gid (refP_no hr).1
  have GD := Lib.hid (fun W' (hB : Below W.heap.size W W') => do_any g.id g.fi g.te g.ht g.hv g.hc g.l ga gc x.1.g x.1.k x.1.a x.1.len x.1.cap x.1.ht x.1.hv x.1.hc x.1.i x.1.t x.1.m x.1.h x.2 W' (hg.below hB) hG (hx.below hB) hgl)
  obtain ⟨⟨pg, pk, pa, len, cap, pht, phv, phc, i, t, pm, ph⟩, l⟩ := x
  obtain ⟨id, fi, te, ht, hv, hc, gl⟩ := g
  dsimp only [GM.val, PartC.val] at *
  generalize chkG ⟨id, fi, te, ht, hv, hc, gl⟩ ⟨pg, pk, pa, len, cap, pht, phv, phc, i, t, pm, ph⟩ l = ce at *
  generalize doG ⟨id, fi, te, ht, hv, hc, gl⟩ ⟨pg, pk, pa, len, cap, pht, phv, phc, i, t, pm, ph⟩ l = D at *
  obtain ⟨q0, q1⟩ := two_m W #[.int .i64 pg, .int .i64 pk, .slice pa len cap, .int .i64 pht, .int .i64 phv, .int .i64 phc, .int .i64 i, .int .i64 t, .bool pm, .bool ph] #[.int .i64 id, .int .i64 fi, .int .i64 te, .int .i64 ht, .int .i64 hv, .int .i64 hc, .slice ga gl.length gc] 30 39
  have hA := bel_alloc (bel_alloc (Below.refl W.heap.size W) (.cells #[.int .i64 pg, .int .i64 pk, .slice pa len cap, .int .i64 pht, .int .i64 phv, .int .i64 phc, .int .i64 i, .int .i64 t, .bool pm, .bool ph] 30)) (.cells #[.int .i64 id, .int .i64 fi, .int .i64 te, .int .i64 ht, .int .i64 hv, .int .i64 hc, .slice ga gl.length gc] 39)
  obtain ⟨p0, p1, p2, p3, p4, p5, p6, p7, p8, p9⟩ := arr10q q0
  have HA := Lib.hid hA
  have HQ := Lib.hid q0
  have HQ1 := Lib.hid q1
  have HM := Lib.hid h
  have HSt := Lib.hid (fun w1 w2 (hB : Below W.heap.size W w1) (y : GV) hy hnew n' hm hF => stepM_put h (w1 := w1) (w2 := w2) hB y hy hnew (n' := n') hm hF)
  have HS0 := Lib.hid (fun w1 (hB : Below W.heap.size W w1) => stepM_same h hB)
  have hkey := Maps.keyOf_int_mk Tryz.underlying3 (wf64 (n := pg) ⟨by omega, by omega⟩)
  have hk5' : (pk == 5) = false := by rw [beq_eq_false_iff_ne]; exact hk5
  have HID := Lib.hid hid
  have hFm : F.length < maxLen := by unfold maxLen; omega
  have hk3 : b = true ∨ (b = false ∧ (pk == 3) = false) := by
    cases b
    · right
      rcases hk with h | h
      · cases h
      · exact ⟨rfl, by rw [beq_eq_false_iff_ne]; exact h⟩
    · exact .inl rfl
  clear h hx hr q0 q1 hA hgid hg hG hgl hid hk hk5 hF
  unfold Gives at *
  obtain ⟨id', fi', te', ht', hv', hc', gl'⟩ := D
  unfold DoPost at GD
  dsimp only at *
  obtain rfl : id' = pg := HID.out
  by_cases hce : ce = 0
  · rw [if_pos hce]
    subst hce
    rcases hk3 with rfl | ⟨rfl, hk3⟩
    all_goals
      go_enter Tryz.func51, Tryz.ntmps51
      go_wp2_with (first
        | (go_at_call 35; ((with_reducible refine (GR.out _ HA.out).mono ?_); rintro e w1 ⟨rfl, hB1⟩; clear p0 p1 p2 p3 p4 p5 p6 p7 p8 p9; have hb1 := Lib.hid ((hB1.block _ (heap_lt HQ.out)).trans HQ.out); have hg1 := Lib.hid ((hB1.block _ (heap_lt HQ1.out)).trans HQ1.out); obtain ⟨p0, p1, p2, p3, p4, p5, p6, p7, p8, p9⟩ := arr10q hb1.out; obtain ⟨g0, g1, g2, g3, g4, g5, g6, fg⟩ := cells7 hg1.out; have hA1 := bel2 HA.out hB1))
        | (go_at_call 68; ((with_reducible refine (GD.out _ hA1).mono ?_); rintro e w2 ⟨a', c', rfl, hG', hB2, hnew⟩; clear p0 p1 p2 p3 p4 p5 p6 p7 p8 p9 g0 g1 g2 g3 g4 g5 g6 fg; have hA2 := bel2 hA1 hB2; have hb2 := Lib.hid ((hB2.block _ (heap_lt hb1.out)).trans hb1.out); have hg2 := Lib.hid ((hB2.block _ (heap_lt hg1.out)).trans hg1.out); obtain ⟨p0, p1, p2, p3, p4, p5, p6, p7, p8, p9⟩ := arr10q hb2.out; obtain ⟨g0, g1, g2, g3, g4, g5, g6, fg⟩ := cells7 hg2.out)))
      clear p0 p1 p2 p3 p4 p5 p6 p7 p8 p9 g0 g1 g2 g3 g4 g5 g6 fg
      have hg3 := Lib.hid (st7_block hg2.out (.int .i64 id') (.int .i64 fi') (.int .i64 te') (.int .i64 ht') (.int .i64 hv') (.int .i64 hc') (.slice a' gl'.length c'))
      have hF3 := Lib.hid (st7_frame w2 (W.heap.size + 1) (.int .i64 id') (.int .i64 fi') (.int .i64 te') (.int .i64 ht') (.int .i64 hv') (.int .i64 hc') (.slice a' gl'.length c'))
      change Code.wp _ _ _ _ (st7 w2 (W.heap.size + 1) (.int .i64 id') (.int .i64 fi') (.int .i64 te') (.int .i64 ht') (.int .i64 hv') (.int .i64 hc') (.slice a' gl'.length c'))
      generalize st7 w2 (W.heap.size + 1) (.int .i64 id') (.int .i64 fi') (.int .i64 te') (.int .i64 ht') (.int .i64 hv') (.int .i64 hc') (.slice a' gl'.length c') = w3 at *
      have hlt1 := heap_lt hg1.out
      have hG3 := Lib.hid (hasG_frame hG' hF3.out (fun k hk e => by have := hnew k hk; omega))
      have hB3 := Lib.hid (hA2.trans (hF3.out.toBelow hA2.size (fun k h => by omega)))
      have hM3 := Lib.hid (HM.out.below hB3.out)
      have hb3 := hF3.out.get hb2.out (by show ¬ W.heap.size = W.heap.size + 1; omega)
      obtain ⟨p0, p1, p2, p3, p4, p5, p6, p7, p8, p9⟩ := arr10q hb3
      obtain ⟨g0, g1, g2, g3, g4, g5, g6, fg⟩ := cells7 hg3.out
      have c0 := cell_of_row w3 d 0 _ _ _ hM3.out.1
      have HNew := Lib.hid (show ∀ k, inBlkE a' gl'.length k → W.heap.size ≤ k from fun k hk => Nat.le_trans hA1.size (hnew k hk))
      clear hb3 hnew hG' hB2 hA2 hA1 hB1 hlt1
      go_still_tail 7, (by kernel_rfl)
      change wpList _ _ _ _ _ w3.drew
      have hown := Lib.hid hM3.out.2.map.drew
      go_wp2_with (at_mapUpdate; refine wpList_mapUpdate_own _ rfl _ _ _ 40 rfl 3 39 lawG Tryz.underlying40 valElem m F.length (gmap F) rfl hown.out hFm _ (.agg #[.int .i64 id', .int .i64 fi', .int .i64 te', .int .i64 ht', .int .i64 hv', .int .i64 hc', .slice a' gl'.length c']) _ rfl rfl hkey _ [] rfl ?_; intro w4 hown4 hgrow4)
      go_ret
      exact ⟨rfl, HSt.out w3.drew w4 hB3.out.drew ⟨⟨id', fi', te', ht', hv', hc', gl'⟩, a', c'⟩ hG3.out HNew.out _ hown4 (gframe_map hgrow4)⟩
  · rw [if_neg hce]
    have hce' : (ce == 0) = false := by rw [beq_eq_false_iff_ne]; exact hce
    clear hce
    rcases hk3 with rfl | ⟨rfl, hk3⟩
    all_goals
      go_enter Tryz.func51, Tryz.ntmps51
      go_wp2_with (first
        | (go_at_call 35; ((with_reducible refine (GR.out _ HA.out).mono ?_); rintro e w1 ⟨rfl, hB1⟩; clear p0 p1 p2 p3 p4 p5 p6 p7 p8 p9; have hb1 := Lib.hid ((hB1.block _ (heap_lt HQ.out)).trans HQ.out); have hg1 := Lib.hid ((hB1.block _ (heap_lt HQ1.out)).trans HQ1.out); obtain ⟨p0, p1, p2, p3, p4, p5, p6, p7, p8, p9⟩ := arr10q hb1.out; obtain ⟨g0, g1, g2, g3, g4, g5, g6, fg⟩ := cells7 hg1.out; have hA1 := bel2 HA.out hB1))
        | (go_at_call 68; ((with_reducible refine (GD.out _ hA1).mono ?_); rintro e w2 ⟨a', c', rfl, hG', hB2, -⟩; clear p0 p1 p2 p3 p4 p5 p6 p7 p8 p9 g0 g1 g2 g3 g4 g5 g6 fg; have hA2 := bel2 hA1 hB2; have hb2 := Lib.hid ((hB2.block _ (heap_lt hb1.out)).trans hb1.out); have hg2 := Lib.hid ((hB2.block _ (heap_lt hg1.out)).trans hg1.out); obtain ⟨p0, p1, p2, p3, p4, p5, p6, p7, p8, p9⟩ := arr10q hb2.out; obtain ⟨g0, g1, g2, g3, g4, g5, g6, fg⟩ := cells7 hg2.out)))
      go_ret
      refine ⟨rfl, HS0.out _ (hA2.trans ((st7_frame w2 (W.heap.size + 1) _ _ _ _ _ _ _).toBelow hA2.size (fun k h => by omega)))⟩

/-- (*Many).do at whatever part. -/
theorem mdo_any {N : Nat} {W : World} {d m : Nat} {F : List GV} (h : ManAt W d m F) (hN : manOK N (F.map GV.g)) (hN5 : N ≤ 100000) (x : PL) (hx : HasE W x.1 x.2) (ga : Option Addr) (gc : Nat) (hg : HasG W ga (manG (F.map GV.g) x.1.g)) :
    Calls Tryz.prog 51 #[.pointer (some ⟨d, 0, none⟩), x.1.val, (manG (F.map GV.g) x.1.g).val ga gc, .bool (getZ GM.id (F.map GV.g) x.1.g).isSome] W fun e w' => e = .returned (.int .i64 (manE (F.map GV.g) x)) ∧ StepM W d m F (manD (F.map GV.g) x) w' := by
  have hlen := manOK_len hN
  rw [List.length_map] at hlen
  cases hr : refP x
  · have hb := (refP_no hr).1
    obtain ⟨g1, g2, g3⟩ := manG_ok hN (isB_gid hb)
    by_cases hn : (getZ GM.id (F.map GV.g) x.1.g).isNone = true ∧ (x.1.k = 3 ∨ x.1.k = 5)
    · have hE : manE (F.map GV.g) x = 13 := by unfold manE manE1; rw [hr, if_neg (by simp), if_pos hn]
      have hD : manD (F.map GV.g) x = F.map GV.g := by unfold manD; rw [if_pos (by rw [hE]; decide)]
      rw [hE, hD, show (getZ GM.id (F.map GV.g) x.1.g).isSome = false by have := hn.1; cases e : getZ GM.id (F.map GV.g) x.1.g with | none => rfl | some y => rw [e] at this; cases this]
      refine (mdo_none h x hx _ ga gc hr hn.2).mono ?_
      rintro e w' ⟨rfl, hB⟩
      exact ⟨rfl, stepM_same h hB⟩
    · by_cases hk : x.1.k = 5
      · have hs : (getZ GM.id (F.map GV.g) x.1.g).isSome = true := by
          cases e : getZ GM.id (F.map GV.g) x.1.g with
          | none => exact absurd ⟨by rw [e]; rfl, .inr hk⟩ hn
          | some y => rfl
        have hE : manE (F.map GV.g) x = 0 := by unfold manE manE1; rw [hr, if_neg (by simp), if_neg hn, if_pos hk]
        have hD : manD (F.map GV.g) x = delZ GM.id (F.map GV.g) x.1.g := by unfold manD; rw [if_neg (by rw [hE]; decide), if_pos hk]
        rw [hE, hD, hs]
        exact mdo_del h x hx _ ga gc hr hk
      · have hE : manE (F.map GV.g) x = chkG (manG (F.map GV.g) x.1.g) x.1 x.2 := by unfold manE manE1; rw [hr, if_neg (by simp), if_neg hn, if_neg hk]; rfl
        have hD : manD (F.map GV.g) x = if chkG (manG (F.map GV.g) x.1.g) x.1 x.2 = 0 then putZ GM.id (doG (manG (F.map GV.g) x.1.g) x.1 x.2) (F.map GV.g) else F.map GV.g := by
          unfold manD
          rw [hE]
          by_cases h0 : chkG (manG (F.map GV.g) x.1.g) x.1 x.2 = 0
          · rw [if_neg (by rw [h0]; decide), if_neg hk, if_pos h0]
          · rw [if_pos h0, if_neg h0]
        rw [hE, hD]
        refine mdo_put h (by omega) x hx _ ga gc hg g1 (by omega) (doG_id hN hN5 hx.1 hb) hr _ ?_ hk
        cases e : getZ GM.id (F.map GV.g) x.1.g with
        | none => right; intro h3; exact hn ⟨by rw [e]; rfl, .inl h3⟩
        | some y => exact .inl rfl
  · have hE : manE (F.map GV.g) x = 11 := manE_no hr
    have hD : manD (F.map GV.g) x = F.map GV.g := by unfold manD; rw [if_pos (by rw [hE]; decide)]
    rw [hE, hD]
    refine (mdo_ref h x hx _ ga gc _ hr).mono ?_
    rintro e w' ⟨rfl, hB⟩
    exact ⟨rfl, stepM_same h hB⟩

end Go.Proofs.YthedmemkckclpaaGreat

/- many.Of: of each number the first group that is one. -/
namespace Go.Proofs.YthedmemkckclpaaGreat
open Go.RowKit Go.Shelf
set_option linter.unusedVariables false
attribute [local go_sem] Oper.semAt_some wide_fn wide_round_fn

def ofStep (L : List GM) (g : GM) : List GM := if (getZ GM.id L g.id).isNone && isG g then putZ GM.id g L else L
def ofL (gs : List GM) : List GM := gs.foldl ofStep []
theorem ofL_snoc (gs : List GM) (g : GM) : ofL (gs ++ [g]) = ofStep (ofL gs) g := by simp [ofL]
theorem ofStep_ok {N : Nat} {L : List GM} {g : GM} (h : manOK N L) (hg : g.l.length ≤ N) : manOK N (ofStep L g) := by
  unfold ofStep
  split
  · rename_i hc
    simp only [Bool.and_eq_true] at hc
    refine ⟨risZ_put h.1 _, fun y hy => ?_⟩
    rcases mem_putZ.1 hy with rfl | ⟨hy, _⟩
    · exact ⟨hc.2, hg⟩
    · exact h.2 y hy
  · exact h
theorem ofL_ok {N : Nat} : ∀ (gs : List GM), (∀ g ∈ gs, g.l.length ≤ N) → manOK N (ofL gs) := by
  suffices h : ∀ (gs L : List GM), manOK N L → (∀ g ∈ gs, g.l.length ≤ N) → manOK N (gs.foldl ofStep L) from fun gs hg => h gs [] (manOK_nil N) hg
  intro gs
  induction gs with
  | nil => exact fun L h _ => h
  | cons x r ih => exact fun L h hg => ih _ (ofStep_ok h (hg x List.mem_cons_self)) (fun y hy => hg y (List.mem_cons_of_mem _ hy))
theorem gv_at7 {w W : World} {b off : Nat} {L : List GV} (hb : b < w.heap.size) (hB : Below w.heap.size w W) (hc : ∀ j (h : j < (gvCells L).length), w.cell? ⟨b, off + j, none⟩ = some (gvCells L)[j]) {k : Nat} (hk : k < L.length) :
    W.cell? ⟨b, off + k * 7, none⟩ = some (.int .i64 L[k].g.id) ∧ W.cell? ⟨b, off + k * 7 + 1, none⟩ = some (.int .i64 L[k].g.fi) ∧ W.cell? ⟨b, off + k * 7 + 2, none⟩ = some (.int .i64 L[k].g.te) ∧ W.cell? ⟨b, off + k * 7 + 3, none⟩ = some (.int .i64 L[k].g.ht) ∧ W.cell? ⟨b, off + k * 7 + 4, none⟩ = some (.int .i64 L[k].g.hv) ∧ W.cell? ⟨b, off + k * 7 + 5, none⟩ = some (.int .i64 L[k].g.hc) ∧ W.cell? ⟨b, off + k * 7 + 6, none⟩ = some (.slice L[k].a L[k].g.l.length L[k].c) := by
  have key : ∀ j v, j < 7 → (L[k].g.arr L[k].a L[k].c).toList[j]? = some v → W.cell? ⟨b, off + k * 7 + j, none⟩ = some v := fun j v hj hv => by
    rw [Nat.add_assoc]
    exact (hB.cell (p := ⟨b, off + (k * 7 + j), none⟩) hb).trans (RowV.at_ (len := L.length) (sz := 7) hc (by rw [gvCells, List.flatMap_def, flat_at (fun x : GV => (x.g.arr x.a x.c).toList) 7 (fun _ => rfl) L k j hk hj]; exact hv))
  exact ⟨key 0 _ (by decide) rfl, key 1 _ (by decide) rfl, key 2 _ (by decide) rfl, key 3 _ (by decide) rfl, key 4 _ (by decide) rfl, key 5 _ (by decide) rfl, key 6 _ (by decide) rfl⟩
set_option maxRecDepth 100000 in
set_option maxHeartbeats 2000000 in
theorem mof_any {W : World} (a : Option Addr) (len cap : Nat) (Gl : List GV) (hl : Gl.length = len) (hm : len ≤ 1000) (hrow : RowV W a len 7 (gvCells Gl)) (hg : ∀ x ∈ Gl, HasG W x.a x.g ∧ in64 x.g.id) :
    Calls Tryz.prog 10 #[.slice a len cap] W fun e w' => ∃ d m F, e = .returned (.pointer (some ⟨d, 0, none⟩)) ∧ W.heap.size ≤ d ∧ ManAt w' d m F ∧ F.map GV.g = ofL (Gl.map GV.g) ∧ Below W.heap.size W w' := by
  have GN := Lib.hid (mnew_any W)
  have hcs := hrow.2.2
  have HL := Lib.hid hl
  have HG := Lib.hid hg
  clear hrow hl hg
  go_enter Tryz.func10, Tryz.ntmps10
  go_wp2_with (go_at_call 5; ((with_reducible refine GN.out.mono ?_); rintro e w1 ⟨rfl, hM1, hB1⟩))
  obtain ⟨d, hd⟩ : ∃ d, d = W.heap.size + 1 := ⟨_, rfl⟩
  obtain ⟨m, hmm⟩ : ∃ m, m = W.heap.size := ⟨_, rfl⟩
  rw [← hd] at hM1 ⊢
  rw [← hmm] at hM1
  have HLow := Lib.hid (show W.heap.size ≤ d ∧ W.heap.size ≤ m by omega)
  clear hd hmm
  go_loopw [11] (fun si wr => ∃ (k : Nat) (F : List GV), k ≤ len ∧ si = .int .i64 k ∧ ManAt wr d m F ∧ F.map GV.g = ofL ((Gl.take k).map GV.g) ∧ Below W.heap.size W wr ∧ F.length ≤ k) (fun si _ => len - (intOf si).toNat)
  case atStart => exact ⟨0, [], by omega, rfl, hM1, rfl, hB1, Nat.le_refl _⟩
  case round =>
    obtain ⟨k, F, hk, rfl, hM, hF, hB, hFk⟩ := hrel
    by_cases hlt : k < len
    · obtain ⟨b, off, rfl, hb, hx⟩ := hcs (by omega)
      have hkl : k < Gl.length := by rw [HL.out]; exact hlt
      obtain ⟨c0, c1, c2, c3, c4, c5, c6⟩ := gv_at7 hb hB hx hkl
      obtain ⟨hgk, hgi⟩ := HG.out Gl[k] (List.getElem_mem hkl)
      have hki : (k : Int) < (len : Int) := by omega
      have HTK := Lib.hid (show (Gl.take (k + 1)).map GV.g = (Gl.take k).map GV.g ++ [Gl[k].g] by rw [List.take_succ_eq_append_getElem hkl, List.map_append]; rfl)
      have HM := Lib.hid hM
      have HFs := Lib.hid hF
      have HW := Lib.hid hB
      have HFm := Lib.hid (show F.length < maxLen by unfold maxLen; omega)
      have HX := Lib.hid hx
      clear hx hcs hM hF hB
      generalize Gl[k] = x at *
      obtain ⟨⟨id, fi, te, ht, hv, hc, gl⟩, ga, gc⟩ := x
      dsimp only at *
      have HID := Lib.hid (show -9223372036854775808 ≤ id ∧ id < 9223372036854775808 from hgi)
      have HGK := Lib.hid hgk
      have GI := Lib.hid (fun W' (hB' : Below wr.heap.size wr W') => grpIs_any id fi te ht hv hc gl ga gc W' ((HGK.out.below HW.out).below hB'))
      have GO := Lib.hid (fun W' (hB' : Below wr.heap.size wr W') => own_any (⟨id, fi, te, ht, hv, hc, gl⟩ : GM) ga gc W' ((HGK.out.below HW.out).below hB'))
      clear hgk hgi
      cases hgz : getZ GV.id F id with
      | none =>
        have HLK := Lib.hid (show lookV F id = .agg #[.int .i64 0, .int .i64 0, .int .i64 0, .int .i64 0, .int .i64 0, .int .i64 0, .slice none 0 0] by unfold lookV; rw [hgz])
        have HIS := Lib.hid (show (getZ GV.id F id).isSome = false by rw [hgz]; rfl)
        clear hgz
        have HNo := Lib.hid (show (getZ GM.id (F.map GV.g) id).isNone = true by
          have := HIS.out
          rw [show (getZ GV.id F id).isSome = (getZ GM.id (F.map GV.g) id).isSome by rw [← getZ_map (g := GV.g) (nm := GV.id) (nb := GM.id) (fun _ => rfl)]; cases getZ GV.id F id <;> rfl] at this
          cases e : getZ GM.id (F.map GV.g) id with
          | none => rfl
          | some y => rw [e] at this; cases this)
        cases hiG : isG (⟨id, fi, te, ht, hv, hc, gl⟩ : GM)
        · have HSt := Lib.hid (show ofStep (F.map GV.g) (⟨id, fi, te, ht, hv, hc, gl⟩ : GM) = F.map GV.g by unfold ofStep; rw [hiG, Bool.and_false]; rfl)
          rw [hiG] at GI
          clear hiG
          unfold Gives at GI
          go_wp2
          have hBa := bel_alloc (Below.refl wr.heap.size wr) (.cells #[.int .i64 id, .int .i64 fi, .int .i64 te, .int .i64 ht, .int .i64 hv, .int .i64 hc, .slice ga gl.length gc] 39)
          have hqa := Lib.hid (World.alloc_heap_new wr (.cells #[.int .i64 id, .int .i64 fi, .int .i64 te, .int .i64 ht, .int .i64 hv, .int .i64 hc, .slice ga gl.length gc] 39))
          have HSA := Lib.hid (World.size_alloc wr (.cells #[.int .i64 id, .int .i64 fi, .int .i64 te, .int .i64 ht, .int .i64 hv, .int .i64 hc, .slice ga gl.length gc] 39))
          have hMa := Lib.hid (HM.out.below hBa)
          have HBa := Lib.hid hBa
          clear c0 c1 c2 c3 c4 c5 c6 hBa
          generalize (wr.alloc (.cells #[.int .i64 id, .int .i64 fi, .int .i64 te, .int .i64 ht, .int .i64 hv, .int .i64 hc, .slice ga gl.length gc] 39)) = wa at *
          have hsa : wa.heap.size = wr.heap.size + 1 := HSA.out
          have hqz := Lib.hid (show (wa.alloc (.cells #[.int .i64 0, .int .i64 0, .int .i64 0, .int .i64 0, .int .i64 0, .int .i64 0, .slice none 0 0] 39)).drew.heap[wr.heap.size]? = _ from (Below.heap_alloc wa _ wr.heap.size (by omega)).trans hqa.out)
          have hgz := Lib.hid (show (wa.alloc (.cells #[.int .i64 0, .int .i64 0, .int .i64 0, .int .i64 0, .int .i64 0, .int .i64 0, .slice none 0 0] 39)).drew.heap[wa.heap.size]? = _ from World.alloc_heap_new wa _)
          have hBz := Lib.hid (show Below wa.heap.size wa (wa.alloc (.cells #[.int .i64 0, .int .i64 0, .int .i64 0, .int .i64 0, .int .i64 0, .int .i64 0, .slice none 0 0] 39)).drew from (bel_alloc (Below.refl _ _) _).drew)
          have cd := cell_of_row wa.drew d 0 _ _ _ hMa.out.1
          have hlk := HasMap.look (hMa.out.2.below (Below.refl wa.heap.size wa).drew) id (wf64 HID.out)
          have cdz := cell_of_row (wa.alloc (.cells #[.int .i64 0, .int .i64 0, .int .i64 0, .int .i64 0, .int .i64 0, .int .i64 0, .slice none 0 0] 39)).drew d 0 _ _ _ (hMa.out.below hBz.out).1
          have hlkz := HasMap.look (hMa.out.below hBz.out).2 id (wf64 HID.out)
          rw [HLK.out, HIS.out] at hlk hlkz
          obtain ⟨p0, p1, p2, p3, p4, p5, p6, fp⟩ := cells7 (show wa.drew.heap[wr.heap.size]? = _ from hqa.out)
          obtain ⟨y0, y1, y2, y3, y4, y5, y6, fy⟩ := cells7 hqz.out
          obtain ⟨z0, z1, z2, z3, z4, z5, z6, fz⟩ := cells7 hgz.out
          clear hsa
          go_region
          all_goals
            clear p0 p1 p2 p3 p4 p5 p6 fp y0 y1 y2 y3 y4 y5 y6 fy z0 z1 z2 z3 z4 z5 z6 fz cd cdz hlk hlkz hqz hgz hBz
            have hsa : wa.heap.size = wr.heap.size + 1 := HSA.out
            have HQ := Lib.hid (show (wa.alloc (.cells #[.int .i64 0, .int .i64 0, .int .i64 0, .int .i64 0, .int .i64 0, .int .i64 0, .slice none 0 0] 39)).drew.heap[wr.heap.size]? = _ from (Below.heap_alloc wa _ wr.heap.size (by omega)).trans hqa.out)
            have HB := Lib.hid (show Below wr.heap.size wr (wa.alloc (.cells #[.int .i64 0, .int .i64 0, .int .i64 0, .int .i64 0, .int .i64 0, .int .i64 0, .slice none 0 0] 39)).drew from bel2 HBa.out (bel_alloc (Below.refl _ _) _).drew)
            clear hqa HBa hMa
            generalize (wa.alloc (.cells #[.int .i64 0, .int .i64 0, .int .i64 0, .int .i64 0, .int .i64 0, .int .i64 0, .slice none 0 0] 39)).drew = wb at *
            rw [HSA.out]
            clear hsa
            obtain ⟨p0, p1, p2, p3, p4, p5, p6, fp⟩ := cells7 HQ.out
            go_wp2_with (go_at_call 19; ((with_reducible refine (GI.out _ HB.out).mono ?_); rintro e w2 ⟨rfl, hB2⟩))
            go_roundw
            case rel => exact ⟨k + 1, F, by omega, by go_num, HM.out.below (bel2 HB.out hB2), by rw [HTK.out, ofL_snoc, ← HFs.out]; exact HSt.out.symm, HW.out.trans ((bel2 HB.out hB2).mono HW.out.size), by omega⟩
            case measure => simp [intOf]; omega
        · have HSt := Lib.hid (show ofStep (F.map GV.g) (⟨id, fi, te, ht, hv, hc, gl⟩ : GM) = putZ GM.id (⟨id, fi, te, ht, hv, hc, gl⟩ : GM) (F.map GV.g) by unfold ofStep; rw [hiG, Bool.and_true, if_pos HNo.out])
          rw [hiG] at GI
          clear hiG
          unfold Gives at GI
          go_wp2
          have hBa := bel_alloc (Below.refl wr.heap.size wr) (.cells #[.int .i64 id, .int .i64 fi, .int .i64 te, .int .i64 ht, .int .i64 hv, .int .i64 hc, .slice ga gl.length gc] 39)
          have hqa := Lib.hid (World.alloc_heap_new wr (.cells #[.int .i64 id, .int .i64 fi, .int .i64 te, .int .i64 ht, .int .i64 hv, .int .i64 hc, .slice ga gl.length gc] 39))
          have HSA := Lib.hid (World.size_alloc wr (.cells #[.int .i64 id, .int .i64 fi, .int .i64 te, .int .i64 ht, .int .i64 hv, .int .i64 hc, .slice ga gl.length gc] 39))
          have hMa := Lib.hid (HM.out.below hBa)
          have HBa := Lib.hid hBa
          clear c0 c1 c2 c3 c4 c5 c6 hBa
          generalize (wr.alloc (.cells #[.int .i64 id, .int .i64 fi, .int .i64 te, .int .i64 ht, .int .i64 hv, .int .i64 hc, .slice ga gl.length gc] 39)) = wa at *
          have hsa : wa.heap.size = wr.heap.size + 1 := HSA.out
          have hqz := Lib.hid (show (wa.alloc (.cells #[.int .i64 0, .int .i64 0, .int .i64 0, .int .i64 0, .int .i64 0, .int .i64 0, .slice none 0 0] 39)).drew.heap[wr.heap.size]? = _ from (Below.heap_alloc wa _ wr.heap.size (by omega)).trans hqa.out)
          have hgz := Lib.hid (show (wa.alloc (.cells #[.int .i64 0, .int .i64 0, .int .i64 0, .int .i64 0, .int .i64 0, .int .i64 0, .slice none 0 0] 39)).drew.heap[wa.heap.size]? = _ from World.alloc_heap_new wa _)
          have hBz := Lib.hid (show Below wa.heap.size wa (wa.alloc (.cells #[.int .i64 0, .int .i64 0, .int .i64 0, .int .i64 0, .int .i64 0, .int .i64 0, .slice none 0 0] 39)).drew from (bel_alloc (Below.refl _ _) _).drew)
          have cd := cell_of_row wa.drew d 0 _ _ _ hMa.out.1
          have hlk := HasMap.look (hMa.out.2.below (Below.refl wa.heap.size wa).drew) id (wf64 HID.out)
          have cdz := cell_of_row (wa.alloc (.cells #[.int .i64 0, .int .i64 0, .int .i64 0, .int .i64 0, .int .i64 0, .int .i64 0, .slice none 0 0] 39)).drew d 0 _ _ _ (hMa.out.below hBz.out).1
          have hlkz := HasMap.look (hMa.out.below hBz.out).2 id (wf64 HID.out)
          rw [HLK.out, HIS.out] at hlk hlkz
          obtain ⟨p0, p1, p2, p3, p4, p5, p6, fp⟩ := cells7 (show wa.drew.heap[wr.heap.size]? = _ from hqa.out)
          obtain ⟨y0, y1, y2, y3, y4, y5, y6, fy⟩ := cells7 hqz.out
          obtain ⟨z0, z1, z2, z3, z4, z5, z6, fz⟩ := cells7 hgz.out
          clear hsa
          go_region
          all_goals
            clear p0 p1 p2 p3 p4 p5 p6 fp y0 y1 y2 y3 y4 y5 y6 fy z0 z1 z2 z3 z4 z5 z6 fz cd cdz hlk hlkz hqz hgz hBz
            have hsa : wa.heap.size = wr.heap.size + 1 := HSA.out
            have HQ := Lib.hid (show (wa.alloc (.cells #[.int .i64 0, .int .i64 0, .int .i64 0, .int .i64 0, .int .i64 0, .int .i64 0, .slice none 0 0] 39)).drew.heap[wr.heap.size]? = _ from (Below.heap_alloc wa _ wr.heap.size (by omega)).trans hqa.out)
            have HB := Lib.hid (show Below wr.heap.size wr (wa.alloc (.cells #[.int .i64 0, .int .i64 0, .int .i64 0, .int .i64 0, .int .i64 0, .int .i64 0, .slice none 0 0] 39)).drew from bel2 HBa.out (bel_alloc (Below.refl _ _) _).drew)
            clear hqa HBa hMa
            generalize (wa.alloc (.cells #[.int .i64 0, .int .i64 0, .int .i64 0, .int .i64 0, .int .i64 0, .int .i64 0, .slice none 0 0] 39)).drew = wb at *
            rw [HSA.out]
            clear hsa
            obtain ⟨p0, p1, p2, p3, p4, p5, p6, fp⟩ := cells7 HQ.out
            go_wp2_with (go_at_call 19; ((with_reducible refine (GI.out _ HB.out).mono ?_); rintro e w2 ⟨rfl, hB2⟩; clear p0 p1 p2 p3 p4 p5 p6 fp; have HQ2 := Lib.hid ((hB2.block _ (heap_lt HQ.out)).trans HQ.out)))
            refine wp_region_noPanic ?_
            refine wp_region_held_drew (S := fun W' => W'.heap[d]? = some (.cells #[.map (some m)] 42 (0, 0)) ∧ W'.heap[wr.heap.size]? = some (.cells #[.int .i64 id, .int .i64 fi, .int .i64 te, .int .i64 ht, .int .i64 hv, .int .i64 hc, .slice ga gl.length gc] 39 (0, 0))) (by kernel_rfl) ⟨(HM.out.below (bel2 HB.out hB2)).1, HQ2.out⟩ (fun hHeld => ?_)
            refine wpAnyH_take (i := 0) (v := .pointer (some ⟨d, 0, none⟩)) rfl (by kernel_rfl) (by kernel_rfl) (by kernel_rfl) (fun _ _ _ h => h) (Or.inl ⟨by rfl, fun w hSw => by dsimp only at hSw; obtain ⟨s0, s1⟩ := hSw; go_simp⟩) hHeld ?_
            try simp only [Act.put, List.getElem_toArray, List.getElem_cons_zero, List.setIfInBounds_toArray, List.set_cons_zero, List.set_cons_succ]
            refine wpAnyH_take (i := 1) (v := .pointer (some ⟨d, 0, none⟩)) rfl (by kernel_rfl) (by kernel_rfl) (by kernel_rfl) (fun _ _ _ h => h) (Or.inl ⟨by rfl, fun w hSw => by dsimp only at hSw; obtain ⟨s0, s1⟩ := hSw; go_simp⟩) hHeld ?_
            try simp only [Act.put, List.getElem_toArray, List.getElem_cons_succ, List.getElem_cons_zero, List.setIfInBounds_toArray, List.set_cons_zero, List.set_cons_succ]
            refine wpAnyH_take (i := 2) (v := .pointer (some ⟨d, 0, none⟩)) rfl (by kernel_rfl) (by kernel_rfl) (by kernel_rfl) (fun _ _ _ h => h) (Or.inl ⟨by rfl, fun w hSw => by dsimp only at hSw; obtain ⟨s0, s1⟩ := hSw; go_simp⟩) hHeld ?_
            try simp only [Act.put, List.getElem_toArray, List.getElem_cons_succ, List.getElem_cons_zero, List.setIfInBounds_toArray, List.set_cons_zero, List.set_cons_succ]
            refine wpAnyH_take (i := 3) (v := .map (some m)) rfl (by kernel_rfl) (by kernel_rfl) (by kernel_rfl) (fun _ _ _ h => h) (Or.inl ⟨by rfl, fun w hSw => by dsimp only at hSw; obtain ⟨s0, s1⟩ := hSw; have t0 := cell_of_row _ _ 0 _ _ _ s0; go_simp⟩) hHeld ?_
            try simp only [Act.put, List.getElem_toArray, List.getElem_cons_succ, List.getElem_cons_zero, List.setIfInBounds_toArray, List.set_cons_zero, List.set_cons_succ]
            refine wpAnyH_take (i := 4) (v := .pointer (some ⟨wr.heap.size, 0, none⟩)) rfl (by kernel_rfl) (by kernel_rfl) (by kernel_rfl) (fun _ _ _ h => h) (Or.inl ⟨by rfl, fun w hSw => by dsimp only at hSw; obtain ⟨s0, s1⟩ := hSw; go_simp⟩) hHeld ?_
            try simp only [Act.put, List.getElem_toArray, List.getElem_cons_succ, List.getElem_cons_zero, List.setIfInBounds_toArray, List.set_cons_zero, List.set_cons_succ]
            refine wpAnyH_take (i := 5) (v := .int .i64 id) rfl (by kernel_rfl) (by kernel_rfl) (by kernel_rfl) (fun _ _ _ h => h) (Or.inl ⟨by rfl, fun w hSw => by dsimp only at hSw; obtain ⟨s0, s1⟩ := hSw; obtain ⟨t0, t1, t2, t3, t4, t5, t6, ft⟩ := cells7 s1; go_simp⟩) hHeld ?_
            try simp only [Act.put, List.getElem_toArray, List.getElem_cons_succ, List.getElem_cons_zero, List.setIfInBounds_toArray, List.set_cons_zero, List.set_cons_succ]
            refine wpAnyH_take (i := 6) (v := .agg #[.int .i64 id, .int .i64 fi, .int .i64 te, .int .i64 ht, .int .i64 hv, .int .i64 hc, .slice ga gl.length gc]) rfl (by kernel_rfl) (by kernel_rfl) (by kernel_rfl) (fun _ _ _ h => h) (Or.inl ⟨by rfl, fun w hSw => by dsimp only at hSw; obtain ⟨s0, s1⟩ := hSw; obtain ⟨t0, t1, t2, t3, t4, t5, t6, ft⟩ := cells7 s1; go_simp⟩) hHeld ?_
            try simp only [Act.put, List.getElem_toArray, List.getElem_cons_succ, List.getElem_cons_zero, List.setIfInBounds_toArray, List.set_cons_zero, List.set_cons_succ]
            refine wpAnyH_ready (rs := [7]) (by kernel_rfl) (by simp) ?_
            refine AllReadyH.cons rfl (fun K hK => ?_) AllReadyH.nil
            go_simp
            go_at_call 15
            refine (GO.out w2.drew (bel2 HB.out hB2).drew).mono ?_
            rintro e w3 ⟨a', c', rfl, hG', hle, hB3⟩
            go_simp
            have hM3 := Lib.hid ((HM.out.below (bel2 HB.out hB2).drew).below hB3)
            have hQ3 := Lib.hid ((hB3.block _ (heap_lt (show w2.drew.heap[wr.heap.size]? = _ from HQ2.out))).trans (show w2.drew.heap[wr.heap.size]? = _ from HQ2.out))
            refine hK.out _ _ ⟨hM3.out.1, hQ3.out⟩ (fun hHeld => ?_)
            clear hK K
            try simp only [Act.put, List.getElem_toArray, List.getElem_cons_succ, List.getElem_cons_zero, List.setIfInBounds_toArray, List.set_cons_zero, List.set_cons_succ]
            obtain ⟨w5, hrun, hown5, hturn5⟩ := hM3.out.2.map.store lawG Tryz.underlying40 (HFm.out) (Maps.keyOf_int_mk Tryz.underlying3 (wf64 HID.out)) (show valElem ((⟨id, fi, te, ht, hv, hc, gl⟩ : GM).val a' c') = _ from rfl)
            have hF5 := frame_turned hturn5
            have HO5 := Lib.hid (show ManAt w5 d m (putZ GV.id ⟨(⟨id, fi, te, ht, hv, hc, gl⟩ : GM), a', c'⟩ F) from ⟨hF5.get hM3.out.1 hM3.out.ne, hM3.out.2.put ⟨(⟨id, fi, te, ht, hv, hc, gl⟩ : GM), a', c'⟩ hG' hown5 hF5⟩)
            have hmlt := hM3.out.2.map.lt
            have hQ5 := Lib.hid (hF5.get hQ3.out (by show ¬ wr.heap.size = m; have := HM.out.2.map.lt; omega))
            have HB5 := Lib.hid (show Below W.heap.size W w5 from ((HW.out.trans ((bel2 HB.out hB2).drew.mono HW.out.size)).trans (hB3.mono (Nat.le_trans HW.out.size (bel2 HB.out hB2).size))).trans (hF5.toBelow (Nat.le_trans HW.out.size (Nat.le_trans (bel2 HB.out hB2).size hB3.size)) (fun k hk => by have := HLow.out.2; omega)))
            clear hown5 hturn5 hF5
            refine wpAnyH_ready (rs := [8]) (by kernel_rfl) (by simp) ?_
            refine AllReadyH.cons rfl (fun K hK => ?_) AllReadyH.nil
            go_simp
            refine hK.out _ _ ⟨HO5.out.1, hQ5.out⟩ (fun hHeld => ?_)
            clear hK K
            try simp only [Act.put, List.getElem_toArray, List.getElem_cons_succ, List.getElem_cons_zero, List.setIfInBounds_toArray, List.set_cons_zero, List.set_cons_succ]
            refine wpAnyH_done (by kernel_rfl) ?_ _
            refine NoPanic.normal ?_
            go_wp2
            go_roundw
            case rel => exact ⟨k + 1, putZ GV.id ⟨(⟨id, fi, te, ht, hv, hc, gl⟩ : GM), a', c'⟩ F, by omega, by go_num, HO5.out, by rw [HTK.out, ofL_snoc, ← HFs.out, HSt.out]; exact putZ_map (g := GV.g) (nm := GV.id) (nb := GM.id) (fun _ => rfl) _ F, HB5.out, Nat.le_trans (putZ_len _ _ _) (by omega)⟩
            case measure => simp [intOf]; omega
      | some y =>
        obtain ⟨⟨yid, yfi, yte, yht, yhv, yhc, yl⟩, ya, yc⟩ := y
        have HLK := Lib.hid (show lookV F id = .agg #[.int .i64 yid, .int .i64 yfi, .int .i64 yte, .int .i64 yht, .int .i64 yhv, .int .i64 yhc, .slice ya yl.length yc] by unfold lookV; rw [hgz])
        have HIS := Lib.hid (show (getZ GV.id F id).isSome = true by rw [hgz]; rfl)
        clear hgz
        have HSt := Lib.hid (show ofStep (F.map GV.g) (⟨id, fi, te, ht, hv, hc, gl⟩ : GM) = F.map GV.g by
          have := HIS.out
          rw [show (getZ GV.id F id).isSome = (getZ GM.id (F.map GV.g) id).isSome by rw [← getZ_map (g := GV.g) (nm := GV.id) (nb := GM.id) (fun _ => rfl)]; cases getZ GV.id F id <;> rfl] at this
          unfold ofStep
          dsimp only
          cases e : getZ GM.id (F.map GV.g) id with
          | none => rw [e] at this; cases this
          | some z => rfl)
        go_wp2
        have hBa := bel_alloc (Below.refl wr.heap.size wr) (.cells #[.int .i64 id, .int .i64 fi, .int .i64 te, .int .i64 ht, .int .i64 hv, .int .i64 hc, .slice ga gl.length gc] 39)
        have hqa := Lib.hid (World.alloc_heap_new wr (.cells #[.int .i64 id, .int .i64 fi, .int .i64 te, .int .i64 ht, .int .i64 hv, .int .i64 hc, .slice ga gl.length gc] 39))
        have HSA := Lib.hid (World.size_alloc wr (.cells #[.int .i64 id, .int .i64 fi, .int .i64 te, .int .i64 ht, .int .i64 hv, .int .i64 hc, .slice ga gl.length gc] 39))
        have hMa := Lib.hid (HM.out.below hBa)
        have HBa := Lib.hid hBa
        clear c0 c1 c2 c3 c4 c5 c6 hBa
        generalize (wr.alloc (.cells #[.int .i64 id, .int .i64 fi, .int .i64 te, .int .i64 ht, .int .i64 hv, .int .i64 hc, .slice ga gl.length gc] 39)) = wa at *
        have hsa : wa.heap.size = wr.heap.size + 1 := HSA.out
        have hqz := Lib.hid (show (wa.alloc (.cells #[.int .i64 0, .int .i64 0, .int .i64 0, .int .i64 0, .int .i64 0, .int .i64 0, .slice none 0 0] 39)).drew.heap[wr.heap.size]? = _ from (Below.heap_alloc wa _ wr.heap.size (by omega)).trans hqa.out)
        have hgz := Lib.hid (show (wa.alloc (.cells #[.int .i64 0, .int .i64 0, .int .i64 0, .int .i64 0, .int .i64 0, .int .i64 0, .slice none 0 0] 39)).drew.heap[wa.heap.size]? = _ from World.alloc_heap_new wa _)
        have hBz := Lib.hid (show Below wa.heap.size wa (wa.alloc (.cells #[.int .i64 0, .int .i64 0, .int .i64 0, .int .i64 0, .int .i64 0, .int .i64 0, .slice none 0 0] 39)).drew from (bel_alloc (Below.refl _ _) _).drew)
        have cd := cell_of_row wa.drew d 0 _ _ _ hMa.out.1
        have hlk := HasMap.look (hMa.out.2.below (Below.refl wa.heap.size wa).drew) id (wf64 HID.out)
        have cdz := cell_of_row (wa.alloc (.cells #[.int .i64 0, .int .i64 0, .int .i64 0, .int .i64 0, .int .i64 0, .int .i64 0, .slice none 0 0] 39)).drew d 0 _ _ _ (hMa.out.below hBz.out).1
        have hlkz := HasMap.look (hMa.out.below hBz.out).2 id (wf64 HID.out)
        rw [HLK.out, HIS.out] at hlk hlkz
        obtain ⟨p0, p1, p2, p3, p4, p5, p6, fp⟩ := cells7 (show wa.drew.heap[wr.heap.size]? = _ from hqa.out)
        obtain ⟨y0, y1, y2, y3, y4, y5, y6, fy⟩ := cells7 hqz.out
        obtain ⟨z0, z1, z2, z3, z4, z5, z6, fz⟩ := cells7 hgz.out
        clear hsa
        go_region
        all_goals
          clear p0 p1 p2 p3 p4 p5 p6 fp y0 y1 y2 y3 y4 y5 y6 fy z0 z1 z2 z3 z4 z5 z6 fz cd cdz hlk hlkz hqz hgz hBz
          have hsa : wa.heap.size = wr.heap.size + 1 := HSA.out
          have HQ := Lib.hid (show (wa.alloc (.cells #[.int .i64 yid, .int .i64 yfi, .int .i64 yte, .int .i64 yht, .int .i64 yhv, .int .i64 yhc, .slice ya yl.length yc] 39)).drew.heap[wr.heap.size]? = _ from (Below.heap_alloc wa _ wr.heap.size (by omega)).trans hqa.out)
          have HB := Lib.hid (show Below wr.heap.size wr (wa.alloc (.cells #[.int .i64 yid, .int .i64 yfi, .int .i64 yte, .int .i64 yht, .int .i64 yhv, .int .i64 yhc, .slice ya yl.length yc] 39)).drew from bel2 HBa.out (bel_alloc (Below.refl _ _) _).drew)
          clear hqa HBa hMa
          generalize (wa.alloc (.cells #[.int .i64 yid, .int .i64 yfi, .int .i64 yte, .int .i64 yht, .int .i64 yhv, .int .i64 yhc, .slice ya yl.length yc] 39)).drew = wb at *
          rw [HSA.out]
          clear hsa
          obtain ⟨p0, p1, p2, p3, p4, p5, p6, fp⟩ := cells7 HQ.out
          go_wp2
          go_roundw
          case rel => exact ⟨k + 1, F, by omega, by go_num, HM.out.below HB.out, by rw [HTK.out, ofL_snoc, ← HFs.out]; exact HSt.out.symm, HW.out.trans (HB.out.mono HW.out.size), by omega⟩
          case measure => simp [intOf]; omega
    · obtain rfl : k = len := by omega
      have HTK := Lib.hid (show Gl.take k = Gl from List.take_of_length_le (by rw [HL.out]; exact Nat.le_refl _))
      rw [HTK.out] at hF
      go_wp2
      go_ret
      exact ⟨d, m, F, rfl, HLow.out.1, hM, hF, hB⟩

end Go.Proofs.YthedmemkckclpaaGreat
