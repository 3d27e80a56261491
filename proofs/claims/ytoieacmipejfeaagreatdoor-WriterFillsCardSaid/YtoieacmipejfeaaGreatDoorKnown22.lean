/- WrtO, Same22, Known16, Known22: in one text. -/
import Derived.Test.YtoieacmipejfeaaGreatDoorWrt
import Derived.Test.YtoieacmipejfeaaGreatDoorSht
import Derived.Test.YtoieacmipejfeaaGreatDoorVictim
import Derived.Test.YtoieacmipejfeaaGreatDoorWrtW
import Derived.Test.YtoieacmipejfeaaGreatDoorWrtI
/- Package writer: On, Drop at one segment. -/
namespace Go.Proofs.YtoieacmipejfeaaGreatDoor
open Go.RowKit Go.Shelf
set_option linter.unusedVariables false
attribute [local go_sem] Oper.semAt_some wide_fn wide_round_fn

theorem wr_seg {w W W4 W0 : World} {d p : Nat} {X : Nat → Prop} {M : WM} {D : PD} {v' : Value} {zs : List Int} (h : WrX w d p X W0 M D W) (hB : Below W.heap.size W W4) (hown : W4.ownsRow W.heap.size 3 1 v' zs.length (intsV zs)) : WrX w d p X W0 { M with segs := zs } D (W4.setCell ⟨p, 2, none⟩ v') := by
  have hX := fun k (hk : X k) => h.lt hk
  obtain ⟨v, hO, h2, h3, h4, h5⟩ := h
  have hpl := (Array.getElem?_eq_some_iff.1 h2).1
  have h2' := (hB.block p hpl).trans h2
  have hbase : w.heap.size ≤ W.heap.size := hO.bel.size
  obtain ⟨T, a1, a2, a3, a4⟩ := hO
  have hg : ∀ k, some k = v'.ownBlock → W.heap.size ≤ k ∧ k < W4.heap.size := fun k hk => by
    refine ⟨ownBlock_ge hown hk.symm, ?_⟩
    rcases hown.2 with ⟨e, _⟩ | ⟨g, cap, cur, e, hg, hh, _⟩
    · rw [e] at hk; cases hk
    · rw [e] at hk
      have : k = g := by simpa [Value.ownBlock] using hk
      rw [this]; exact (Array.getElem?_eq_some_iff.1 hh).1
  have hF : FrameT (fun k => k = p) W4 (W4.setCell ⟨p, 2, none⟩ v') := FrameT.setCell W4 p 2 v'
  refine ⟨v', ⟨T, (a1.below hB).frame hF (fun k hk e => (a3 p (.inl (.inl rfl))).1 (e ▸ hk)), (bel2 a2 hB).trans (hF.toBelow (Nat.le_trans hbase hB.size) (fun k hk => by rw [hk]; exact h4.1)), ?_, fun _ _ => rfl⟩, ?_, own_keep (own_baseS hown hbase) (fun k hk => hF.block k (hg k hk).2 (fun e => by have := (hg k hk).1; omega)), ⟨h4.1, fun e => by have := (hg p e).1; omega⟩, fun k hk => ⟨(h5 k hk).1, fun e => ?_, ?_⟩⟩
  · rintro k ((rfl | hk) | hk)
    · exact ⟨(a3 _ (.inl (.inl rfl))).1, Nat.lt_of_lt_of_le (Nat.lt_of_lt_of_le hpl hB.size) hF.size⟩
    · exact ⟨fun hT => by have := a1.lt hT; have := (hg k hk).1; omega, Nat.lt_of_lt_of_le (hg k hk).2 hF.size⟩
    · exact ⟨(a3 k (.inr hk)).1, Nat.lt_of_lt_of_le (Nat.lt_of_lt_of_le (hX k hk) hB.size) hF.size⟩
  · rw [heap_setCell_same _ _ _ _ _ _ h2']; rfl
  · have := (hg k e).1; have := hX k hk; omega
  · exact (hF.block k (Nat.lt_of_lt_of_le (hX k hk) hB.size) (h5 k hk).1).trans ((hB.block k (hX k hk)).trans (h5 k hk).2.2)
theorem wdrop_one {w W : World} {d p : Nat} {M : WM} {D : PD} (h : WrO w d p M D W) (hl : M.segs.length < 2) : Gives Tryz.prog 16 #[.pointer (some ⟨p, 0, none⟩)] W (.tuple #[.int .i64 0, .int .i64 22]) := by
  obtain ⟨a, cap, hb, -⟩ := h.row
  have c2 := cell_of_row _ _ 2 _ _ _ hb
  have hli : ((M.segs.length : Nat) : Int) < 2 := by omega
  clear h hb
  unfold Gives
  go_enter Tryz.func16, Tryz.ntmps16
  go_wp2
  go_ret2
  exact ⟨rfl, Below.refl _ _⟩
theorem won_no {W : World} {d : Nat} (l : Int) (a : Option Addr) (len cap : Nat) (zs : List Int) (hz : RowI .i64 W a len zs) (hs : shB zs = false) : Gives Tryz.prog 17 #[.pointer (some ⟨d, 0, none⟩), .int .i64 l, .slice a len cap] W (.tuple #[.pointer none, .int .i64 11]) := by
  have GI := Lib.hid (shIs_any a len cap zs W hz)
  rw [hs] at GI
  clear hz hs
  unfold Gives at *
  go_enter Tryz.func17, Tryz.ntmps17
  go_wp2_with (go_at_call 46; ((with_reducible refine GI.out.mono ?_); rintro e w1 ⟨rfl, hB1⟩))
  go_ret2
  exact ⟨rfl, hB1⟩
set_option maxRecDepth 100000 in
set_option maxHeartbeats 4000000 in
theorem won_yes {w W : World} {d : Nat} {D : PD} (h : One w d D W) (l : Int) (a : Option Addr) (len cap : Nat) (zs : List Int) (hz : RowI .i64 W a len zs) (hs : shB zs = true) (s : ByteArray) (he : s = nmW (zs.getLast?.getD 0)) :
    Calls Tryz.prog 17 #[.pointer (some ⟨d, 0, none⟩), .int .i64 l, .slice a len cap] W fun e w' => ∃ p, e = .returned (.tuple #[if askE D s = 0 then .pointer (some ⟨p, 0, none⟩) else .pointer none, .int .i64 (askE D s)]) ∧ Below W.heap.size W w' ∧ (askE D s = 0 → WrO w d p ⟨limW l, zs, (readB D s).size⟩ D w') := by
  obtain ⟨i0, hi, hz0, hz1, hz2⟩ := info_parts infoIntS
  have GI := Lib.hid (shIs_any a len cap zs W hz)
  rw [hs] at GI
  have GH := Lib.hid (fun W' => wheld_any l W')
  have h1 : 1 ≤ zs.length ∧ zs.length ≤ 200 := by unfold shB at hs; simp only [Bool.and_eq_true, decide_eq_true_eq] at hs; exact hs.1
  have hlen := hz.1
  obtain ⟨b, off, rfl, hbl, hcl⟩ := hz.2.2.2 (by omega)
  have H := Lib.hid (fun W' (hB : Below W.heap.size W W') => wr_new (h.below hB) (limW l))
  have HC := Lib.hid (fun (W' : World) (hB : Below W.heap.size W W') (j : Nat) (u : Value) (hj : (intsV zs)[j]? = some u) => (show W'.cell? (Addr.add ⟨b, off, none⟩ j) = some u from by
    have hjl : j < zs.length := by have := (List.getElem?_eq_some_iff.1 hj).1; simpa [intsV] using this
    have e : (intsV zs)[j]? = some (.int .i64 zs[j]) := by simp [intsV, hjl]
    rw [e] at hj
    rw [← hj]
    rw [show (⟨b, off, none⟩ : Addr).add j = ⟨b, off + j, none⟩ from by cases j <;> simp [Addr.add]]
    exact (hB.cell (p := ⟨b, off + j, none⟩) hbl).trans (hcl j hjl)))
  have GF := Lib.hid (fun (p : Nat) (M : WM) (W' : World) (h' : WrO w d p M D W') (hM : M.segs = zs) => (show Calls Tryz.prog 37 #[.pointer (some ⟨p, 0, none⟩)] W' fun e w' => e = .returned (.string s) ∧ Below W'.heap.size W' w' from by
    have := wfile_any h' (by rw [hM]; omega)
    unfold lastW at this
    rw [hM, ← he] at this
    exact this))
  have GR := Lib.hid (fun (W' : World) (h' : One w d D W') => (show Calls Tryz.prog 25 #[.pointer (some ⟨d, 0, none⟩), .string s] W' fun e w' => e = .returned (.tuple #[.string (readB D s), .int .i64 (askE D s)]) ∧ w' = W' from dreadO h' s (by rw [he]; exact nmW_size _)))
  have hzl : (intsV zs).length = len := by simp [intsV, hlen]
  have HZL := Lib.hid hzl
  have HLN := Lib.hid hlen
  have hl9 : len ≤ 1000 := by omega
  have hcap := hz.2.1
  clear h hz hs hcl he hlen hzl h1
  generalize readB D s = rb at *
  have hrr := Lib.hid (rfl : askE D s = askE D s)
  generalize askE D s = e0 at *
  by_cases h0 : e0 = 0
  · subst h0
    simp only [if_true]
    unfold Gives at GI GH
    go_enter Tryz.func17, Tryz.ntmps17
    go_wp2_with (first
      | (go_at_call 46; ((with_reducible refine GI.out.mono ?_); rintro e w1 ⟨rfl, hB1⟩; have HB1 := Lib.hid hB1; clear hB1))
      | (go_at_call 32; ((with_reducible refine (GH.out _).mono ?_); rintro e w2 ⟨rfl, hB2⟩; have HB2 := Lib.hid (bel2 HB1.out hB2); have HW2 := Lib.hid (H.out _ HB2.out); clear hB2; have hcn := cell_of_row _ _ 2 _ _ _ (World.alloc_heap_new w2 (.cells #[.pointer (some ⟨d, 0, none⟩), .int .i64 (limW l), .slice none 0 0, .int .i64 0] 75))))
      | (at_builtin; refine wpList_append_own _ rfl _ _ 32 rfl (w2.heap.size + 1) 3 i0 (.int .i64 0) 1 8 Tryz.underlying32 hi hz0 hz1 hz2 rfl (by decide) (.slice none 0 0) 0 [] rfl (World.ownsRow_nil _ _ _ _) ⟨b, off, none⟩ len cap (intsV zs) rfl (by rw [HZL.out]; omega) (HC.out _ (bel_alloc HB2.out _)) (by simp [intsV, Value.oneCell']) (by unfold maxLen; omega) (by omega) (by simp) ?_; intro v' w3 hown3 hgrow _; rw [Nat.zero_add, List.nil_append] at hown3; obtain ⟨a9, c9, rfl, -, -⟩ := rowV_own hown3; have hB3 : Below (w2.alloc (.cells #[.pointer (some ⟨d, 0, none⟩), .int .i64 (limW l), .slice none 0 0, .int .i64 0] 75)).heap.size (w2.alloc (.cells #[.pointer (some ⟨d, 0, none⟩), .int .i64 (limW l), .slice none 0 0, .int .i64 0] 75)) w3 := (Below.refl _ _).grown hgrow (Nat.le_refl _) (fun k e => by cases e); have HW3 := Lib.hid (wr_seg (zs := zs) (HW2.out.toX w2) hB3 (by rw [HLN.out, World.size_alloc]; exact hown3)); have hb3 := (hB3.block w2.heap.size (by simp)).trans (World.alloc_heap_new w2 _); have c23 := cell_of_row _ _ 2 _ _ _ hb3; have f23 := frozen_of_row _ _ 2 _ _ hb3; have HB3 := Lib.hid (HB2.out.trans ((bel_alloc (Below.refl _ _) _).mono HB2.out.size |>.trans (hB3.mono (by rw [World.size_alloc]; exact Nat.le_succ_of_le HB2.out.size)))); have HF3 := Lib.hid ((FrameT.setCell w3 w2.heap.size 2 (.slice a9 len c9)).toBelow HB3.out.size (fun k hk => by rw [hk]; exact HB2.out.size)); clear hB3 hb3 hgrow hown3)
      | (go_at_call 37; ((with_reducible refine (GF.out _ _ _ HW3.out.toO rfl).mono ?_); rintro e w4 ⟨rfl, hB4⟩; have HW4 := Lib.hid (HW3.out.below hB4); have HB4 := Lib.hid ((HB3.out.trans HF3.out).trans (hB4.mono (Nat.le_trans HB3.out.size HF3.out.size))); clear hB4))
      | (go_at_call 25; ((with_reducible refine (GR.out _ HW4.out.toO.one).mono ?_); rintro e w5 ⟨rfl, rfl⟩; obtain ⟨-, -, c34, f34⟩ := HW4.out.cells)))
    go_ret2
    exact ⟨_, rfl, HB4.out.trans ((FrameT.setCell _ w2.heap.size 3 _).toBelow HB4.out.size (fun k hk => by rw [hk]; exact HB2.out.size)), fun _ => (HW4.out.sized _).toO⟩
  · simp only [if_neg h0]
    unfold Gives at GI GH
    go_enter Tryz.func17, Tryz.ntmps17
    go_wp2_with (first
      | (go_at_call 46; ((with_reducible refine GI.out.mono ?_); rintro e w1 ⟨rfl, hB1⟩; have HB1 := Lib.hid hB1; clear hB1))
      | (go_at_call 32; ((with_reducible refine (GH.out _).mono ?_); rintro e w2 ⟨rfl, hB2⟩; have HB2 := Lib.hid (bel2 HB1.out hB2); have HW2 := Lib.hid (H.out _ HB2.out); clear hB2; have hcn := cell_of_row _ _ 2 _ _ _ (World.alloc_heap_new w2 (.cells #[.pointer (some ⟨d, 0, none⟩), .int .i64 (limW l), .slice none 0 0, .int .i64 0] 75))))
      | (at_builtin; refine wpList_append_own _ rfl _ _ 32 rfl (w2.heap.size + 1) 3 i0 (.int .i64 0) 1 8 Tryz.underlying32 hi hz0 hz1 hz2 rfl (by decide) (.slice none 0 0) 0 [] rfl (World.ownsRow_nil _ _ _ _) ⟨b, off, none⟩ len cap (intsV zs) rfl (by rw [HZL.out]; omega) (HC.out _ (bel_alloc HB2.out _)) (by simp [intsV, Value.oneCell']) (by unfold maxLen; omega) (by omega) (by simp) ?_; intro v' w3 hown3 hgrow _; rw [Nat.zero_add, List.nil_append] at hown3; obtain ⟨a9, c9, rfl, -, -⟩ := rowV_own hown3; have hB3 : Below (w2.alloc (.cells #[.pointer (some ⟨d, 0, none⟩), .int .i64 (limW l), .slice none 0 0, .int .i64 0] 75)).heap.size (w2.alloc (.cells #[.pointer (some ⟨d, 0, none⟩), .int .i64 (limW l), .slice none 0 0, .int .i64 0] 75)) w3 := (Below.refl _ _).grown hgrow (Nat.le_refl _) (fun k e => by cases e); have HW3 := Lib.hid (wr_seg (zs := zs) (HW2.out.toX w2) hB3 (by rw [HLN.out, World.size_alloc]; exact hown3)); have hb3 := (hB3.block w2.heap.size (by simp)).trans (World.alloc_heap_new w2 _); have c23 := cell_of_row _ _ 2 _ _ _ hb3; have f23 := frozen_of_row _ _ 2 _ _ hb3; have HB3 := Lib.hid (HB2.out.trans ((bel_alloc (Below.refl _ _) _).mono HB2.out.size |>.trans (hB3.mono (by rw [World.size_alloc]; exact Nat.le_succ_of_le HB2.out.size)))); have HF3 := Lib.hid ((FrameT.setCell w3 w2.heap.size 2 (.slice a9 len c9)).toBelow HB3.out.size (fun k hk => by rw [hk]; exact HB2.out.size)); clear hB3 hb3 hgrow hown3)
      | (go_at_call 37; ((with_reducible refine (GF.out _ _ _ HW3.out.toO rfl).mono ?_); rintro e w4 ⟨rfl, hB4⟩; have HW4 := Lib.hid (HW3.out.below hB4); have HB4 := Lib.hid ((HB3.out.trans HF3.out).trans (hB4.mono (Nat.le_trans HB3.out.size HF3.out.size))); clear hB4))
      | (go_at_call 25; ((with_reducible refine (GR.out _ HW4.out.toO.one).mono ?_); rintro e w5 ⟨rfl, rfl⟩; obtain ⟨-, -, c34, f34⟩ := HW4.out.cells)))
    go_ret2
    exact ⟨0, rfl, HB4.out, fun h => absurd h h0⟩

end Go.Proofs.YtoieacmipejfeaaGreatDoor

/- ladelaw22.same. -/
namespace Go.Proofs.YtoieacmipejfeaaGreatDoor
open Go.RowKit Go.Shelf
set_option linter.unusedVariables false
attribute [local go_sem] Oper.semAt_some wide_fn wide_round_fn

set_option maxRecDepth 100000 in
set_option maxHeartbeats 1000000 in
theorem same22_any (a : Option Addr) (len cap : Nat) (zs : List Int) (b : Option Addr) (len2 cap2 : Nat) (ys : List Int) (w : World) (h : RowI .i64 w a len zs) (h2 : RowI .i64 w b len2 ys) : Gives Tryz.prog 18 #[.slice a len cap, .slice b len2 cap2] w (.bool (decide (zs = ys))) := by
  obtain ⟨hl, hm, -, hc⟩ := h
  obtain ⟨hl2, hm2, -, hc2⟩ := h2
  unfold maxLen at hm hm2
  unfold Gives
  by_cases he : len = len2
  · subst he
    have HL := Lib.hid hl
    have HL2 := Lib.hid hl2
    clear hl hl2
    go_enter Tryz.func18, Tryz.ntmps18
    go_wp2
    go_loopw [5] (fun si wr => ∃ k : Nat, k ≤ len ∧ si = .int .i64 k ∧ zs.take k = ys.take k ∧ Below w.heap.size w wr) (fun si _ => len - (intOf si).toNat)
    case atStart => exact ⟨0, by omega, rfl, rfl, Below.refl _ _⟩
    case round =>
      obtain ⟨k, hk, rfl, hT, hB⟩ := hrel
      have HT := Lib.hid hT
      clear hT
      by_cases hlt : k < len
      · obtain ⟨ba, oa, rfl, hba, hca⟩ := hc (by omega)
        obtain ⟨bb, ob, rfl, hbb, hcb⟩ := hc2 (by omega)
        have hkz : k < zs.length := by rw [HL.out]; exact hlt
        have hky : k < ys.length := by rw [HL2.out]; exact hlt
        have c := (hB.cell (p := ⟨ba, oa + k, none⟩) hba).trans (hca k hkz)
        have c2 := (hB.cell (p := ⟨bb, ob + k, none⟩) hbb).trans (hcb k hky)
        have hki : (k : Int) < (len : Int) := by omega
        by_cases he : zs[k] = ys[k]
        · have HN := Lib.hid (show zs.take (k + 1) = ys.take (k + 1) by rw [List.take_succ_eq_append_getElem hkz, List.take_succ_eq_append_getElem hky, HT.out, he])
          rw [he] at c
          generalize ys[k] = x at *
          clear hc hc2 hca hcb he
          go_wp2
          go_quiet (fail)
          go_wp2
          exact ⟨⟨k + 1, by omega, by go_num, HN.out, ⟨hB.os, hB.tape, hB.output, hB.size, hB.block⟩⟩, by simp [intOf]; omega⟩
        · have HN := Lib.hid (show decide (zs = ys) = false from decide_eq_false (fun e => by subst e; exact he rfl))
          have hx := he
          generalize zs[k] = x at *
          generalize ys[k] = y at *
          clear hc hc2 hca hcb he
          go_wp2
          go_quiet (fail)
          go_wp2
          go_ret
          exact ⟨by rw [HN.out]; rfl, ⟨hB.os, hB.tape, hB.output, hB.size, hB.block⟩⟩
      · obtain rfl : k = len := by omega
        have HN := Lib.hid (show decide (zs = ys) = true from decide_eq_true (by
          have := HT.out
          rwa [List.take_of_length_le (by rw [HL.out]; exact Nat.le_refl _), List.take_of_length_le (by rw [HL2.out]; exact Nat.le_refl _)] at this))
        clear hc hc2 hlt hk
        go_wp2
        go_ret
        exact ⟨by rw [HN.out]; rfl, hB⟩
  · have HN := Lib.hid (show decide (zs = ys) = false from decide_eq_false (fun e => he (by rw [← hl, ← hl2, e])))
    have hne : ((len : Int) == (len2 : Int)) = false := by rw [beq_eq_false_iff_ne]; omega
    have hne2 : (len : Int) ≠ (len2 : Int) := by omega
    clear he hc hc2
    go_enter Tryz.func18, Tryz.ntmps18
    go_wp2
    go_ret
    exact ⟨by rw [HN.out]; rfl, Below.refl _ _⟩
/-! ### Load -/

end Go.Proofs.YtoieacmipejfeaaGreatDoor

/- What the sixteenth layer's laws hold by themselves: the examples. -/
namespace Go.Proofs.YtoieacmipejfeaaGreatDoor
open Go.RowKit Go.Shelf
set_option linter.unusedVariables false

theorem rowI_new (w : World) (zs : List Int) (n : Nat) (hn : zs.length = n) (hm : n ≤ maxLen) (hw : ∀ z ∈ zs, (Lit.int .i64 z).wf = true) (e : TypeId) (cs : Array Value) (hcs : cs.toList = intsV zs) : RowI .i64 (w.alloc (.cells cs e)) (some ⟨w.heap.size, 0, none⟩) n zs := by
  obtain ⟨h1, h2, h3⟩ := rowV_new w e cs n 1 (by rw [← hn, Nat.mul_one]; have := congrArg List.length hcs; simpa using this) hm
  refine ⟨hn, hm, hw, fun h0 => ?_⟩
  obtain ⟨b, off, e2, hb, hc⟩ := h3 h0
  refine ⟨b, off, e2, hb, fun i hi => ?_⟩
  have hl : i < cs.toList.length := by rw [hcs]; simpa using hi
  rw [hc i hl]
  simp only [hcs, List.getElem_map]

end Go.Proofs.YtoieacmipejfeaaGreatDoor

/- What the statements of layer 22 begin with. -/
namespace Go.Proofs.YtoieacmipejfeaaGreatDoor
open Go.RowKit Go.Shelf
set_option linter.unusedVariables false
attribute [local go_sem] Oper.semAt_some wide_fn wide_round_fn

theorem wfs (l : List Int) (h : ∀ z ∈ l, 0 ≤ z ∧ z ≤ 100000000) : ∀ z ∈ l, (Lit.int .i64 z).wf = true := fun z hz => by
  have := h z hz
  simp [Lit.wf, IntKind.min, IntKind.max, IntKind.signed, IntKind.bits]; omega
theorem limW5 : limW 5000 = 5000 := by decide
set_option maxRecDepth 100000 in
set_option maxHeartbeats 8000000 in
theorem known22_any (w : World) : Gives Tryz.prog 8 #[] w (.bool true) := by
  obtain ⟨D1, D2, hm1, hm2, f1, f2, a1, a2, r1⟩ := k22
  have hw1 : ∀ z ∈ ([1] : List Int) ++ [2], (Lit.int .i64 z).wf = true := by decide
  have GN := Lib.hid (show Calls Tryz.prog 10 #[.int .i64 100000] w fun e w' => e = .returned (.pointer (some ⟨w.heap.size + 1, 0, none⟩)) ∧ One w (w.heap.size + 1) ⟨[], 100000, 0, false, 0⟩ w' from newO 100000 w)
  have GM := Lib.hid (fun W (h : One w (w.heap.size + 1) ⟨[], 100000, 0, false, 0⟩ W) => (show Calls Tryz.prog 11 #[.pointer (some ⟨w.heap.size + 1, 0, none⟩), .int .i64 0] W fun e w' => ∃ p, e = .returned (.tuple #[.pointer (some ⟨p, 0, none⟩), .int .i64 0]) ∧ WrO w (w.heap.size + 1) p ⟨2100, [1], 16⟩ D1 w' from by
    have := wmake_any h (fit_new 100000 (by omega)) (by omega) 0
    rw [hm1] at this
    exact this))
  have GL := Lib.hid (fun p (M : WM) D W (h : WrO w (w.heap.size + 1) p M D W) => (show Calls Tryz.prog 21 #[.pointer (some ⟨p, 0, none⟩)] W fun e w' => e = .returned (.int .i64 M.lim) ∧ Below W.heap.size W w' from wlimit_any h))
  have GS := Lib.hid (fun p (M : WM) D W (h : WrO w (w.heap.size + 1) p M D W) => (show Calls Tryz.prog 20 #[.pointer (some ⟨p, 0, none⟩)] W fun e w' => e = .returned (.int .i64 M.size) ∧ Below W.heap.size W w' from wsize_any h))
  have GG := Lib.hid (fun p W (h : WrO w (w.heap.size + 1) p ⟨2100, [1], 16⟩ D1 W) => (show Calls Tryz.prog 19 #[.pointer (some ⟨p, 0, none⟩)] W fun e w' => ∃ a c, e = .returned (.slice a 1 c) ∧ RowI .i64 w' a 1 [1] ∧ Below W.heap.size W w' from by
    refine (wsegs_any h (by simp)).mono ?_
    rintro e w' ⟨v, he, hv, hB⟩
    obtain ⟨a, c, hvv, -, hr⟩ := rowI_own (zs := [1]) hv (by decide)
    exact ⟨a, c, by rw [he, hvv]; rfl, hr, hB⟩))
  have GE := Lib.hid (fun (W : World) a c (h : RowI .i64 W a 1 [1]) => (show Calls Tryz.prog 18 #[.slice a 1 c, .slice (some ⟨W.heap.size, 0, none⟩) 1 1] (W.alloc (.cells #[.int .i64 1] 3)) fun e w' => e = .returned (.bool true) ∧ Below (W.alloc (.cells #[.int .i64 1] 3)).heap.size (W.alloc (.cells #[.int .i64 1] 3)) w' from by
    have := same22_any a 1 c [1] _ 1 1 [1] _ (rowI_below h (bel_alloc (Below.refl _ _) (.cells #[.int .i64 1] 3))) (rowI_new W [1] 1 rfl (by unfold maxLen; omega) (by decide) 3 #[.int .i64 1] rfl)
    rw [show decide (([1] : List Int) = [1]) = true by decide] at this
    exact this))
  have GW := Lib.hid (fun p W (h : WrO w (w.heap.size + 1) p ⟨2100, [1], 16⟩ D1 W) => (show Calls Tryz.prog 13 #[.pointer (some ⟨p, 0, none⟩), .string ⟨#[97, 98, 99]⟩] W fun e w' => e = .returned (.tuple #[.agg #[.int .i64 1, .int .i64 16], .int .i64 0]) ∧ WrO w (w.heap.size + 1) p ⟨2100, [1], 19⟩ D2 w' from by
    refine (wwrite_any (h.toX W) ⟨#[97, 98, 99]⟩ f1 (by omega) (by simp) hw1 (by decide) (by decide)).mono ?_
    rw [hm2]
    rintro e w' ⟨rfl, h'⟩
    exact ⟨rfl, h'.toO⟩))
  have GV := Lib.hid (fun p q W0 W (h : WrX w (w.heap.size + 1) p (fun k => False ∨ k = q) W0 ⟨2100, [1], 19⟩ D2 W) => (show Calls Tryz.prog 13 #[.pointer (some ⟨p, 0, none⟩), .string ⟨#[]⟩] W fun e w' => e = .returned (.tuple #[.agg #[.int .i64 0, .int .i64 0], .int .i64 11]) ∧ WrX w (w.heap.size + 1) p (fun k => False ∨ k = q) W0 ⟨2100, [1], 19⟩ D2 w' from by
    have := wwrite_any h ⟨#[]⟩ f2 (by omega) (by simp) hw1 (by decide) (by decide)
    rw [show wrtR ⟨2100, [1], 19⟩ D2 ⟨#[]⟩ = (⟨2100, [1], 19⟩, D2, (0, 0), 11) from rfl] at this
    exact this))
  have GD := Lib.hid (fun p W (h : WrO w (w.heap.size + 1) p ⟨2100, [1], 19⟩ D2 W) => (show Calls Tryz.prog 16 #[.pointer (some ⟨p, 0, none⟩)] W fun e w' => e = .returned (.tuple #[.int .i64 0, .int .i64 22]) ∧ Below W.heap.size W w' from wdrop_one h (by simp)))
  have GO := Lib.hid (fun W (h : One w (w.heap.size + 1) D2 W) => (show Calls Tryz.prog 17 #[.pointer (some ⟨w.heap.size + 1, 0, none⟩), .int .i64 5000, .slice (some ⟨W.heap.size, 0, none⟩) 1 1] (W.alloc (.cells #[.int .i64 1] 3)) fun e w' => ∃ p, e = .returned (.tuple #[.pointer (some ⟨p, 0, none⟩), .int .i64 0]) ∧ Below W.heap.size W w' ∧ WrO w (w.heap.size + 1) p ⟨5000, [1], 19⟩ D2 w' from by
    refine (won_yes (h.below (bel_alloc (Below.refl _ _) _)) 5000 _ 1 1 [1] (rowI_new W [1] 1 rfl (by unfold maxLen; omega) (by decide) 3 #[.int .i64 1] rfl) (by decide) (nmW 1) rfl).mono ?_
    rintro e w' ⟨p, rfl, hB, hW⟩
    have h9 := hW a1
    rw [limW5, r1] at h9
    exact ⟨p, by rw [a1]; rfl, bel2 (bel_alloc (Below.refl _ _) _) hB, h9⟩))
  have GP := Lib.hid (fun W (h : One w (w.heap.size + 1) D2 W) => (show Calls Tryz.prog 17 #[.pointer (some ⟨w.heap.size + 1, 0, none⟩), .int .i64 5000, .slice (some ⟨W.heap.size, 0, none⟩) 1 1] (W.alloc (.cells #[.int .i64 2] 3)) fun e w' => e = .returned (.tuple #[.pointer none, .int .i64 19]) ∧ Below W.heap.size W w' from by
    refine (won_yes (h.below (bel_alloc (Below.refl _ _) _)) 5000 _ 1 1 [2] (rowI_new W [2] 1 rfl (by unfold maxLen; omega) (by decide) 3 #[.int .i64 2] rfl) (by decide) (nmW 2) rfl).mono ?_
    rintro e w' ⟨p, rfl, hB, -⟩
    exact ⟨by rw [a2]; rfl, bel2 (bel_alloc (Below.refl _ _) _) hB⟩))
  have GQ := Lib.hid (fun (W : World) => (show Calls Tryz.prog 17 #[.pointer (some ⟨w.heap.size + 1, 0, none⟩), .int .i64 5000, .slice none 0 0] W fun e w' => e = .returned (.tuple #[.pointer none, .int .i64 11]) ∧ Below W.heap.size W w' from won_no 5000 none 0 0 [] ⟨rfl, by unfold maxLen; omega, by simp, fun h => absurd h (by decide)⟩ rfl))
  have GY := Lib.hid (fun p W (h : WrO w (w.heap.size + 1) p ⟨2100, [1], 19⟩ D2 W) => (show Calls Tryz.prog 15 #[.pointer (some ⟨p, 0, none⟩)] W fun e w' => e = .returned (.int .i64 0) ∧ Below w.heap.size w w' from by
    have := wsync_any (h.toX W) f2 (by omega) (by simp)
    rw [show lastW ⟨2100, [1], 19⟩ = 1 from rfl, a1] at this
    exact this.mono fun e w' h => ⟨h.1, h.2.toO.one.bel⟩))
  clear hm1 hm2 f1 f2 a1 a2 r1 hw1
  unfold Gives
  go_enter Tryz.func8, Tryz.ntmps8
  go_wp2_with (first
    | (go_at_call 10; ((with_reducible refine GN.out.mono ?_); rintro e w1 ⟨rfl, h1⟩; have H1 := Lib.hid h1; clear h1))
    | (go_at_call 11; ((with_reducible refine (GM.out _ H1.out).mono ?_); rintro e w2 ⟨p, rfl, h2⟩; have H2 := Lib.hid h2; clear h2 H1))
    | (go_at_call 21; ((with_reducible refine (GL.out _ _ _ _ H2.out).mono ?_); rintro e w3 ⟨rfl, hB3⟩; have H3 := Lib.hid (H2.out.below hB3); clear hB3 H2))
    | (go_at_call 20; ((with_reducible refine (GS.out _ _ _ _ H3.out).mono ?_); rintro e w4 ⟨rfl, hB4⟩; have H4 := Lib.hid (H3.out.below hB4); clear hB4 H3))
    | (go_at_call 19; ((with_reducible refine (GG.out _ _ H4.out).mono ?_); rintro e w5 ⟨a, c, rfl, hr5, hB5⟩; have H5 := Lib.hid (H4.out.below hB5); have HR5 := Lib.hid hr5; clear hB5 H4 hr5))
    | (go_at_call 18; ((with_reducible refine (GE.out _ _ _ HR5.out).mono ?_); rintro e w6 ⟨rfl, hB6⟩; have H6 := Lib.hid ((H5.out.below (bel_alloc (Below.refl _ _) _)).below hB6); clear hB6 H5))
    | (go_at_call 13; ((with_reducible refine (GW.out _ _ H6.out).mono ?_); rintro e w7 ⟨rfl, h7⟩; have H7 := Lib.hid ((h7.toX w7).more (q := w7.heap.size) (bel_alloc (Below.refl _ _) (.cells #[.int .i64 1, .int .i64 16] 40)) ⟨Nat.le_refl _, by simp⟩); have hq7 := Lib.hid (World.alloc_heap_new w7 (.cells #[.int .i64 1, .int .i64 16] 40)); clear h7 H6))
    | (go_at_call 13; ((with_reducible refine (GV.out _ _ _ _ H7.out).mono ?_); rintro e w8 ⟨rfl, h8⟩; have H8 := Lib.hid (h8.below (bel_alloc (Below.refl _ _) (.cells #[.int .i64 0, .int .i64 0] 40))); clear h8 H7))
    | (go_at_call 16; ((with_reducible refine (GD.out _ _ H8.out.toO).mono ?_); rintro e w9 ⟨rfl, hB9⟩; have H9 := Lib.hid (H8.out.below hB9); clear hB9 H8))
    | (go_at_call 17; ((with_reducible refine (GO.out _ H9.out.toO.one).mono ?_); rintro e w10 ⟨p2, rfl, hB10, h10⟩; have H10 := Lib.hid (H9.out.below hB10); have K10 := Lib.hid h10; clear hB10 H9 h10))
    | (go_at_call 17; ((with_reducible refine (GP.out _ H10.out.toO.one).mono ?_); rintro e w11 ⟨rfl, hB11⟩; have H11 := Lib.hid (H10.out.below hB11); have K11 := Lib.hid (K10.out.below hB11); clear hB11 H10 K10))
    | (go_at_call 17; ((with_reducible refine (GQ.out _).mono ?_); rintro e w12 ⟨rfl, hB12⟩; have H12 := Lib.hid (H11.out.below hB12); have K12 := Lib.hid (K11.out.below hB12); have hq12 := (H12.out.same (.inr rfl)).trans hq7.out; have q0 := cell_of_row _ _ 0 _ _ _ hq12; have q1 := cell_of_row _ _ 1 _ _ _ hq12; clear hB12 H11 K11 hq12))
    | (go_at_call 20; ((with_reducible refine (GS.out _ _ _ _ K12.out).mono ?_); rintro e w13 ⟨rfl, hB13⟩; have H13 := Lib.hid (H12.out.below hB13); have K13 := Lib.hid (K12.out.below hB13); clear hB13 H12 K12))
    | (go_at_call 21; ((with_reducible refine (GL.out _ _ _ _ K13.out).mono ?_); rintro e w14 ⟨rfl, hB14⟩; have H14 := Lib.hid (H13.out.below hB14); clear hB14 H13 K13))
    | (go_at_call 15; ((with_reducible refine (GY.out _ _ H14.out.toO).mono ?_); rintro e w15 ⟨rfl, hB15⟩)))
  go_ret
  exact ⟨by simp, hB15⟩

end Go.Proofs.YtoieacmipejfeaaGreatDoor
