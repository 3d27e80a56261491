/- RefShd, RefSplM, RefSplit: in one text. -/
import Derived.Test.YtdncdlbhgaehmaaShd
import Derived.Test.YtdncdlbhgaehmaaShdS
import Derived.Deep.RegionLaw
/- The document's shards: how many are held, whose a group is. -/
namespace Go.Proofs.Ytdncdlbhgaehmaa
open Go.RowKit Go.Shelf
set_option linter.unusedVariables false
attribute [local go_sem] Oper.semAt_some wide_fn wide_round_fn

theorem held_max (n : Int) : max 1 (min n 64) = heldI n := by unfold heldI; split <;> (try split) <;> omega
set_option maxRecDepth 100000 in
theorem refShards_any (n : Int) (w : World) : Gives Try.prog 36 #[.int .i64 n] w (.int .i64 (heldI n)) := by
  have H := Lib.hid (held_max n)
  unfold Gives
  go_enter Try.func36, Try.ntmps36
  go_wp2
  go_ret
  exact ⟨by rw [H.out]; rfl, Below.refl _ _⟩
set_option maxRecDepth 100000 in
theorem refOf_any (g n : Int) (hg : -9223372036854775808 ≤ g ∧ g < 9223372036854775808) (w : World) : Gives Try.prog 16 #[.int .i64 g, .int .i64 n] w (.int .i64 (shOf g n)) := by
  have GH := Lib.hid (refShards_any n)
  have hb := heldI_bd n
  unfold Gives shOf
  generalize heldI n = k at *
  have hk0 : ¬ k = 0 := by omega
  have hk1 : (k == 0) = false := by rw [beq_eq_false_iff_ne]; exact hk0
  by_cases h1 : g < 0
  · rw [if_pos h1]
    have h2 : max 0 g = 0 := by omega
    have e1 : (0 : Int) % k = 0 := by simp
    rw [e1]
    go_enter Try.func16, Try.ntmps16
    go_wp2_with (go_at_call 36; ((with_reducible refine (GH.out _).mono ?_); rintro e w1 ⟨rfl, hB⟩))
    go_ret
    exact ⟨by simp, hB⟩
  · rw [if_neg h1]
    have h2 : max 0 g = g := by omega
    have h2' : 0 ≤ g := by omega
    have h3 : 0 ≤ g % k := Int.emod_nonneg _ (by omega)
    have h4 : g % k < k := Int.emod_lt_of_pos _ (by omega)
    have h5 : g.tmod k = g % k := Int.tmod_eq_emod_of_nonneg h2'
    have h6 : IntKind.i64.wrap (g % k) = g % k := IntWalk.i64_in _ (by omega)
    go_enter Try.func16, Try.ntmps16
    go_wp2_with (go_at_call 36; ((with_reducible refine (GH.out _).mono ?_); rintro e w1 ⟨rfl, hB⟩))
    go_ret
    exact ⟨by simp, hB⟩

end Go.Proofs.Ytdncdlbhgaehmaa

/- What the document's Split leaves in memory: rows that grow, whose parts keep the entries that came in. -/
namespace Go.Proofs.Ytdncdlbhgaehmaa
open Go.RowKit Go.Shelf
set_option linter.unusedVariables false

/-- Parts in a row of one's own, whose entries lie where they lay in W0. -/
def PO (C : Nat) (W0 W : World) (a : Option Addr) (len : Nat) (S : List PL) : Prop := S.length = len ∧ len < 1000000 ∧ RowV W a len 10 (partCells S) ∧ (∀ k, inBlkE a len k → C ≤ k) ∧ ∀ x ∈ S, HasE W0 x.1 x.2
theorem PO.frame {C : Nat} {T : Nat → Prop} {W0 W W' : World} {a : Option Addr} {len : Nat} {S : List PL} (h : PO C W0 W a len S) (hF : FrameT T W W') (hT : ∀ k, C ≤ k → k < W.heap.size → ¬ T k) : PO C W0 W' a len S :=
  ⟨h.1, h.2.1, rowV_frame h.2.2.1 hF (fun k hk => hT k (h.2.2.2.1 k hk) (inBlkL_lt h.2.2.1 hk)), h.2.2.2⟩
theorem PO.mono {C C' : Nat} {W0 W : World} {a : Option Addr} {len : Nat} {S : List PL} (h : PO C W0 W a len S) (hC : C' ≤ C) : PO C' W0 W a len S := ⟨h.1, h.2.1, h.2.2.1, fun k hk => Nat.le_trans hC (h.2.2.2.1 k hk), h.2.2.2.2⟩
theorem PO.has {C : Nat} {W0 W : World} {a : Option Addr} {len : Nat} {S : List PL} (h : PO C W0 W a len S) (hB : Below W0.heap.size W0 W) : HasP W a len S := ⟨h.1, h.2.1, h.2.2.1, fun x hx => (h.2.2.2.2 x hx).below hB⟩
def FO (C : Nat) (W0 W : World) (a : Option Addr) (len : Nat) (L : List FV) : Prop := L.length = len ∧ len < 1000000 ∧ RowV W a len 4 (fvCells L) ∧ (∀ k, inBlkE a len k → C ≤ k) ∧ ∀ x ∈ L, PO C W0 W x.a x.len x.L
theorem FO.frame {C : Nat} {T : Nat → Prop} {W0 W W' : World} {a : Option Addr} {len : Nat} {L : List FV} (h : FO C W0 W a len L) (hF : FrameT T W W') (hT : ∀ k, C ≤ k → k < W.heap.size → ¬ T k) : FO C W0 W' a len L :=
  ⟨h.1, h.2.1, rowV_frame h.2.2.1 hF (fun k hk => hT k (h.2.2.2.1 k hk) (inBlkL_lt h.2.2.1 hk)), h.2.2.2.1, fun x hx => (h.2.2.2.2 x hx).frame hF hT⟩
theorem FO.mono {C C' : Nat} {W0 W : World} {a : Option Addr} {len : Nat} {L : List FV} (h : FO C W0 W a len L) (hC : C' ≤ C) : FO C' W0 W a len L := ⟨h.1, h.2.1, h.2.2.1, fun k hk => Nat.le_trans hC (h.2.2.2.1 k hk), fun x hx => (h.2.2.2.2 x hx).mono hC⟩
/-- A row of records that grows. -/
def gO (C : Nat) (W0 : World) (v : Value) (pre : List FV) (W : World) : Prop := W.ownsRow C 36 4 v pre.length (fvCells pre) ∧ ∀ x, x ∈ pre → PO C W0 W x.a x.len x.L ∧ ∀ k, inBlkE x.a x.len k → some k ≠ v.ownBlock
theorem gO_nil (C : Nat) (W0 W : World) : gO C W0 (.slice none 0 0) [] W := ⟨World.ownsRow_nil _ _ _ _, fun x hx => by cases hx⟩
theorem gO.frame {C : Nat} {T : Nat → Prop} {W0 W W' : World} {v : Value} {pre : List FV} (h : gO C W0 v pre W) (hF : FrameT T W W') (hT : ∀ k, C ≤ k → k < W.heap.size → ¬ T k) : gO C W0 v pre W' :=
  ⟨ownL_frame h.1 hF (fun j hj => by have := ownBlockL_lt h.1 hj; exact hT j this.2.1 this.1), fun x hx => ⟨(h.2 x hx).1.frame hF hT, (h.2 x hx).2⟩⟩
theorem gO_append {C : Nat} {W0 : World} {v v' : Value} {pre : List FV} {x : FV} {W w2 : World} (h : gO C W0 v pre W) (hx : PO C W0 W x.a x.len x.L ∧ ∀ k, inBlkE x.a x.len k → some k ≠ v.ownBlock)
    (hown : w2.ownsRow C 36 4 v' (pre.length + 1) (fvCells pre ++ x.arr.toList)) (hg : W.grownBy w2 v.ownBlock) (hn : v'.ownBlock = v.ownBlock ∨ v'.ownBlock = some W.heap.size) :
    gO C W0 v' (pre ++ [x]) w2 ∧ FrameT (fun k => some k = v.ownBlock) W w2 := by
  have hF := frameL_grown hg
  refine ⟨⟨by rw [List.length_append, fvCells_snoc]; exact hown, fun y hy => ?_⟩, hF⟩
  have hE : ∀ y : FV, (PO C W0 W y.a y.len y.L ∧ ∀ k, inBlkE y.a y.len k → some k ≠ v.ownBlock) → PO C W0 w2 y.a y.len y.L ∧ ∀ k, inBlkE y.a y.len k → some k ≠ v'.ownBlock := fun y hy => by
    obtain ⟨⟨h1, h2, h3, h4, h5⟩, o1⟩ := hy
    refine ⟨⟨h1, h2, rowV_frame h3 hF (fun k hk hT => o1 k hk hT), h4, h5⟩, fun k hk e => ?_⟩
    have hk2 := inBlkL_lt h3 hk
    rcases hn with hn | hn
    · exact o1 k hk (e.trans hn)
    · rw [hn] at e; cases e; omega
  rcases List.mem_append.1 hy with hy | hy
  · exact hE y (h.2 y hy)
  · rw [List.mem_singleton] at hy; subst hy; exact hE _ hx
theorem gO.out {C : Nat} {W0 : World} {v : Value} {pre : List FV} {W : World} (h : gO C W0 v pre W) (hn : pre.length < 1000000) : ∃ a cap, v = .slice a pre.length cap ∧ FO C W0 W a pre.length pre := by
  obtain ⟨a, cap, rfl, hc, hr⟩ := rowV_own h.1
  refine ⟨a, cap, rfl, rfl, hn, hr, fun k hk => ?_, fun x hx => (h.2 x hx).1⟩
  obtain ⟨b, off, rfl, h0, rfl⟩ := hk
  exact (ownBlockL_lt h.1 rfl).2.1
def refDone (C : Nat) (n : Int) (Fs : List FC) (Sh : List SV) (W0 W : World) : Prop := ∀ (i : Nat) (h : i < Sh.length), FO C W0 W Sh[i].a Sh[i].L.length Sh[i].L ∧ Sh[i].L.map fcore = splitC i n Fs
theorem refDone.frame {C : Nat} {n : Int} {Fs : List FC} {Sh : List SV} {T : Nat → Prop} {W0 W W' : World} (h : refDone C n Fs Sh W0 W) (hF : FrameT T W W') (hT : ∀ k, C ≤ k → k < W.heap.size → ¬ T k) : refDone C n Fs Sh W0 W' := fun i hi => ⟨(h i hi).1.frame hF hT, (h i hi).2⟩
def RefPost (n : Int) (Fs : List FC) (W : World) (e : Ending) (w' : World) : Prop :=
  ∃ (R : Nat) (Sh : List SV), e = .returned (.slice (some ⟨R, 0, none⟩) Sh.length Sh.length) ∧ (Sh.length : Int) = heldI n ∧ w'.heap[R]? = some (.cells (Sh.map SV.val).toArray 22 (0, 0)) ∧ refDone W.heap.size n Fs Sh W w' ∧ Below W.heap.size W w'
/-- Behind the first shards. -/
def rsI (W : World) (R K : Nat) (n : Int) (Fs : List FC) (s : Nat) (Sh : List SV) (wr : World) : Prop :=
  s = Sh.length ∧ s ≤ K ∧ wr.heap[R]? = some (.cells (shArr Sh (K - s)) 22 (0, 0)) ∧ refDone (R + 1) n Fs Sh W wr ∧ Below W.heap.size W wr
/-- Within the records. -/
def rmJ (W wo : World) (R m : Nat) (Sh : List SV) (v : Value) (pre : List FV) (wr : World) : Prop :=
  wr.heap[R]? = some (.cells (shRow Sh v m) 22 (0, 0)) ∧ gO wo.heap.size W v pre wr ∧ FrameT (fun k => k = R) wo wr
theorem rmJ.far {W wo wr w9 : World} {R m : Nat} {Sh : List SV} {v : Value} {pre : List FV} {T : Nat → Prop} (h : rmJ W wo R m Sh v pre wr) (hR : R < wo.heap.size) (hF : FrameT T wr w9) (hT : ∀ k, k < wr.heap.size → ¬ T k) : rmJ W wo R m Sh v pre w9 := by
  have hs := h.2.2.size
  refine ⟨hF.get h.1 (hT R (by omega)), h.2.1.frame hF (fun k _ hk => hT k hk), ⟨hF.os.trans h.2.2.os, hF.tape.trans h.2.2.tape, hF.output.trans h.2.2.output, Nat.le_trans hs hF.size, fun k hk hk2 => (hF.block k (by omega) (hT k (by omega))).trans (h.2.2.block k hk hk2)⟩⟩
theorem rs_next {W wo wr : World} {R K s m : Nat} {n : Int} {Fs : List FC} {Sh : List SV} {v : Value} {xs : List FV} (hs : rsI W R K n Fs s Sh wo) (hm : K - s = m + 1) (hR : W.heap.size ≤ R ∧ R < wo.heap.size) (hJ : rmJ W wo R m Sh v xs wr) (hx : xs.map fcore = splitC (s : Int) n Fs) (hl : xs.length < 1000000) :
    ∃ sa sc, rsI W R K n Fs (s + 1) (Sh ++ [⟨sa, sc, xs⟩]) wr := by
  obtain ⟨h1, h2, h3, h4, h5⟩ := hs
  obtain ⟨j1, j2, j3⟩ := hJ
  obtain ⟨a, cap, hv, hN⟩ := j2.out hl
  subst hv
  refine ⟨a, cap, by rw [List.length_append, List.length_singleton]; omega, by omega, ?_, ?_, h5.trans (j3.toBelow h5.size fun k hk => hk ▸ hR.1)⟩
  · rw [show K - (s + 1) = m by omega, ← shRow_arr]; exact j1
  · intro i hi
    by_cases hlt : i < Sh.length
    · have := (h4.frame j3 (fun k hk _ e => by omega)) i hlt
      simp only [List.getElem_append_left hlt]
      exact this
    · have hi' : i = Sh.length := by rw [List.length_append, List.length_singleton] at hi; omega
      subst hi'
      have e : (Sh ++ [(⟨a, cap, xs⟩ : SV)])[Sh.length]'hi = ⟨a, cap, xs⟩ := by simp
      rw [e]
      exact ⟨hN.mono (by have := hR.2; omega), by rw [← h1]; exact hx⟩
theorem rs_end {W wr : World} {R K s : Nat} {n : Int} {Fs : List FC} {Sh : List SV} (hs : rsI W R K n Fs s Sh wr) (hj : ¬ s < K) (hR : W.heap.size ≤ R) (hK : heldI n = (K : Int)) : RefPost n Fs W (.returned (.slice (some ⟨R, 0, none⟩) K K)) wr := by
  obtain ⟨h1, h2, h3, h4, h5⟩ := hs
  have hKS : K = Sh.length := by omega
  refine ⟨R, Sh, by rw [hKS], by rw [hK, hKS], ?_, fun i hi => ⟨(h4 i hi).1.mono (by omega), (h4 i hi).2⟩, h5⟩
  rw [show K - s = 0 by omega] at h3
  simpa [shArr] using h3
/-- The append onto the shard's row, its store. -/
theorem rm_app {W wo wr w6 : World} {R m : Nat} {Sh : List SV} {v v' : Value} {pre : List FV} {x : FV} (h : rmJ W wo R m Sh v pre wr) (hR : R < wo.heap.size) (hx : PO wo.heap.size W wr x.a x.len x.L ∧ ∀ k, inBlkE x.a x.len k → some k ≠ v.ownBlock)
    (hown : w6.ownsRow wo.heap.size 36 4 v' (pre.length + 1) (fvCells pre ++ x.arr.toList)) (hg : (wr.drew.alloc (.cells x.arr 36)).grownBy w6 v.ownBlock) (hn : v'.ownBlock = v.ownBlock ∨ v'.ownBlock = some (wr.heap.size + 1)) :
    w6.cell? ⟨R, Sh.length, none⟩ = some v ∧ w6.frozen? ⟨R, Sh.length, none⟩ = false ∧ rmJ W wo R m Sh v' (pre ++ [x]) (w6.setCell ⟨R, Sh.length, none⟩ v') := by
  have hA : Below wr.heap.size wr (wr.drew.alloc (.cells x.arr 36)) := bel_alloc (Below.refl wr.heap.size wr).drew _
  have hFA : FrameT (fun _ => False) wr (wr.drew.alloc (.cells x.arr 36)) := FrameT.below hA
  have hJA := h.far hR hFA (fun _ _ => id)
  obtain ⟨h1, h2, h3⟩ := hJA
  obtain ⟨g1, g2⟩ := gO_append h2 ⟨hx.1.frame hFA (fun _ _ _ => id), hx.2⟩ hown hg (by
    rcases hn with hn | hn
    · exact .inl hn
    · exact .inr (by rw [hn]; simp))
  have hvb : ∀ k, some k = v.ownBlock → wo.heap.size ≤ k := fun k hk => (ownBlockL_lt h2.1 hk).2.1
  have hR6 := g2.get h1 (fun e => by have := hvb _ e; omega)
  have hFs := FrameT.setCell w6 R Sh.length v'
  refine ⟨?_, frozen_of_row _ R _ _ _ hR6, ?_, g1.frame hFs (fun k hk _ e => by omega), ?_⟩
  · rw [Lib.cell_of_heap hR6]; exact shRow_get Sh v m
  · have e := Go.Joins.block_setCell hR6 v' (i := Sh.length)
    rw [shRow_set] at e
    exact e
  · exact ⟨hg.os.trans h3.os, hg.tape.trans h3.tape, hg.output.trans h3.output, Nat.le_trans h3.size (Nat.le_trans g2.size hFs.size), fun k hk hk2 => by
      have hs := h3.size
      have hs2 := g2.size
      exact (hFs.block k (by omega) hk2).trans ((g2.block k (by omega) (fun e => by have := hvb _ e; omega)).trans (h3.block k hk hk2))⟩

theorem fx_next {w9 wr w1 wa w4 : World} {X i : Nat} {v u : Value} (h9 : w9.heap.size = X + 1) (h : FrameT (fun k => k = X) w9 wr) (hB1 : Below wr.heap.size wr w1) (hA : Below w1.heap.size w1 wa) (hg : wa.grownBy w4 v.ownBlock) (hv : ∀ k, v.ownBlock = some k → X + 1 ≤ k) : FrameT (fun k => k = X) w9 (w4.setCell ⟨X, i, none⟩ u) := by
  have hs := FrameT.setCell w4 X i u
  have z1 := h.size
  have z2 := hB1.size
  have z3 := hA.size
  have z4 := hg.size
  refine ⟨hg.os.trans (hA.os.trans (hB1.os.trans h.os)), hg.tape.trans (hA.tape.trans (hB1.tape.trans h.tape)), hg.output.trans (hA.output.trans (hB1.output.trans h.output)), Nat.le_trans (by omega) hs.size, fun k hk hT => ?_⟩
  exact (hs.block k (by omega) hT).trans ((hg.block k (by omega) (fun e => by have := hv k e.symm; omega)).trans ((hA.block k (by omega)).trans ((hB1.block k (by omega)).trans (h.block k hk hT))))

end Go.Proofs.Ytdncdlbhgaehmaa

/- The document's Split: laderef18.Split at whatever records. -/
namespace Go.Proofs.Ytdncdlbhgaehmaa
open Go.RowKit Go.Shelf
set_option linter.unusedVariables false
set_option linter.unusedSimpArgs false
attribute [local go_sem] Oper.semAt_some wide_fn wide_round_fn

set_option maxRecDepth 100000 in
set_option maxHeartbeats 8000000 in
theorem refSplit_any (n : Int) (fa : Option Addr) (flen fcap : Nat) (Fs : List FV) (W : World) (hFs : FoundsAt W fa flen Fs) :
    Calls Try.prog 13 #[.slice fa flen fcap, .int .i64 n] W (RefPost n (Fs.map fcore) W) := by
  obtain ⟨i0, hi, hz0, hz1, hz2⟩ := info_parts infoFoundS
  obtain ⟨i1, hj, hy0, hy1, hy2⟩ := info_parts infoFoundSl
  obtain ⟨i2, hp, hp0, hp1, hp2⟩ := info_parts infoPartL
  have hbd := heldI_bd n
  obtain ⟨K, hK⟩ : ∃ K : Nat, heldI n = (K : Int) := ⟨(heldI n).toNat, by omega⟩
  rw [hK] at hbd
  have GH := Lib.hid (fun w => refShards_any n w)
  rw [hK] at GH
  have HK := Lib.hid hK
  have HFL := Lib.hid hFs.1
  have HFS := Lib.hid hFs
  have hfm := hFs.2.1
  clear hK hFs
  have HM := Lib.hid (fun (w1 : World) => run_makeSlice_full (P := Try.prog) w1 w1.heap.size 25 22 i1 (.slice none 0 0) 1 Try.underlying25 hj hy0 hy1 .i64 .i64 K (by omega) (by rw [hy2]; omega) (by unfold maxLen; omega) (Nat.le_refl _))
  go_enter Try.func13, Try.ntmps13
  go_wp2_with (go_at_call 36; ((with_reducible refine (GH.out _).mono ?_); rintro e w1 ⟨rfl, hB1⟩; obtain ⟨w2, hrun, hown, hgr⟩ := HM.out w1; have hB2 : Below w1.heap.size w1 w2 := (Below.refl w1.heap.size w1).grown hgr (Nat.le_refl _) (fun k e => by cases e); have HOWN := Lib.hid hown; clear hown hgr))
  have hrow := made_row HOWN.out
  have hlt0 := heap_lt hrow
  have hS0 : rsI W w1.heap.size K n (Fs.map fcore) 0 [] w2 := ⟨rfl, Nat.zero_le _, hrow, (fun i hi => by cases hi), bel2 hB1 hB2⟩
  have hR0 := hB1.size
  clear hrow hB1 hB2 hrun HOWN HM GH
  generalize w1.heap.size = R at hS0 hR0 hlt0 ⊢
  have HR0 := Lib.hid hR0
  clear hlt0 hR0
  go_loopw [7] (fun sv wr => ∃ (s : Nat) (Sh : List SV), sv = .int .i64 (s : Int) ∧ rsI W R K n (Fs.map fcore) s Sh wr) (fun sv _ => K - (intOf sv).toNat)
  case atStart => exact ⟨0, [], rfl, hS0⟩
  case round =>
  clear hS0
  obtain ⟨s, Sh, rfl, hS⟩ := hrel
  have hsK := hS.2.1
  have HS := Lib.hid hS
  by_cases hlt : s < K
  · have hlt' : (s : Int) < (K : Int) := by omega
    have hs0 : (0 : Int) ≤ (s : Int) := by omega
    obtain ⟨m, hm⟩ : ∃ m, K - s = m + 1 := ⟨K - s - 1, by omega⟩
    have HM0 := Lib.hid hm
    have HSL := Lib.hid hS.1
    have hR := hS.2.2.1
    rw [hm, shRow_nil] at hR
    have hRlt := heap_lt hR
    have HRX := Lib.hid (And.intro HR0.out hRlt)
    have hJ0 : rmJ W wr R m Sh (.slice none 0 0) [] wr := ⟨hR, gO_nil _ _ _, FrameT.refl _ _⟩
    have HBO := Lib.hid hS.2.2.2.2
    clear hS hm hR hRlt
    obtain ⟨wo, rfl⟩ : ∃ wo : World, wo = wr := ⟨_, rfl⟩
    go_wp2
    go_loopw [8] (fun iv wr => ∃ (i : Nat) (v : Value) (pre : List FV), i ≤ flen ∧ iv = .int .i64 (i : Int) ∧ pre.map fcore = splitC (s : Int) n ((Fs.take i).map fcore) ∧ rmJ W wo R m Sh v pre wr) (fun iv _ => flen - (intOf iv).toNat)
    case atStart => exact ⟨0, _, [], by omega, rfl, rfl, hJ0⟩
    case round =>
    clear hJ0
    obtain ⟨i, v, pre, hi9, rfl, hpre, hJ⟩ := hrel
    have HPRE := Lib.hid hpre
    clear hpre
    by_cases hit : i < flen
    · have hit' : (i : Int) < (flen : Int) := by omega
      have hi0 : (0 : Int) ≤ (i : Int) := by omega
      have hBW : Below W.heap.size W wr := HBO.out.trans (hJ.2.2.toBelow HBO.out.size (fun k hk => hk ▸ HRX.out.1))
      obtain ⟨b, off, rfl, hb, hx⟩ := HFS.out.2.2.1.2.2 (by omega)
      have hkl : i < Fs.length := by rw [HFL.out]; exact hit
      have HC := Lib.hid (fun W' (hB : Below W.heap.size W W') => fv_at4 hb hB hx hkl)
      have HXK := Lib.hid (HFS.out.2.2.2 Fs[i] (List.getElem_mem hkl))
      have HTK := Lib.hid (splitC_take (s := (s : Int)) (n := n) hkl)
      have HPL := Lib.hid (show pre.length ≤ i by
        have h1 := congrArg List.length HPRE.out
        rw [List.length_map] at h1
        have h2 := splitC_len (s : Int) n ((Fs.take i).map fcore)
        rw [List.length_map, List.length_take] at h2
        omega)
      have HBb := Lib.hid hb
      clear hx hb
      generalize Fs[i] = x at *
      obtain ⟨xq, xa, xlen, xcap, xL, xs, xt⟩ := x
      dsimp only at *
      have HJ := Lib.hid hJ
      have HBW := Lib.hid hBW
      clear hJ hBW
      obtain ⟨c0, c1, c2, c3⟩ := HC.out wr HBW.out
      have hBx := bel_alloc (Below.refl wr.heap.size wr) (.cells #[.int .i64 xq, .slice none 0 0, .int .i64 xs, .int .i64 xt] 36)
      have hbx := World.alloc_heap_new wr (.cells #[.int .i64 xq, .slice none 0 0, .int .i64 xs, .int .i64 xt] 36)
      have HBX := Lib.hid hBx
      have HBB := Lib.hid hbx
      clear hBx hbx
      have hby := World.alloc_heap_new wr (.cells #[.int .i64 xq, .slice xa xlen xcap, .int .i64 xs, .int .i64 xt] 36)
      obtain ⟨x0, x1, x2, x3⟩ := cells4 hby
      have f1 := frozen_of_row _ wr.heap.size 1 _ _ hby
      clear hby
      obtain ⟨wq, rfl⟩ : ∃ wq : World, wq = wr := ⟨_, rfl⟩
      go_wp2
      have hw9s : (wq.alloc (.cells #[.int .i64 xq, .slice none 0 0, .int .i64 xs, .int .i64 xt] 36)).heap.size = wq.heap.size + 1 := by simp
      have H9 := Lib.hid (And.intro HBX.out (And.intro HBB.out hw9s))
      clear hw9s c0 c1 c2 c3 x0 x1 x2 x3 f1 HBX HBB
      generalize wq.alloc (.cells #[.int .i64 xq, .slice none 0 0, .int .i64 xs, .int .i64 xt] 36) = w9 at H9 ⊢
      have hb9 := H9.out.2.1
      go_loopw [10] (fun jv wr => ∃ (j : Nat) (v' : Value) (P : List PL), j ≤ xlen ∧ jv = .int .i64 (j : Int) ∧ P.map core = ownC (s : Int) n ((xL.take j).map core) ∧ (∀ y ∈ P, HasE W y.1 y.2) ∧ wr.heap[wq.heap.size]? = some (.cells #[.int .i64 xq, v', .int .i64 xs, .int .i64 xt] 36 (0, 0)) ∧ wr.ownsRow (wq.heap.size + 1) 41 10 v' P.length (partCells P) ∧ FrameT (fun k => k = wq.heap.size) w9 wr) (fun jv _ => xlen - (intOf jv).toNat)
      case atStart => exact ⟨0, _, [], by omega, rfl, rfl, (fun y hy => by cases hy), hb9, World.ownsRow_nil _ _ _ _, FrameT.refl _ _⟩
      case round =>
      clear hb9
      obtain ⟨j, v', P, hj9, rfl, hP, hPE, hblk, hown, hFX⟩ := hrel
      have HPP := Lib.hid hP
      have HPE := Lib.hid hPE
      have HFX := Lib.hid hFX
      have HSW : W.heap.size ≤ wq.heap.size := Nat.le_trans HBO.out.size HJ.out.2.2.size
      have HBWr := Lib.hid (show Below W.heap.size W wr from (HBW.out.trans (H9.out.1.mono HSW)).trans (hFX.toBelow (by have := H9.out.2.2; omega) (fun k hk => hk ▸ HSW)))
      have HPL9 := Lib.hid (show P.length ≤ j by
        have h1 := congrArg List.length HPP.out
        rw [List.length_map] at h1
        have h2 := ownC_len (s : Int) n ((xL.take j).map core)
        rw [List.length_map, List.length_take] at h2
        omega)
      have hxm := HXK.out.1.2.1
      have HXL := Lib.hid HXK.out.1.1
      clear hP hPE hFX
      by_cases hjt : j < xlen
      · have hjt' : (j : Int) < (xlen : Int) := by omega
        have hj0 : (0 : Int) ≤ (j : Int) := by omega
        obtain ⟨pb, po, rfl, hpb, hpx⟩ := HXK.out.1.2.2.1.2.2 (by omega)
        have hjl : j < xL.length := by rw [HXL.out]; exact hjt
        have HCP := Lib.hid (fun W' (hB : Below W.heap.size W W') => part_at10 hpb hB hpx hjl)
        have HGB := Lib.hid (HXK.out.2 xL[j] (List.getElem_mem hjl))
        have HEE := Lib.hid (HXK.out.1.2.2.2 xL[j] (List.getElem_mem hjl))
        have HOT := Lib.hid (ownC_take (s := (s : Int)) (n := n) hjl)
        have HPB := Lib.hid hpb
        clear hpx hpb
        generalize xL[j] = y at *
        obtain ⟨⟨pg, pk, pa, plen, pcap, pht, phv, phc, pi, pt, pm, ph⟩, pl⟩ := y
        dsimp only at *
        have hc1 := (HC.out wr HBWr.out).2.1
        obtain ⟨p0, -⟩ := HCP.out wr HBWr.out
        have GO := Lib.hid (fun W' => refOf_any pg n HGB.out W')
        by_cases hs : shOf pg n = (s : Int)
        · rw [hs] at GO
          have HSE := Lib.hid hs
          clear hs
          go_wp2_with (go_at_call 16; ((with_reducible refine (GO.out _).mono ?_); rintro e w1 ⟨rfl, hB1⟩; have HBL := Lib.hid ((hB1.block _ (heap_lt hblk)).trans hblk); have HB1 := Lib.hid hB1; have HOW := Lib.hid (ownL_frame hown (FrameT.below (T := fun _ => False) hB1) (fun _ _ => id)); have HBW1 := Lib.hid (HBWr.out.trans (hB1.mono HBWr.out.size)); clear hB1 hblk hown hc1 p0))
          have hblk := HBL.out
          have hlt9 : wq.heap.size < w1.heap.size := heap_lt hblk
          have hpl9 := HPL9.out
          have dw1 : w1.cell? ⟨wq.heap.size, 1, none⟩ = some v' := cell_of_row _ _ 1 _ _ _ hblk
          have d1 : w1.drew.cell? ⟨wq.heap.size, 1, none⟩ = some v' := cell_of_row _ _ 1 _ _ _ hblk
          have dc : w1.drew.cell? ⟨b, off + i * 4 + 1, none⟩ = some (.slice (some ⟨pb, po, none⟩) xlen xcap) := (HC.out w1.drew HBW1.out.drew).2.1
          obtain ⟨q0, q1, q2, q3, q4, q5, q6, q7, q8, q9⟩ := HCP.out w1.drew HBW1.out.drew
          have e1 := ((bel_alloc (Below.refl w1.drew.heap.size w1.drew) (.cells [.int .i64 pg, .int .i64 pk, .slice pa plen pcap, .int .i64 pht, .int .i64 phv, .int .i64 phc, .int .i64 pi, .int .i64 pt, .bool pm, .bool ph].toArray 41)).cell (p := ⟨wq.heap.size, 1, none⟩) hlt9).trans d1
          go_region_law (first
            | ((refine step_append_lies _ (by rfl) _ _ _ (by rfl) (wq.heap.size + 1) 41 i2 (.agg #[.int .i64 0, .int .i64 0, .slice none 0 0, .int .i64 0, .int .i64 0, .int .i64 0, .int .i64 0, .int .i64 0, .bool false, .bool false]) 10 88 Try.underlying30 hp hp0 hp1 hp2 rfl (by omega) v' P.length (partCells P) (by rfl) (by first | exact (HOW.out.alloc _) | exact (HOW.out.alloc _).drew | exact (HOW.out.drew.alloc _)) ⟨w1.heap.size, 0, none⟩ 1 1 [.int .i64 pg, .int .i64 pk, .slice pa plen pcap, .int .i64 pht, .int .i64 phv, .int .i64 phc, .int .i64 pi, .int .i64 pt, .bool pm, .bool ph] (by rfl) (by rfl) (by first | exact news_new _ _ _ | exact World.news_of_block (cs := [.int .i64 pg, .int .i64 pk, .slice pa plen pcap, .int .i64 pht, .int .i64 phv, .int .i64 phc, .int .i64 pi, .int .i64 pt, .bool pm, .bool ph].toArray) (World.alloc_heap_new _ _)) (by simp [Value.oneCell']) (by omega) (by unfold maxLen; omega) (by omega) (by simp; omega) _ rfl ?_; intro g1 c9 w4 hown4 hgrow4 hat4 hlt4; have hA1 := bel_alloc (Below.refl w1.heap.size w1) (.cells [.int .i64 pg, .int .i64 pk, .slice pa plen pcap, .int .i64 pht, .int .i64 phv, .int .i64 phc, .int .i64 pi, .int .i64 pt, .bool pm, .bool ph].toArray 41); have hb4 := (hgrow4.block wq.heap.size (by simp; omega) (fun e => by have := ownBlock_ge HOW.out e.symm; omega)).trans ((hA1.block _ hlt9).trans hblk); have k4 : w4.cell? ⟨wq.heap.size, 1, none⟩ = some v' := cell_of_row _ _ 1 _ _ _ hb4; have kf4 := frozen_of_row _ _ 1 _ _ hb4)))
          all_goals
            have hb5 := setBox4 hb4 (.slice (some ⟨g1, 0, none⟩) (P.length + 1) c9)
            have hown5 := ownL_frame hown4 (FrameT.setCell w4 wq.heap.size 1 (.slice (some ⟨g1, 0, none⟩) (P.length + 1) c9)) (fun k hk e => by have := ownBlock_ge hown4 hk.symm; omega)
            have hfx := fx_next (i := 1) (u := (.slice (some ⟨g1, 0, none⟩) (P.length + 1) c9)) H9.out.2.2 HFX.out HB1.out (by first | exact hA1 | exact hA1.drew | exact bel_alloc (Below.refl w1.heap.size w1).drew _) hgrow4 (fun k hk => ownBlock_ge HOW.out hk)
            clear dw1 d1 dc q0 q1 q2 q3 q4 q5 q6 q7 q8 q9 e1 k4 kf4
            go_wp2
            go_roundw
            case rel => exact ⟨j + 1, _, P ++ [(⟨pg, pk, pa, plen, pcap, pht, phv, phc, pi, pt, pm, ph⟩, pl)], by omega, by go_num, by rw [List.map_append, HPP.out, HOT.out, if_pos HSE.out]; rfl, fun y hy => (List.mem_append.1 hy).elim (HPE.out y) (fun h => by rw [List.mem_singleton.1 h]; exact HEE.out), hb5, by rw [List.length_append, partCells_snoc]; exact hown5, hfx⟩
            case measure => simp [intOf]; omega
        · have hs' : (shOf pg n == (s : Int)) = false := by rw [beq_eq_false_iff_ne]; exact hs
          have HSE := Lib.hid hs
          obtain ⟨t, ht⟩ : ∃ t, t = shOf pg n := ⟨_, rfl⟩
          rw [← ht] at GO hs'
          clear hs ht
          go_wp2_with (go_at_call 16; ((with_reducible refine (GO.out _).mono ?_); rintro e w1 ⟨rfl, hB1⟩; have HBL := Lib.hid ((hB1.block _ (heap_lt hblk)).trans hblk); have HOW := Lib.hid (ownL_frame hown (FrameT.below (T := fun _ => False) hB1) (fun _ _ => id)); have HFX1 := Lib.hid (HFX.out.trans (FrameT.below hB1)); clear hB1 hblk hown hc1 p0))
          go_roundw
          case rel => exact ⟨j + 1, v', P, by omega, by go_num, by rw [HPP.out, HOT.out, if_neg HSE.out, List.append_nil], HPE.out, HBL.out, HOW.out, HFX1.out⟩
          case measure => simp [intOf]; omega
      · obtain rfl : j = xlen := by omega
        have HPF := Lib.hid (show P.map core = ownC (s : Int) n (xL.map core) by rw [HPP.out, List.take_of_length_le (by rw [HXL.out]; exact Nat.le_refl _)])
        have hFq : FrameT (fun k => k = wq.heap.size) wq wr := (FrameT.below H9.out.1).trans HFX.out
        have hJr := HJ.out.far HRX.out.2 hFq (fun k hk e => by omega)
        have HJR := Lib.hid hJr
        have hc1 := (HC.out wr HBWr.out).2.1
        obtain ⟨pa, pc, rfl, hpc, hprow⟩ := rowV_own hown
        have k1 : wr.cell? ⟨wq.heap.size, 1, none⟩ = some (.slice pa P.length pc) := cell_of_row _ _ 1 _ _ _ hblk
        have hpl9 := HPL9.out
        have HBL := Lib.hid hblk
        have HPO := Lib.hid (show PO wo.heap.size W wr pa P.length P ∧ ∀ k, inBlkE pa P.length k → wq.heap.size < k from by
          have key : ∀ k, inBlkE pa P.length k → wq.heap.size + 1 ≤ k := fun k hk => by
            obtain ⟨b2, off2, rfl, h0, rfl⟩ := hk
            exact (ownBlockL_lt hown rfl).2.1
          exact ⟨⟨rfl, by omega, hprow, fun k hk => by have := key k hk; have := HJ.out.2.2.size; omega, HPE.out⟩, fun k hk => key k hk⟩)
        clear hown hprow hJr hFq hblk
        rcases Nat.eq_zero_or_pos P.length with h0 | h0
        · have h0' : (P.length : Int) = 0 := by omega
          have HT2 := Lib.hid (show pre.map fcore = splitC (s : Int) n ((Fs.take (i + 1)).map fcore) by
            rw [HTK.out, ← HPF.out, if_pos (by rw [List.length_eq_zero_iff.1 h0]; rfl), List.append_nil, HPRE.out])
          have hng : ¬ (0 : Int) < (P.length : Int) := by omega
          have H0 := Lib.hid h0
          clear h0 h0'
          go_wp2
          exact ⟨⟨i + 1, v, pre, by omega, by go_num, HT2.out, HJR.out⟩, by simp [intOf]; omega⟩
        · have h0' : (0 : Int) < (P.length : Int) := by omega
          have HT2 := Lib.hid (show (pre ++ [(⟨xq, pa, P.length, pc, P, xs, xt⟩ : FV)]).map fcore = splitC (s : Int) n ((Fs.take (i + 1)).map fcore) by
            rw [HTK.out, ← HPF.out, if_neg (by simp; intro h; rw [h] at h0; exact absurd h0 (by decide)), List.map_append, HPRE.out]; rfl)
          have HH0 := Lib.hid h0
          clear h0
          go_wp2
          have hRr := HJR.out.1
          have hRl := heap_lt hRr
          have dR : wr.drew.cell? ⟨R, s, none⟩ = some v := by rw [Lib.cell_of_heap (show wr.drew.heap[R]? = _ from hRr), HSL.out]; exact shRow_get Sh v m
          have wR : wr.cell? ⟨R, s, none⟩ = some v := dR
          obtain ⟨z0, z1, z2, z3⟩ := cells4 HBL.out
          obtain ⟨y0, y1, y2, y3⟩ := cells4 (show wr.drew.heap[wq.heap.size]? = _ from HBL.out)
          have eA := bel_alloc (Below.refl wr.drew.heap.size wr.drew) (.cells [.int .i64 xq, .slice pa P.length pc, .int .i64 xs, .int .i64 xt].toArray 36)
          have eR := (eA.cell (p := ⟨R, s, none⟩) hRl).trans dR
          have hlx : wq.heap.size < wr.heap.size := heap_lt HBL.out
          obtain ⟨ey0, ey1, ey2, ey3⟩ := cells4 ((eA.block wq.heap.size hlx).trans (show wr.drew.heap[wq.heap.size]? = _ from HBL.out))
          have hprl := HPL.out
          have hszo := HJR.out.2.2.size
          have HAF := Lib.hid (fun (w6 : World) (g1 c9 : Nat) (h1 : w6.ownsRow wo.heap.size 36 4 (.slice (some ⟨g1, 0, none⟩) (pre.length + 1) c9) (pre.length + 1) (fvCells pre ++ [.int .i64 xq, .slice pa P.length pc, .int .i64 xs, .int .i64 xt])) (h2 : (wr.drew.alloc (.cells #[.int .i64 xq, .slice pa P.length pc, .int .i64 xs, .int .i64 xt] 36)).grownBy w6 v.ownBlock) (h3 : v.ownBlock = some g1 ∨ g1 = wr.heap.size + 1) => (show w6.cell? ⟨R, s, none⟩ = some v ∧ w6.frozen? ⟨R, s, none⟩ = false ∧ rmJ W wo R m Sh (.slice (some ⟨g1, 0, none⟩) (pre.length + 1) c9) (pre ++ [(⟨xq, pa, P.length, pc, P, xs, xt⟩ : FV)]) (w6.setCell ⟨R, s, none⟩ (.slice (some ⟨g1, 0, none⟩) (pre.length + 1) c9)) from by
            have := rm_app (x := ⟨xq, pa, P.length, pc, P, xs, xt⟩) HJR.out HRX.out.2 ⟨HPO.out.1, fun k hk e => by have h4 := HPO.out.2 k hk; have h5 := (ownBlockL_lt HJ.out.2.1.1 e).1; omega⟩ h1 h2 (h3.elim (fun h => .inl h.symm) (fun h => .inr (by rw [h]; rfl)))
            rwa [← HSL.out] at this))
          go_region_law (first
            | ((refine step_append_lies _ (by rfl) _ _ _ (by rfl) wo.heap.size 36 i0 (.agg #[.int .i64 0, .slice none 0 0, .int .i64 0, .int .i64 0]) 4 48 Try.underlying22 hi hz0 hz1 hz2 rfl (by omega) v pre.length (fvCells pre) (by rfl) (by first | exact (HJR.out.2.1.1.alloc _) | exact (HJR.out.2.1.1.alloc _).drew | exact (HJR.out.2.1.1.drew.alloc _)) ⟨wr.heap.size, 0, none⟩ 1 1 [.int .i64 xq, .slice pa P.length pc, .int .i64 xs, .int .i64 xt] (by rfl) (by rfl) (by first | exact news_new _ _ _ | exact World.news_of_block (cs := [.int .i64 xq, .slice pa P.length pc, .int .i64 xs, .int .i64 xt].toArray) (World.alloc_heap_new _ _)) (by simp [Value.oneCell']) (by omega) (by unfold maxLen; omega) (by omega) (by simp; omega) _ rfl ?_; intro g1 c9 w4 hown4 hgrow4 hat4 hlt4; obtain ⟨k4, kf4, hJ4⟩ := HAF.out w4 g1 c9 hown4 hgrow4 (by simpa using hat4); have HJ4 := Lib.hid hJ4; clear hJ4)))
          all_goals
            clear wR z0 z1 z2 z3 dR y0 y1 y2 y3 eR ey0 ey1 ey2 ey3 k4 kf4
            go_wp2
            exact ⟨⟨i + 1, _, _, by omega, by go_num, HT2.out, HJ4.out⟩, by simp [intOf]; omega⟩
    · obtain rfl : i = flen := by omega
      have hxl : pre.length < 1000000 := by
        have e := congrArg List.length HPRE.out
        have e2 := splitC_len (s : Int) n ((Fs.take i).map fcore)
        simp only [List.length_map, List.length_take] at e e2
        omega
      obtain ⟨sa, sc, hN⟩ := rs_next HS.out HM0.out HRX.out hJ (by rw [HPRE.out, List.take_of_length_le (by rw [HFL.out]; exact Nat.le_refl _)]) hxl
      have HN := Lib.hid hN
      clear hN hxl hJ
      go_wp2
      exact ⟨⟨s + 1, _, by go_num, HN.out⟩, by simp [intOf]; omega⟩
  · clear hS
    go_wp2
    go_ret
    exact rs_end HS.out hlt HR0.out HK.out

end Go.Proofs.Ytdncdlbhgaehmaa
