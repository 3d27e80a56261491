/- ShdS, ShdT, ShdU: in one text. -/
import Derived.Test.YtdncdlbhgaehmaaShd
import Derived.Test.YtdncdlbhgaehmaaRegion
import Derived.Deep.RegionHeld3
import Derived.Deep.AppendLies
/- shard.Split: a row of records that grows; the marks of loops over functions within a loop; what all shards have. -/
namespace Go.Proofs.Ytdncdlbhgaehmaa
open Go.RowKit Go.Shelf
set_option linter.unusedVariables false
attribute [local go_sem] Oper.semAt_some wide_fn wide_round_fn

theorem infoFoundS : (Try.prog.info? 36).map (fun i => (i.zero, i.size, i.bytes)) = some (some (.agg #[.int .i64 0, .slice none 0 0, .int .i64 0, .int .i64 0]), 4, 48) := by kernel_rfl
theorem infoFoundSl : (Try.prog.info? 22).map (fun i => (i.zero, i.size, i.bytes)) = some (some (.slice none 0 0), 1, 24) := by kernel_rfl
/-- Records in new memory: from C on. -/
def FNew (C : Nat) (W : World) (a : Option Addr) (len : Nat) (L : List FV) : Prop := L.length = len ∧ len < 1000000 ∧ RowV W a len 4 (fvCells L) ∧ (∀ k, inBlkE a len k → C ≤ k) ∧ ∀ x ∈ L, PNew C W x.a x.len x.L
theorem FNew.frame {C : Nat} {T : Nat → Prop} {W W' : World} {a : Option Addr} {len : Nat} {L : List FV} (h : FNew C W a len L) (hF : FrameT T W W') (hT : ∀ k, C ≤ k → k < W.heap.size → ¬ T k) : FNew C W' a len L :=
  ⟨h.1, h.2.1, rowV_frame h.2.2.1 hF (fun k hk => hT k (h.2.2.2.1 k hk) (inBlkL_lt h.2.2.1 hk)), h.2.2.2.1, fun x hx => (h.2.2.2.2 x hx).frame hF hT⟩
theorem FNew.below {C : Nat} {W W' : World} {a : Option Addr} {len : Nat} {L : List FV} (h : FNew C W a len L) (hB : Below W.heap.size W W') : FNew C W' a len L := h.frame (T := fun _ => False) (FrameT.below hB) (fun _ _ _ => id)
theorem FNew.mono {C C' : Nat} {W : World} {a : Option Addr} {len : Nat} {L : List FV} (h : FNew C W a len L) (hC : C' ≤ C) : FNew C' W a len L := ⟨h.1, h.2.1, h.2.2.1, fun k hk => Nat.le_trans hC (h.2.2.2.1 k hk), fun x hx => (h.2.2.2.2 x hx).mono hC⟩
/-- A part's rows don't lie in a block that grows. -/
def Off (v : Value) (x : FV) : Prop := (∀ k, inBlkE x.a x.len k → some k ≠ v.ownBlock) ∧ ∀ y ∈ x.L, ∀ k, inBlkE y.1.a y.1.len k → some k ≠ v.ownBlock
/-- A row of records that grows from C on. -/
def gI (C : Nat) (v : Value) (pre : List FV) (W : World) : Prop := W.ownsRow C 36 4 v pre.length (fvCells pre) ∧ ∀ x, x ∈ pre → PNew C W x.a x.len x.L ∧ Off v x
theorem gI_nil (C : Nat) (W : World) : gI C (.slice none 0 0) [] W := ⟨World.ownsRow_nil _ _ _ _, fun x hx => by cases hx⟩
theorem rowL_stab {B : Nat} {a : Option Addr} {n sz : Nat} {X : List Value} : Stab B (fun _ => False) (fun W => RowV W a n sz X) := fun W W' h hm => ⟨h.1, h.2.1, fun h0 => by
  obtain ⟨c, off, e, hlt, hc⟩ := h.2.2 h0
  exact ⟨c, off, e, Nat.lt_of_lt_of_le hlt hm.size, fun j hj => Stab.cell (B := B) (T := fun _ => False) id W W' (hc j hj) hm⟩⟩
theorem pNew_stab {B C : Nat} {a : Option Addr} {len : Nat} {S : List PL} : Stab B (fun _ => False) (fun W => PNew C W a len S) := fun W W' h hm =>
  ⟨⟨h.1.1, h.1.2.1, rowL_stab _ _ h.1.2.2.1 hm, fun x hx => ⟨(h.1.2.2.2 x hx).1, (h.1.2.2.2 x hx).2.1, rowL_stab _ _ (h.1.2.2.2 x hx).2.2 hm⟩⟩, h.2⟩
theorem gI_stab {B C : Nat} {v : Value} {pre : List FV} : Stab B (fun _ => False) (gI C v pre) := (Stab.ownsRow (fun _ h => h.elim)).and (Stab.all fun x => Stab.imp fun _ => pNew_stab.and (Stab.pure _))
theorem gI_append {C : Nat} {v v' : Value} {pre : List FV} {x : FV} {W w2 : World} (h : gI C v pre W) (hx : PNew C W x.a x.len x.L ∧ Off v x)
    (hown : w2.ownsRow C 36 4 v' (pre.length + 1) (fvCells pre ++ x.arr.toList)) (hg : W.grownBy w2 v.ownBlock) (hn : v'.ownBlock = v.ownBlock ∨ v'.ownBlock = some W.heap.size) :
    gI C v' (pre ++ [x]) w2 ∧ FrameT (fun k => some k = v.ownBlock) W w2 := by
  have hF := frameL_grown hg
  refine ⟨⟨by rw [List.length_append, fvCells_snoc]; exact hown, fun y hy => ?_⟩, hF⟩
  have hE : ∀ y : FV, PNew C W y.a y.len y.L ∧ Off v y → PNew C w2 y.a y.len y.L ∧ Off v' y := fun y hy => by
    obtain ⟨⟨⟨h1, h2, h3, h4⟩, h5, h6⟩, o1, o2⟩ := hy
    have key : ∀ k, k < W.heap.size → some k ≠ v.ownBlock → some k ≠ v'.ownBlock := fun k hk hv e => by
      rcases hn with hn | hn
      · exact hv (e.trans hn)
      · rw [hn] at e; cases e; omega
    exact ⟨⟨⟨h1, h2, rowV_frame h3 hF (fun k hk hT => o1 k hk hT), fun z hz => hasEL_frame (h4 z hz) hF (fun k hk hT => o2 z hz k hk hT)⟩, h5, h6⟩,
      fun k hk => key k (inBlkL_lt h3 hk) (o1 k hk), fun z hz k hk => key k (inBlkL_lt (h4 z hz).2.2 hk) (o2 z hz k hk)⟩
  rcases List.mem_append.1 hy with hy | hy
  · exact hE y (h.2 y hy)
  · rw [List.mem_singleton] at hy; subst hy; exact hE _ hx
theorem gI.out {C : Nat} {v : Value} {pre : List FV} {W : World} (h : gI C v pre W) (hn : pre.length < 1000000) : ∃ a cap, v = .slice a pre.length cap ∧ pre.length ≤ cap ∧ FNew C W a pre.length pre := by
  obtain ⟨a, cap, rfl, hc, hr⟩ := rowV_own h.1
  refine ⟨a, cap, rfl, hc, rfl, hn, hr, fun k hk => ?_, fun x hx => (h.2 x hx).1⟩
  obtain ⟨b, off, rfl, h0, rfl⟩ := hk
  exact (ownBlockL_lt h.1 rfl).2.1

/-! ### Marks of loops over functions that stand in a loop. -/
def marks (Ds : List Nat) : List Deferred := Ds.map fun D => { target := .collected D, args := #[] }
def Marked (B : Nat) (Ds : List Nat) (W : World) : Prop := Ds.Nodup ∧ ∀ D ∈ Ds, B ≤ D ∧ W.heap[D]? = some (.deferred (some []))
theorem Marked.frame {B : Nat} {Ds : List Nat} {T : Nat → Prop} {W W' : World} (h : Marked B Ds W) (hF : FrameT T W W') (hT : ∀ D ∈ Ds, ¬ T D) : Marked B Ds W' := ⟨h.1, fun D hD => ⟨(h.2 D hD).1, hF.get (h.2 D hD).2 (hT D hD)⟩⟩
theorem leave_marks {P : Program} {fn : Func} {tmps : Array Value} {R : Ending → World → Prop} {v : Value} {B : Nat} : ∀ (Ds : List Nat) (W : World), Marked B Ds W →
    (∀ W', FrameT (fun k => k ∈ Ds) W W' → (∀ (k : Nat) (o : Obj), W.heap[k]? = some o → o.isCells = true → W'.heap[k]? = some o) → (results fn tmps).run P W' = .ok v W' ∧ R (.returned v) W') → LeavesInM Fence.wide 9 P fn tmps R (marks Ds) .returning W
  | [], W, _, hR => ⟨v, (hR W (FrameT.refl _ _) (fun _ _ h _ => h)).1, (hR W (FrameT.refl _ _) (fun _ _ h _ => h)).2⟩
  | D :: Ds, W, hM, hR => by
    obtain ⟨hnd, hall⟩ := hM
    obtain ⟨hn1, hn2⟩ := List.nodup_cons.1 hnd
    have hD := (hall D List.mem_cons_self).2
    have hF : FrameT (fun k => k = D) W (W.putObj D (.deferred none)) := by
      have g := grownBy_putObj' W D (.deferred none)
      exact ⟨g.os, g.tape, g.output, g.size, fun k hk hT => World.putObj_heap_other hT⟩
    refine ⟨by simp, .inl ⟨_, _, rfl, run_takeDeferred hD, leave_marks (v := v) (B := B) Ds _ ⟨hn2, fun E hE => ⟨(hall E (List.mem_cons_of_mem _ hE)).1, hF.get (hall E (List.mem_cons_of_mem _ hE)).2 (fun e => hn1 (e ▸ hE))⟩⟩ fun W' hF' hc => ?_⟩⟩
    refine hR W' ((hF.mono fun k hk => ?_).trans (hF'.mono fun k hk => List.mem_cons_of_mem _ hk)) fun k o ho hoc => ?_
    · rw [hk]; exact List.mem_cons_self
    · exact hc k o (hF.get ho (fun e => by rw [e, hD] at ho; cases ho; cases hoc)) hoc

end Go.Proofs.Ytdncdlbhgaehmaa

/- The contract of shard.Split. -/
namespace Go.Proofs.Ytdncdlbhgaehmaa
open Go.RowKit Go.Shelf
set_option linter.unusedVariables false
attribute [local go_sem] Oper.semAt_some wide_fn wide_round_fn

/-- What one shard has, where it lies. -/
structure SV where
  a : Option Addr
  c : Nat
  L : List FV
abbrev SV.val (x : SV) : Value := .slice x.a x.L.length x.c
def shRow (Sh : List SV) (v : Value) (m : Nat) : Array Value := (Sh.map SV.val ++ v :: List.replicate m (.slice none 0 0)).toArray
def shDone (C : Nat) (n : Int) (Fs : List FC) (Sh : List SV) (W : World) : Prop := ∀ (i : Nat) (h : i < Sh.length), FNew C W Sh[i].a Sh[i].L.length Sh[i].L ∧ Sh[i].L.length ≤ Sh[i].c ∧ Sh[i].L.map fcore = splitC i n Fs
theorem shDone.frame {C : Nat} {n : Int} {Fs : List FC} {Sh : List SV} {T : Nat → Prop} {W W' : World} (h : shDone C n Fs Sh W) (hF : FrameT T W W') (hT : ∀ k, C ≤ k → k < W.heap.size → ¬ T k) : shDone C n Fs Sh W' := fun i hi => ⟨(h i hi).1.frame hF hT, (h i hi).2⟩
theorem shRow_set (Sh : List SV) (v v' : Value) (m : Nat) : (shRow Sh v m).setIfInBounds Sh.length v' = shRow Sh v' m := by
  simp [shRow]
theorem shRow_get (Sh : List SV) (v : Value) (m : Nat) : (shRow Sh v m)[Sh.length]? = some v := by simp [shRow]
def shArr (Sh : List SV) (m : Nat) : Array Value := (Sh.map SV.val ++ List.replicate m (Value.slice none 0 0)).toArray
theorem shRow_nil (Sh : List SV) (m : Nat) : shArr Sh (m + 1) = shRow Sh (.slice none 0 0) m := by simp [shArr, shRow, List.replicate_succ]
theorem shRow_arr (Sh : List SV) (x : SV) (m : Nat) : shRow Sh x.val m = shArr (Sh ++ [x]) m := by simp [shArr, shRow]
theorem boxes3s (w : World) (v1 v2 v3 : Value) (T1 T2 T3 : TypeId) : (((w.alloc (.cells #[v1] T1)).alloc (.cells #[v2] T2)).alloc (.cells #[v3] T3)).heap[w.heap.size]? = some (.cells #[v1] T1 (0, 0)) ∧ (((w.alloc (.cells #[v1] T1)).alloc (.cells #[v2] T2)).alloc (.cells #[v3] T3)).heap[w.heap.size + 1]? = some (.cells #[v2] T2 (0, 0)) ∧ (((w.alloc (.cells #[v1] T1)).alloc (.cells #[v2] T2)).alloc (.cells #[v3] T3)).heap[w.heap.size + 1 + 1]? = some (.cells #[v3] T3 (0, 0)) := by
  have h1 := two_a w #[v1] #[v2] T1 T2
  have h2 := two_b w #[v1] #[v2] T1 T2
  have hB := bel_alloc (Below.refl _ ((w.alloc (.cells #[v1] T1)).alloc (.cells #[v2] T2))) (.cells #[v3] T3)
  have h3 := World.alloc_heap_new ((w.alloc (.cells #[v1] T1)).alloc (.cells #[v2] T2)) (.cells #[v3] T3)
  rw [World.size_alloc, World.size_alloc] at h3
  exact ⟨(hB.block _ (heap_lt h1)).trans h1, (hB.block _ (heap_lt h2)).trans h2, h3⟩
theorem shares_makes (s n : Int) (fa : Option Addr) (flen fcap : Nat) (Fs : List FV) (wE w : World) (hFs : FoundsAt wE fa flen Fs) (hEW : Below wE.heap.size wE w) :
    Calls Try.prog 35 #[.slice fa flen fcap, .int .i64 s, .int .i64 n] w fun e w' => ∃ lb, e = .returned (.func (.func 56) #[] lb) ∧ w' = ((w.alloc (.cells #[.slice fa flen fcap] 22)).alloc (.cells #[.int .i64 s] 3)).alloc (.cells #[.int .i64 n] 3) ∧
      IterD Try.prog 56 lb (fun x : FV => #[x.val]) (nxS flen) (fun ys => ys.map fcore = splitC s n (Fs.map fcore)) (fun k => k < wE.heap.size ∨ k = w.heap.size ∨ k = w.heap.size + 1 ∨ k = w.heap.size + 1 + 1) (fun _ => False) w' := by
  obtain ⟨b1, b2, b3⟩ := boxes3s w (.slice fa flen fcap) (.int .i64 s) (.int .i64 n) 22 3 3
  have hB := bel_alloc (bel_alloc (bel_alloc (Below.refl w.heap.size w) (.cells #[.slice fa flen fcap] 22)) (.cells #[.int .i64 s] 3)) (.cells #[.int .i64 n] 3)
  have HI := Lib.hid (shares_iter w.heap.size (w.heap.size + 1) (w.heap.size + 1 + 1) s n fa flen fcap Fs wE _ hFs (hEW.trans (hB.mono hEW.size)) b1 b2 b3)
  clear hFs hEW b1 b2 b3 hB
  go_enter Try.func35, Try.ntmps35
  go_wp2
  go_ret
  exact ⟨_, rfl, rfl, HI.out⟩
def SplitPost (n : Int) (Fs : List FC) (W : World) (e : Ending) (w' : World) : Prop :=
  ∃ (R : Nat) (Sh : List SV), e = .returned (.slice (some ⟨R, 0, none⟩) Sh.length Sh.length) ∧ (Sh.length : Int) = heldI n ∧ w'.heap[R]? = some (.cells (Sh.map SV.val).toArray 22 (0, 0)) ∧ W.heap.size ≤ R ∧ shDone W.heap.size n Fs Sh w' ∧ Below W.heap.size W w'
/-- .. and the entries of what was found fit. -/
def shCap (Sh : List SV) : Prop := ∀ s ∈ Sh, ∀ x ∈ s.L, CapL x.L
def SplitPostC (n : Int) (Fs : List FC) (W : World) (e : Ending) (w' : World) : Prop :=
  ∃ (R C : Nat) (Sh : List SV), e = .returned (.slice (some ⟨R, 0, none⟩) Sh.length Sh.length) ∧ (Sh.length : Int) = heldI n ∧ w'.heap[R]? = some (.cells (Sh.map SV.val).toArray 22 (0, 0)) ∧ W.heap.size ≤ R ∧ (R < C ∧ C ≤ w'.heap.size) ∧ shDone C n Fs Sh w' ∧ shCap Sh ∧ Below W.heap.size W w'
theorem SplitPostC.plain {n : Int} {Fs : List FC} {W : World} {e : Ending} {w' : World} : SplitPostC n Fs W e w' → SplitPost n Fs W e w' := fun ⟨R, C, Sh, a, b, c, d, h, f, _, g⟩ => ⟨R, Sh, a, b, c, d, fun i hi => ⟨(f i hi).1.mono (by omega), (f i hi).2⟩, g⟩
/-- Within the loop over what the shard of number j has. -/
def shJ (w5 : World) (R X5 X6 K j m : Nat) (Sh : List SV) (v : Value) (pre : List FV) (W : World) : Prop :=
  W.heap[R]? = some (.cells (shRow Sh v m) 22 (0, 0)) ∧ W.heap[X5]? = some (.cells #[.slice (some ⟨R, 0, none⟩) K K] 25 (0, 0)) ∧ W.heap[X6]? = some (.cells #[.int .i64 (j : Int)] 3 (0, 0)) ∧ gI w5.heap.size v pre W ∧ FrameT (fun k => k = R) w5 W ∧ ∀ x ∈ pre, CapL x.L
theorem frameR_stab {w5 : World} {R B : Nat} (h : w5.heap.size ≤ B) : Stab B (fun _ => False) (FrameT (fun k => k = R) w5) := fun W W' hp hm => hp.after ⟨hm.os, hm.tape, hm.output, hm.size, fun k o ho _ hc => hm.block k o ho id hc⟩ h
theorem shJ_stab {w5 : World} {R X5 X6 K j m : Nat} {Sh : List SV} {v : Value} {pre : List FV} : Stab w5.heap.size (fun _ => False) (shJ w5 R X5 X6 K j m Sh v pre) :=
  (Stab.block id (.inr rfl)).and ((Stab.block id (.inr rfl)).and ((Stab.block id (.inr rfl)).and (gI_stab.and ((frameR_stab (Nat.le_refl _)).and (Stab.pure _)))))
/-- What the region holds of the world. -/
def shS (R X5 X6 Xf K j : Nat) (x : FV) (W : World) : Prop := W.cell? ⟨X5, 0, none⟩ = some (.slice (some ⟨R, 0, none⟩) K K) ∧ W.cell? ⟨X6, 0, none⟩ = some (.int .i64 (j : Int)) ∧ W.cell? ⟨Xf, 0, none⟩ = some (.int .i64 x.q) ∧ W.cell? ⟨Xf, 1, none⟩ = some (.slice x.a x.len x.cap) ∧ W.cell? ⟨Xf, 2, none⟩ = some (.int .i64 x.s) ∧ W.cell? ⟨Xf, 3, none⟩ = some (.int .i64 x.t)
theorem shS_of {w5 W : World} {R X5 X6 Xf K j m : Nat} {Sh : List SV} {v : Value} {pre : List FV} {x : FV} (h5 : W.heap[X5]? = some (.cells #[.slice (some ⟨R, 0, none⟩) K K] 25 (0, 0))) (h6 : W.heap[X6]? = some (.cells #[.int .i64 (j : Int)] 3 (0, 0))) (hf : W.heap[Xf]? = some (.cells x.arr 36 (0, 0))) : shS R X5 X6 Xf K j x W := by
  obtain ⟨a, b, c, d⟩ := cells4 hf
  exact ⟨cell_of_row _ _ 0 _ _ _ h5, cell_of_row _ _ 0 _ _ _ h6, a, b, c, d⟩
/-- The append, the store: what the region leaves. -/
theorem shJ_app {w5 W w6 : World} {R X5 X6 Xf K j m l0 Bl : Nat} {Sh : List SV} {v v' : Value} {pre : List FV} {x : FV} {S : Nat → Prop} (h : shJ w5 R X5 X6 K j m Sh v pre W) (hf : W.heap[Xf]? = some (.cells x.arr 36 (0, 0))) (hx : PNew w5.heap.size W x.a x.len x.L ∧ Off v x) (hxc : CapL x.L) (hj : j = Sh.length) (hl : R < X5 ∧ X5 < X6 ∧ X6 < w5.heap.size ∧ w5.heap.size ≤ Xf) (hxf : some Xf ≠ v.ownBlock)
    (hS : ∀ k, S k → k < w5.heap.size ∧ k ≠ R) (hown : w6.ownsRow w5.heap.size 36 4 v' (pre.length + 1) (fvCells pre ++ x.arr.toList)) (hg : (W.drew.alloc (.cells x.arr 36)).grownBy w6 v.ownBlock) (hn : v'.ownBlock = v.ownBlock ∨ v'.ownBlock = some (W.heap.size + 1)) :
    shS R X5 X6 Xf K j x w6 ∧ w6.cell? ⟨R, j, none⟩ = some v ∧ w6.frozen? ⟨R, j, none⟩ = false ∧ shS R X5 X6 Xf K j x (w6.setCell ⟨R, j, none⟩ v') ∧ Rd w5.heap.size S W (w6.setCell ⟨R, j, none⟩ v') ∧ shJ w5 R X5 X6 K j m Sh v' (pre ++ [x]) (w6.setCell ⟨R, j, none⟩ v') := by
  obtain ⟨hR, h5, h6, hI, hF, hcp⟩ := h
  have hA : Below W.heap.size W (W.drew.alloc (.cells x.arr 36)) := bel_alloc (Below.refl W.heap.size W).drew _
  have hIA : gI w5.heap.size v pre (W.drew.alloc (.cells x.arr 36)) := gI_stab (B := W.heap.size) _ _ hI (Moves.below hA)
  have hxA : PNew w5.heap.size (W.drew.alloc (.cells x.arr 36)) x.a x.len x.L ∧ Off v x := ⟨hx.1.below hA, hx.2⟩
  obtain ⟨hI6, hF6⟩ := gI_append hIA hxA hown hg (by
    rcases hn with h | h
    · exact .inl h
    · exact .inr (by rw [h]; simp))
  have hvb : ∀ k, some k = v.ownBlock → w5.heap.size ≤ k := fun k hk => (ownBlockL_lt hI.1 hk).2.1
  have hFW : FrameT (fun k => some k = v.ownBlock) W w6 := (FrameT.below hA).trans hF6
  have hFs := FrameT.setCell w6 R j v'
  have g : ∀ {k : Nat} {o : Obj}, W.heap[k]? = some o → some k ≠ v.ownBlock → w6.heap[k]? = some o := fun ho hk => hFW.get ho hk
  have h56 := g h5 (fun e => by have := hvb _ e; omega)
  have h66 := g h6 (fun e => by have := hvb _ e; omega)
  have hR6 := g hR (fun e => by have := hvb _ e; omega)
  have hf6 := g hf hxf
  have h57 := hFs.get h56 (by show ¬ X5 = R; omega)
  have h67 := hFs.get h66 (by show ¬ X6 = R; omega)
  have hf7 := hFs.get hf6 (by show ¬ Xf = R; omega)
  have hR7 : (w6.setCell ⟨R, j, none⟩ v').heap[R]? = some (.cells (shRow Sh v' m) 22 (0, 0)) := by
    have e := Go.Joins.block_setCell hR6 v' (i := Sh.length)
    rw [shRow_set] at e
    rw [hj]; exact e
  have hIz : gI w5.heap.size v' (pre ++ [x]) (w6.setCell ⟨R, j, none⟩ v') := ⟨ownL_frame hI6.1 hFs (fun k hk e => by have := (ownBlockL_lt hI6.1 hk).2.1; omega), fun y hy => ⟨(hI6.2 y hy).1.frame hFs (fun k hk _ e => by omega), (hI6.2 y hy).2⟩⟩
  have hWz : FrameT (fun k => some k = v.ownBlock ∨ k = R) W (w6.setCell ⟨R, j, none⟩ v') := (hFW.mono fun _ h => .inl h).trans (hFs.mono fun _ h => .inr h)
  refine ⟨shS_of (w5 := w5) (m := m) (Sh := Sh) (v := v) (pre := pre) h56 h66 hf6, ?_, frozen_of_row _ R j _ _ hR6, shS_of (w5 := w5) (m := m) (Sh := Sh) (v := v) (pre := pre) h57 h67 hf7, ?_, hR7, h57, h67, hIz, ?_, fun y hy => (List.mem_append.1 hy).elim (hcp y) fun h => by rw [List.mem_singleton.1 h]; exact hxc⟩
  · rw [Lib.cell_of_heap hR6, hj]; exact shRow_get Sh v m
  · refine ⟨hWz.os, hWz.tape, hWz.output, hWz.size, fun k o ho hc => hWz.get ho ?_⟩
    rintro (e | e)
    · rcases hc with hc | ⟨_, hc⟩
      · have := hvb _ e; have := (hS k hc).1; omega
      · obtain ⟨_, _, o2, ho2, hc2⟩ := ownBlockL_lt hI.1 e
        rw [ho] at ho2; cases ho2; rw [hc] at hc2; cases hc2
    · rcases hc with hc | ⟨hc, _⟩
      · exact (hS k hc).2 e
      · omega
  · refine ⟨hWz.os.trans hF.os, hWz.tape.trans hF.tape, hWz.output.trans hF.output, Nat.le_trans hF.size hWz.size, fun k hk hT => (hWz.block k (Nat.lt_of_lt_of_le hk hF.size) ?_).trans (hF.block k hk hT)⟩
    rintro (e | e)
    · have := hvb _ e; omega
    · exact hT e

end Go.Proofs.Ytdncdlbhgaehmaa

/- The contract of shard.Split. -/
namespace Go.Proofs.Ytdncdlbhgaehmaa
open Go.RowKit Go.Shelf
set_option linter.unusedVariables false
set_option linter.unusedSimpArgs false
attribute [local go_sem] Oper.semAt_some wide_fn wide_round_fn

theorem wpIn_of_heldS {F : Fence} {n : Nat} {P : Program} {id : Nat} {Q : Exit → Act → World → Prop} {a : Act} {w : World} {l : List Oper} {S : World → Prop} (hm : P.follows .mixedOrders = true) (hd : l.all (fun o => !isDefer o.op) = true) (hF : ∃ ro, F = { Fence.wide with round := ro }) (hS : S w.drew)
    (h : S w.drew → wpAnyH P .any l.toArray (onlyNormal Q) S l.toArray.size (Array.replicate l.toArray.size false) a w.drew) : (Code.region id l.toArray true).wpIn F n P Q a w := by
  refine wpIn_region_any hm (anyIn_of_plain hF (fun i o ho => ?_) _ _ _ _ (wpAny_of_held _ _ _ _ (h hS)))
  have hmem : o ∈ l := by
    simp only [List.getElem?_toArray] at ho
    exact List.mem_of_getElem? ho
  have := List.all_eq_true.1 hd o hmem
  simpa using this
/-- The loop over the shards: what stands behind the first ones. -/
def spI (W : World) (R X5 K : Nat) (n : Int) (Fs : List FC) (j : Nat) (Sh : List SV) (Ds : List Nat) (wr : World) : Prop :=
  j = Sh.length ∧ j ≤ K ∧ wr.heap[R]? = some (.cells (shArr Sh (K - j)) 22 (0, 0)) ∧ wr.heap[X5]? = some (.cells #[.slice (some ⟨R, 0, none⟩) K K] 25 (0, 0)) ∧ shDone (X5 + 1) n Fs Sh wr ∧ Below W.heap.size W wr ∧ Marked (X5 + 1) Ds wr ∧ X5 < wr.heap.size ∧ shCap Sh
/-- One shard more. -/
theorem spI_next {W wr w5 Wd : World} {R X5 X6 K j m : Nat} {n : Int} {Fs : List FC} {Sh : List SV} {Ds : List Nat} {v : Value} {xs : List FV} (hs : spI W R X5 K n Fs j Sh Ds wr) (hm : K - j = m + 1) (hB5 : Below wr.heap.size wr w5) (hR : W.heap.size ≤ R ∧ R < X5) (hJ : shJ w5 R X5 X6 K j m Sh v xs Wd) (hx : xs.map fcore = splitC (j : Int) n Fs) (hl : xs.length < 1000000) (hD : Wd.heap[w5.heap.size]? = some (.deferred (some []))) :
    ∃ sa sc, spI W R X5 K n Fs (j + 1) (Sh ++ [⟨sa, sc, xs⟩]) (w5.heap.size :: Ds) Wd := by
  obtain ⟨h1, h2, h3, h4, h5, h6, h7, h8, h9⟩ := hs
  obtain ⟨j1, j2, j3, j4, j5, j6⟩ := hJ
  have hout := j4.out hl
  obtain ⟨a, cap, hv, hc, hN⟩ := hout
  subst hv
  have hF : FrameT (fun k => k = R) wr Wd := ((FrameT.below (T := fun k => k = R) hB5)).trans j5
  refine ⟨a, cap, by rw [List.length_append, List.length_singleton]; omega, by omega, ?_, j2, ?_, h6.trans (hF.toBelow h6.size fun k hk => hk ▸ hR.1), ?_, Nat.lt_of_lt_of_le h8 hF.size, fun s hs => (List.mem_append.1 hs).elim (h9 s) fun h => by rw [List.mem_singleton.1 h]; exact j6⟩
  · rw [show K - (j + 1) = m by omega, ← shRow_arr]; exact j1
  · intro i hi
    by_cases hlt : i < Sh.length
    · have := (h5.frame hF (fun k hk _ e => by have := hR.2; omega)) i hlt
      simp only [List.getElem_append_left hlt]
      exact this
    · have hi' : i = Sh.length := by rw [List.length_append, List.length_singleton] at hi; omega
      subst hi'
      have e : (Sh ++ [(⟨a, cap, xs⟩ : SV)])[Sh.length]'hi = ⟨a, cap, xs⟩ := by simp
      rw [e]
      exact ⟨hN.mono (by have := hB5.size; omega), hc, by rw [← h1]; exact hx⟩
  · have hM := h7.frame hF (fun D hD e => by have := (h7.2 D hD).1; have := hR.2; omega)
    refine ⟨List.nodup_cons.2 ⟨fun hmem => ?_, hM.1⟩, fun D hD' => ?_⟩
    · have := heap_lt (h7.2 _ hmem).2; have := hB5.size; omega
    · rcases List.mem_cons.1 hD' with rfl | hD'
      · exact ⟨by have := hB5.size; omega, hD⟩
      · exact hM.2 D hD'
/-- All shards are cut. -/
theorem split_leave {W wr : World} {R X5 K j : Nat} {n : Int} {Fs : List FC} {Sh : List SV} {Ds : List Nat} (hs : spI W R X5 K n Fs j Sh Ds wr) (hj : ¬ j < K) (hR : W.heap.size ≤ R ∧ R < X5) (hK : heldI n = (K : Int)) {W' : World} (hF : FrameT (fun k => k ∈ Ds) wr W') (hc : ∀ (k : Nat) (o : Obj), wr.heap[k]? = some o → o.isCells = true → W'.heap[k]? = some o) :
    SplitPostC n Fs W (.returned (.slice (some ⟨R, 0, none⟩) K K)) W' := by
  obtain ⟨h1, h2, h3, h4, h5, h6, h7, h8, h9⟩ := hs
  have hKS : K = Sh.length := by omega
  refine ⟨R, X5 + 1, Sh, by rw [hKS], by rw [hK, hKS], ?_, hR.1, ⟨by omega, Nat.lt_of_lt_of_le h8 hF.size⟩, fun i hi => ⟨?_, (h5 i hi).2⟩, h9, h6.trans (hF.toBelow h6.size fun k hk => by have := (h7.2 k hk).1; omega)⟩
  · have e := hc R _ h3 rfl
    rw [show K - j = 0 by omega] at e
    simpa [shArr] using e
  · have hM : Moves 0 (fun _ => False) wr W' := ⟨hF.os, hF.tape, hF.output, hF.size, fun k o ho _ hcc => hc k o ho (hcc.elim (fun h => absurd h (Nat.not_lt_zero k)) id)⟩
    have hN := (h5 i hi).1
    exact ⟨hN.1, hN.2.1, rowL_stab _ _ hN.2.2.1 hM, hN.2.2.2.1, fun x hx => pNew_stab _ _ (hN.2.2.2.2 x hx) hM⟩
theorem made_nil (K : Nat) : (madeCells (Value.slice none 0 0).cells (K * 1)).toList = List.replicate K (.slice none 0 0) := by
  rw [Nat.mul_one, show (Value.slice none 0 0).cells = #[.slice none 0 0] from rfl, toList_madeCells_one]
theorem made_row {w : World} {R K : Nat} (h : w.ownsRow R 22 1 (.slice (some ⟨R, 0, none⟩) K K) K (madeCells (Value.slice none 0 0).cells (K * 1)).toList) : w.heap[R]? = some (.cells (shArr [] K) 22 (0, 0)) := by
  rw [made_nil] at h
  rcases h.2 with ⟨e, _⟩ | ⟨g, cap, cur, hv, hb, hg, hn, hcap, hsz, htk⟩
  · cases e
  · injection hv with h1 h2 h3
    injection h1 with h1
    injection h1 with h1 _ _
    subst h1 h3
    rw [hg]
    congr 2
    have : cur.toList = List.replicate K (.slice none 0 0) := by
      rw [← htk, List.take_of_length_le (by rw [Array.length_toList, hsz]; exact Nat.le_refl _)]
    rw [← Array.toArray_toList (xs := cur), this]
    simp [shArr]
set_option maxRecDepth 100000 in
set_option maxHeartbeats 8000000 in
theorem split_anyC (n : Int) (fa : Option Addr) (flen fcap : Nat) (Fs : List FV) (W : World) (hFs : FoundsAt W fa flen Fs) :
    Calls Try.prog 12 #[.slice fa flen fcap, .int .i64 n] W (SplitPostC n (Fs.map fcore) W) := by
  obtain ⟨i0, hi, hz0, hz1, hz2⟩ := info_parts infoFoundS
  obtain ⟨i1, hj, hy0, hy1, hy2⟩ := info_parts infoFoundSl
  have hmx : Try.prog.follows .mixedOrders = true := by kernel_rfl
  have hbd := heldI_bd n
  obtain ⟨K, hK⟩ : ∃ K : Nat, heldI n = (K : Int) := ⟨(heldI n).toNat, by omega⟩
  rw [hK] at hbd
  have GH := Lib.hid (fun w => shHeld_any n w)
  rw [hK] at GH
  have HK := Lib.hid hK
  have HFL := Lib.hid hFs.1
  have GS := Lib.hid (fun (s : Int) W' (hB : Below W.heap.size W W') => shares_makes s n fa flen fcap Fs W W' hFs hB)
  have hfm := hFs.2.1
  clear hK hFs
  have HM := Lib.hid (fun (w1 : World) => run_makeSlice_full (P := Try.prog) w1 w1.heap.size 25 22 i1 (.slice none 0 0) 1 Try.underlying25 hj hy0 hy1 .i64 .i64 K (by omega) (by rw [hy2]; omega) (by unfold maxLen; omega) (Nat.le_refl _))
  refine (callsIn_wide (n := 9)).1 ?_
  refine callsIn_of_wp_marks Try.func12 rfl trivial ?_ rfl
  simp only [Try.ntmps12, List.size_toArray, List.length_cons, List.length_nil, Nat.reduceAdd, Nat.reduceSub, Array.replicate_succ, Array.replicate_zero, List.push_toArray, List.append_toArray, List.nil_append, List.cons_append]
  gi_wp2_with (gi_at_call 34; refine (callsIn_wide.2 (GH.out _)).mono ?_; rintro e w1 ⟨rfl, hB1⟩; obtain ⟨w2, hrun, hown, hgr⟩ := HM.out w1; have hB2 : Below w1.heap.size w1 w2 := (Below.refl w1.heap.size w1).grown hgr (Nat.le_refl _) (fun k e => by cases e); have HOWN := Lib.hid hown; clear hown hgr)
  have hrow := made_row HOWN.out
  have hlt := heap_lt hrow
  have hB3 := bel_alloc (Below.refl w2.heap.size w2) (.cells #[.slice (some ⟨w1.heap.size, 0, none⟩) K K] 25)
  have hX5 := World.alloc_heap_new w2 (.cells #[.slice (some ⟨w1.heap.size, 0, none⟩) K K] 25)
  have hSp0 : spI W w1.heap.size w2.heap.size K n (Fs.map fcore) 0 [] [] (w2.alloc (.cells #[.slice (some ⟨w1.heap.size, 0, none⟩) K K] 25)) :=
    ⟨rfl, Nat.zero_le _, (hB3.block _ hlt).trans hrow, hX5, (fun i hi => by cases hi), bel2 (bel2 hB1 hB2) hB3, ⟨List.nodup_nil, fun D hD => by cases hD⟩, by simp, fun s hs => by cases hs⟩
  have hRX0 : W.heap.size ≤ w1.heap.size ∧ w1.heap.size < w2.heap.size := ⟨hB1.size, hlt⟩
  clear hrow hlt hB3 hX5 hB1 hB2 hrun HOWN HM GH
  generalize w2.alloc (.cells #[.slice (some ⟨w1.heap.size, 0, none⟩) K K] 25) = W0 at hSp0 ⊢
  generalize w1.heap.size = R at hSp0 hRX0 ⊢
  generalize w2.heap.size = X5 at hSp0 hRX0 ⊢
  have HRX := Lib.hid hRX0
  clear hRX0
  refine wpIn_loop (fun a' w' => ∃ u6 u7 u14 u15 u16 u17 u18 u19 u20 u21 u22 u23 u24 u25 u26 u27 u28 u29 u30 u31, ∃ (j : Nat) (Sh : List SV) (Ds : List Nat), spI W R X5 K n (Fs.map fcore) j Sh Ds w' ∧ a' = { tmps := #[.slice fa flen fcap, .int .i64 n, undef, undef, .slice none 0 0, .pointer (some ⟨X5, 0, none⟩), u6, u7, .int .i64 n, .int .i64 (K : Int), .slice (some ⟨R, 0, none⟩) K K, .slice (some ⟨R, 0, none⟩) K K, .int .i64 (K : Int), .int .i64 (j : Int), u14, u15, u16, u17, u18, u19, u20, u21, u22, u23, u24, u25, u26, u27, u28, u29, u30, u31, undef], defers := marks Ds }) (fun a' w' => K - (intOf (a'.tmps.getD 13 undef)).toNat) ?start ?round
  case start => exact ⟨_, _, _, _, _, _, _, _, _, _, _, _, _, _, _, _, _, _, _, _, 0, [], [], hSp0, rfl⟩
  case round =>
  clear hSp0
  rintro a wr ⟨u6, u7, u14, u15, u16, u17, u18, u19, u20, u21, u22, u23, u24, u25, u26, u27, u28, u29, u30, u31, j, Sh, Ds, ⟨hjS, hjK, hRr, hX5r, hdone, hBr, hMk, hXlt, hCpS⟩, rfl⟩
  have HSP := Lib.hid (show spI W R X5 K n (Fs.map fcore) j Sh Ds wr from ⟨hjS, hjK, hRr, hX5r, hdone, hBr, hMk, hXlt, hCpS⟩)
  clear hCpS
  by_cases hlt : j < K
  · have hlt' : (j : Int) < (K : Int) := by omega
    have hw9 : IntKind.i64.wrap ((j : Int) + 1) = ((j + 1 : Nat) : Int) := (IntWalk.i64_in _ (by omega)).trans (by push_cast; rfl)
    obtain ⟨m, hm⟩ : ∃ m, K - j = m + 1 := ⟨K - j - 1, by omega⟩
    rw [hm, shRow_nil] at hRr
    have hB6 := bel_alloc (Below.refl wr.heap.size wr) (.cells #[.int .i64 (j : Int)] 3)
    have hX6a := World.alloc_heap_new wr (.cells #[.int .i64 (j : Int)] 3)
    have k6 : (wr.alloc (.cells #[.int .i64 (j : Int)] 3)).cell? ⟨wr.heap.size, 0, none⟩ = some (.int .i64 (j : Int)) := cell_of_row _ _ 0 _ _ _ hX6a
    have hBa := hBr.trans (hB6.mono hBr.size)
    have HB6 := Lib.hid hB6
    have HX6 := Lib.hid hX6a
    have HSH := Lib.hid hjS
    have HM0 := Lib.hid hm
    have HRr := Lib.hid hRr
    have HX5r := Lib.hid hX5r
    clear hB6 hX6a hjS hm hRr hX5r
    gi_wp2_with (gi_at_call 35; refine (callsIn_wide.2 (GS.out (j : Int) _ hBa)).mono ?_; rintro e w5 ⟨lb, rfl, hw5, hI5⟩; have HW5 := Lib.hid hw5; have HI5 := Lib.hid hI5; clear hw5 hI5)
    have hB5 : Below wr.heap.size wr w5 := by rw [HW5.out]; exact bel_alloc (bel_alloc (bel_alloc HB6.out _) _) _
    have hX65 : w5.heap[wr.heap.size]? = some (.cells #[.int .i64 (j : Int)] 3 (0, 0)) := by
      rw [HW5.out]
      exact ((bel_alloc (bel_alloc (bel_alloc (Below.refl _ (wr.alloc (.cells #[.int .i64 (j : Int)] 3))) _) _) _).block _ (heap_lt HX6.out)).trans HX6.out
    have hs5 : w5.heap.size = wr.heap.size + 4 := by rw [HW5.out]; simp
    have HI5' := Lib.hid (show IterD Try.prog 56 lb (fun x : FV => #[x.val]) (nxS flen) (fun ys => ys.map fcore = splitC (j : Int) n (Fs.map fcore)) (fun k => k < W.heap.size ∨ k = wr.heap.size + 1 ∨ k = wr.heap.size + 1 + 1 ∨ k = wr.heap.size + 1 + 1 + 1) (fun _ => False) w5 from by have := HI5.out; simpa using this)
    have hR5 := (hB5.block _ (heap_lt HRr.out)).trans HRr.out
    have hX55 := (hB5.block _ (heap_lt HX5r.out)).trans HX5r.out
    have HS5 := Lib.hid hs5
    have HBR := Lib.hid hBr.size
    clear HW5 HI5 k6 hBa
    clear hs5
    have hRX := HRX.out
    have hlR : R < X5 ∧ X5 < wr.heap.size ∧ wr.heap.size < w5.heap.size := ⟨hRX.2, hXlt, heap_lt hX65⟩
    have hS5 : ∀ k, (k < W.heap.size ∨ k = wr.heap.size + 1 ∨ k = wr.heap.size + 1 + 1 ∨ k = wr.heap.size + 1 + 1 + 1) → k < w5.heap.size ∧ k ≠ R := fun k hk => by have := HS5.out; have := HBR.out; have := hRX; omega
    have HLR := Lib.hid hlR
    have HS5' := Lib.hid hS5
    clear hlR hS5 hRX
    refine range_outerD rfl (enters_of Try.func56 (by kernel_rfl) rfl) HI5'.out (fun _ => rfl) (fun k hk => (HS5'.out k hk).1) (fun _ h => h.elim)
      (fun pre W' => ∃ v, shJ w5 R X5 wr.heap.size K j m Sh v pre W') (fun _ _ _ => False) (fun _ => Stab.ex fun _ => shJ_stab) (fun _ _ => Stab.pure _)
      ⟨_, hR5, hX55, hX65, gI_nil _ _, FrameT.refl _ _, fun x hx => by cases hx⟩ ?hr ?hd (fun _ _ _ _ h => h.elim)
    case hr =>
      rintro l0 pre x Wp W1 h2 hnx hl hi1 hrec
      obtain ⟨v2, hv2⟩ := h2
      obtain ⟨v, hv⟩ := hi1
      obtain ⟨hpl, hxP, hWW, hxC⟩ := hnx
      have HXC := Lib.hid hxC
      clear hxC
      obtain rfl : v = v2 := by
        have e := (hWW.block _ (heap_lt hv2.1)).trans hv2.1
        rw [hv.1] at e
        have e2 : shRow Sh v m = shRow Sh v2 m := (Obj.cells.inj (Option.some.inj e)).1
        exact Option.some.inj ((shRow_get Sh v m).symm.trans (e2 ▸ shRow_get Sh v2 m))
      have hsz := hv2.2.2.2.2.1.size
      have hvl : ∀ k, some k = v.ownBlock → k < Wp.heap.size := fun k hk => (ownBlockL_lt hv2.2.2.2.1.1 hk).1
      have HXO := Lib.hid (show Off v x from ⟨fun k hk e => by have := hvl k e; have := hxP.2.1 k hk; omega, fun y hy k hk e => by have := hvl k e; have := hxP.2.2 y hy k hk; omega⟩)
      have hxP5 := hxP.mono hsz
      have HPL := Lib.hid (show pre.length < 1000000 by omega)
      have HXF := Lib.hid (show w5.heap.size ≤ W1.heap.size ∧ some W1.heap.size ≠ v.ownBlock from ⟨Nat.le_trans hsz hWW.size, fun e => by have := hvl _ e; have := hWW.size; omega⟩)
      clear hv2 hxP hWW hvl hsz hpl hR5 hX55 hX65
      obtain ⟨xq, xa, xlen, xcap, xL, xs, xt⟩ := x
      dsimp only [FV.val, FV.q, FV.a, FV.len, FV.cap, FV.L, FV.s, FV.t] at *
      gi_wp2
      refine rdThen_mk (fun W' => shJ w5 R X5 wr.heap.size K j m Sh v pre W' ∧ (W'.heap[W1.heap.size]? = some (.cells #[.int .i64 xq, .slice xa xlen xcap, .int .i64 xs, .int .i64 xt] 36 (0, 0)) ∧ PNew w5.heap.size W' xa xlen xL)) (shJ_stab.and ((Stab.block id (.inr rfl)).and pNew_stab)) ⟨shJ_stab _ _ hv (Moves.alloc _ _), World.alloc_heap_new W1 _, hxP5.below (bel_alloc (Below.refl _ _) _)⟩ ((Rd.refl _ _ _).alloc _) ?_
      clear hv hxP5 hrec
      obtain ⟨Xf, hXf⟩ : ∃ Xf, Xf = W1.heap.size := ⟨_, rfl⟩
      rw [← hXf] at HXF ⊢
      clear hXf W1
      rintro W1 ⟨hJ, hf, hP⟩ hrec
      have HJ := Lib.hid hJ
      have HF := Lib.hid hf
      have HP := Lib.hid hP
      have HSZ := Lib.hid hJ.2.2.2.2.1.size
      have HOW := Lib.hid ((show W1.drew.ownsRow w5.heap.size 36 4 v pre.length (fvCells pre) from hJ.2.2.2.1.1).alloc (.cells #[.int .i64 xq, .slice xa xlen xcap, .int .i64 xs, .int .i64 xt] 36))
      have hA : Below W1.heap.size W1 (W1.drew.alloc (.cells #[.int .i64 xq, .slice xa xlen xcap, .int .i64 xs, .int .i64 xt] 36)) := bel_alloc (Below.refl W1.heap.size W1).drew _
      have hS0 : shS R X5 wr.heap.size Xf K j ⟨xq, xa, xlen, xcap, xL, xs, xt⟩ W1.drew := shS_of (w5 := w5) (m := m) (Sh := Sh) (v := v) (pre := pre) hJ.2.1 hJ.2.2.1 hf
      have HSA := Lib.hid (show shS R X5 wr.heap.size Xf K j ⟨xq, xa, xlen, xcap, xL, xs, xt⟩ (W1.drew.alloc (.cells #[.int .i64 xq, .slice xa xlen xcap, .int .i64 xs, .int .i64 xt] 36)) from shS_of (w5 := w5) (m := m) (Sh := Sh) (v := v) (pre := pre) ((hA.block _ (heap_lt hJ.2.1)).trans hJ.2.1) ((hA.block _ (heap_lt hJ.2.2.1)).trans hJ.2.2.1) ((hA.block _ (heap_lt hf)).trans hf))
      have cRd : W1.drew.cell? ⟨R, j, none⟩ = some v := by rw [Lib.cell_of_heap (show W1.drew.heap[R]? = _ from hJ.1), HSH.out]; exact shRow_get Sh v m
      have cRa : (W1.drew.alloc (.cells #[.int .i64 xq, .slice xa xlen xcap, .int .i64 xs, .int .i64 xt] 36)).cell? ⟨R, j, none⟩ = some v := by rw [Lib.cell_of_heap ((hA.block _ (heap_lt hJ.1)).trans hJ.1), HSH.out]; exact shRow_get Sh v m
      have HAF := Lib.hid (fun (g' cap' : Nat) (w6 : World) (h1 : w6.ownsRow w5.heap.size 36 4 (.slice (some ⟨g', 0, none⟩) (pre.length + 1) cap') (pre.length + 1) (fvCells pre ++ [.int .i64 xq, .slice xa xlen xcap, .int .i64 xs, .int .i64 xt])) (h2 : (W1.drew.alloc (.cells #[.int .i64 xq, .slice xa xlen xcap, .int .i64 xs, .int .i64 xt] 36)).grownBy w6 v.ownBlock) (h3 : v.ownBlock = some g' ∨ g' = (W1.drew.alloc (.cells #[.int .i64 xq, .slice xa xlen xcap, .int .i64 xs, .int .i64 xt] 36)).heap.size) =>
        shJ_app (x := ⟨xq, xa, xlen, xcap, xL, xs, xt⟩) (S := fun k => k < W.heap.size ∨ k = wr.heap.size + 1 ∨ k = wr.heap.size + 1 + 1 ∨ k = wr.heap.size + 1 + 1 + 1) (l0 := l0) (Bl := 0) hJ hf ⟨hP, HXO.out⟩ HXC.out HSH.out ⟨HLR.out.1, HLR.out.2.1, HLR.out.2.2, HXF.out.1⟩ HXF.out.2 HS5'.out h1 h2 (by
          rcases h3 with h3 | h3
          · exact .inl h3.symm
          · exact .inr (by rw [h3]; simp [Value.ownBlock])))
      have cRd' : W1.cell? ⟨R, j, none⟩ = some v := cRd
      have cRa' : (W1.alloc (.cells #[.int .i64 xq, .slice xa xlen xcap, .int .i64 xs, .int .i64 xt] 36)).cell? ⟨R, j, none⟩ = some v := cRa
      clear hJ hf hP hA
      gi_wp2
      refine wpIn_of_heldS (S := shS R X5 wr.heap.size Xf K j ⟨xq, xa, xlen, xcap, xL, xs, xt⟩) hmx (by kernel_rfl) ⟨_, rfl⟩ hS0 (fun hHeld => ?_)
      refine wpAnyH_take (i := 0) (v := .slice (some ⟨R, 0, none⟩) K K) rfl (by kernel_rfl) (by kernel_rfl) (by kernel_rfl) (fun _ _ _ h => absurd h.1 (by simp)) (Or.inl ⟨by rfl, fun w hSw => by obtain ⟨s0, s1, s2, s3, s4, s5⟩ := hSw; go_simp⟩) hHeld ?_
      try simp only [Act.put, List.getElem_toArray, List.getElem_cons_succ, List.getElem_cons_zero, List.setIfInBounds_toArray, List.set_cons_zero, List.set_cons_succ]
      refine wpAnyH_take (i := 1) (v := .int .i64 (j : Int)) rfl (by kernel_rfl) (by kernel_rfl) (by kernel_rfl) (fun _ _ _ h => absurd h.1 (by simp)) (Or.inl ⟨by rfl, fun w hSw => by obtain ⟨s0, s1, s2, s3, s4, s5⟩ := hSw; go_simp⟩) hHeld ?_
      try simp only [Act.put, List.getElem_toArray, List.getElem_cons_succ, List.getElem_cons_zero, List.setIfInBounds_toArray, List.set_cons_zero, List.set_cons_succ]
      refine wpAnyH_take (i := 2) (v := .slice (some ⟨R, 0, none⟩) K K) rfl (by kernel_rfl) (by kernel_rfl) (by kernel_rfl) (fun _ _ _ h => absurd h.1 (by simp)) (Or.inl ⟨by rfl, fun w hSw => by obtain ⟨s0, s1, s2, s3, s4, s5⟩ := hSw; go_simp⟩) hHeld ?_
      try simp only [Act.put, List.getElem_toArray, List.getElem_cons_succ, List.getElem_cons_zero, List.setIfInBounds_toArray, List.set_cons_zero, List.set_cons_succ]
      refine wpAnyH_take (i := 3) (v := .int .i64 (j : Int)) rfl (by kernel_rfl) (by kernel_rfl) (by kernel_rfl) (fun _ _ _ h => absurd h.1 (by simp)) (Or.inl ⟨by rfl, fun w hSw => by obtain ⟨s0, s1, s2, s3, s4, s5⟩ := hSw; go_simp⟩) hHeld ?_
      try simp only [Act.put, List.getElem_toArray, List.getElem_cons_succ, List.getElem_cons_zero, List.setIfInBounds_toArray, List.set_cons_zero, List.set_cons_succ]
      refine wpAnyH_take (i := 4) (v := .pointer (some ⟨R, j, none⟩)) rfl (by kernel_rfl) (by kernel_rfl) (by kernel_rfl) (fun _ _ _ h => absurd h.1 (by simp)) (Or.inl ⟨by rfl, fun w hSw => by obtain ⟨s0, s1, s2, s3, s4, s5⟩ := hSw; go_simp⟩) hHeld ?_
      try simp only [Act.put, List.getElem_toArray, List.getElem_cons_succ, List.getElem_cons_zero, List.setIfInBounds_toArray, List.set_cons_zero, List.set_cons_succ]
      refine wpAnyH_take (i := 6) (v := .agg #[.int .i64 xq, .slice xa xlen xcap, .int .i64 xs, .int .i64 xt]) rfl (by kernel_rfl) (by kernel_rfl) (by kernel_rfl) (fun _ _ _ h => absurd h.1 (by simp)) (Or.inl ⟨by rfl, fun w hSw => by obtain ⟨s0, s1, s2, s3, s4, s5⟩ := hSw; go_simp⟩) hHeld ?_
      try simp only [Act.put, List.getElem_toArray, List.getElem_cons_succ, List.getElem_cons_zero, List.setIfInBounds_toArray, List.set_cons_zero, List.set_cons_succ]
      refine wpAnyH_ready (rs := [5, 7]) (by kernel_rfl) (by simp) ?_
      refine AllReadyH.cons rfl (fun K' hKK => ?_) (AllReadyH.cons rfl (fun K' hKK => ?_) AllReadyH.nil)
      · go_simp
        refine hKK.out _ _ hHeld (fun hHeld => ?_)
        clear hKK K'
        try simp only [Act.put, List.getElem_toArray, List.getElem_cons_succ, List.getElem_cons_zero, List.setIfInBounds_toArray, List.set_cons_zero, List.set_cons_succ]
        refine wpAnyH_ready (rs := [7]) (by kernel_rfl) (by simp) ?_
        refine AllReadyH.cons rfl (fun K' hKK => ?_) AllReadyH.nil
        go_simp
        refine hKK.out _ _ HSA.out (fun hHeld => ?_)
        clear hKK K'
        try simp only [Act.put, List.getElem_toArray, List.getElem_cons_succ, List.getElem_cons_zero, List.setIfInBounds_toArray, List.set_cons_zero, List.set_cons_succ]
        refine wpAnyH_ready (rs := [8]) (by kernel_rfl) (by simp) ?_
        refine AllReadyH.cons rfl (fun K' hKK => ?_) AllReadyH.nil
        refine step_append_lies _ rfl _ _ 22 rfl w5.heap.size 36 i0 (.agg #[.int .i64 0, .slice none 0 0, .int .i64 0, .int .i64 0]) 4 48 Try.underlying22 hi hz0 hz1 hz2 rfl (by decide) _ _ _ rfl HOW.out ⟨W1.drew.heap.size, 0, none⟩ 1 1 [.int .i64 xq, .slice xa xlen xcap, .int .i64 xs, .int .i64 xt] rfl rfl (news_new W1.drew 36 [.int .i64 xq, .slice xa xlen xcap, .int .i64 xs, .int .i64 xt]) (by simp [Value.oneCell']) (by omega) (by unfold maxLen; have := HPL.out; omega) (by have := HPL.out; omega) (by simp; have := HSZ.out; omega) _ rfl ?_
        intro g' cap' w6 hown' hgrow hnw _
        have HA := Lib.hid (HAF.out g' cap' w6 hown' hgrow hnw)
        refine hKK.out _ _ HA.out.1 (fun hHeld => ?_)
        clear hKK K'
        try simp only [Act.put, List.getElem_toArray, List.getElem_cons_succ, List.getElem_cons_zero, List.setIfInBounds_toArray, List.set_cons_zero, List.set_cons_succ]
        refine wpAnyH_take (i := 9) (v := .pointer (some ⟨R, j, none⟩)) rfl (by kernel_rfl) (by kernel_rfl) (by kernel_rfl) (fun _ _ _ h => absurd h.1 (by simp)) (Or.inl ⟨by rfl, fun w hSw => by obtain ⟨s0, s1, s2, s3, s4, s5⟩ := hSw; go_simp⟩) hHeld ?_
        try simp only [Act.put, List.getElem_toArray, List.getElem_cons_succ, List.getElem_cons_zero, List.setIfInBounds_toArray, List.set_cons_zero, List.set_cons_succ]
        have cR := HA.out.2.1
        have fR := HA.out.2.2.1
        refine wpAnyH_ready (rs := [10]) (by kernel_rfl) (by simp) ?_
        refine AllReadyH.cons rfl (fun K' hKK => ?_) AllReadyH.nil
        go_simp
        refine hKK.out _ _ HA.out.2.2.2.1 (fun hHeld => ?_)
        clear hKK K'
        try simp only [Act.put, List.getElem_toArray, List.getElem_cons_succ, List.getElem_cons_zero, List.setIfInBounds_toArray, List.set_cons_zero, List.set_cons_succ]
        refine wpAnyH_done (by kernel_rfl) ?_ _
        refine onlyNormal_mk ?_
        gi_wp2
        exact ⟨HA.out.2.2.2.2.1, _, HA.out.2.2.2.2.2⟩
      · go_simp
        refine hKK.out _ _ HSA.out (fun hHeld => ?_)
        clear hKK K'
        try simp only [Act.put, List.getElem_toArray, List.getElem_cons_succ, List.getElem_cons_zero, List.setIfInBounds_toArray, List.set_cons_zero, List.set_cons_succ]
        refine wpAnyH_ready (rs := [5]) (by kernel_rfl) (by simp) ?_
        refine AllReadyH.cons rfl (fun K' hKK => ?_) AllReadyH.nil
        go_simp
        refine hKK.out _ _ hHeld (fun hHeld => ?_)
        clear hKK K'
        try simp only [Act.put, List.getElem_toArray, List.getElem_cons_succ, List.getElem_cons_zero, List.setIfInBounds_toArray, List.set_cons_zero, List.set_cons_succ]
        refine wpAnyH_ready (rs := [8]) (by kernel_rfl) (by simp) ?_
        refine AllReadyH.cons rfl (fun K' hKK => ?_) AllReadyH.nil
        refine step_append_lies _ rfl _ _ 22 rfl w5.heap.size 36 i0 (.agg #[.int .i64 0, .slice none 0 0, .int .i64 0, .int .i64 0]) 4 48 Try.underlying22 hi hz0 hz1 hz2 rfl (by decide) _ _ _ rfl HOW.out ⟨W1.drew.heap.size, 0, none⟩ 1 1 [.int .i64 xq, .slice xa xlen xcap, .int .i64 xs, .int .i64 xt] rfl rfl (news_new W1.drew 36 [.int .i64 xq, .slice xa xlen xcap, .int .i64 xs, .int .i64 xt]) (by simp [Value.oneCell']) (by omega) (by unfold maxLen; have := HPL.out; omega) (by have := HPL.out; omega) (by simp; have := HSZ.out; omega) _ rfl ?_
        intro g' cap' w6 hown' hgrow hnw _
        have HA := Lib.hid (HAF.out g' cap' w6 hown' hgrow hnw)
        refine hKK.out _ _ HA.out.1 (fun hHeld => ?_)
        clear hKK K'
        try simp only [Act.put, List.getElem_toArray, List.getElem_cons_succ, List.getElem_cons_zero, List.setIfInBounds_toArray, List.set_cons_zero, List.set_cons_succ]
        refine wpAnyH_take (i := 9) (v := .pointer (some ⟨R, j, none⟩)) rfl (by kernel_rfl) (by kernel_rfl) (by kernel_rfl) (fun _ _ _ h => absurd h.1 (by simp)) (Or.inl ⟨by rfl, fun w hSw => by obtain ⟨s0, s1, s2, s3, s4, s5⟩ := hSw; go_simp⟩) hHeld ?_
        try simp only [Act.put, List.getElem_toArray, List.getElem_cons_succ, List.getElem_cons_zero, List.setIfInBounds_toArray, List.set_cons_zero, List.set_cons_succ]
        have cR := HA.out.2.1
        have fR := HA.out.2.2.1
        refine wpAnyH_ready (rs := [10]) (by kernel_rfl) (by simp) ?_
        refine AllReadyH.cons rfl (fun K' hKK => ?_) AllReadyH.nil
        go_simp
        refine hKK.out _ _ HA.out.2.2.2.1 (fun hHeld => ?_)
        clear hKK K'
        try simp only [Act.put, List.getElem_toArray, List.getElem_cons_succ, List.getElem_cons_zero, List.setIfInBounds_toArray, List.set_cons_zero, List.set_cons_succ]
        refine wpAnyH_done (by kernel_rfl) ?_ _
        refine onlyNormal_mk ?_
        gi_wp2
        exact ⟨HA.out.2.2.2.2.1, _, HA.out.2.2.2.2.2⟩
    case hd =>
      rintro xs Wd hF ⟨v, hJ⟩ hD
      have hlen : xs.length < 1000000 := by
        have e := congrArg List.length hF
        have e2 := splitC_len (j : Int) n (Fs.map fcore)
        have e3 := HFL.out
        simp only [List.length_map] at e e2
        omega
      obtain ⟨sa, sc, hnext⟩ := spI_next HSP.out HM0.out hB5 HRX.out hJ hF hlen hD
      have HN := Lib.hid hnext
      clear hnext hlen hF hD hJ
      gi_wp2
      refine ⟨⟨_, _, _, _, _, _, _, _, _, _, _, _, _, _, _, _, _, _, _, _, j + 1, _, _, HN.out, rfl⟩, ?_⟩
      show K - ((j : Int) + 1).toNat < K - (j : Int).toNat
      omega
  · have k5 : wr.cell? ⟨X5, 0, none⟩ = some (.slice (some ⟨R, 0, none⟩) K K) := cell_of_row _ _ 0 _ _ _ hX5r
    have HMK := Lib.hid hMk
    clear hdone hBr hjS hRr hX5r hMk
    gi_wp2
    exact leave_marks (v := .slice (some ⟨R, 0, none⟩) K K) (B := X5 + 1) Ds wr HMK.out fun W' hF hc => ⟨(results_tmp (t := 4) rfl _ _ _).trans (by rfl), split_leave HSP.out hlt HRX.out HK.out hF hc⟩

theorem split_any (n : Int) (fa : Option Addr) (flen fcap : Nat) (Fs : List FV) (W : World) (hFs : FoundsAt W fa flen Fs) :
    Calls Try.prog 12 #[.slice fa flen fcap, .int .i64 n] W (SplitPost n (Fs.map fcore) W) := (split_anyC n fa flen fcap Fs W hFs).mono fun _ _ h => h.plain

end Go.Proofs.Ytdncdlbhgaehmaa
