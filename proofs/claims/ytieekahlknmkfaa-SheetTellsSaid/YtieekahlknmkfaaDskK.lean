/- The contract of a disk's Crash. -/
import Derived.Test.YtieekahlknmkfaaDskL
namespace Go.Proofs.Ytieekahlknmkfaa
open Go.RowKit Go.Shelf
set_option linter.unusedVariables false
attribute [local go_sem] Oper.semAt_some wide_fn wide_round_fn

theorem ownsG_moves {B0 B : Nat} {W W' : World} {e : TypeId} {sz n : Nat} {v : Value} {xs : List Value} (h : ownsG W B e sz v n xs) (hm : Moves B0 (fun _ => False) W W') : ownsG W' B e sz v n xs := by
  refine ⟨h.1, ?_⟩
  rcases h.2 with h2 | ⟨g, cap, cur, fz, hv, hb, hg, r⟩
  · exact .inl h2
  · exact .inr ⟨g, cap, cur, fz, hv, hb, hm.block _ _ hg id (.inr rfl), r⟩
theorem HasDisk.moves {B0 : Nat} {W W' : World} {B d m : Nat} {D : PD} {F : List FileC} (h : HasDisk W B d m D F) (hm : Moves B0 (fun _ => False) W W') (hlt : m < B0) : HasDisk W' B d m D F :=
  { cell := hm.block _ _ h.cell id (.inr rfl)
    map := by
      obtain ⟨es, clock, h1, r⟩ := h.map
      exact ⟨es, clock, hm.block _ _ h1 id (.inl hlt), r⟩
    file := fun f hf => ⟨hm.block _ _ (h.file f hf).1 id (.inr rfl), ownsG_moves (h.file f hf).2.1 hm, (h.file f hf).2.2⟩
    fbs := h.fbs, rows := h.rows, nms := h.nms, core := h.core, low := h.low }
/-- A file is cut to k bytes, which are kept. -/
def cutC1 (f : FileC) (k : Nat) : FileC := ⟨f.n, f.fb, match f.v with | .slice a _ cap => .slice a k cap | v => v, f.b.take k, k⟩
theorem cutC_any {W : World} {B d m : Nat} {D : PD} {F : List FileC} (h : HasDisk W B d m D F) {f : FileC} (hf : f ∈ F) {a : Option Addr} {cap : Nat} (hv : f.v = .slice a f.b.length cap) {k : Nat} (hkl : k ≤ f.b.length) :
    HasDisk (cutW W f.fb a k cap) B d m { D with L := setK PF.n (cutC1 f k).core D.L } (setK FileC.n (cutC1 f k) F) ∧ FrameT (fun k => k = f.fb) W (cutW W f.fb a k cap) := by
  obtain ⟨h1, h2, h3⟩ := h.file f hf
  have hne := h.apart.2.2 f hf f hf
  have hF1 : FrameT (fun k => k = f.fb) W (cutW W f.fb a k cap) := (FrameT.setCell W f.fb 0 (.slice a k cap)).drew.trans (FrameT.setCell _ f.fb 1 (.int .i64 k))
  have hF := hF1.mono (U := fun k => k = f.fb ∨ f.v.ownBlock = some k) fun k hk => .inl hk
  have hg : (cutW W f.fb a k cap).heap[f.fb]? = some (.cells #[.slice a k cap, .int .i64 k] 85 (0, 0)) := by
    unfold cutW
    rw [heap_setCell_same (W.setCell ⟨f.fb, 0, none⟩ (.slice a k cap)).drew _ _ _ _ _ (show (W.setCell ⟨f.fb, 0, none⟩ (.slice a k cap)).heap[f.fb]? = _ from heap_setCell_same _ _ _ _ _ _ h1)]
    rfl
  rw [hv] at h2
  have hr := ownsG_frame (ownsG_cut h2 hkl) hF1 (fun j hj e => hne (by rw [hv, ← e]; exact ownBlock_len.trans hj))
  have hl : (f.b.take k).length = k := by rw [List.length_take]; omega
  have e : cutC1 f k = ⟨f.n, f.fb, .slice a k cap, f.b.take k, k⟩ := by unfold cutC1; rw [hv]
  rw [e]
  exact ⟨h.set hf ⟨f.n, f.fb, .slice a k cap, f.b.take k, k⟩ rfl rfl ⟨hg, by dsimp only; rw [hl]; exact hr, by dsimp only; rw [hl]; exact Nat.le_refl _⟩ (fun j hj => .inl (by rw [hv]; exact ownBlock_len.trans hj)) hF, hF1⟩
theorem setK_mid {α : Type} {nm : α → ByteArray} {P S : List α} {x y : α} (e : nm y = nm x) (h : (P ++ x :: S).Pairwise fun f g => nm f ≠ nm g) : setK nm y (P ++ x :: S) = P ++ y :: S := by
  unfold setK
  obtain ⟨h1, h2, h3⟩ := List.pairwise_append.1 h
  obtain ⟨h4, h5⟩ := List.pairwise_cons.1 h2
  rw [List.map_append, List.map_cons, if_pos e.symm]
  congr 1
  · conv => rhs; rw [← List.map_id P]
    apply List.map_congr_left
    intro z hz
    rw [if_neg (by rw [e]; exact h3 z hz x List.mem_cons_self)]; rfl
  · congr 1
    conv => rhs; rw [← List.map_id S]
    apply List.map_congr_left
    intro z hz
    rw [if_neg (by rw [e]; exact fun e2 => h4 z hz e2.symm)]; rfl

def share (keep i : Nat) : Nat := keep / 2 ^ (8 * (i % 8)) % 256
def crK (keep i : Nat) (f : FileC) : Nat := f.k + (f.b.length - f.k) * share keep i / 255
def crF (keep : Nat) : Nat → List FileC → List FileC
  | _, [] => []
  | i, f :: r => cutC1 f (crK keep i f) :: crF keep (i + 1) r
theorem crF_snoc (keep : Nat) (x : FileC) : ∀ (pre : List FileC) (i : Nat), crF keep i (pre ++ [x]) = crF keep i pre ++ [cutC1 x (crK keep (i + pre.length) x)]
  | [], i => rfl
  | f :: r, i => by
    show cutC1 f _ :: crF keep (i + 1) (r ++ [x]) = _
    rw [crF_snoc keep x r (i + 1)]
    show _ = cutC1 f _ :: (crF keep (i + 1) r ++ _)
    rw [List.length_cons, show i + 1 + r.length = i + (r.length + 1) by omega]
/-- What a crash's loop leaves behind pre. -/
def crI (w : World) (B d m kb ib : Nat) (D : PD) (F : List FileC) (keep : Nat) (pre : List FileC) (W : World) : Prop :=
  ∃ suf, F = pre ++ suf ∧ HasDisk W B d m { D with L := (crF keep 0 pre ++ suf).map FileC.core } (crF keep 0 pre ++ suf) ∧ Boxed W kb 31 (.int .u64 keep) ∧ Boxed W ib 3 (.int .i64 pre.length) ∧ FrameT (fun k => ∃ f ∈ F, k = f.fb) w W
theorem crI_stab {w : World} {B d m kb ib : Nat} {D : PD} {F : List FileC} {keep : Nat} {pre : List FileC} {B0 : Nat} (hm : m < B0) (hw : w.heap.size ≤ B0) : Stab B0 (fun _ => False) (crI w B d m kb ib D F keep pre) := by
  rintro W W' ⟨suf, h1, h2, h3, h4, h5⟩ hmv
  exact ⟨suf, h1, h2.moves hmv hm, (Stab.boxed id) _ _ h3 hmv, (Stab.boxed id) _ _ h4 hmv, h5.after (T := fun k => ∃ f ∈ F, k = f.fb) ⟨hmv.os, hmv.tape, hmv.output, hmv.size, fun k o ho _ hc => hmv.block k o ho id hc⟩ hw⟩
theorem own_kind {W : World} {B d m : Nat} {D : PD} {F : List FileC} (h : HasDisk W B d m D F) {k : Nat} {vs : Array Value} {t : TypeId} {fr : Nat × Nat} (hk : W.heap[k]? = some (.cells vs t fr)) (h1 : t ≠ 81) (h2 : t ≠ 85) (h3 : t ≠ 5) : ¬ ownD F d m k := by
  rintro (rfl | rfl | ⟨f, hf, rfl | hj⟩)
  · rw [h.cell] at hk; injection hk with hk; injection hk with _ ht; exact h1 ht.symm
  · obtain ⟨es, c, hm, -⟩ := h.map; rw [hm] at hk; cases hk
  · rw [(h.file f hf).1] at hk; injection hk with hk; injection hk with _ ht; exact h2 ht.symm
  · rcases (h.file f hf).2.1.2 with ⟨hv, _⟩ | ⟨g, cap, cur, fz, hv, _, hg, _⟩
    · rw [hv] at hj; cases hj
    · rw [hv] at hj
      obtain rfl : g = k := by simpa [Value.ownBlock] using hj
      rw [hg] at hk; injection hk with hk; injection hk with _ ht; exact h3 ht.symm
theorem rd_frame {B0 : Nat} {S T : Nat → Prop} {W W' : World} (h : FrameT T W W') (h1 : ∀ k, S k → ¬ T k) (h2 : ∀ k, T k → k < B0) : Rd B0 S W W' :=
  ⟨h.os, h.tape, h.output, h.size, fun k o ho hc => h.get ho (hc.elim (h1 k) (fun hb ht => by have := h2 k ht; omega))⟩
theorem crI_step {w W : World} {B d m kb ib B0 B1 L : Nat} {D : PD} {F : List FileC} {keep : Nat} {pre suf : List FileC} {x : FileC} {a : Option Addr} {cap nn : Nat} (hs : F = pre ++ x :: suf) (hd : HasDisk W B d m { D with L := (crF keep 0 pre ++ x :: suf).map FileC.core } (crF keep 0 pre ++ x :: suf))
    (hkb : Boxed W kb 31 (.int .u64 keep)) (hib : Boxed W ib 3 (.int .i64 pre.length)) (hFr : FrameT (fun k => ∃ f ∈ F, k = f.fb) w W) (hxv : x.v = .slice a x.b.length cap) (hnn : nn = crK keep pre.length x) (hcl : nn ≤ x.b.length)
    (hne : kb ≠ x.fb ∧ ib ≠ x.fb ∧ kb ≠ ib ∧ w.heap.size ≤ ib ∧ x.fb < B0 ∧ ib < B0) :
    crI w B d m kb ib D F keep (pre ++ [x]) ((cutW W x.fb a nn cap).setCell ⟨ib, 0, none⟩ (.int .i64 ((pre.length : Int) + 1))) ∧
    Rd B0 (fun k => (k < B1 ∧ ¬ (k = ib ∨ ∃ f ∈ F, k = f.fb)) ∧ k ≠ L) W ((cutW W x.fb a nn cap).setCell ⟨ib, 0, none⟩ (.int .i64 ((pre.length : Int) + 1))) := by
  obtain ⟨n1, n2, n3, n4, n5, n6⟩ := hne
  obtain ⟨hc1, hc2⟩ := cutC_any hd (f := x) (by simp) hxv hcl
  have hxF : x ∈ F := by rw [hs]; simp
  have hib2 : Boxed (cutW W x.fb a nn cap) ib 3 (.int .i64 pre.length) := hc2.get hib n2
  have hkb2 : Boxed (cutW W x.fb a nn cap) kb 31 (.int .u64 keep) := hc2.get hkb n1
  have hS := FrameT.setCell (cutW W x.fb a nn cap) ib 0 (.int .i64 ((pre.length : Int) + 1))
  have hnm := hd.nms
  dsimp only at hc1
  rw [← setK_map (nm := FileC.n) (nb := PF.n) (g := FileC.core) (fun _ => rfl), setK_mid (show FileC.n (cutC1 x nn) = FileC.n x from rfl) hnm] at hc1
  have e : crF keep 0 pre ++ cutC1 x nn :: suf = crF keep 0 (pre ++ [x]) ++ suf := by rw [crF_snoc, hnn, Nat.zero_add]; simp
  rw [e] at hc1
  refine ⟨⟨suf, by rw [hs]; simp, hc1.frame hS (fun k hk e2 => ?_), hS.get hkb2 n3, ?_, ?_⟩, ?_⟩
  · have e2 : k = ib := e2
    rw [e2] at hk
    exact own_kind hc1 hib2 (by decide) (by decide) (by decide) hk
  · rw [List.length_append]
    exact hib2.set _
  · exact (hFr.trans (hc2.mono fun k hk => ⟨x, hxF, hk⟩)).belowN ((Below.refl _ _).setCell (p := ⟨ib, 0, none⟩) n4 _ |>.mono (Nat.le_refl _))
  · refine rd_frame (T := fun k => k = x.fb ∨ k = ib) ((hc2.mono fun k hk => .inl hk).trans (hS.mono fun k hk => .inr hk)) (fun k hk ht => ?_) (fun k hk => by rcases hk with rfl | rfl <;> assumption)
    rcases ht with rfl | rfl
    · exact hk.1.2 (.inr ⟨x, hxF, rfl⟩)
    · exact hk.1.2 (.inl rfl)
theorem crash_end {w W W2 : World} {B d m D0 : Nat} {D : PD} {F G : List FileC} (h : HasDisk W B d m D G) (hFr : FrameT (fun k => ∃ f ∈ F, k = f.fb) w W) (hF : FrameT (fun k => k = d) W W2) (hc : W2.heap[d]? = some (.cells #[.map (some m), .int .i64 D.room, .int .i64 D.steps, .bool false, .int .i64 0] 81 (0, 0)))
    (hD : W2.heap[D0]? = some (.deferred (some []))) (hlt : w.heap.size ≤ D0) :
    HasDisk (W2.putObj D0 (.deferred none)) B d m { D with lim := false, left := 0 } G ∧ FrameT (ownD F d m) w (W2.putObj D0 (.deferred none)) := by
  have h2 : HasDisk W2 B d m { D with lim := false, left := 0 } G := h.own hF hc rfl
  have hP : FrameT (fun k => k = D0) W2 (W2.putObj D0 (.deferred none)) := (frame_grown (grownBy_putObj' W2 D0 (.deferred none))).mono fun k hk => by injection hk
  have hno : ¬ ownD G d m D0 := by
    rintro (e | e | ⟨f, hf, e | hj⟩)
    · rw [e, h2.cell] at hD; cases hD
    · obtain ⟨es, c, hm, -⟩ := h2.map; rw [e, hm] at hD; cases hD
    · rw [e, (h2.file f hf).1] at hD; cases hD
    · rcases (h2.file f hf).2.1.2 with ⟨hv, _⟩ | ⟨g, cap, cur, fz, hv, _, hg, _⟩
      · rw [hv] at hj; cases hj
      · rw [hv] at hj
        obtain rfl : g = D0 := by simpa [Value.ownBlock] using hj
        rw [hg] at hD; cases hD
  refine ⟨h2.frame hP (fun k hk e => hno (by rw [← (show k = D0 from e)]; exact hk)), ?_⟩
  have h3 := (hFr.mono (U := ownD F d m) fun k ⟨f, hf, e⟩ => .inr (.inr ⟨f, hf, .inl e⟩)).trans (hF.mono fun k hk => .inl hk)
  exact h3.belowN (below_putObj (Below.refl _ _) h3.size hlt _)
theorem bits_and_u64 (a b : Nat) (ha : a < 18446744073709551616) (hb : b < 18446744073709551616) : bits .and .u64 (a : Int) (b : Int) = ((a &&& b : Nat) : Int) := by
  have hab : a &&& b < 2 ^ 64 := Nat.and_lt_two_pow _ (by omega)
  show IntKind.u64.wrap ((BitVec.ofInt 64 (a : Int) &&& BitVec.ofInt 64 (b : Int)).toNat : Int) = _
  rw [BitVec.toNat_and, ofInt_u64 a (by omega), ofInt_u64 b (by omega)]
  show (((a &&& b : Nat) : Int)) % 18446744073709551616 = _
  omega
theorem share_bits (keep i : Nat) (hk : keep < 18446744073709551616) : wrap64 (bits .and .u64 ((keep : Int) / 2 ^ (8 * (i % 8))) 255) = (share keep i : Int) := by
  have e : ((keep : Int) / 2 ^ (8 * (i % 8))) = ((keep / 2 ^ (8 * (i % 8)) : Nat) : Int) := by push_cast; rfl
  have hlt : keep / 2 ^ (8 * (i % 8)) < 18446744073709551616 := Nat.lt_of_le_of_lt (Nat.div_le_self _ _) hk
  have e2 : keep / 2 ^ (8 * (i % 8)) &&& 255 = share keep i := Nat.and_two_pow_sub_one_eq_mod _ 8
  rw [e, show (255 : Int) = ((255 : Nat) : Int) from rfl, bits_and_u64 _ _ hlt (by decide), e2]
  have := Nat.mod_lt (keep / 2 ^ (8 * (i % 8))) (show 0 < 256 by decide)
  unfold share
  unfold wrap64
  omega
theorem share_le (keep i : Nat) : share keep i ≤ 255 := by unfold share; omega
theorem crK_le {keep i : Nat} {f : FileC} (h : f.k ≤ f.b.length) : crK keep i f ≤ f.b.length := by
  unfold crK
  have h1 : (f.b.length - f.k) * share keep i ≤ (f.b.length - f.k) * 255 := Nat.mul_le_mul_left _ (share_le _ _)
  omega
set_option maxRecDepth 100000 in
set_option maxHeartbeats 1000000 in
theorem crash_any {w : World} {B d m : Nat} {D : PD} {F : List FileC} (h : HasDisk w B d m D F) (hF : F.length ≤ 1000) (hu : usedL D.L ≤ 1000000000) (keep : Nat) (hk : keep < 18446744073709551616) :
    Calls Try.prog 20 #[.pointer (some ⟨d, 0, none⟩), .int .u64 keep] w fun e w' => (∃ v, e = .returned v) ∧ HasDisk w' B d m { D with L := (crF keep 0 F).map FileC.core, lim := false, left := 0 } (crF keep 0 F) ∧ FrameT (ownD F d m) w w' := by
  have hmx : Try.prog.follows .mixedOrders = true := by kernel_rfl
  refine (callsIn_wide (n := 9)).1 ?_
  refine callsIn_of_wp_marks Try.func20 rfl trivial ?_ rfl
  simp only [Try.ntmps20, List.size_toArray, List.length_cons, List.length_nil, Nat.reduceAdd, Nat.reduceSub, Array.replicate_succ, Array.replicate_zero, List.push_toArray, List.append_toArray, List.nil_append, List.cons_append]
  have HD := Lib.hid h
  have HU := Lib.hid hu
  have HKp := Lib.hid hk
  clear h hu hk
  gi_wp2_with (gi_at_call 60; refine (callsIn_wide.2 (order_any d _)).mono ?_; rintro e w1 ⟨rfl, rfl⟩)
  obtain ⟨w1, hw1⟩ : ∃ w1, w1 = ((w.alloc (.cells #[.int .u64 keep] 31)).alloc (.cells #[.int .i64 0] 3)).alloc (.cells #[.pointer (some ⟨d, 0, none⟩)] 27) := ⟨_, rfl⟩
  rw [← hw1]
  have hB1 : Below w.heap.size w w1 := by rw [hw1]; exact bel_alloc (bel_alloc (bel_alloc (Below.refl _ _) _) _) _
  have bK : Boxed w1 w.heap.size 31 (.int .u64 keep) := by rw [hw1]; exact ((Boxed.new w _ _).alloc _).alloc _
  have bI : Boxed w1 (w.heap.size + 1) 3 (.int .i64 0) := by
    have := (Boxed.new (w.alloc (.cells #[.int .u64 keep] 31)) 3 (.int .i64 0)).alloc (.cells #[.pointer (some ⟨d, 0, none⟩)] 27)
    rw [hw1]; rwa [World.size_alloc] at this
  have cb : w1.cell? ⟨w.heap.size + 1 + 1, 0, none⟩ = some (.pointer (some ⟨d, 0, none⟩)) := by
    have := (Boxed.new ((w.alloc (.cells #[.int .u64 keep] 31)).alloc (.cells #[.int .i64 0] 3)) 27 (.pointer (some ⟨d, 0, none⟩))).cell
    rw [hw1]; rwa [World.size_alloc, World.size_alloc] at this
  have hsz1 : w1.heap.size = w.heap.size + 3 := by rw [hw1]; simp
  clear hw1
  have hdl := HD.out.lt (k := d) (.inl rfl)
  have hml := HD.out.lt (k := m) (.inr (.inl rfl))
  have hfl : ∀ f ∈ F, f.fb < w.heap.size ∧ f.fb ≠ d ∧ f.fb ≠ m := fun f hf => ⟨HD.out.lt (k := f.fb) (.inr (.inr ⟨f, hf, .inl rfl⟩)), (HD.out.apart.2.1 f hf).1, (HD.out.apart.2.1 f hf).2.1⟩
  have hVn : ∀ k, (∀ f ∈ F, k ≠ f.fb) → k ≠ w.heap.size + 1 → ¬ (k = w.heap.size + 1 ∨ ∃ f ∈ F, k = f.fb) := fun k h1 h2 h => h.elim h2 (fun ⟨f, hf, e⟩ => h1 f hf e)
  have HI := Lib.hid (order_iter HD.out (by omega) (w.heap.size + 1 + 1) (fun _ => True) (fun k => k = w.heap.size + 1 ∨ ∃ f ∈ F, k = f.fb) w1 hB1 cb ⟨trivial, trivial, trivial⟩
    ⟨hVn _ (fun f hf e => by have := (hfl f hf).1; omega) (by omega), hVn _ (fun f hf e => (hfl f hf).2.1 e.symm) (by omega), hVn _ (fun f hf e => (hfl f hf).2.2 e.symm) (by omega)⟩ (fun k hk => hk.elim (fun h => by omega) (fun ⟨f, hf, e⟩ => by have := (hfl f hf).1; omega)) (by omega))
  clear cb
  refine range_outerV rfl (enters_of Try.func77 (by kernel_rfl) rfl) HI.out (fun _ => rfl)
    (fun _ pre W => crI w B d m w.heap.size (w.heap.size + 1) D F keep pre W) (fun _ _ _ => False) (fun _ _ => crI_stab (by omega) (by omega)) (fun _ _ => Stab.pure _)
    (fun W1 hb => ⟨F, rfl, by
      have h2 := HD.out.below (hB1.trans (hb.mono hB1.size))
      show HasDisk W1 B d m { D with L := F.map FileC.core } F
      rw [h2.core]; exact h2, boxed_below bK hb (by omega), boxed_below bI hb (by omega), (FrameT.below (T := fun _ => False) (hB1.trans (hb.mono hB1.size))).mono (fun _ h => False.elim h)⟩) ?hr ?hd (fun _ _ _ _ _ _ h => h.elim)
  case hr =>
    rintro B1 L pre x suf W hBB hx hl' hi1 hrec
    have hpl : pre.length < 1000 := by have h1 := congrArg List.length hx; simp at h1; omega
    have hxF : x ∈ F := by rw [hx]; simp
    dsimp only [FileC.val]
    gi_wp2
    refine rdThen_mk _ (crI_stab (by omega) (by omega)) hi1 (Rd.refl _ _ _) ?_
    clear hi1 hrec W
    rintro W ⟨suf', hs', hd, hkb, hib, hFr⟩ hrec
    obtain rfl : suf' = x :: suf := by rw [hx] at hs'; exact (List.append_cancel_left hs').symm
    have hxD : x ∈ crF keep 0 pre ++ x :: suf := by simp
    obtain ⟨hfc, hfr, hkl⟩ := hd.file x hxD
    obtain ⟨a, cap, hxv⟩ := own_sliceG hfr
    have cK := hkb.cell
    have cI := hib.cell
    have hxl : x.b.length ≤ 1000000000 := Nat.le_trans (by
      rw [← HD.out.core]; exact used_mem (f := x.core) (List.mem_map.2 ⟨x, hxF, rfl⟩)) HU.out
    gi_wp2
    rw [share_bits keep pre.length HKp.out]
    have hsl := share_le keep pre.length
    have hck : crK keep pre.length x = x.k + (x.b.length - x.k) * share keep pre.length / 255 := rfl
    have hcl := crK_le (keep := keep) (i := pre.length) hkl
    generalize share keep pre.length = sh at *
    rw [hxv] at hfc
    obtain ⟨k0, k1, k2, k3⟩ := cells2 hfc
    have k0d : W.drew.cell? ⟨x.fb, 0, none⟩ = _ := k0
    have k1d : W.drew.cell? ⟨x.fb, 1, none⟩ = _ := k1
    have k2d : W.drew.frozen? ⟨x.fb, 0, none⟩ = _ := k2
    have hcap : x.b.length ≤ cap := by
      rw [hxv] at hfr
      rcases hfr.2 with ⟨e, h0⟩ | ⟨g, cap', cur, fz, e, _, _, hle, _⟩
      · injection e with e1 e2 e3; omega
      · injection e with e1 e2 e3; omega
    obtain ⟨dl, hdl'⟩ : ∃ dl, dl = x.b.length - x.k := ⟨_, rfl⟩
    rw [← hdl'] at hck
    have hmul : dl * sh ≤ dl * 255 := Nat.mul_le_mul_left _ hsl
    obtain ⟨pr, hpr⟩ : ∃ pr, pr = dl * sh := ⟨_, rfl⟩
    rw [← hpr] at hck hmul
    obtain ⟨nn, hnn⟩ : ∃ nn, nn = crK keep pre.length x := ⟨_, rfl⟩
    rw [← hnn] at hck hcl
    have hw1 : IntKind.i64.wrap ((x.b.length : Int) - (x.k : Int)) = (dl : Int) := by rw [IntWalk.i64_in _ (by omega)]; omega
    have hw2 : IntKind.i64.wrap ((dl : Int) * (sh : Int)) = (pr : Int) := by
      have : (pr : Int) = (dl : Int) * (sh : Int) := by rw [hpr]; push_cast; rfl
      rw [← this]; exact IntWalk.i64_in _ (by omega)
    have hw3 : IntKind.i64.wrap ((pr : Int).tdiv 255) = ((pr / 255 : Nat) : Int) := by
      have : (pr : Int).tdiv 255 = ((pr / 255 : Nat) : Int) := by rw [Int.tdiv_eq_ediv_of_nonneg (by omega)]; omega
      rw [this]; exact IntWalk.i64_in _ (by omega)
    have hw3' : IntKind.i64.wrap ((pr : Int) / 255) = ((pr / 255 : Nat) : Int) := by
      have : (pr : Int) / 255 = ((pr / 255 : Nat) : Int) := by omega
      rw [this]; exact IntWalk.i64_in _ (by omega)
    obtain ⟨qt, hqt⟩ : ∃ qt, qt = pr / 255 := ⟨_, rfl⟩
    rw [← hqt] at hw3 hw3' hck
    have hw4 : IntKind.i64.wrap ((x.k : Int) + (qt : Int)) = (nn : Int) := by rw [IntWalk.i64_in _ (by omega)]; omega
    have hn1 : (0 : Int) ≤ (nn : Int) := by omega
    have hn2 : (nn : Int) ≤ (cap : Int) := by omega
    have hn3 : nn ≤ cap := by omega
    have HNN := Lib.hid hnn
    have HCL := Lib.hid hcl
    have HXV := Lib.hid hxv
    have HFC := Lib.hid hfc
    clear hdl' hpr hqt hnn hck hmul hxv hfc hfr hsl hcl hcap
    refine wpIn_still_tail 26 hmx (by kernel_rfl) (by kernel_rfl) ⟨_, rfl⟩ ?_
    simp only [List.take_succ_cons, List.take_zero, List.drop_succ_cons, List.drop_zero]
    repeat still_step
    refine wpStill_nil ?_
    go_wp2
    refine onlyNormal_mk ?_
    have hfx := hfl x hxF
    have HST := Lib.hid (crI_step (B0 := w1.heap.size) (B1 := B1) (L := L) (w := w) hx hd hkb hib hFr HXV.out HNN.out HCL.out ⟨by omega, by omega, by omega, by omega, by omega, by omega⟩)
    have hib2 := (cutC_any hd hxD HXV.out HCL.out).2.get hib (show w.heap.size + 1 ≠ x.fb by omega)
    obtain ⟨i1, i2⟩ : (cutW W x.fb a nn cap).cell? ⟨w.heap.size + 1, 0, none⟩ = some (.int .i64 pre.length) ∧ (cutW W x.fb a nn cap).frozen? ⟨w.heap.size + 1, 0, none⟩ = false := ⟨Boxed.cell hib2, Boxed.frozen hib2⟩
    clear k0 k1 k2 k3 k0d k1d k2d cK cI hd hkb hib hFr hib2 hw1 hw2 hw3 hw3' hw4 hxD hx hs'
    gi_wp2_with (gi_at_call 61; refine (callsIn_wide.2 (cutKeep HFC.out)).mono ?_; rintro e w6 ⟨⟨v, rfl⟩, rfl⟩)
    exact ⟨HST.out.2, HST.out.1⟩
  case hd =>
    rintro B1 W hBB ⟨suf', hs', hd, hkb, hib, hFr⟩ hD
    obtain rfl : suf' = [] := by
      have := congrArg List.length hs'
      rw [List.length_append] at this
      exact List.eq_nil_of_length_eq_zero (by omega)
    rw [List.append_nil] at hd
    clear hs' hkb hib
    obtain ⟨c0, c1, c2, c3, c4⟩ := cells5 hd.cell
    obtain ⟨f2, f3, f4⟩ := frozen5 hd.cell
    have H1 := Lib.hid (heap_setCell_same _ d 4 _ _ (.int .i64 0) (heap_setCell_same W d 3 _ _ (.bool false) hd.cell))
    have H2 := Lib.hid ((FrameT.setCell W d 3 (.bool false)).trans (FrameT.setCell _ d 4 (.int .i64 0)))
    have HD2 := Lib.hid hd
    have HFR := Lib.hid hFr
    clear hd hFr
    have hD2 := H2.out.get hD (show ¬ w1.heap.size = d by omega)
    have HFin := Lib.hid (crash_end (D0 := w1.heap.size) HD2.out HFR.out H2.out (by rw [H1.out]; simp) hD2 (by omega))
    clear H1
    gi_wp2
    rw [← hsz1]
    exact leave_one hD2 (results_none rfl _ _ _) ⟨⟨_, rfl⟩, HFin.out⟩

end Go.Proofs.Ytieekahlknmkfaa
