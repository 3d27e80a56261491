/- LgI, LgA, LgSp: in one text. -/
import Derived.Test.YtdncdlbhgaehmaaLgM
import Derived.Test.YtdncdlbhgaehmaaPlc0
import Derived.Test.YtdncdlbhgaehmaaIterK
import Derived.Test.YtdncdlbhgaehmaaRegion
import Derived.Deep.AppendLies
/- The logs of a ledger, handed out in the order of their numbers. -/
namespace Go.Proofs.Ytdncdlbhgaehmaa
open Go.RowKit Go.Shelf Go.Maps Go.Sort
set_option linter.unusedVariables false
attribute [local go_sem] Oper.semAt_some wide_fn wide_round_fn

theorem lsorts (m : Nat) : AnyZI.SortsIn Try.prog Try.sortedI_ren Fence.wide m :=
  ⟨fun blk off cap ss W hH hblk hsz => callsIn_wide.2 (AnyM.slices_Sort_int Try.sortI blk off cap ss W hH hblk hsz),
   fun p cap W => callsIn_wide.2 (AnyM.slices_Sort_int_none Try.sortI p cap W)⟩
theorem lkeys (mb : Option Nat) (W : World) : CallsIn Fence.wide 5 Try.prog 81 #[.map mb] W fun e w' => e = .returned (.func (.func 106) #[] #[.pointer (some ⟨W.heap.size, 0, none⟩)]) ∧ w' = W.alloc (.cells #[.map mb] 87) :=
  AnyZI.keys_in Try.keysL Fence.wide 5 trivial rfl mb W
theorem lsorted {H : Type} (b nn : Nat) (D0 : DataW H) (R : Value → Option (DataW H × List MemPlace)) (w : World) (hown : w.ownsMap Try.prog 3 R b nn D0) (hmax : Maps.size D0 ≤ maxLen) (hbytes : Maps.size D0 * 8 ≤ 140737488355328) :
    CallsIn Fence.wide 5 Try.prog 80 #[.func (.func 106) #[] #[.pointer (some ⟨w.heap.size, 0, none⟩)]] (w.alloc (.cells #[.map (some b)] 87)) fun e w' => ∃ (v : Value) (ss : List Int), e = .returned v ∧ ss.Perm (intKeys D0) ∧
      w'.ownsRow (w.alloc (.cells #[.map (some b)] 87)).heap.size 3 1 v ss.length ((ss.mergeSort (fun x y => decide (x ≤ y))).map encZ) ∧ (v = .slice none 0 0 ↔ ss = []) ∧ Below (w.alloc (.cells #[.map (some b)] 87)).heap.size (w.alloc (.cells #[.map (some b)] 87)) w' := by
  have hbl := hown.lt
  have hseq : SeqGives Fence.wide 2 Try.prog 106 #[.pointer (some ⟨w.heap.size, 0, none⟩)] encZ (fun ss => ss.Perm (intKeys D0)) (Maps.size D0) (w.alloc (.cells #[.map (some b)] 87)) :=
    AnyZI.keys_gives (ρ := Try.keysL_ren) { Try.keysL with } Fence.wide _ trivial rfl (by omega) w.heap.size b nn D0 _ (by simp) (by simp) (by
      obtain ⟨es, clock, hb, Ft, hs, hD⟩ := hown
      exact ⟨es, clock, (Below.heap_alloc _ _ b hbl).trans hb, Ft, hs, hD⟩)
  exact AnyZI.sorted_in Try.sortedI Fence.wide 5 trivial trivial trivial trivial rfl (by omega) (lsorts _) (enters_of Try.func105 (by kernel_rfl) rfl) 106 #[.pointer (some ⟨w.heap.size, 0, none⟩)] trivial (enters_of Try.func106 (by kernel_rfl) rfl) _ _ hmax hbytes _ hseq
theorem lids_sorted {F : List LE} (hr : RisZ LE.k F) {ss : List Int} (hp : ss.Perm (intKeys (lmap F))) : (ss.mergeSort (fun x y => decide (x ≤ y))).map encZ = F.map (fun x => Value.int .i64 x.k) ∧ ss.length = F.length := by
  have e : intKeys (lmap F) = F.map fun x => x.k := by unfold lmap intKeys; dsimp only; rw [List.map_map]; rfl
  rw [e] at hp
  constructor
  · have hs : (F.map fun x => x.k).Pairwise (fun x y => decide (x ≤ y) = true) := by
      rw [List.pairwise_map]
      exact hr.imp fun {a b} h => by simp; exact Int.le_of_lt h
    have h1 : ss.mergeSort (fun x y => decide (x ≤ y)) = F.map fun x => x.k := by
      refine List.Perm.eq_of_pairwise (le := fun x y => decide (x ≤ y)) ?_ (List.pairwise_mergeSort (fun a b c h1 h2 => by simp at *; omega) (fun a b => by simp; omega) ss) hs ((List.mergeSort_perm ss _).trans hp)
      intro a b _ _ h1 h2
      simp at h1 h2; omega
    rw [h1, List.map_map]; rfl
  · rw [hp.length_eq, List.length_map]
theorem llmap_rd {B : Nat} {S : Nat → Prop} {W W' : World} {P : Program} {k : TypeId} {R : Value → Option (DataW Value × List MemPlace)} {b n : Nat} {D : DataW Value} (h : W.ownsMap P k R b n D) (hR : Rd B S W W') (hS : S b) : W'.ownsMap P k R b n D := by
  obtain ⟨es, clock, h1, r⟩ := h
  exact ⟨es, clock, hR.block _ _ h1 (.inl hS), r⟩
theorem llook_map {W : World} {m n : Nat} {F : List LE} (h : W.ownsMap Try.prog 3 plcElem m n (lmap F)) {x : LE} (hx : getZ LE.k F x.k = some x) (hw : (Lit.int .i64 x.k).wf = true) :
    (Instr.lookup 87 (.map (some m)) (.int .i64 x.k) false).run Try.prog W = .ok x.val W := by
  obtain ⟨v, ps, hrun, hv⟩ := h.lookup lawP Try.underlying87 (zeroLog W) (zd := .held (.pointer none)) (zp := []) rfl (Maps.keyOf_int_mk Try.underlying3 hw)
  rw [lmap_at, hx] at hv
  rw [← plcElem_some hv]; exact hrun
theorem lrow_id {W : World} {B : Nat} {e : TypeId} {n : Nat} {v : Value} {F : List LE} (h : W.ownsRow B e 1 v n (F.map fun x => Value.int .i64 x.k)) {k : Nat} (hk : k < F.length) : ∃ g cap, v = .slice (some ⟨g, 0, none⟩) n cap ∧ B ≤ g ∧ g < W.heap.size ∧ W.cell? ⟨g, k, none⟩ = some (.int .i64 F[k].k) := by
  have hl : F.length = n := by have := h.1; simpa using this
  rcases h.2 with ⟨hv, h0⟩ | ⟨g, cap, cur, hv, hb, hg, hle, hcm, hcs, ht⟩
  · omega
  · refine ⟨g, cap, hv, hb, (Array.getElem?_eq_some_iff.1 hg).1, ?_⟩
    rw [Lib.cell_of_heap hg]
    have : (cur.toList.take (n * 1))[k]? = some (.int .i64 F[k].k) := by rw [ht]; simp [hk]
    rw [List.getElem?_take] at this
    split at this
    · simpa [Array.getElem?_toList] using this
    · cases this
theorem own_sliceLg {W : World} {B : Nat} {e : TypeId} {sz n : Nat} {v : Value} {xs : List Value} (h : W.ownsRow B e sz v n xs) : ∃ a cap, v = .slice a n cap := by
  rcases h.2 with ⟨rfl, rfl⟩ | ⟨g, cap, _, rfl, _⟩
  · exact ⟨none, 0, rfl⟩
  · exact ⟨_, cap, rfl⟩
set_option maxRecDepth 100000 in
set_option maxHeartbeats 1000000 in
theorem lorder_iter {W0 : World} {d m : Nat} {F : List LE} (h : LedAt W0 d m F) (hF : F.length ≤ 1000000) (hr : RisZ LE.k F) (hid : ∀ x ∈ F, 0 ≤ x.k ∧ x.k ≤ 999) (Bd : Nat) (S V : Nat → Prop) (w0 : World) (hw : Below W0.heap.size W0 w0)
    (hb : w0.cell? ⟨Bd, 0, none⟩ = some (.pointer (some ⟨d, 0, none⟩))) (hS : S Bd ∧ S d ∧ S m) (hV : ¬ V Bd ∧ ¬ V d ∧ ¬ V m) (hVl : ∀ k, V k → k < w0.heap.size) (hbl : Bd < w0.heap.size) :
    IterV Try.prog 79 #[.pointer (some ⟨Bd, 0, none⟩)] (fun x : LE => #[x.val]) F S V w0 := by
  intro l J Jx W hW hlw hlW hJs _ hY h0
  have hmW := llmap_rd (pown_frame h.map (FrameT.below (T := fun _ => False) hw) id) hW hS.2.2
  have hdW := hW.block _ _ ((FrameT.below (T := fun _ => False) hw).get h.box id) (.inl hS.2.1)
  have c0 : W.cell? ⟨d, 0, none⟩ = some (.map (some m)) := cell_of_row _ _ 0 _ _ _ hdW
  have cb := hW.cell hb hS.1
  have hsize : Maps.size (lmap F) ≤ maxLen ∧ Maps.size (lmap F) * 8 ≤ 140737488355328 := by rw [lmap_size]; unfold maxLen; omega
  have HSz := Lib.hid hsize
  have HN := Lib.hid (fun ss hp => lids_sorted hr (ss := ss) hp)
  have HMW := Lib.hid hmW
  have hdl := heap_lt h.box
  have hml := h.map.lt
  have hw0 := hw.size
  have hWs := hW.size
  have HL := Lib.hid (And.intro hdl (And.intro hml (And.intro hbl (And.intro hw0 (And.intro hWs (And.intro hlw hlW))))))
  have HSelf := Lib.hid (fun x (hx : x ∈ F) => (And.intro (risZ_get hr hx) (hid x hx)))
  have HC0 := Lib.hid c0
  have HCB := Lib.hid cb
  clear hsize hmW hdW hdl hml hbl hw0 hWs
  have hfK : Fence.wide.fn 81 := trivial
  have hfS : Fence.wide.fn 80 := trivial
  refine callsIn_of_wp Try.func79 rfl trivial ?_ rfl
  simp only [Try.ntmps79, List.size_toArray, List.length_cons, List.length_nil, Nat.reduceAdd, Nat.reduceSub, Array.replicate_succ, Array.replicate_zero, List.push_toArray, List.append_toArray, List.nil_append, List.cons_append]
  gi_wp2_with (first
    | (gi_at_call 81; refine (callsIn_wide_n (lkeys _ _)).mono ?_; rintro e w' ⟨rfl, rfl⟩)
    | (gi_at_call 80; refine (callsIn_wide_n (lsorted m F.length (lmap F) plcElem W HMW.out HSz.out.1 HSz.out.2)).mono ?_; rintro e w5 ⟨v, ss, rfl, hSs, hrow, -, hb5⟩; rw [(HN.out ss hSs).1, (HN.out ss hSs).2] at hrow; obtain ⟨a5, cap5, rfl⟩ := own_sliceLg hrow))
  have hz5 := hb5.size
  rw [World.size_alloc] at hz5
  have hbW5 : Below W.heap.size W w5 := bel2 (bel_alloc (Below.refl _ _) _) hb5
  have H0 := Lib.hid (h0 w5 hbW5)
  have HB5 := Lib.hid hbW5
  have HZ := Lib.hid hz5
  have HR := Lib.hid hrow
  clear hrow hb5 hbW5 hz5 c0 cb h0 hSs
  gi_loopw [12] (fun q wr => ∃ k : Nat, k ≤ F.length ∧ q = .int .i64 k ∧ J w5.heap.size (F.take k) wr ∧ Rd W.heap.size (fun k => (k < w5.heap.size ∧ ¬ V k) ∧ k ≠ l) w5 wr) (fun q _ => F.length - (intOf q).toNat)
  case atStart => exact ⟨0, by omega, rfl, H0.out, Rd.refl _ _ _⟩
  case round =>
    obtain ⟨k, hk, rfl, hJ, hR⟩ := hrel
    obtain ⟨l1, l2, l3, l4, l5, l6, l7⟩ := HL.out
    have z5 := HZ.out
    have old : ∀ x, x < w0.heap.size → ¬ V x → ((x < w5.heap.size ∧ ¬ V x) ∧ x ≠ l) := fun x hx hv => ⟨⟨by omega, hv⟩, by omega⟩
    have hm := llmap_rd (pown_frame HMW.out (FrameT.below (T := fun _ => False) HB5.out) id) hR (old m (by omega) hV.2.2)
    have c0 : wr.cell? ⟨d, 0, none⟩ = some (.map (some m)) := hR.cell ((FrameT.below (T := fun _ => False) HB5.out).cell HC0.out id) (old d (by omega) hV.2.1)
    have cb : wr.cell? ⟨Bd, 0, none⟩ = some (.pointer (some ⟨d, 0, none⟩)) := hR.cell ((FrameT.below (T := fun _ => False) HB5.out).cell HCB.out id) (old Bd (by omega) hV.1)
    by_cases hlt : k < F.length
    · obtain ⟨g, cap, hv, hg1, hg2, hcg⟩ := lrow_id HR.out hlt
      rw [World.size_alloc] at hg1
      cases hv
      have hcg' := hR.cell hcg ⟨⟨hg2, fun hv => by have := hVl g hv; omega⟩, (show g ≠ l by omega)⟩
      obtain ⟨hs1, hs2⟩ := HSelf.out F[k] (List.getElem_mem hlt)
      have hrun := llook_map hm hs1 (by simp [Lit.wf, IntKind.min, IntKind.max, IntKind.signed, IntKind.bits]; omega)
      have HX := Lib.hid (show F = F.take k ++ F[k] :: F.drop (k + 1) by rw [List.getElem_cons_drop hlt, List.take_append_drop])
      have HT := Lib.hid (show F.take (k + 1) = F.take k ++ [F[k]] from List.take_succ_eq_append_getElem hlt)
      have hlti : (k : Int) < (F.length : Int) := by omega
      obtain ⟨fn, tmps, assign, body, hy, hR1⟩ := hY w5.heap.size (F.take k) F[k] (F.drop (k + 1)) wr (by omega) HX.out hJ
      generalize F[k] = x at *
      obtain ⟨d', m', L'⟩ := x
      dsimp only [LE.val, LE.k] at *
      clear hm hs1 hs2 old hg1 hg2 hcg
      gi_wp2
      refine (roundIn_wide_n hR1).mono ?_
      rintro e W3 (⟨rfl, hJ3, hk3⟩ | ⟨rfl, hJx3⟩)
      · clear hrun c0 cb hcg' hy hR1
        gi_wp2
        go_roundw
        case rel => exact ⟨k + 1, by omega, by go_num, by rw [HT.out]; exact hJ3, hR.trans hk3⟩
        case measure => simp [intOf]; omega
      · clear hrun c0 cb hcg' hy hR1
        gi_wp2
        refine bodyPost_ret (results_none rfl _ _ _) rfl ?_
        exact ⟨⟨_, rfl⟩, .inr ⟨_, _, _, HX.out, hJx3⟩⟩
    · obtain rfl : k = F.length := by omega
      rw [List.take_of_length_le (by omega)] at hJ
      clear hm c0 cb old
      gi_wp2
      refine bodyPost_end (results_none rfl _ _ _) rfl ?_
      exact ⟨⟨_, rfl⟩, .inl ⟨_, by omega, hJ⟩⟩

end Go.Proofs.Ytdncdlbhgaehmaa

/- (*Ledger).Groups: the groups, each with entries of its own, in the order of their numbers. -/
namespace Go.Proofs.Ytdncdlbhgaehmaa
open Go.RowKit Go.Shelf
set_option linter.unusedVariables false
attribute [local go_sem] Oper.semAt_some wide_fn wide_round_fn

/-- A group in memory. -/
structure GVL where
  g : GM
  a : Option Addr
  c : Nat
def inGL (x : GVL) (k : Nat) : Prop := inBlkE x.a x.g.l.length k
theorem lorder_any (d : Nat) (W : World) : Calls Try.prog 51 #[.pointer (some ⟨d, 0, none⟩)] W fun e w' => e = .returned (.func (.func 79) #[] #[.pointer (some ⟨W.heap.size, 0, none⟩)]) ∧ w' = W.alloc (.cells #[.pointer (some ⟨d, 0, none⟩)] 53) := by
  go_enter Try.func51, Try.ntmps51
  go_wp2
  go_ret
  exact ⟨rfl, rfl⟩
def lvCells (L : List GVL) : List Value := L.flatMap fun x => (x.g.arr x.a x.c).toList
theorem lvCells_snoc (L : List GVL) (x : GVL) : lvCells (L ++ [x]) = lvCells L ++ (x.g.arr x.a x.c).toList := by simp [lvCells]
theorem infoGrpL : (Try.prog.info? 65).map (fun i => (i.zero, i.size, i.bytes)) = some (some (.agg #[.int .i64 0, .int .i64 0, .int .i64 0, .int .i64 0, .int .i64 0, .int .i64 0, .slice none 0 0]), 7, 72) := by kernel_rfl
theorem lnews_new (w : World) (e : TypeId) (news : List Value) : ∀ j u, news[j]? = some u → (w.alloc (.cells news.toArray e)).cell? ((⟨w.heap.size, 0, none⟩ : Addr).add j) = some u := fun j u h =>
  World.news_of_block (heap_alloc_new w _) j u (by simpa using h)
theorem ownsRow_keptL {W : World} {base : Nat} {e : TypeId} {size : Nat} {v : Value} {k : Nat} {xs : List Value} (h : W.ownsRow base e size v k xs) {D : Nat} {o : Obj} (hD : W.heap[D]? = some o) (hc : o.isCells = false) (o' : Obj) : (W.putObj D o').ownsRow base e size v k xs := by
  refine ⟨h.1, ?_⟩
  rcases h.2 with h2 | ⟨g, cap, cur, hv, hg, hh, r⟩
  · exact .inl h2
  · refine .inr ⟨g, cap, cur, hv, hg, (World.putObj_heap_other (fun e => ?_)).trans hh, r⟩
    rw [e, hD] at hh
    cases hh
    cases hc
theorem wpIn_of_heldL {F : Fence} {n : Nat} {P : Program} {id : Nat} {Q : Exit → Act → World → Prop} {a : Act} {w : World} {l : List Oper} {S : World → Prop} (hm : P.follows .mixedOrders = true) (hd : l.all (fun o => !isDefer o.op) = true) (hF : ∃ ro, F = { Fence.wide with round := ro }) (hS : S w.drew)
    (h : S w.drew → wpAnyH P .any l.toArray (onlyNormal Q) S l.toArray.size (Array.replicate l.toArray.size false) a w.drew) : (Code.region id l.toArray true).wpIn F n P Q a w := by
  refine wpIn_region_any hm (anyIn_of_plain hF (fun i o ho => ?_) _ _ _ _ (wpAny_of_held _ _ _ _ (h hS)))
  have hmem : o ∈ l := by
    simp only [List.getElem?_toArray] at ho
    exact List.mem_of_getElem? ho
  have := List.all_eq_true.1 hd o hmem
  simpa using this
theorem app_allL {w W w2 : World} {t e : TypeId} {sz B0 B1 n k L : Nat} {v v' : Value} {xs ys : List Value} {tmp : Obj} (hte : t ≠ e) (hB : Below w.heap.size w W) (hBB : w.heap.size < B1) (hs : B1 ≤ W.heap.size) (hv : Boxed W w.heap.size t v) (hrow : W.ownsRow B1 e sz v n xs)
    (hown' : w2.ownsRow B1 e sz v' k ys) (hgrow : (W.alloc tmp).grownBy w2 v.ownBlock) :
    Below w.heap.size w w2 ∧ Boxed w2 w.heap.size t v ∧ Below w.heap.size w (w2.setCell ⟨w.heap.size, 0, none⟩ v') ∧ Boxed (w2.setCell ⟨w.heap.size, 0, none⟩ v') w.heap.size t v' ∧ (w2.setCell ⟨w.heap.size, 0, none⟩ v').ownsRow B1 e sz v' k ys ∧ Rd B0 (fun j => (j < B1 ∧ ¬ (j = w.heap.size)) ∧ j ≠ L) W (w2.setCell ⟨w.heap.size, 0, none⟩ v') := by
  obtain ⟨h1, h2, h3, h4, h5⟩ := boxed_appended (W := W) (n₀ := w.heap.size) (base := B1) (B0 := B0) (S := fun j => (j < B1 ∧ ¬ (j = w.heap.size)) ∧ j ≠ L) hv hte hrow (by omega) hs (Nat.le_refl _) (fun h => h.1.2 rfl) (fun j hj h => by have := h.1.1; omega) hown' hgrow
  exact ⟨(bel_alloc hB tmp).grown hgrow (bel_alloc hB tmp).size (fun j hj => by have := ownBlock_ge hrow hj; omega), h1, hB.trans h5, h2, h3, h4⟩
/-- The box q holds a slice of groups, in blocks from B1 on; their entries lie elsewhere; nothing that lay in w has turned. -/
def lallV (w : World) (q B1 : Nat) (pre : List GM) (v : Value) (W : World) : Prop := Boxed W q 62 v ∧ (∃ Gs : List GVL, Gs.map GVL.g = pre ∧ (W.ownsRow B1 65 7 v pre.length (lvCells Gs) ∧ ∀ x, x ∈ Gs → HasG W x.a x.g ∧ (x.g.l.length ≤ x.c ∧ ∀ k, inGL x k → B1 ≤ k ∧ some k ≠ v.ownBlock))) ∧ Below w.heap.size w W ∧ B1 ≤ W.heap.size
def lallI (w : World) (q B1 : Nat) (pre : List GM) (W : World) : Prop := ∃ v, lallV w q B1 pre v W
theorem hasG_stabL {B : Nat} {a : Option Addr} {g : GM} : Stab B (fun _ => False) (fun W => HasG W a g) := fun W W' h hm => by
  refine ⟨h.1, h.2.1, h.2.2.1, fun h0 => ?_⟩
  obtain ⟨b, off, e, hb, hc⟩ := h.2.2.2 h0
  exact ⟨b, off, e, Nat.lt_of_lt_of_le hb hm.size, fun j hj => Stab.cell (B := B) (T := fun _ => False) id W W' (hc j hj) hm⟩
theorem lallV_stab {w : World} {q B B1 : Nat} {pre : List GM} {v : Value} (h : w.heap.size ≤ B) : Stab B (fun _ => False) (lallV w q B1 pre v) :=
  (Stab.boxed id).and ((Stab.ex fun Gs => (Stab.pure _).and ((Stab.ownsRow (fun _ h => h.elim)).and (Stab.all fun x => Stab.imp fun _ => hasG_stabL.and (Stab.pure _)))).and ((Stab.below (Nat.le_refl _) h (fun _ h => h.elim)).and Stab.size))
theorem lallI_stab {w : World} {q B B1 : Nat} {pre : List GM} (h : w.heap.size ≤ B) : Stab B (fun _ => False) (lallI w q B1 pre) := Stab.ex fun v => lallV_stab h

theorem ownBlock_ltL {W : World} {base : Nat} {e : TypeId} {size : Nat} {v : Value} {k : Nat} {xs : List Value} (h : W.ownsRow base e size v k xs) {j : Nat} (hj : some j = v.ownBlock) : base ≤ j ∧ j < W.heap.size := by
  rcases h.2 with ⟨rfl, _⟩ | ⟨g, cap, cur, rfl, hb, hg, _⟩
  · simp [Value.ownBlock] at hj
  · obtain rfl : j = g := by simpa [Value.ownBlock] using hj
    exact ⟨hb, (Array.getElem?_eq_some_iff.1 hg).1⟩
theorem own_baseL {W : World} {B B' : Nat} {e : TypeId} {sz n : Nat} {v : Value} {xs : List Value} (h : W.ownsRow B e sz v n xs) (hB : B' ≤ B) : W.ownsRow B' e sz v n xs := by
  refine ⟨h.1, ?_⟩
  rcases h.2 with h2 | ⟨g, cap, cur, hv, hb, r⟩
  · exact .inl h2
  · exact .inr ⟨g, cap, cur, hv, Nat.le_trans hB hb, r⟩
theorem hasG_putL {W : World} {a : Option Addr} {g : GM} (h : HasG W a g) {D : Nat} {o : Obj} (hD : W.heap[D]? = some o) (hc : o.isCells = false) (o' : Obj) : HasG (W.putObj D o') a g := by
  refine ⟨h.1, h.2.1, h.2.2.1, fun h0 => ?_⟩
  obtain ⟨b, off, e, hb, hx⟩ := h.2.2.2 h0
  refine ⟨b, off, e, by simpa using hb, fun j hj => ?_⟩
  have hne : b ≠ D := fun e => by
    have := hx j hj
    rw [e] at this
    cases o with
    | cells => cases hc
    | _ => simp [World.cell?, hD] at this
  exact (World.cell?_of_block (World.putObj_heap_other hne)).trans (hx j hj)
/-- A group is appended to the row. -/
theorem lall_step {w W w2 w4 : World} {B0 B1 L n : Nat} {pre : List GM} {v : Value} {Gs : List GVL} {tmp : Obj} {g' cap' : Nat} (hB : Below w.heap.size w W) (hBB : w.heap.size < B1) (hs : B1 ≤ W.heap.size) (hv : Boxed W w.heap.size 62 v)
    (hGs : Gs.map GVL.g = pre) (hrow : W.ownsRow B1 65 7 v pre.length (lvCells Gs)) (hall : ∀ x, x ∈ Gs → HasG W x.a x.g ∧ (x.g.l.length ≤ x.c ∧ ∀ k, inGL x k → B1 ≤ k ∧ some k ≠ v.ownBlock)) (hB2 : Below W.heap.size W w2) (x : GVL) (hG : HasG w2 x.a x.g) (hle : x.g.l.length ≤ x.c) (hnew : ∀ k, inGL x k → W.heap.size ≤ k)
    (hown : w4.ownsRow B1 65 7 (.slice (some ⟨g', 0, none⟩) n cap') (pre.length + 1) (lvCells Gs ++ (x.g.arr x.a x.c).toList)) (hgrow : (w2.alloc tmp).grownBy w4 v.ownBlock) (hlies : v.ownBlock = some g' ∨ g' = (w2.alloc tmp).heap.size) :
    Boxed w4 w.heap.size 62 v ∧ Rd B0 (fun j => (j < B1 ∧ ¬ (j = w.heap.size)) ∧ j ≠ L) W (w4.setCell ⟨w.heap.size, 0, none⟩ (.slice (some ⟨g', 0, none⟩) n cap')) ∧ lallV w w.heap.size B1 (pre ++ [x.g]) (.slice (some ⟨g', 0, none⟩) n cap') (w4.setCell ⟨w.heap.size, 0, none⟩ (.slice (some ⟨g', 0, none⟩) n cap')) := by
  have hv2 : Boxed w2 w.heap.size 62 v := (hB2.block _ (heap_lt hv)).trans hv
  have hrow2 := ownsRow_below (n := 0) hrow hB2
  obtain ⟨a1, a2, a3, a4, a5, a6⟩ := app_allL (B0 := B0) (L := L) (by decide) (bel2 hB hB2) hBB (Nat.le_trans hs hB2.size) hv2 hrow2 hown hgrow
  have hFg : FrameT (fun k => some k = v.ownBlock) w2 w4 := (FrameT.below (bel_alloc (Below.refl w2.heap.size w2) tmp)).trans ⟨hgrow.os, hgrow.tape, hgrow.output, hgrow.size, fun k hk hT => hgrow.block k hk hT⟩
  have hF : FrameT (fun k => some k = v.ownBlock ∨ k = w.heap.size) w2 (w4.setCell ⟨w.heap.size, 0, none⟩ (.slice (some ⟨g', 0, none⟩) n cap')) := (hFg.mono fun _ h => .inl h).trans ((FrameT.setCell w4 w.heap.size 0 _).mono fun _ h => .inr h)
  have hvb : ∀ k, some k = v.ownBlock → B1 ≤ k ∧ k < W.heap.size := fun k hk => ownBlock_ltL hrow hk
  have hnv : ∀ k, k < w2.heap.size → some k ≠ v.ownBlock → some k ≠ (Value.slice (some ⟨g', 0, none⟩) n cap').ownBlock := fun k hk h1 e => by
    have e' : k = g' := Option.some.inj e
    rcases hlies with h | h
    · exact h1 (by rw [e', h])
    · rw [h, World.size_alloc] at e'; omega
  refine ⟨a2, (Rd.below hB2).trans a6, a4, ⟨Gs ++ [x], by rw [List.map_append, hGs]; rfl, by rw [List.length_append, lvCells_snoc]; exact a5, fun y hy => ?_⟩, a3, by have h1 := hF.size; have h2 := hB2.size; omega⟩
  rcases List.mem_append.1 hy with hy | hy
  · obtain ⟨y1, y2, y3⟩ := hall y hy
    refine ⟨hasG_p (y1.below hB2) hF (fun k hk h => ?_), y2, fun k hk => ⟨(y3 k hk).1, hnv k (inBlkE_lt (y1.below hB2).2 hk) (y3 k hk).2⟩⟩
    rcases h with h | h
    · exact (y3 k hk).2 h
    · have := (y3 k hk).1; omega
  · rw [List.mem_singleton] at hy
    subst hy
    have hkv : ∀ k, inGL y k → some k ≠ v.ownBlock := fun k hk e => by have := hnew k hk; have := (hvb k e).2; omega
    refine ⟨hasG_p hG hF (fun k hk h => ?_), hle, fun k hk => ⟨by have := hnew k hk; omega, hnv k (inBlkE_lt hG.2 hk) (hkv k hk)⟩⟩
    rcases h with h | h
    · exact hkv k hk h
    · have := hnew k hk; omega
/-- What All tells. -/
def LAllPost (w : World) (L : List GM) (e : Ending) (w' : World) : Prop := ∃ v Gs, e = .returned v ∧ (Gs : List GVL).map GVL.g = L ∧ w'.ownsRow w.heap.size 65 7 v L.length (lvCells Gs) ∧ (∀ x, x ∈ Gs → HasG w' x.a x.g ∧ x.g.l.length ≤ x.c) ∧ Below w.heap.size w w'
set_option maxRecDepth 100000 in
set_option maxHeartbeats 1000000 in
theorem lall_any {w : World} {d m : Nat} {F : List LE} (h : LedAt w d m F) (hF : F.length ≤ 1000) :
    Calls Try.prog 30 #[.pointer (some ⟨d, 0, none⟩)] w (LAllPost w (F.map fun x => x.L.g)) := by
  obtain ⟨i0, hi, hz0, hz1, hz2⟩ := info_parts infoGrpL
  have hmx : Try.prog.follows .mixedOrders = true := by kernel_rfl
  refine (callsIn_wide (n := 9)).1 ?_
  refine callsIn_of_wp_marks Try.func30 rfl trivial ?_ rfl
  simp only [Try.ntmps30, List.size_toArray, List.length_cons, List.length_nil, Nat.reduceAdd, Nat.reduceSub, Array.replicate_succ, Array.replicate_zero, List.push_toArray, List.append_toArray, List.nil_append, List.cons_append]
  have bO := Boxed.new w 62 (.slice none 0 0)
  have hB0 : Below w.heap.size w (w.alloc (.cells #[.slice none 0 0] 62)) := (Below.refl _ w).alloc (Nat.le_refl _) _
  have hsz : (w.alloc (.cells #[.slice none 0 0] 62)).heap.size = w.heap.size + 1 := by simp
  have HD := Lib.hid h
  have HB0 := Lib.hid hB0
  have HbO := Lib.hid bO
  have HSz := Lib.hid hsz
  clear h hB0 bO hsz
  gi_wp2_with (gi_at_call 51; refine (callsIn_wide.2 (lorder_any d _)).mono ?_; rintro e w1 ⟨rfl, rfl⟩)
  obtain ⟨w1, hw1⟩ : ∃ w1, w1 = (w.alloc (.cells #[.slice none 0 0] 62)).alloc (.cells #[.pointer (some ⟨d, 0, none⟩)] 53) := ⟨_, rfl⟩
  rw [← hw1]
  have hB1 : Below w.heap.size w w1 := by rw [hw1]; exact bel_alloc HB0.out _
  have bO1 : Boxed w1 w.heap.size 62 (.slice none 0 0) := by rw [hw1]; exact HbO.out.alloc _
  have cb : w1.cell? ⟨w.heap.size + 1, 0, none⟩ = some (.pointer (some ⟨d, 0, none⟩)) := by
    have := (Boxed.new (w.alloc (.cells #[.slice none 0 0] 62)) 53 (.pointer (some ⟨d, 0, none⟩))).cell
    rw [hw1]; rwa [World.size_alloc] at this
  have hsz1 : w1.heap.size = w.heap.size + 2 := by rw [hw1]; simp
  clear hw1
  have hdl := heap_lt HD.out.box
  have hml := HD.out.map.lt
  have HI := Lib.hid (lorder_iter HD.out (by omega) HD.out.ris HD.out.ids (w.heap.size + 1) (fun _ => True) (fun k => k = w.heap.size) w1 hB1 cb ⟨trivial, trivial, trivial⟩ ⟨by omega, by omega, by omega⟩ (fun k hk => by omega) (by omega))
  clear cb
  refine range_outerV rfl (enters_of Try.func79 (by kernel_rfl) rfl) HI.out (fun _ => rfl)
    (fun B1 pre W => lallI w w.heap.size B1 (pre.map fun x => x.L.g) W) (fun _ _ _ => False) (fun _ _ => lallI_stab hB1.size) (fun _ _ => Stab.pure _)
    (fun W1 hb => ⟨_, boxed_below bO1 hb (by omega), ⟨[], rfl, World.ownsRow_nil _ _ _ _, fun x hx => by cases hx⟩, hB1.trans (hb.mono hB1.size), Nat.le_refl _⟩) ?hr ?hd (fun _ _ _ _ _ _ h => h.elim)
  case hr =>
    rintro B1 L pre x suf W hBB hx hl' hi1 hrec
    have hpl : pre.length < 1000 := by have h1 := congrArg List.length hx; simp at h1; omega
    have hxF : x ∈ F := by rw [hx]; simp
    obtain ⟨xd, xm, ⟨⟨id, fi, te, ht, hvv, hc, gl⟩, xF⟩⟩ := x
    dsimp only [LE.val] at *
    obtain ⟨v, hv⟩ := hi1
    gi_wp2
    refine rdThen_mk (fun W' => lallV w w.heap.size B1 (pre.map fun x => x.L.g) v W') (lallV_stab hB1.size) hv (Rd.refl _ _ _) ?_
    clear hv hrec W
    rintro W ⟨hv, ⟨Gs, hGs, hrow, hall⟩, hB, hs⟩ hrec
    have hLS := (HD.out.below hB).logs _ hxF
    have HLS := Lib.hid (fun W' (hB' : Below W.heap.size W W') => hLS.below hB')
    have HGs := Lib.hid hGs
    have HALL := Lib.hid hall
    have HV := Lib.hid hv
    have HROW := Lib.hid hrow
    have HB := Lib.hid hB
    have HPL := Lib.hid (show (pre.map fun x => x.L.g).length = pre.length from List.length_map _)
    have GO := Lib.hid (fun W' (hB' : Below W.heap.size W W') => (show Calls Try.prog 52 #[.pointer (some ⟨xd, 0, none⟩)] W' (fun e w' => ∃ a' c', e = .returned (.agg #[.int .i64 id, .int .i64 fi, .int .i64 te, .int .i64 ht, .int .i64 hvv, .int .i64 hc, .slice a' gl.length c']) ∧ HasG w' a' ⟨id, fi, te, ht, hvv, hc, gl⟩ ∧ gl.length ≤ c' ∧ Below W'.heap.size W' w' ∧ ∀ k, inBlkE a' gl.length k → W'.heap.size ≤ k) from by
      obtain ⟨_, a9, c9, h9⟩ := HLS.out W' hB'
      exact pgroupN_any h9.g))
    have hcd : W.drew.cell? ⟨w.heap.size, 0, none⟩ = some v := hv.cell
    have hfd := hv.frozen
    clear hx hxF hall hGs hrow hB hLS hrec
    gi_wp2
    refine wpIn_of_heldL (S := fun _ => True) hmx (by kernel_rfl) ⟨_, rfl⟩ trivial (fun hHeld => ?_)
    refine wpAnyH_take (i := 1) (v := .pointer (some ⟨xd, 0, none⟩)) rfl (by kernel_rfl) (by kernel_rfl) (by kernel_rfl) (fun _ _ _ h => absurd h.1 (by simp)) (Or.inl ⟨by rfl, fun w hSw => by go_simp⟩) hHeld ?_
    try simp only [Act.put, List.getElem_toArray, List.getElem_cons_succ, List.getElem_cons_zero, List.setIfInBounds_toArray, List.set_cons_zero, List.set_cons_succ]
    refine wpAnyH_ready (rs := [0, 2]) (by kernel_rfl) (by simp) ?_
    refine AllReadyH.cons rfl (fun K hK => ?_) (AllReadyH.cons rfl (fun K hK => ?_) AllReadyH.nil)
    · go_simp
      refine hK.out _ _ trivial (fun hHeld => ?_)
      clear hK K
      try simp only [Act.put, List.getElem_toArray, List.getElem_cons_succ, List.getElem_cons_zero, List.setIfInBounds_toArray, List.set_cons_zero, List.set_cons_succ]
      refine wpAnyH_ready (rs := [2]) (by kernel_rfl) (by simp) ?_
      refine AllReadyH.cons rfl (fun K hK => ?_) AllReadyH.nil
      go_simp
      refine (GO.out _ (Below.refl W.heap.size W).drew).mono ?_
      rintro e w2 ⟨a', c', rfl, hG', hle, hB2, hnew⟩
      refine hK.out _ _ trivial (fun hHeld => ?_)
      clear hK K
      try simp only [Act.put, List.getElem_toArray, List.getElem_cons_succ, List.getElem_cons_zero, List.setIfInBounds_toArray, List.set_cons_zero, List.set_cons_succ]
      have hB2' : Below W.heap.size W w2 := (Below.refl W.heap.size W).drew.trans hB2
      have hnew2 : ∀ k, inBlkE a' gl.length k → W.heap.size ≤ k := hnew
      have hcd2 : w2.cell? ⟨w.heap.size, 0, none⟩ = some v := (hB2'.cell (p := ⟨w.heap.size, 0, none⟩) (heap_lt HV.out)).trans HV.out.cell
      have hcd3 : (w2.alloc (.cells #[.int .i64 id, .int .i64 fi, .int .i64 te, .int .i64 ht, .int .i64 hvv, .int .i64 hc, .slice a' gl.length c'] 65)).cell? ⟨w.heap.size, 0, none⟩ = some v := ((bel_alloc (Below.refl w2.heap.size w2) _).cell (p := ⟨w.heap.size, 0, none⟩) (Nat.lt_of_lt_of_le (heap_lt HV.out) hB2'.size)).trans hcd2
      have hs2 : B1 ≤ w2.heap.size := Nat.le_trans hs hB2'.size
      have HROW3 := Lib.hid ((ownsRow_below (n := 0) HROW.out hB2').alloc (.cells #[.int .i64 id, .int .i64 fi, .int .i64 te, .int .i64 ht, .int .i64 hvv, .int .i64 hc, .slice a' gl.length c'] 65))
      refine wpAnyH_ready (rs := [3]) (by kernel_rfl) (by simp) ?_
      refine AllReadyH.cons rfl (fun K hK => ?_) AllReadyH.nil
      go_simp
      refine hK.out _ _ trivial (fun hHeld => ?_)
      clear hK K
      try simp only [Act.put, List.getElem_toArray, List.getElem_cons_succ, List.getElem_cons_zero, List.setIfInBounds_toArray, List.set_cons_zero, List.set_cons_succ]
      refine wpAnyH_ready (rs := [4]) (by kernel_rfl) (by simp) ?_
      refine AllReadyH.cons rfl (fun K hK => ?_) AllReadyH.nil
      refine step_append_lies _ rfl _ _ 62 rfl B1 65 i0 (.agg #[.int .i64 0, .int .i64 0, .int .i64 0, .int .i64 0, .int .i64 0, .int .i64 0, .slice none 0 0]) 7 72 Try.underlying62 hi hz0 hz1 hz2 rfl (by decide) _ _ _ rfl HROW3.out ⟨w2.heap.size, 0, none⟩ 1 1 [.int .i64 id, .int .i64 fi, .int .i64 te, .int .i64 ht, .int .i64 hvv, .int .i64 hc, .slice a' gl.length c'] rfl rfl (lnews_new _ _ _) (by simp [Value.oneCell']) (by omega) (by rw [HPL.out]; unfold maxLen; omega) (by rw [HPL.out]; omega) (by simp; omega) _ rfl ?_
      intro g' cap' w4 hown4 hgrow4 hlies4 _
      have hA := (lall_step (B0 := w.heap.size + 2) (L := L) HB.out (show w.heap.size < B1 by omega) hs HV.out HGs.out HROW.out HALL.out hB2' ⟨⟨id, fi, te, ht, hvv, hc, gl⟩, a', c'⟩ hG' hle hnew2 hown4 hgrow4 hlies4)
      simp only [List.length_map] at hA
      have HA := Lib.hid hA
      clear hA
      refine hK.out _ _ trivial (fun hHeld => ?_)
      clear hK K
      try simp only [Act.put, List.getElem_toArray, List.getElem_cons_succ, List.getElem_cons_zero, List.setIfInBounds_toArray, List.set_cons_zero, List.set_cons_succ]
      have hc2 := HA.out.1.cell
      have hf2 := HA.out.1.frozen
      refine wpAnyH_ready (rs := [5]) (by kernel_rfl) (by simp) ?_
      refine AllReadyH.cons rfl (fun K hK => ?_) AllReadyH.nil
      go_simp
      refine hK.out _ _ trivial (fun hHeld => ?_)
      clear hK K
      try simp only [Act.put, List.getElem_toArray, List.getElem_cons_succ, List.getElem_cons_zero, List.setIfInBounds_toArray, List.set_cons_zero, List.set_cons_succ]
      refine wpAnyH_done (by kernel_rfl) ?_ _
      refine onlyNormal_mk ?_
      gi_wp2
      exact ⟨by have h := HA.out.2.1; first | exact h | (rw [← hsz1] at h; exact h) | (rw [hsz1]; exact h), by show lallI w w.heap.size B1 ((pre ++ [_]).map fun x : LE => x.L.g) _; rw [List.map_append]; exact ⟨_, HA.out.2.2⟩⟩
    · go_simp
      refine (GO.out _ (Below.refl W.heap.size W).drew).mono ?_
      rintro e w2 ⟨a', c', rfl, hG', hle, hB2, hnew⟩
      refine hK.out _ _ trivial (fun hHeld => ?_)
      clear hK K
      try simp only [Act.put, List.getElem_toArray, List.getElem_cons_succ, List.getElem_cons_zero, List.setIfInBounds_toArray, List.set_cons_zero, List.set_cons_succ]
      have hB2' : Below W.heap.size W w2 := (Below.refl W.heap.size W).drew.trans hB2
      have hnew2 : ∀ k, inBlkE a' gl.length k → W.heap.size ≤ k := hnew
      have hcd2 : w2.cell? ⟨w.heap.size, 0, none⟩ = some v := (hB2'.cell (p := ⟨w.heap.size, 0, none⟩) (heap_lt HV.out)).trans HV.out.cell
      have hcd3 : (w2.alloc (.cells #[.int .i64 id, .int .i64 fi, .int .i64 te, .int .i64 ht, .int .i64 hvv, .int .i64 hc, .slice a' gl.length c'] 65)).cell? ⟨w.heap.size, 0, none⟩ = some v := ((bel_alloc (Below.refl w2.heap.size w2) _).cell (p := ⟨w.heap.size, 0, none⟩) (Nat.lt_of_lt_of_le (heap_lt HV.out) hB2'.size)).trans hcd2
      have hs2 : B1 ≤ w2.heap.size := Nat.le_trans hs hB2'.size
      have HROW3 := Lib.hid ((ownsRow_below (n := 0) HROW.out hB2').alloc (.cells #[.int .i64 id, .int .i64 fi, .int .i64 te, .int .i64 ht, .int .i64 hvv, .int .i64 hc, .slice a' gl.length c'] 65))
      refine wpAnyH_ready (rs := [0, 3]) (by kernel_rfl) (by simp) ?_
      refine AllReadyH.cons rfl (fun K hK => ?_) (AllReadyH.cons rfl (fun K hK => ?_) AllReadyH.nil)
      · go_simp
        refine hK.out _ _ trivial (fun hHeld => ?_)
        clear hK K
        try simp only [Act.put, List.getElem_toArray, List.getElem_cons_succ, List.getElem_cons_zero, List.setIfInBounds_toArray, List.set_cons_zero, List.set_cons_succ]
        refine wpAnyH_ready (rs := [3]) (by kernel_rfl) (by simp) ?_
        refine AllReadyH.cons rfl (fun K hK => ?_) AllReadyH.nil
        go_simp
        refine hK.out _ _ trivial (fun hHeld => ?_)
        clear hK K
        try simp only [Act.put, List.getElem_toArray, List.getElem_cons_succ, List.getElem_cons_zero, List.setIfInBounds_toArray, List.set_cons_zero, List.set_cons_succ]
        refine wpAnyH_ready (rs := [4]) (by kernel_rfl) (by simp) ?_
        refine AllReadyH.cons rfl (fun K hK => ?_) AllReadyH.nil
        refine step_append_lies _ rfl _ _ 62 rfl B1 65 i0 (.agg #[.int .i64 0, .int .i64 0, .int .i64 0, .int .i64 0, .int .i64 0, .int .i64 0, .slice none 0 0]) 7 72 Try.underlying62 hi hz0 hz1 hz2 rfl (by decide) _ _ _ rfl HROW3.out ⟨w2.heap.size, 0, none⟩ 1 1 [.int .i64 id, .int .i64 fi, .int .i64 te, .int .i64 ht, .int .i64 hvv, .int .i64 hc, .slice a' gl.length c'] rfl rfl (lnews_new _ _ _) (by simp [Value.oneCell']) (by omega) (by rw [HPL.out]; unfold maxLen; omega) (by rw [HPL.out]; omega) (by simp; omega) _ rfl ?_
        intro g' cap' w4 hown4 hgrow4 hlies4 _
        have hA := (lall_step (B0 := w.heap.size + 2) (L := L) HB.out (show w.heap.size < B1 by omega) hs HV.out HGs.out HROW.out HALL.out hB2' ⟨⟨id, fi, te, ht, hvv, hc, gl⟩, a', c'⟩ hG' hle hnew2 hown4 hgrow4 hlies4)
        simp only [List.length_map] at hA
        have HA := Lib.hid hA
        clear hA
        refine hK.out _ _ trivial (fun hHeld => ?_)
        clear hK K
        try simp only [Act.put, List.getElem_toArray, List.getElem_cons_succ, List.getElem_cons_zero, List.setIfInBounds_toArray, List.set_cons_zero, List.set_cons_succ]
        have hc2 := HA.out.1.cell
        have hf2 := HA.out.1.frozen
        refine wpAnyH_ready (rs := [5]) (by kernel_rfl) (by simp) ?_
        refine AllReadyH.cons rfl (fun K hK => ?_) AllReadyH.nil
        go_simp
        refine hK.out _ _ trivial (fun hHeld => ?_)
        clear hK K
        try simp only [Act.put, List.getElem_toArray, List.getElem_cons_succ, List.getElem_cons_zero, List.setIfInBounds_toArray, List.set_cons_zero, List.set_cons_succ]
        refine wpAnyH_done (by kernel_rfl) ?_ _
        refine onlyNormal_mk ?_
        gi_wp2
        exact ⟨by have h := HA.out.2.1; first | exact h | (rw [← hsz1] at h; exact h) | (rw [hsz1]; exact h), by show lallI w w.heap.size B1 ((pre ++ [_]).map fun x : LE => x.L.g) _; rw [List.map_append]; exact ⟨_, HA.out.2.2⟩⟩
      · go_simp
        refine hK.out _ _ trivial (fun hHeld => ?_)
        clear hK K
        try simp only [Act.put, List.getElem_toArray, List.getElem_cons_succ, List.getElem_cons_zero, List.setIfInBounds_toArray, List.set_cons_zero, List.set_cons_succ]
        refine wpAnyH_ready (rs := [0]) (by kernel_rfl) (by simp) ?_
        refine AllReadyH.cons rfl (fun K hK => ?_) AllReadyH.nil
        go_simp
        refine hK.out _ _ trivial (fun hHeld => ?_)
        clear hK K
        try simp only [Act.put, List.getElem_toArray, List.getElem_cons_succ, List.getElem_cons_zero, List.setIfInBounds_toArray, List.set_cons_zero, List.set_cons_succ]
        refine wpAnyH_ready (rs := [4]) (by kernel_rfl) (by simp) ?_
        refine AllReadyH.cons rfl (fun K hK => ?_) AllReadyH.nil
        refine step_append_lies _ rfl _ _ 62 rfl B1 65 i0 (.agg #[.int .i64 0, .int .i64 0, .int .i64 0, .int .i64 0, .int .i64 0, .int .i64 0, .slice none 0 0]) 7 72 Try.underlying62 hi hz0 hz1 hz2 rfl (by decide) _ _ _ rfl HROW3.out ⟨w2.heap.size, 0, none⟩ 1 1 [.int .i64 id, .int .i64 fi, .int .i64 te, .int .i64 ht, .int .i64 hvv, .int .i64 hc, .slice a' gl.length c'] rfl rfl (lnews_new _ _ _) (by simp [Value.oneCell']) (by omega) (by rw [HPL.out]; unfold maxLen; omega) (by rw [HPL.out]; omega) (by simp; omega) _ rfl ?_
        intro g' cap' w4 hown4 hgrow4 hlies4 _
        have hA := (lall_step (B0 := w.heap.size + 2) (L := L) HB.out (show w.heap.size < B1 by omega) hs HV.out HGs.out HROW.out HALL.out hB2' ⟨⟨id, fi, te, ht, hvv, hc, gl⟩, a', c'⟩ hG' hle hnew2 hown4 hgrow4 hlies4)
        simp only [List.length_map] at hA
        have HA := Lib.hid hA
        clear hA
        refine hK.out _ _ trivial (fun hHeld => ?_)
        clear hK K
        try simp only [Act.put, List.getElem_toArray, List.getElem_cons_succ, List.getElem_cons_zero, List.setIfInBounds_toArray, List.set_cons_zero, List.set_cons_succ]
        have hc2 := HA.out.1.cell
        have hf2 := HA.out.1.frozen
        refine wpAnyH_ready (rs := [5]) (by kernel_rfl) (by simp) ?_
        refine AllReadyH.cons rfl (fun K hK => ?_) AllReadyH.nil
        go_simp
        refine hK.out _ _ trivial (fun hHeld => ?_)
        clear hK K
        try simp only [Act.put, List.getElem_toArray, List.getElem_cons_succ, List.getElem_cons_zero, List.setIfInBounds_toArray, List.set_cons_zero, List.set_cons_succ]
        refine wpAnyH_done (by kernel_rfl) ?_ _
        refine onlyNormal_mk ?_
        gi_wp2
        exact ⟨by have h := HA.out.2.1; first | exact h | (rw [← hsz1] at h; exact h) | (rw [hsz1]; exact h), by show lallI w w.heap.size B1 ((pre ++ [_]).map fun x : LE => x.L.g) _; rw [List.map_append]; exact ⟨_, HA.out.2.2⟩⟩
    done
  case hd =>
    rintro B1 W hBB ⟨v, hv, ⟨Gs, hGs, hrow, hall⟩, hB, hs⟩ hD
    have hc := hv.cell
    have hw1 : w.heap.size ≤ w1.heap.size := hB1.size
    have HR := Lib.hid (own_baseL (ownsRow_keptL hrow hD rfl (.deferred none)) (show w.heap.size ≤ B1 by omega))
    have HB2 := Lib.hid (below_putObj (D := w1.heap.size) hB (Nat.le_refl _) hw1 (.deferred none))
    have HA := Lib.hid (fun x (hx : x ∈ Gs) => (And.intro (hasG_putL (hall x hx).1 hD rfl (.deferred none)) (hall x hx).2.1))
    clear hrow hB hall
    gi_wp2
    exact leave_one (v := v) hD (by simp [results, Try.results30, go_sem]) ⟨v, Gs, rfl, hGs, by rw [List.length_map] at *; exact HR.out, HA.out, HB2.out⟩
end Go.Proofs.Ytdncdlbhgaehmaa

/- (*Ledger).Spots: all spots, group by group. -/
namespace Go.Proofs.Ytdncdlbhgaehmaa
open Go.RowKit Go.Shelf
set_option linter.unusedVariables false
attribute [local go_sem] Oper.semAt_some wide_fn wide_round_fn

theorem run_append_zero {P : Program} {w : World} (base : Nat) (t ty e : TypeId) (i : TypeInfo) (size : Nat) (ht : P.underlying t = some (.slice e)) (hi : P.info? e = some i)
    (v : Value) (n : Nat) (xs : List Value) (hown : w.ownsRow base e size v n xs) (va : Option Addr) (vc : Nat) :
    (Builtin.append_ #[t, t] ty #[v, .slice va 0 vc]).run P w = .ok v w := by
  rcases hown.2 with ⟨rfl, rfl⟩ | ⟨g, cap, cur, rfl, _, _, hnc, _⟩
  · cases va <;> simp [Builtin.append_, run_underlying ht, sizeOf, typeInfo, hi, Builtin.lenOf, Builtin.firstCells, loadCells, loadCellsFrom]
  · cases va <;> simp [Builtin.append_, run_underlying ht, sizeOf, typeInfo, hi, Builtin.lenOf, Builtin.firstCells, hnc, storeCells, loadCells, loadCellsFrom]
theorem step_append_zero {P : Program} {w : World} {ops : Array Oper} {o : Oper} {a : Act} {K : Act → World → Prop} {Q : Exit → Act → World → Prop} {E : Prop} (hgd : o.guard = none) (s x : Operand) (t : TypeId)
    (ho : o.op = .call { callee := .builtin .append, args := #[s, x], argTypes := #[t, t] })
    (base : Nat) (e : TypeId) (i : TypeInfo) (size : Nat) (ht : P.underlying t = some (.slice e)) (hi : P.info? e = some i)
    (v : Value) (n : Nat) (xs : List Value) (hs : a.eval s = v) (hown : w.ownsRow base e size v n xs) (va : Option Addr) (vc : Nat) (hx : a.eval x = .slice va 0 vc)
    (h : K (a.put o.dst v) w) : if Region.wanted o (yielded ops a.tmps) = true then Oper.wp P o a w K Q else E := by
  have hw : Region.wanted o (yielded ops a.tmps) = true := by simp [Region.wanted, hgd]
  rw [if_pos hw]
  have hrun := run_append_zero (P := P) (w := w) base t o.type e i size ht hi v n xs hown va vc
  unfold Oper.wp
  simp [execOp, ho, resolve, invoke, builtin, hs, hx, hrun, Result.andThen]
  exact h
/-- All spots of a ledger. -/
def fl (F : List LE) : List SpotC := F.flatMap fun x => spotsL x.L.g x.L.F
theorem fl_snoc (F : List LE) (x : LE) : fl (F ++ [x]) = fl F ++ spotsL x.L.g x.L.F := by simp [fl]
theorem spots_lenL (g : GM) (F : List LV) : (spotsL g F).length ≤ g.l.length + 2 := by
  show ((if hasK F (-1) = true then [spotOf g F (-1)] else []) ++ ((if hasK F 0 = true then [spotOf g F 0] else []) ++ g.l.map (fun e => spotOf g F e.i))).length ≤ _
  rw [List.length_append, List.length_append, List.length_map]
  split <;> split <;> simp <;> omega
theorem fl_len {N : Nat} {F : List LE} (h : okA N (F.map LE.L)) : (fl F).length ≤ F.length * (N + 2) := by
  unfold fl
  rw [List.length_flatMap]
  induction F with
  | nil => simp
  | cons x r ih =>
    have h1 : okA N (r.map LE.L) := fun L hL => h L (List.mem_cons_of_mem _ hL)
    have h2 := ih h1
    have h3 := (h x.L (by simp)).2.1
    have h4 : (spotsL x.L.g x.L.F).length ≤ N + 2 := by have := spots_lenL x.L.g x.L.F; omega
    rw [List.map_cons, List.sum_cons, List.length_cons, Nat.succ_mul]
    omega
theorem spotCells_lenL : ∀ X : List SpotC, (spotCells X).length = X.length * 4
  | [] => rfl
  | x :: r => by
    show ((x :: r).map SpotC.cells).flatten.length = _
    rw [List.map_cons, List.flatten_cons, List.length_append, List.length_cons, Nat.succ_mul]
    have := spotCells_lenL r
    unfold spotCells at this
    rw [this, SpotC.len]; omega
theorem spot_one (X : List SpotC) : ∀ u ∈ spotCells X, u.oneCell' = true := by
  intro u hu
  unfold spotCells at hu
  obtain ⟨c, hc, hu⟩ := List.mem_flatten.1 hu
  obtain ⟨x, _, rfl⟩ := List.mem_map.1 hc
  simp [SpotC.cells] at hu
  rcases hu with rfl | rfl | rfl | rfl <;> rfl
def sallV (w : World) (q B1 : Nat) (X : List SpotC) (v : Value) (W : World) : Prop := Boxed W q 67 v ∧ W.ownsRow B1 86 4 v X.length (spotCells X) ∧ Below w.heap.size w W ∧ B1 ≤ W.heap.size
def sallI (w : World) (q B1 : Nat) (X : List SpotC) (W : World) : Prop := ∃ v, sallV w q B1 X v W
theorem sallV_stab {w : World} {q B B1 : Nat} {X : List SpotC} {v : Value} (h : w.heap.size ≤ B) : Stab B (fun _ => False) (sallV w q B1 X v) :=
  (Stab.boxed id).and ((Stab.ownsRow (fun _ h => h.elim)).and ((Stab.below (Nat.le_refl _) h (fun _ h => h.elim)).and Stab.size))
theorem sallI_stab {w : World} {q B B1 : Nat} {X : List SpotC} (h : w.heap.size ≤ B) : Stab B (fun _ => False) (sallI w q B1 X) := Stab.ex fun v => sallV_stab h
theorem sall_none {w W w2 : World} {B0 B1 L : Nat} {X : List SpotC} {v : Value} (hB : Below w.heap.size w W) (hBB : w.heap.size < B1) (hs : B1 ≤ W.heap.size) (hv : Boxed W w.heap.size 67 v) (hrow : W.ownsRow B1 86 4 v X.length (spotCells X)) (hB2 : Below W.heap.size W w2) :
    Rd B0 (fun j => (j < B1 ∧ ¬ (j = w.heap.size)) ∧ j ≠ L) W (w2.setCell ⟨w.heap.size, 0, none⟩ v) ∧ sallV w w.heap.size B1 X v (w2.setCell ⟨w.heap.size, 0, none⟩ v) := by
  have hv2 : Boxed w2 w.heap.size 67 v := (hB2.block _ (heap_lt hv)).trans hv
  have hF := FrameT.setCell w2 w.heap.size 0 v
  have hB3 := bel2 hB hB2
  have hbx : Boxed (w2.setCell ⟨w.heap.size, 0, none⟩ v) w.heap.size 67 v := Go.Joins.block_setCell hv2 v (i := 0)
  refine ⟨(Rd.below hB2).setBox hv2 (fun h => h.1.2 rfl) v, hbx, (ownsRow_below (n := 0) hrow hB2).kept (grownBy_setCell' w2 w.heap.size v) (.inr (fun e => ?_)), hB3.trans (hF.toBelow hB3.size (fun k hk => by omega)), ?_⟩
  · have := (ownBlock_ltL hrow e.symm).1; omega
  · have := hF.size; have := hB2.size; omega
theorem sall_step {w W w2 w4 : World} {B0 B1 L : Nat} {X Y : List SpotC} {v v' : Value} (hB : Below w.heap.size w W) (hBB : w.heap.size < B1) (hs : B1 ≤ W.heap.size) (hv : Boxed W w.heap.size 67 v) (hrow : W.ownsRow B1 86 4 v X.length (spotCells X)) (hB2 : Below W.heap.size W w2)
    (hown : w4.ownsRow B1 86 4 v' (X.length + Y.length) (spotCells X ++ spotCells Y)) (hgrow : w2.grownBy w4 v.ownBlock) :
    Boxed w4 w.heap.size 67 v ∧ Rd B0 (fun j => (j < B1 ∧ ¬ (j = w.heap.size)) ∧ j ≠ L) W (w4.setCell ⟨w.heap.size, 0, none⟩ v') ∧ sallV w w.heap.size B1 (X ++ Y) v' (w4.setCell ⟨w.heap.size, 0, none⟩ v') := by
  have hv2 : Boxed w2 w.heap.size 67 v := (hB2.block _ (heap_lt hv)).trans hv
  have hrow2 := ownsRow_below (n := 0) hrow hB2
  have hnq : ∀ {Z : World} {z : Value} {n : Nat} {ys : List Value}, Z.ownsRow B1 86 4 z n ys → z.ownBlock ≠ some w.heap.size := fun h e => by
    have := (ownBlock_ltL h e.symm).1; omega
  have hFg : FrameT (fun k => some k = v.ownBlock) w2 w4 := ⟨hgrow.os, hgrow.tape, hgrow.output, hgrow.size, fun k hk hT => hgrow.block k hk hT⟩
  have hv4 : Boxed w4 w.heap.size 67 v := hFg.get hv2 (fun e => hnq hrow2 e.symm)
  have hF := FrameT.setCell w4 w.heap.size 0 v'
  have hB3 := bel2 hB hB2
  have hB4 := hB3.trans (hFg.toBelow hB3.size (fun k hk => by have := (ownBlock_ltL hrow2 hk).1; omega))
  refine ⟨hv4, ((Rd.below hB2).grown hgrow (fun k e => ?_)).setBox hv4 (fun h => h.1.2 rfl) v', Go.Joins.block_setCell hv4 v' (i := 0), ?_, hB4.trans (hF.toBelow hB4.size (fun k hk => by omega)), ?_⟩
  · have h9 := (ownBlock_ltL hrow2 e.symm).1
    refine ⟨fun h => by have := h.1.1; omega, .inr ?_⟩
    rcases hrow2.2 with ⟨rfl, _⟩ | ⟨g, cap, cur, rfl, _, hgb, _⟩
    · simp [Value.ownBlock] at e
    · obtain rfl : g = k := by simpa [Value.ownBlock] using e
      exact ⟨_, hgb, rfl⟩
  · rw [List.length_append]
    have := hown.kept (grownBy_setCell' w4 w.heap.size v') (.inr (hnq hown))
    rw [show spotCells (X ++ Y) = spotCells X ++ spotCells Y by simp [spotCells]]
    exact this
  · have := hF.size; have := hgrow.size; have := hB2.size; omega
/-- What Spots tells. -/
def SAllPost (w : World) (X : List SpotC) (e : Ending) (w' : World) : Prop := ∃ v, e = .returned v ∧ w'.ownsRow w.heap.size 86 4 v X.length (spotCells X) ∧ Below w.heap.size w w'
set_option maxRecDepth 100000 in
set_option maxHeartbeats 2000000 in
theorem sall_any {w : World} {d m N : Nat} {F : List LE} (h : LedAt w d m F) (hF : F.length ≤ 1000) (hok : okA N (F.map LE.L)) (hN : N ≤ 10000) :
    Calls Try.prog 32 #[.pointer (some ⟨d, 0, none⟩)] w (SAllPost w (fl F)) := by
  obtain ⟨i0, hi, hz0, hz1, hz2⟩ := info_parts infoSpotP
  have hmx : Try.prog.follows .mixedOrders = true := by kernel_rfl
  refine (callsIn_wide (n := 9)).1 ?_
  refine callsIn_of_wp_marks Try.func32 rfl trivial ?_ rfl
  simp only [Try.ntmps32, List.size_toArray, List.length_cons, List.length_nil, Nat.reduceAdd, Nat.reduceSub, Array.replicate_succ, Array.replicate_zero, List.push_toArray, List.append_toArray, List.nil_append, List.cons_append]
  have bO := Boxed.new w 67 (.slice none 0 0)
  have hB0 : Below w.heap.size w (w.alloc (.cells #[.slice none 0 0] 67)) := (Below.refl _ w).alloc (Nat.le_refl _) _
  have hsz : (w.alloc (.cells #[.slice none 0 0] 67)).heap.size = w.heap.size + 1 := by simp
  have HD := Lib.hid h
  have HOKA := Lib.hid hok
  have HB0 := Lib.hid hB0
  have HbO := Lib.hid bO
  have HSz := Lib.hid hsz
  clear h hB0 bO hsz hok
  gi_wp2_with (gi_at_call 51; refine (callsIn_wide.2 (lorder_any d _)).mono ?_; rintro e w1 ⟨rfl, rfl⟩)
  obtain ⟨w1, hw1⟩ : ∃ w1, w1 = (w.alloc (.cells #[.slice none 0 0] 67)).alloc (.cells #[.pointer (some ⟨d, 0, none⟩)] 53) := ⟨_, rfl⟩
  rw [← hw1]
  have hB1 : Below w.heap.size w w1 := by rw [hw1]; exact bel_alloc HB0.out _
  have bO1 : Boxed w1 w.heap.size 67 (.slice none 0 0) := by rw [hw1]; exact HbO.out.alloc _
  have cb : w1.cell? ⟨w.heap.size + 1, 0, none⟩ = some (.pointer (some ⟨d, 0, none⟩)) := by
    have := (Boxed.new (w.alloc (.cells #[.slice none 0 0] 67)) 53 (.pointer (some ⟨d, 0, none⟩))).cell
    rw [hw1]; rwa [World.size_alloc] at this
  have hsz1 : w1.heap.size = w.heap.size + 2 := by rw [hw1]; simp
  clear hw1
  have hdl := heap_lt HD.out.box
  have hml := HD.out.map.lt
  have HI := Lib.hid (lorder_iter HD.out (by omega) HD.out.ris HD.out.ids (w.heap.size + 1) (fun _ => True) (fun k => k = w.heap.size) w1 hB1 cb ⟨trivial, trivial, trivial⟩ ⟨by omega, by omega, by omega⟩ (fun k hk => by omega) (by omega))
  clear cb
  refine range_outerV rfl (enters_of Try.func79 (by kernel_rfl) rfl) HI.out (fun _ => rfl)
    (fun B1 pre W => sallI w w.heap.size B1 (fl pre) W) (fun _ _ _ => False) (fun _ _ => sallI_stab hB1.size) (fun _ _ => Stab.pure _)
    (fun W1 hb => ⟨_, boxed_below bO1 hb (by omega), World.ownsRow_nil _ _ _ _, hB1.trans (hb.mono hB1.size), Nat.le_refl _⟩) ?hr ?hd (fun _ _ _ _ _ _ h => h.elim)
  case hr =>
    rintro B1 L pre x suf W hBB hx hl' hi1 hrec
    have hpl : pre.length < 1000 := by have h1 := congrArg List.length hx; simp at h1; omega
    have hxF : x ∈ F := by rw [hx]; simp
    obtain ⟨xd, xm, ⟨gx, xF⟩⟩ := x
    dsimp only [LE.val] at *
    obtain ⟨v, hv⟩ := hi1
    gi_wp2
    refine rdThen_mk (fun W' => sallV w w.heap.size B1 (fl pre) v W') (sallV_stab hB1.size) hv (Rd.refl _ _ _) ?_
    clear hv hrec W
    rintro W ⟨hv, hrow, hB, hs⟩ hrec
    have hLS := (HD.out.below hB).logs _ hxF
    have HLS := Lib.hid (fun W' (hB' : Below W.heap.size W W') => hLS.below hB')
    have hokx := HOKA.out ⟨gx, xF⟩ (List.mem_map.2 ⟨_, hxF, rfl⟩)
    have hplb := fl_len (N := N) (F := pre) (fun L hL => by obtain ⟨y, hy, rfl⟩ := List.mem_map.1 hL; exact HOKA.out _ (List.mem_map.2 ⟨y, by rw [hx]; simp [hy], rfl⟩))
    have hxl : (spotsL gx xF).length ≤ N + 2 := by
      have := hokx.2.1
      have h4 := spots_lenL gx xF
      dsimp only at this
      omega
    have HPX := Lib.hid (show (fl pre).length + (spotsL gx xF).length ≤ 20000000 by
      have h1 : pre.length * (N + 2) ≤ 1000 * 10002 := Nat.mul_le_mul (by omega) (by omega)
      omega)
    have HV := Lib.hid hv
    have HROW := Lib.hid hrow
    have HB := Lib.hid hB
    have HPL := Lib.hid (show (fl pre).length = (fl pre).length from rfl)
    have GO := Lib.hid (fun W' (hB' : Below W.heap.size W W') => (show Calls Try.prog 54 #[.pointer (some ⟨xd, 0, none⟩)] W' (fun e w' => ∃ va vc, e = .returned (.slice va (spotsL gx xF).length vc) ∧ RowV w' va (spotsL gx xF).length 4 (spotCells (spotsL gx xF)) ∧ Below W'.heap.size W' w') from (pspotsS_any (HLS.out W' hB') hokx.1).mono (fun e w' ⟨va, vc, h1, h2, _, h3⟩ => ⟨va, vc, h1, h2, h3⟩)))
    have hcd : W.drew.cell? ⟨w.heap.size, 0, none⟩ = some v := hv.cell
    have hfd := hv.frozen
    clear hx hxF hrow hB hLS hokx hplb hxl hrec
    have hX0 : (spotsL gx xF).length = 0 ∨ 0 < (spotsL gx xF).length := by omega
    rcases hX0 with hX0 | hX0
    · obtain ⟨va5, cp5, rfl⟩ := own_sliceLg HROW.out
      have HX0 := Lib.hid (List.length_eq_zero_iff.1 hX0)
      rw [HX0.out] at GO
      dsimp only [List.length_nil] at GO
      clear hX0
      gi_wp2
      refine wpIn_of_heldL (S := fun _ => True) hmx (by kernel_rfl) ⟨_, rfl⟩ trivial (fun hHeld => ?_)
      refine wpAnyH_take (i := 1) (v := .pointer (some ⟨xd, 0, none⟩)) rfl (by kernel_rfl) (by kernel_rfl) (by kernel_rfl) (fun _ _ _ h => absurd h.1 (by simp)) (Or.inl ⟨by rfl, fun w hSw => by go_simp⟩) hHeld ?_
      try simp only [Act.put, List.getElem_toArray, List.getElem_cons_succ, List.getElem_cons_zero, List.setIfInBounds_toArray, List.set_cons_zero, List.set_cons_succ]
      refine wpAnyH_ready (rs := [0, 2]) (by kernel_rfl) (by simp) ?_
      refine AllReadyH.cons rfl (fun K hK => ?_) (AllReadyH.cons rfl (fun K hK => ?_) AllReadyH.nil)
      · go_simp
        refine hK.out _ _ trivial (fun hHeld => ?_)
        clear hK K
        try simp only [Act.put, List.getElem_toArray, List.getElem_cons_succ, List.getElem_cons_zero, List.setIfInBounds_toArray, List.set_cons_zero, List.set_cons_succ]
        refine wpAnyH_ready (rs := [2]) (by kernel_rfl) (by simp) ?_
        refine AllReadyH.cons rfl (fun K hK => ?_) AllReadyH.nil
        go_simp
        refine (GO.out _ (Below.refl W.heap.size W).drew).mono ?_
        rintro e w2 ⟨va, vc, rfl, hrs, hB2⟩
        refine hK.out _ _ trivial (fun hHeld => ?_)
        clear hK K
        try simp only [Act.put, List.getElem_toArray, List.getElem_cons_succ, List.getElem_cons_zero, List.setIfInBounds_toArray, List.set_cons_zero, List.set_cons_succ]
        have hB2' : Below W.heap.size W w2 := (Below.refl W.heap.size W).drew.trans hB2
        have hcd2 : w2.cell? ⟨w.heap.size, 0, none⟩ = some (.slice va5 (fl pre).length cp5) := (hB2'.cell (p := ⟨w.heap.size, 0, none⟩) (heap_lt HV.out)).trans HV.out.cell
        have HROW2 := Lib.hid (ownsRow_below (n := 0) HROW.out hB2')
        have HRS := Lib.hid hrs
        refine wpAnyH_ready (rs := [3]) (by kernel_rfl) (by simp) ?_
        refine AllReadyH.cons rfl (fun K hK => ?_) AllReadyH.nil
        refine step_append_zero rfl _ _ 67 rfl B1 86 i0 4 Try.underlying67 hi (.slice va5 (fl pre).length cp5) _ _ rfl HROW2.out va vc rfl ?_
        go_simp
        refine hK.out _ _ trivial (fun hHeld => ?_)
        clear hK K
        try simp only [Act.put, List.getElem_toArray, List.getElem_cons_succ, List.getElem_cons_zero, List.setIfInBounds_toArray, List.set_cons_zero, List.set_cons_succ]
        have hbx2 : Boxed w2 w.heap.size 67 (.slice va5 (fl pre).length cp5) := (hB2'.block _ (heap_lt HV.out)).trans HV.out
        have hc2 := hbx2.cell
        have hf2 := hbx2.frozen
        have hA := sall_none (B0 := w.heap.size + 2) (L := L) HB.out (show w.heap.size < B1 by omega) hs HV.out HROW.out hB2'
        have HA := Lib.hid hA
        clear hA
        refine wpAnyH_ready (rs := [4]) (by kernel_rfl) (by simp) ?_
        refine AllReadyH.cons rfl (fun K hK => ?_) AllReadyH.nil
        go_simp
        refine hK.out _ _ trivial (fun hHeld => ?_)
        clear hK K
        try simp only [Act.put, List.getElem_toArray, List.getElem_cons_succ, List.getElem_cons_zero, List.setIfInBounds_toArray, List.set_cons_zero, List.set_cons_succ]
        refine wpAnyH_done (by kernel_rfl) ?_ _
        refine onlyNormal_mk ?_
        gi_wp2
        exact ⟨by have h := HA.out.1; first | exact h | (rw [← hsz1] at h; exact h) | (rw [hsz1]; exact h), by show sallI w w.heap.size B1 (fl (pre ++ [_])) _; rw [fl_snoc, show spotsL _ xF = [] from HX0.out, List.append_nil]; exact ⟨_, HA.out.2⟩⟩
      · go_simp
        refine (GO.out _ (Below.refl W.heap.size W).drew).mono ?_
        rintro e w2 ⟨va, vc, rfl, hrs, hB2⟩
        refine hK.out _ _ trivial (fun hHeld => ?_)
        clear hK K
        try simp only [Act.put, List.getElem_toArray, List.getElem_cons_succ, List.getElem_cons_zero, List.setIfInBounds_toArray, List.set_cons_zero, List.set_cons_succ]
        have hB2' : Below W.heap.size W w2 := (Below.refl W.heap.size W).drew.trans hB2
        have hcd2 : w2.cell? ⟨w.heap.size, 0, none⟩ = some (.slice va5 (fl pre).length cp5) := (hB2'.cell (p := ⟨w.heap.size, 0, none⟩) (heap_lt HV.out)).trans HV.out.cell
        have HROW2 := Lib.hid (ownsRow_below (n := 0) HROW.out hB2')
        have HRS := Lib.hid hrs
        refine wpAnyH_ready (rs := [0]) (by kernel_rfl) (by simp) ?_
        refine AllReadyH.cons rfl (fun K hK => ?_) AllReadyH.nil
        go_simp
        refine hK.out _ _ trivial (fun hHeld => ?_)
        clear hK K
        try simp only [Act.put, List.getElem_toArray, List.getElem_cons_succ, List.getElem_cons_zero, List.setIfInBounds_toArray, List.set_cons_zero, List.set_cons_succ]
        refine wpAnyH_ready (rs := [3]) (by kernel_rfl) (by simp) ?_
        refine AllReadyH.cons rfl (fun K hK => ?_) AllReadyH.nil
        refine step_append_zero rfl _ _ 67 rfl B1 86 i0 4 Try.underlying67 hi (.slice va5 (fl pre).length cp5) _ _ rfl HROW2.out va vc rfl ?_
        go_simp
        refine hK.out _ _ trivial (fun hHeld => ?_)
        clear hK K
        try simp only [Act.put, List.getElem_toArray, List.getElem_cons_succ, List.getElem_cons_zero, List.setIfInBounds_toArray, List.set_cons_zero, List.set_cons_succ]
        have hbx2 : Boxed w2 w.heap.size 67 (.slice va5 (fl pre).length cp5) := (hB2'.block _ (heap_lt HV.out)).trans HV.out
        have hc2 := hbx2.cell
        have hf2 := hbx2.frozen
        have hA := sall_none (B0 := w.heap.size + 2) (L := L) HB.out (show w.heap.size < B1 by omega) hs HV.out HROW.out hB2'
        have HA := Lib.hid hA
        clear hA
        refine wpAnyH_ready (rs := [4]) (by kernel_rfl) (by simp) ?_
        refine AllReadyH.cons rfl (fun K hK => ?_) AllReadyH.nil
        go_simp
        refine hK.out _ _ trivial (fun hHeld => ?_)
        clear hK K
        try simp only [Act.put, List.getElem_toArray, List.getElem_cons_succ, List.getElem_cons_zero, List.setIfInBounds_toArray, List.set_cons_zero, List.set_cons_succ]
        refine wpAnyH_done (by kernel_rfl) ?_ _
        refine onlyNormal_mk ?_
        gi_wp2
        exact ⟨by have h := HA.out.1; first | exact h | (rw [← hsz1] at h; exact h) | (rw [hsz1]; exact h), by show sallI w w.heap.size B1 (fl (pre ++ [_])) _; rw [fl_snoc, show spotsL _ xF = [] from HX0.out, List.append_nil]; exact ⟨_, HA.out.2⟩⟩
    · obtain ⟨X, hXe⟩ : ∃ X, X = spotsL gx xF := ⟨_, rfl⟩
      have HXE := Lib.hid hXe
      rw [← hXe] at GO HPX hX0
      clear hXe
      have HX4 := Lib.hid (show (spotCells X).length = X.length * 4 from spotCells_lenL X)
      have HNW := Lib.hid (fun w2 va (hr : RowV w2 va X.length 4 (spotCells X)) => (show ∃ sb so, va = some ⟨sb, so, none⟩ ∧ ∀ w3, w3 = w2 → ∀ j u, (spotCells X)[j]? = some u → w3.cell? ((⟨sb, so, none⟩ : Addr).add j) = some u from by
        obtain ⟨sb, so, e, hb, hc⟩ := hr.2.2 hX0
        refine ⟨sb, so, e, fun w3 hw j u hu => ?_⟩
        subst hw
        obtain ⟨hj, rfl⟩ := List.getElem?_eq_some_iff.1 hu
        have hadd : (⟨sb, so, none⟩ : Addr).add j = ⟨sb, so + j, none⟩ := by unfold Addr.add; split <;> simp_all
        rw [hadd]
        exact hc j hj))
      gi_wp2
      refine wpIn_of_heldL (S := fun _ => True) hmx (by kernel_rfl) ⟨_, rfl⟩ trivial (fun hHeld => ?_)
      refine wpAnyH_take (i := 1) (v := .pointer (some ⟨xd, 0, none⟩)) rfl (by kernel_rfl) (by kernel_rfl) (by kernel_rfl) (fun _ _ _ h => absurd h.1 (by simp)) (Or.inl ⟨by rfl, fun w hSw => by go_simp⟩) hHeld ?_
      try simp only [Act.put, List.getElem_toArray, List.getElem_cons_succ, List.getElem_cons_zero, List.setIfInBounds_toArray, List.set_cons_zero, List.set_cons_succ]
      refine wpAnyH_ready (rs := [0, 2]) (by kernel_rfl) (by simp) ?_
      refine AllReadyH.cons rfl (fun K hK => ?_) (AllReadyH.cons rfl (fun K hK => ?_) AllReadyH.nil)
      · go_simp
        refine hK.out _ _ trivial (fun hHeld => ?_)
        clear hK K
        try simp only [Act.put, List.getElem_toArray, List.getElem_cons_succ, List.getElem_cons_zero, List.setIfInBounds_toArray, List.set_cons_zero, List.set_cons_succ]
        refine wpAnyH_ready (rs := [2]) (by kernel_rfl) (by simp) ?_
        refine AllReadyH.cons rfl (fun K hK => ?_) AllReadyH.nil
        go_simp
        refine (GO.out _ (Below.refl W.heap.size W).drew).mono ?_
        rintro e w2 ⟨va, vc, rfl, hrs, hB2⟩
        refine hK.out _ _ trivial (fun hHeld => ?_)
        clear hK K
        try simp only [Act.put, List.getElem_toArray, List.getElem_cons_succ, List.getElem_cons_zero, List.setIfInBounds_toArray, List.set_cons_zero, List.set_cons_succ]
        have hB2' : Below W.heap.size W w2 := (Below.refl W.heap.size W).drew.trans hB2
        have hcd2 : w2.cell? ⟨w.heap.size, 0, none⟩ = some v := (hB2'.cell (p := ⟨w.heap.size, 0, none⟩) (heap_lt HV.out)).trans HV.out.cell
        have HROW2 := Lib.hid (ownsRow_below (n := 0) HROW.out hB2')
        have HRS := Lib.hid hrs
        obtain ⟨sb, so, rfl, hnews⟩ := HNW.out w2 va HRS.out
        refine wpAnyH_ready (rs := [3]) (by kernel_rfl) (by simp) ?_
        refine AllReadyH.cons rfl (fun K hK => ?_) AllReadyH.nil
        refine step_append_lies _ rfl _ _ 67 rfl B1 86 i0 (.agg #[.int .i64 0, .int .i64 0, .int .i64 0, .int .i64 0]) 4 32 Try.underlying67 hi hz0 hz1 hz2 rfl (by decide) _ _ _ rfl HROW2.out ⟨sb, so, none⟩ X.length vc (spotCells X) rfl HX4.out (hnews _ rfl) (spot_one X) hX0 (by have := HPX.out; unfold maxLen; omega) (by have := HPX.out; omega) (Nat.le_trans hs hB2'.size) _ rfl ?_
        intro g' cap' w4 hown4 hgrow4 hlies4 _
        have hA := sall_step (B0 := w.heap.size + 2) (L := L) HB.out (show w.heap.size < B1 by omega) hs HV.out HROW.out hB2' hown4 hgrow4
        refine hK.out _ _ trivial (fun hHeld => ?_)
        clear hK K
        try simp only [Act.put, List.getElem_toArray, List.getElem_cons_succ, List.getElem_cons_zero, List.setIfInBounds_toArray, List.set_cons_zero, List.set_cons_succ]
        have hc2 := hA.1.cell
        have hf2 := hA.1.frozen
        have HA := Lib.hid hA.2
        clear hA
        refine wpAnyH_ready (rs := [4]) (by kernel_rfl) (by simp) ?_
        refine AllReadyH.cons rfl (fun K hK => ?_) AllReadyH.nil
        go_simp
        refine hK.out _ _ trivial (fun hHeld => ?_)
        clear hK K
        try simp only [Act.put, List.getElem_toArray, List.getElem_cons_succ, List.getElem_cons_zero, List.setIfInBounds_toArray, List.set_cons_zero, List.set_cons_succ]
        refine wpAnyH_done (by kernel_rfl) ?_ _
        refine onlyNormal_mk ?_
        gi_wp2
        exact ⟨by have h := HA.out.1; first | exact h | (rw [← hsz1] at h; exact h) | (rw [hsz1]; exact h), by show sallI w w.heap.size B1 (fl (pre ++ [_])) _; rw [fl_snoc]; dsimp only; rw [← HXE.out]; exact ⟨_, HA.out.2⟩⟩
      · go_simp
        refine (GO.out _ (Below.refl W.heap.size W).drew).mono ?_
        rintro e w2 ⟨va, vc, rfl, hrs, hB2⟩
        refine hK.out _ _ trivial (fun hHeld => ?_)
        clear hK K
        try simp only [Act.put, List.getElem_toArray, List.getElem_cons_succ, List.getElem_cons_zero, List.setIfInBounds_toArray, List.set_cons_zero, List.set_cons_succ]
        have hB2' : Below W.heap.size W w2 := (Below.refl W.heap.size W).drew.trans hB2
        have hcd2 : w2.cell? ⟨w.heap.size, 0, none⟩ = some v := (hB2'.cell (p := ⟨w.heap.size, 0, none⟩) (heap_lt HV.out)).trans HV.out.cell
        have HROW2 := Lib.hid (ownsRow_below (n := 0) HROW.out hB2')
        have HRS := Lib.hid hrs
        obtain ⟨sb, so, rfl, hnews⟩ := HNW.out w2 va HRS.out
        refine wpAnyH_ready (rs := [0]) (by kernel_rfl) (by simp) ?_
        refine AllReadyH.cons rfl (fun K hK => ?_) AllReadyH.nil
        go_simp
        refine hK.out _ _ trivial (fun hHeld => ?_)
        clear hK K
        try simp only [Act.put, List.getElem_toArray, List.getElem_cons_succ, List.getElem_cons_zero, List.setIfInBounds_toArray, List.set_cons_zero, List.set_cons_succ]
        refine wpAnyH_ready (rs := [3]) (by kernel_rfl) (by simp) ?_
        refine AllReadyH.cons rfl (fun K hK => ?_) AllReadyH.nil
        refine step_append_lies _ rfl _ _ 67 rfl B1 86 i0 (.agg #[.int .i64 0, .int .i64 0, .int .i64 0, .int .i64 0]) 4 32 Try.underlying67 hi hz0 hz1 hz2 rfl (by decide) _ _ _ rfl HROW2.out ⟨sb, so, none⟩ X.length vc (spotCells X) rfl HX4.out (hnews _ rfl) (spot_one X) hX0 (by have := HPX.out; unfold maxLen; omega) (by have := HPX.out; omega) (Nat.le_trans hs hB2'.size) _ rfl ?_
        intro g' cap' w4 hown4 hgrow4 hlies4 _
        have hA := sall_step (B0 := w.heap.size + 2) (L := L) HB.out (show w.heap.size < B1 by omega) hs HV.out HROW.out hB2' hown4 hgrow4
        refine hK.out _ _ trivial (fun hHeld => ?_)
        clear hK K
        try simp only [Act.put, List.getElem_toArray, List.getElem_cons_succ, List.getElem_cons_zero, List.setIfInBounds_toArray, List.set_cons_zero, List.set_cons_succ]
        have hc2 := hA.1.cell
        have hf2 := hA.1.frozen
        have HA := Lib.hid hA.2
        clear hA
        refine wpAnyH_ready (rs := [4]) (by kernel_rfl) (by simp) ?_
        refine AllReadyH.cons rfl (fun K hK => ?_) AllReadyH.nil
        go_simp
        refine hK.out _ _ trivial (fun hHeld => ?_)
        clear hK K
        try simp only [Act.put, List.getElem_toArray, List.getElem_cons_succ, List.getElem_cons_zero, List.setIfInBounds_toArray, List.set_cons_zero, List.set_cons_succ]
        refine wpAnyH_done (by kernel_rfl) ?_ _
        refine onlyNormal_mk ?_
        gi_wp2
        exact ⟨by have h := HA.out.1; first | exact h | (rw [← hsz1] at h; exact h) | (rw [hsz1]; exact h), by show sallI w w.heap.size B1 (fl (pre ++ [_])) _; rw [fl_snoc]; dsimp only; rw [← HXE.out]; exact ⟨_, HA.out.2⟩⟩
    done
  case hd =>
    rintro B1 W hBB ⟨v, hv, hrow, hB, hs⟩ hD
    have hc := hv.cell
    have hw1 : w.heap.size ≤ w1.heap.size := hB1.size
    have HR := Lib.hid (own_baseL (ownsRow_keptL hrow hD rfl (.deferred none)) (show w.heap.size ≤ B1 by omega))
    have HB2 := Lib.hid (below_putObj (D := w1.heap.size) hB (Nat.le_refl _) hw1 (.deferred none))
    clear hrow hB
    gi_wp2
    exact leave_one (v := v) hD (by simp [results, Try.results32, go_sem]) ⟨v, rfl, HR.out, HB2.out⟩

end Go.Proofs.Ytdncdlbhgaehmaa
