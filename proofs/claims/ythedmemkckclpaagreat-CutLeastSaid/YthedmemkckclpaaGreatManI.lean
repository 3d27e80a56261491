/- ManI, ManA: in one text. -/
import Derived.Test.YthedmemkckclpaaGreatMan
import Derived.Test.YthedmemkckclpaaGreatIterK
import Derived.Test.YthedmemkckclpaaGreatRegion
import Derived.Deep.AppendLies
/- The groups, handed out in the order of their numbers. -/
namespace Go.Proofs.YthedmemkckclpaaGreat
open Go.RowKit Go.Shelf Go.Maps Go.Sort
set_option linter.unusedVariables false
attribute [local go_sem] Oper.semAt_some wide_fn wide_round_fn

theorem gsorts (m : Nat) : AnyZI.SortsIn Tryz.prog Tryz.sortedI_ren Fence.wide m :=
  ⟨fun blk off cap ss W hH hblk hsz => callsIn_wide.2 (AnyM.slices_Sort_int Tryz.sortI blk off cap ss W hH hblk hsz),
   fun p cap W => callsIn_wide.2 (AnyM.slices_Sort_int_none Tryz.sortI p cap W)⟩
theorem gkeys (mb : Option Nat) (W : World) : CallsIn Fence.wide 5 Tryz.prog 24 #[.map mb] W fun e w' => e = .returned (.func (.func 32) #[] #[.pointer (some ⟨W.heap.size, 0, none⟩)]) ∧ w' = W.alloc (.cells #[.map mb] 40) :=
  AnyZI.keys_in Tryz.keysG Fence.wide 5 trivial rfl mb W
theorem gsorted {H : Type} (b nn : Nat) (D0 : DataW H) (R : Value → Option (DataW H × List MemPlace)) (w : World) (hown : w.ownsMap Tryz.prog 3 R b nn D0) (hmax : Maps.size D0 ≤ maxLen) (hbytes : Maps.size D0 * 8 ≤ 140737488355328) :
    CallsIn Fence.wide 5 Tryz.prog 23 #[.func (.func 32) #[] #[.pointer (some ⟨w.heap.size, 0, none⟩)]] (w.alloc (.cells #[.map (some b)] 40)) fun e w' => ∃ (v : Value) (ss : List Int), e = .returned v ∧ ss.Perm (intKeys D0) ∧
      w'.ownsRow (w.alloc (.cells #[.map (some b)] 40)).heap.size 3 1 v ss.length ((ss.mergeSort (fun x y => decide (x ≤ y))).map encZ) ∧ (v = .slice none 0 0 ↔ ss = []) ∧ Below (w.alloc (.cells #[.map (some b)] 40)).heap.size (w.alloc (.cells #[.map (some b)] 40)) w' := by
  have hbl := hown.lt
  have hseq : SeqGives Fence.wide 2 Tryz.prog 32 #[.pointer (some ⟨w.heap.size, 0, none⟩)] encZ (fun ss => ss.Perm (intKeys D0)) (Maps.size D0) (w.alloc (.cells #[.map (some b)] 40)) :=
    AnyZI.keys_gives (ρ := Tryz.keysG_ren) { Tryz.keysG with } Fence.wide _ trivial rfl (by omega) w.heap.size b nn D0 _ (by simp) (by simp) (by
      obtain ⟨es, clock, hb, Ft, hs, hD⟩ := hown
      exact ⟨es, clock, (Below.heap_alloc _ _ b hbl).trans hb, Ft, hs, hD⟩)
  exact AnyZI.sorted_in Tryz.sortedI Fence.wide 5 trivial trivial trivial trivial rfl (by omega) (gsorts _) (enters_of Tryz.func31 (by kernel_rfl) rfl) 32 #[.pointer (some ⟨w.heap.size, 0, none⟩)] trivial (enters_of Tryz.func32 (by kernel_rfl) rfl) _ _ hmax hbytes _ hseq
theorem ids_sorted {F : List GV} (hr : RisZ GV.id F) {ss : List Int} (hp : ss.Perm (intKeys (gmap F))) : (ss.mergeSort (fun x y => decide (x ≤ y))).map encZ = F.map (fun x => Value.int .i64 x.id) ∧ ss.length = F.length := by
  have e : intKeys (gmap F) = F.map fun x => x.id := by unfold gmap intKeys; dsimp only; rw [List.map_map]; rfl
  rw [e] at hp
  constructor
  · have hs : (F.map fun x => x.id).Pairwise (fun x y => decide (x ≤ y) = true) := by
      rw [List.pairwise_map]
      exact hr.imp fun {a b} h => by simp; exact Int.le_of_lt h
    have h1 : ss.mergeSort (fun x y => decide (x ≤ y)) = F.map fun x => x.id := by
      refine List.Perm.eq_of_pairwise (le := fun x y => decide (x ≤ y)) ?_ (List.pairwise_mergeSort (fun a b c h1 h2 => by simp at *; omega) (fun a b => by simp; omega) ss) hs ((List.mergeSort_perm ss _).trans hp)
      intro a b _ _ h1 h2
      simp at h1 h2; omega
    rw [h1, List.map_map]; rfl
  · rw [hp.length_eq, List.length_map]
theorem gmap_rd {B : Nat} {S : Nat → Prop} {W W' : World} {P : Program} {k : TypeId} {R : Value → Option (DataW Value × List MemPlace)} {b n : Nat} {D : DataW Value} (h : W.ownsMap P k R b n D) (hR : Rd B S W W') (hS : S b) : W'.ownsMap P k R b n D := by
  obtain ⟨es, clock, h1, r⟩ := h
  exact ⟨es, clock, hR.block _ _ h1 (.inl hS), r⟩
theorem glook_map {W : World} {m n : Nat} {F : List GV} (h : W.ownsMap Tryz.prog 3 valElem m n (gmap F)) {x : GV} (hx : getZ GV.id F x.id = some x) (hw : (Lit.int .i64 x.id).wf = true) :
    (Instr.lookup 40 (.map (some m)) (.int .i64 x.id) false).run Tryz.prog W = .ok x.val W := by
  obtain ⟨v, ps, hrun, hv⟩ := h.lookup lawG Tryz.underlying40 (zeroGrp W) (zd := .held (.agg #[.int .i64 0, .int .i64 0, .int .i64 0, .int .i64 0, .int .i64 0, .int .i64 0, .slice none 0 0])) (zp := []) rfl (Maps.keyOf_int_mk Tryz.underlying3 hw)
  rw [gmap_at, hx] at hv
  rw [← valElem_some hv]; exact hrun
theorem row_id {W : World} {B : Nat} {e : TypeId} {n : Nat} {v : Value} {F : List GV} (h : W.ownsRow B e 1 v n (F.map fun x => Value.int .i64 x.id)) {k : Nat} (hk : k < F.length) : ∃ g cap, v = .slice (some ⟨g, 0, none⟩) n cap ∧ B ≤ g ∧ g < W.heap.size ∧ W.cell? ⟨g, k, none⟩ = some (.int .i64 F[k].id) := by
  have hl : F.length = n := by have := h.1; simpa using this
  rcases h.2 with ⟨hv, h0⟩ | ⟨g, cap, cur, hv, hb, hg, hle, hcm, hcs, ht⟩
  · omega
  · refine ⟨g, cap, hv, hb, (Array.getElem?_eq_some_iff.1 hg).1, ?_⟩
    rw [Lib.cell_of_heap hg]
    have : (cur.toList.take (n * 1))[k]? = some (.int .i64 F[k].id) := by rw [ht]; simp [hk]
    rw [List.getElem?_take] at this
    split at this
    · simpa [Array.getElem?_toList] using this
    · cases this
theorem own_sliceM {W : World} {B : Nat} {e : TypeId} {sz n : Nat} {v : Value} {xs : List Value} (h : W.ownsRow B e sz v n xs) : ∃ a cap, v = .slice a n cap := by
  rcases h.2 with ⟨rfl, rfl⟩ | ⟨g, cap, _, rfl, _⟩
  · exact ⟨none, 0, rfl⟩
  · exact ⟨_, cap, rfl⟩
set_option maxRecDepth 100000 in
set_option maxHeartbeats 1000000 in
theorem gorder_iter {W0 : World} {d m : Nat} {F : List GV} (h : ManAt W0 d m F) (hF : F.length ≤ 1000000) (hr : RisZ GV.id F) (hid : ∀ x ∈ F, 0 ≤ x.id ∧ x.id ≤ 999) (Bd : Nat) (S V : Nat → Prop) (w0 : World) (hw : Below W0.heap.size W0 w0)
    (hb : w0.cell? ⟨Bd, 0, none⟩ = some (.pointer (some ⟨d, 0, none⟩))) (hS : S Bd ∧ S d ∧ S m) (hV : ¬ V Bd ∧ ¬ V d ∧ ¬ V m) (hVl : ∀ k, V k → k < w0.heap.size) (hbl : Bd < w0.heap.size) :
    IterV Tryz.prog 22 #[.pointer (some ⟨Bd, 0, none⟩)] (fun x : GV => #[x.val]) F S V w0 := by
  intro l J Jx W hW hlw hlW hJs _ hY h0
  have hmW := gmap_rd (gmap_frame h.2.map (FrameT.below (T := fun _ => False) hw) id) hW hS.2.2
  have hdW := hW.block _ _ ((FrameT.below (T := fun _ => False) hw).get h.1 id) (.inl hS.2.1)
  have c0 : W.cell? ⟨d, 0, none⟩ = some (.map (some m)) := cell_of_row _ _ 0 _ _ _ hdW
  have cb := hW.cell hb hS.1
  have hsize : Maps.size (gmap F) ≤ maxLen ∧ Maps.size (gmap F) * 8 ≤ 140737488355328 := by rw [gmap_size]; unfold maxLen; omega
  have HSz := Lib.hid hsize
  have HN := Lib.hid (fun ss hp => ids_sorted hr (ss := ss) hp)
  have HMW := Lib.hid hmW
  have hdl := heap_lt h.1
  have hml := h.2.map.lt
  have hw0 := hw.size
  have hWs := hW.size
  have HL := Lib.hid (And.intro hdl (And.intro hml (And.intro hbl (And.intro hw0 (And.intro hWs (And.intro hlw hlW))))))
  have HSelf := Lib.hid (fun x (hx : x ∈ F) => (And.intro (risZ_get hr hx) (hid x hx)))
  have HC0 := Lib.hid c0
  have HCB := Lib.hid cb
  clear hsize hmW hdW hdl hml hbl hw0 hWs
  have hfK : Fence.wide.fn 24 := trivial
  have hfS : Fence.wide.fn 23 := trivial
  refine callsIn_of_wp Tryz.func22 rfl trivial ?_ rfl
  simp only [Tryz.ntmps22, List.size_toArray, List.length_cons, List.length_nil, Nat.reduceAdd, Nat.reduceSub, Array.replicate_succ, Array.replicate_zero, List.push_toArray, List.append_toArray, List.nil_append, List.cons_append]
  gi_wp2_with (first
    | (gi_at_call 24; refine (callsIn_wide_n (gkeys _ _)).mono ?_; rintro e w' ⟨rfl, rfl⟩)
    | (gi_at_call 23; refine (callsIn_wide_n (gsorted m F.length (gmap F) valElem W HMW.out HSz.out.1 HSz.out.2)).mono ?_; rintro e w5 ⟨v, ss, rfl, hSs, hrow, -, hb5⟩; rw [(HN.out ss hSs).1, (HN.out ss hSs).2] at hrow; obtain ⟨a5, cap5, rfl⟩ := own_sliceM hrow))
  have hz5 := hb5.size
  rw [World.size_alloc] at hz5
  have hbW5 : Below W.heap.size W w5 := bel2 (bel_alloc (Below.refl _ _) _) hb5
  have H0 := Lib.hid (h0 w5 hbW5)
  have HB5 := Lib.hid hbW5
  have HZ := Lib.hid hz5
  have HR := Lib.hid hrow
  clear hrow hb5 hbW5 hz5 c0 cb h0 hSs
  gi_loopw [12] (fun q wr => ∃ k : Nat, k ≤ F.length ∧ q = .int .i64 k ∧ J w5.heap.size (F.take k) wr ∧ Rd W.heap.size (fun k => (k < w5.heap.size ∧ ¬ V k) ∧ k ≠ l) w5 wr) (fun q _ => F.length - (intOf q).toNat)
  case atStart => exact ⟨0, by omega, rfl, H0.out, Rd.refl _ _ _⟩
  case round =>
    obtain ⟨k, hk, rfl, hJ, hR⟩ := hrel
    obtain ⟨l1, l2, l3, l4, l5, l6, l7⟩ := HL.out
    have z5 := HZ.out
    have old : ∀ x, x < w0.heap.size → ¬ V x → ((x < w5.heap.size ∧ ¬ V x) ∧ x ≠ l) := fun x hx hv => ⟨⟨by omega, hv⟩, by omega⟩
    have hm := gmap_rd (gmap_frame HMW.out (FrameT.below (T := fun _ => False) HB5.out) id) hR (old m (by omega) hV.2.2)
    have c0 : wr.cell? ⟨d, 0, none⟩ = some (.map (some m)) := hR.cell ((FrameT.below (T := fun _ => False) HB5.out).cell HC0.out id) (old d (by omega) hV.2.1)
    have cb : wr.cell? ⟨Bd, 0, none⟩ = some (.pointer (some ⟨d, 0, none⟩)) := hR.cell ((FrameT.below (T := fun _ => False) HB5.out).cell HCB.out id) (old Bd (by omega) hV.1)
    by_cases hlt : k < F.length
    · obtain ⟨g, cap, hv, hg1, hg2, hcg⟩ := row_id HR.out hlt
      rw [World.size_alloc] at hg1
      cases hv
      have hcg' := hR.cell hcg ⟨⟨hg2, fun hv => by have := hVl g hv; omega⟩, (show g ≠ l by omega)⟩
      obtain ⟨hs1, hs2⟩ := HSelf.out F[k] (List.getElem_mem hlt)
      have hrun := glook_map hm hs1 (by simp [Lit.wf, IntKind.min, IntKind.max, IntKind.signed, IntKind.bits]; omega)
      have HX := Lib.hid (show F = F.take k ++ F[k] :: F.drop (k + 1) by rw [List.getElem_cons_drop hlt, List.take_append_drop])
      have HT := Lib.hid (show F.take (k + 1) = F.take k ++ [F[k]] from List.take_succ_eq_append_getElem hlt)
      have hlti : (k : Int) < (F.length : Int) := by omega
      obtain ⟨fn, tmps, assign, body, hy, hR1⟩ := hY w5.heap.size (F.take k) F[k] (F.drop (k + 1)) wr (by omega) HX.out hJ
      generalize F[k] = x at *
      obtain ⟨⟨id, fi, te, ht, hvv, hc, gl⟩, ga, gc⟩ := x
      dsimp only [GV.val, GM.val, GV.id] at *
      clear hm hs1 hs2 old hg1 hg2 hcg
      gi_wp2
      refine (roundIn_wide_n hR1).mono ?_
      rintro e W3 (⟨rfl, hJ3, hk3⟩ | ⟨rfl, hJx3⟩)
      · clear hrun c0 cb hcg' hy hR1
        gi_wp2
        go_roundw
        case rel => exact ⟨k + 1, by omega, by go_num, by rw [HT.out]; exact hJ3, hR.trans hk3⟩
        case measure => simp [intOf]; omega
      · clear hrun c0 cb hcg' hy hR1
        gi_wp2
        refine bodyPost_ret (results_none rfl _ _ _) rfl ?_
        exact ⟨⟨_, rfl⟩, .inr ⟨_, _, _, HX.out, hJx3⟩⟩
    · obtain rfl : k = F.length := by omega
      rw [List.take_of_length_le (by omega)] at hJ
      clear hm c0 cb old
      gi_wp2
      refine bodyPost_end (results_none rfl _ _ _) rfl ?_
      exact ⟨⟨_, rfl⟩, .inl ⟨_, by omega, hJ⟩⟩

end Go.Proofs.YthedmemkckclpaaGreat

/- (*Many).All: the groups, each with entries of its own, in the order of their numbers. -/
namespace Go.Proofs.YthedmemkckclpaaGreat
open Go.RowKit Go.Shelf
set_option linter.unusedVariables false
attribute [local go_sem] Oper.semAt_some wide_fn wide_round_fn

def gvCells (L : List GV) : List Value := L.flatMap fun x => (x.g.arr x.a x.c).toList
theorem gvCells_snoc (L : List GV) (x : GV) : gvCells (L ++ [x]) = gvCells L ++ (x.g.arr x.a x.c).toList := by simp [gvCells]
theorem infoGrpM : (Tryz.prog.info? 39).map (fun i => (i.zero, i.size, i.bytes)) = some (some (.agg #[.int .i64 0, .int .i64 0, .int .i64 0, .int .i64 0, .int .i64 0, .int .i64 0, .slice none 0 0]), 7, 72) := by kernel_rfl
theorem gorder_any (d : Nat) (W : World) : Calls Tryz.prog 14 #[.pointer (some ⟨d, 0, none⟩)] W fun e w' => e = .returned (.func (.func 22) #[] #[.pointer (some ⟨W.heap.size, 0, none⟩)]) ∧ w' = W.alloc (.cells #[.pointer (some ⟨d, 0, none⟩)] 23) := by
  go_enter Tryz.func14, Tryz.ntmps14
  go_wp2
  go_ret
  exact ⟨rfl, rfl⟩
theorem gnews_new (w : World) (e : TypeId) (news : List Value) : ∀ j u, news[j]? = some u → (w.alloc (.cells news.toArray e)).cell? ((⟨w.heap.size, 0, none⟩ : Addr).add j) = some u := fun j u h =>
  World.news_of_block (heap_alloc_new w _) j u (by simpa using h)
theorem ownsRow_keptM {W : World} {base : Nat} {e : TypeId} {size : Nat} {v : Value} {k : Nat} {xs : List Value} (h : W.ownsRow base e size v k xs) {D : Nat} {o : Obj} (hD : W.heap[D]? = some o) (hc : o.isCells = false) (o' : Obj) : (W.putObj D o').ownsRow base e size v k xs := by
  refine ⟨h.1, ?_⟩
  rcases h.2 with h2 | ⟨g, cap, cur, hv, hg, hh, r⟩
  · exact .inl h2
  · refine .inr ⟨g, cap, cur, hv, hg, (World.putObj_heap_other (fun e => ?_)).trans hh, r⟩
    rw [e, hD] at hh
    cases hh
    cases hc
theorem wpIn_of_heldM {F : Fence} {n : Nat} {P : Program} {id : Nat} {Q : Exit → Act → World → Prop} {a : Act} {w : World} {l : List Oper} {S : World → Prop} (hm : P.follows .mixedOrders = true) (hd : l.all (fun o => !isDefer o.op) = true) (hF : ∃ ro, F = { Fence.wide with round := ro }) (hS : S w.drew)
    (h : S w.drew → wpAnyH P .any l.toArray (onlyNormal Q) S l.toArray.size (Array.replicate l.toArray.size false) a w.drew) : (Code.region id l.toArray true).wpIn F n P Q a w := by
  refine wpIn_region_any hm (anyIn_of_plain hF (fun i o ho => ?_) _ _ _ _ (wpAny_of_held _ _ _ _ (h hS)))
  have hmem : o ∈ l := by
    simp only [List.getElem?_toArray] at ho
    exact List.mem_of_getElem? ho
  have := List.all_eq_true.1 hd o hmem
  simpa using this
theorem app_allM {w W w2 : World} {t e : TypeId} {sz B0 B1 n k L : Nat} {v v' : Value} {xs ys : List Value} {tmp : Obj} (hte : t ≠ e) (hB : Below w.heap.size w W) (hBB : w.heap.size < B1) (hs : B1 ≤ W.heap.size) (hv : Boxed W w.heap.size t v) (hrow : W.ownsRow B1 e sz v n xs)
    (hown' : w2.ownsRow B1 e sz v' k ys) (hgrow : (W.alloc tmp).grownBy w2 v.ownBlock) :
    Below w.heap.size w w2 ∧ Boxed w2 w.heap.size t v ∧ Below w.heap.size w (w2.setCell ⟨w.heap.size, 0, none⟩ v') ∧ Boxed (w2.setCell ⟨w.heap.size, 0, none⟩ v') w.heap.size t v' ∧ (w2.setCell ⟨w.heap.size, 0, none⟩ v').ownsRow B1 e sz v' k ys ∧ Rd B0 (fun j => (j < B1 ∧ ¬ (j = w.heap.size)) ∧ j ≠ L) W (w2.setCell ⟨w.heap.size, 0, none⟩ v') := by
  obtain ⟨h1, h2, h3, h4, h5⟩ := boxed_appended (W := W) (n₀ := w.heap.size) (base := B1) (B0 := B0) (S := fun j => (j < B1 ∧ ¬ (j = w.heap.size)) ∧ j ≠ L) hv hte hrow (by omega) hs (Nat.le_refl _) (fun h => h.1.2 rfl) (fun j hj h => by have := h.1.1; omega) hown' hgrow
  exact ⟨(bel_alloc hB tmp).grown hgrow (bel_alloc hB tmp).size (fun j hj => by have := ownBlock_ge hrow hj; omega), h1, hB.trans h5, h2, h3, h4⟩
/-- A group with entries of its own, which lie in new memory. -/
theorem own2_any (g : GM) (a : Option Addr) (c : Nat) (W : World) (h : HasG W a g) : Calls Tryz.prog 15 #[g.val a c] W fun e w' => ∃ a' c', e = .returned (g.val a' c') ∧ HasG w' a' g ∧ g.l.length ≤ c' ∧ Below W.heap.size W w' ∧ ∀ k, inBlkE a' g.l.length k → W.heap.size ≤ k := by
  obtain ⟨id, fi, te, ht, hv, hc, l⟩ := g
  have GC := Lib.hid (fun W' (hB : Below W.heap.size W W') => clone_ent a l.length c l rfl h.1 W' (h.2.below hB))
  have hm := h.1
  have hA := bel_alloc (bel_alloc (Below.refl W.heap.size W) (.cells #[.int .i64 id, .int .i64 fi, .int .i64 te, .int .i64 ht, .int .i64 hv, .int .i64 hc, .slice a l.length c] 39)) (.cells #[.int .i64 0, .int .i64 0, .int .i64 0, .int .i64 0, .int .i64 0, .int .i64 0, .slice none 0 0] 39)
  have q0 : ((W.alloc (.cells #[.int .i64 id, .int .i64 fi, .int .i64 te, .int .i64 ht, .int .i64 hv, .int .i64 hc, .slice a l.length c] 39)).alloc (.cells #[.int .i64 0, .int .i64 0, .int .i64 0, .int .i64 0, .int .i64 0, .int .i64 0, .slice none 0 0] 39)).heap[W.heap.size]? = some (.cells #[.int .i64 id, .int .i64 fi, .int .i64 te, .int .i64 ht, .int .i64 hv, .int .i64 hc, .slice a l.length c] 39 (0, 0)) := (Below.heap_alloc _ _ _ (by simp)).trans (World.alloc_heap_new W _)
  have q1 : ((W.alloc (.cells #[.int .i64 id, .int .i64 fi, .int .i64 te, .int .i64 ht, .int .i64 hv, .int .i64 hc, .slice a l.length c] 39)).alloc (.cells #[.int .i64 0, .int .i64 0, .int .i64 0, .int .i64 0, .int .i64 0, .int .i64 0, .slice none 0 0] 39)).heap[W.heap.size + 1]? = some (.cells #[.int .i64 0, .int .i64 0, .int .i64 0, .int .i64 0, .int .i64 0, .int .i64 0, .slice none 0 0] 39 (0, 0)) := by
    have := World.alloc_heap_new (W.alloc (.cells #[.int .i64 id, .int .i64 fi, .int .i64 te, .int .i64 ht, .int .i64 hv, .int .i64 hc, .slice a l.length c] 39)) (.cells #[.int .i64 0, .int .i64 0, .int .i64 0, .int .i64 0, .int .i64 0, .int .i64 0, .slice none 0 0] 39)
    rwa [World.size_alloc] at this
  have HQ0 := Lib.hid q0
  have HQ1 := Lib.hid q1
  have HA := Lib.hid hA
  clear h q0 q1 hA
  unfold GivesOwn at GC
  dsimp only [GM.val] at *
  go_enter Tryz.func15, Tryz.ntmps15
  go_wp2_with (go_at_call 25; ((with_reducible refine (GC.out _ HA.out).mono ?_); rintro e w2 ⟨v, rfl, hown, hB2⟩; obtain ⟨va, vc, rfl, hle, -⟩ := rowV_own hown; have hb0 := (hB2.block _ (heap_lt HQ0.out)).trans HQ0.out; have hb1 := (hB2.block _ (heap_lt HQ1.out)).trans HQ1.out; have H0 := Lib.hid hb0; have H1 := Lib.hid hb1; obtain ⟨g0, g1, g2, g3, g4, g5, g6, fg⟩ := cells7 hb0; obtain ⟨r0, r1, r2, r3, r4, r5, r6, fr⟩ := cells7 hb1; have HO := Lib.hid hown; have HB2 := Lib.hid hB2; clear hb0 hb1 hown hB2))
  clear g0 g1 g2 g3 g4 g5 g6 fg r0 r1 r2 r3 r4 r5 r6 fr
  have hb1' : (w2.setCell ⟨W.heap.size, 6, none⟩ (.slice va l.length vc)).heap[W.heap.size + 1]? = some (.cells #[.int .i64 0, .int .i64 0, .int .i64 0, .int .i64 0, .int .i64 0, .int .i64 0, .slice none 0 0] 39 (0, 0)) := (heap_setCell_other _ _ _ _ (by simp)).trans H1.out
  have hb7 := st7_block hb1' (.int .i64 id) (.int .i64 fi) (.int .i64 te) (.int .i64 ht) (.int .i64 hv) (.int .i64 hc) (.slice va l.length vc)
  have hF7 := (FrameT.setCell w2 W.heap.size 6 (.slice va l.length vc)).mono (U := fun k => k = W.heap.size ∨ k = W.heap.size + 1) (fun k h => .inl h)
  have hF8 := hF7.trans ((st7_frame (w2.setCell ⟨W.heap.size, 6, none⟩ (.slice va l.length vc)) (W.heap.size + 1) (.int .i64 id) (.int .i64 fi) (.int .i64 te) (.int .i64 ht) (.int .i64 hv) (.int .i64 hc) (.slice va l.length vc)).mono (fun k h => .inr h))
  have hown2 := own_frame HO.out hF8 (fun k hk h => by simp at hk; rcases h with h | h <;> omega)
  have hbel0 := bel2 HA.out HB2.out
  have hbel := hbel0.trans (hF8.toBelow hbel0.size (fun k h => by rcases h with h | h <;> omega))
  obtain ⟨e0, e1, e2, e3, e4, e5, e6, -⟩ := cells7 hb7
  obtain ⟨va', vc', hx, -, hrow⟩ := rowV_own hown2
  cases hx
  refine bodyPost_ret (v := .agg #[.int .i64 id, .int .i64 fi, .int .i64 te, .int .i64 ht, .int .i64 hv, .int .i64 hc, .slice va l.length vc]) (by simp [results, Tryz.results15, go_sem, e0, e1, e2, e3, e4, e5, e6]) rfl ?_
  exact ⟨va, vc, rfl, ⟨hm, hrow⟩, hle, hbel, fun k hk => Nat.le_trans (by simp; omega) (own_new hown2 k hk)⟩
/-- The box q holds a slice of groups, in blocks from B1 on; their entries lie elsewhere; nothing that lay in w has turned. -/
def gallV (w : World) (q B1 : Nat) (pre : List GM) (v : Value) (W : World) : Prop := Boxed W q 35 v ∧ (∃ Gs : List GV, Gs.map GV.g = pre ∧ (W.ownsRow B1 39 7 v pre.length (gvCells Gs) ∧ ∀ x, x ∈ Gs → HasG W x.a x.g ∧ (x.g.l.length ≤ x.c ∧ ∀ k, inG x k → B1 ≤ k ∧ some k ≠ v.ownBlock))) ∧ Below w.heap.size w W ∧ B1 ≤ W.heap.size
def gallI (w : World) (q B1 : Nat) (pre : List GM) (W : World) : Prop := ∃ v, gallV w q B1 pre v W
theorem hasG_stab {B : Nat} {a : Option Addr} {g : GM} : Stab B (fun _ => False) (fun W => HasG W a g) := fun W W' h hm => by
  refine ⟨h.1, h.2.1, h.2.2.1, fun h0 => ?_⟩
  obtain ⟨b, off, e, hb, hc⟩ := h.2.2.2 h0
  exact ⟨b, off, e, Nat.lt_of_lt_of_le hb hm.size, fun j hj => Stab.cell (B := B) (T := fun _ => False) id W W' (hc j hj) hm⟩
theorem gallV_stab {w : World} {q B B1 : Nat} {pre : List GM} {v : Value} (h : w.heap.size ≤ B) : Stab B (fun _ => False) (gallV w q B1 pre v) :=
  (Stab.boxed id).and ((Stab.ex fun Gs => (Stab.pure _).and ((Stab.ownsRow (fun _ h => h.elim)).and (Stab.all fun x => Stab.imp fun _ => hasG_stab.and (Stab.pure _)))).and ((Stab.below (Nat.le_refl _) h (fun _ h => h.elim)).and Stab.size))
theorem gallI_stab {w : World} {q B B1 : Nat} {pre : List GM} (h : w.heap.size ≤ B) : Stab B (fun _ => False) (gallI w q B1 pre) := Stab.ex fun v => gallV_stab h

theorem ownBlock_ltA {W : World} {base : Nat} {e : TypeId} {size : Nat} {v : Value} {k : Nat} {xs : List Value} (h : W.ownsRow base e size v k xs) {j : Nat} (hj : some j = v.ownBlock) : base ≤ j ∧ j < W.heap.size := by
  rcases h.2 with ⟨rfl, _⟩ | ⟨g, cap, cur, rfl, hb, hg, _⟩
  · simp [Value.ownBlock] at hj
  · obtain rfl : j = g := by simpa [Value.ownBlock] using hj
    exact ⟨hb, (Array.getElem?_eq_some_iff.1 hg).1⟩
theorem own_baseM {W : World} {B B' : Nat} {e : TypeId} {sz n : Nat} {v : Value} {xs : List Value} (h : W.ownsRow B e sz v n xs) (hB : B' ≤ B) : W.ownsRow B' e sz v n xs := by
  refine ⟨h.1, ?_⟩
  rcases h.2 with h2 | ⟨g, cap, cur, hv, hb, r⟩
  · exact .inl h2
  · exact .inr ⟨g, cap, cur, hv, Nat.le_trans hB hb, r⟩
theorem hasG_put {W : World} {a : Option Addr} {g : GM} (h : HasG W a g) {D : Nat} {o : Obj} (hD : W.heap[D]? = some o) (hc : o.isCells = false) (o' : Obj) : HasG (W.putObj D o') a g := by
  refine ⟨h.1, h.2.1, h.2.2.1, fun h0 => ?_⟩
  obtain ⟨b, off, e, hb, hx⟩ := h.2.2.2 h0
  refine ⟨b, off, e, by simpa using hb, fun j hj => ?_⟩
  have hne : b ≠ D := fun e => by
    have := hx j hj
    rw [e] at this
    cases o with
    | cells => cases hc
    | _ => simp [World.cell?, hD] at this
  exact (World.cell?_of_block (World.putObj_heap_other hne)).trans (hx j hj)
def heldGB (gb : Nat) (g : GM) (a : Option Addr) (c : Nat) (W : World) : Prop := W.heap[gb]? = some (.cells (g.arr a c) 39 (0, 0))
theorem heldGB.below {gb : Nat} {g : GM} {a : Option Addr} {c : Nat} {W W' : World} (h : heldGB gb g a c W) (hB : Below W.heap.size W W') : heldGB gb g a c W' := (hB.block _ (heap_lt h)).trans h
/-- A group is appended to the row. -/
theorem gall_step {w W w2 w4 : World} {B0 B1 L Xb n : Nat} {pre : List GM} {v : Value} {Gs : List GV} {g0 : GM} {a0 : Option Addr} {c0 : Nat} {tmp : Obj} {g' cap' : Nat} (hB : Below w.heap.size w W) (hBB : w.heap.size < B1) (hs : B1 ≤ W.heap.size) (hv : Boxed W w.heap.size 35 v)
    (hGs : Gs.map GV.g = pre) (hrow : W.ownsRow B1 39 7 v pre.length (gvCells Gs)) (hall : ∀ x, x ∈ Gs → HasG W x.a x.g ∧ (x.g.l.length ≤ x.c ∧ ∀ k, inG x k → B1 ≤ k ∧ some k ≠ v.ownBlock)) (hB2 : Below W.heap.size W w2) (x : GV) (hG : HasG w2 x.a x.g) (hle : x.g.l.length ≤ x.c) (hnew : ∀ k, inG x k → W.heap.size ≤ k)
    (hHeld0 : heldGB Xb g0 a0 c0 w2) (hxw : w.heap.size < Xb) (hXv : some Xb ≠ v.ownBlock) (hown : w4.ownsRow B1 39 7 (.slice (some ⟨g', 0, none⟩) n cap') (pre.length + 1) (gvCells Gs ++ (x.g.arr x.a x.c).toList)) (hgrow : (w2.alloc tmp).grownBy w4 v.ownBlock) (hlies : v.ownBlock = some g' ∨ g' = (w2.alloc tmp).heap.size) :
    heldGB Xb g0 a0 c0 w4 ∧ Boxed w4 w.heap.size 35 v ∧ heldGB Xb g0 a0 c0 (w4.setCell ⟨w.heap.size, 0, none⟩ (.slice (some ⟨g', 0, none⟩) n cap')) ∧ Rd B0 (fun j => (j < B1 ∧ ¬ (j = w.heap.size)) ∧ j ≠ L) W (w4.setCell ⟨w.heap.size, 0, none⟩ (.slice (some ⟨g', 0, none⟩) n cap')) ∧ gallV w w.heap.size B1 (pre ++ [x.g]) (.slice (some ⟨g', 0, none⟩) n cap') (w4.setCell ⟨w.heap.size, 0, none⟩ (.slice (some ⟨g', 0, none⟩) n cap')) := by
  have hv2 : Boxed w2 w.heap.size 35 v := (hB2.block _ (heap_lt hv)).trans hv
  have hrow2 := ownsRow_below (n := 0) hrow hB2
  obtain ⟨a1, a2, a3, a4, a5, a6⟩ := app_allM (B0 := B0) (L := L) (by decide) (bel2 hB hB2) hBB (Nat.le_trans hs hB2.size) hv2 hrow2 hown hgrow
  have hFg : FrameT (fun k => some k = v.ownBlock) w2 w4 := (FrameT.below (bel_alloc (Below.refl w2.heap.size w2) tmp)).trans ⟨hgrow.os, hgrow.tape, hgrow.output, hgrow.size, fun k hk hT => hgrow.block k hk hT⟩
  have hF : FrameT (fun k => some k = v.ownBlock ∨ k = w.heap.size) w2 (w4.setCell ⟨w.heap.size, 0, none⟩ (.slice (some ⟨g', 0, none⟩) n cap')) := (hFg.mono fun _ h => .inl h).trans ((FrameT.setCell w4 w.heap.size 0 _).mono fun _ h => .inr h)
  have hvb : ∀ k, some k = v.ownBlock → B1 ≤ k ∧ k < W.heap.size := fun k hk => ownBlock_ltA hrow hk
  have hF4 : FrameT (fun k => some k = v.ownBlock ∨ k = w.heap.size) w2 w4 := hFg.mono fun _ h => .inl h
  have hHf : ∀ {Z : World}, FrameT (fun k => some k = v.ownBlock ∨ k = w.heap.size) w2 Z → heldGB Xb g0 a0 c0 Z := fun hF => hF.get hHeld0 (fun h => by
      rcases h with h | h
      · exact hXv h
      · omega)
  have hnv : ∀ k, k < w2.heap.size → some k ≠ v.ownBlock → some k ≠ (Value.slice (some ⟨g', 0, none⟩) n cap').ownBlock := fun k hk h1 e => by
    have e' : k = g' := Option.some.inj e
    rcases hlies with h | h
    · exact h1 (by rw [e', h])
    · rw [h, World.size_alloc] at e'; omega
  refine ⟨hHf hF4, a2, hHf hF, (Rd.below hB2).trans a6, a4, ⟨Gs ++ [x], by rw [List.map_append, hGs]; rfl, by rw [List.length_append, gvCells_snoc]; exact a5, fun y hy => ?_⟩, a3, by have h1 := hF.size; have h2 := hB2.size; omega⟩
  rcases List.mem_append.1 hy with hy | hy
  · obtain ⟨y1, y2, y3⟩ := hall y hy
    refine ⟨hasG_frame (y1.below hB2) hF (fun k hk h => ?_), y2, fun k hk => ⟨(y3 k hk).1, hnv k (inBlkE_lt (y1.below hB2).2 hk) (y3 k hk).2⟩⟩
    rcases h with h | h
    · exact (y3 k hk).2 h
    · have := (y3 k hk).1; omega
  · rw [List.mem_singleton] at hy
    subst hy
    have hkv : ∀ k, inG y k → some k ≠ v.ownBlock := fun k hk e => by have := hnew k hk; have := (hvb k e).2; omega
    refine ⟨hasG_frame hG hF (fun k hk h => ?_), hle, fun k hk => ⟨by have := hnew k hk; omega, hnv k (inBlkE_lt hG.2 hk) (hkv k hk)⟩⟩
    rcases h with h | h
    · exact hkv k hk h
    · have := hnew k hk; omega
/-- What All tells. -/
def AllPost (w : World) (L : List GM) (e : Ending) (w' : World) : Prop := ∃ v Gs, e = .returned v ∧ (Gs : List GV).map GV.g = L ∧ w'.ownsRow w.heap.size 39 7 v L.length (gvCells Gs) ∧ (∀ x, x ∈ Gs → HasG w' x.a x.g ∧ x.g.l.length ≤ x.c) ∧ Below w.heap.size w w'
set_option maxRecDepth 100000 in
set_option maxHeartbeats 1000000 in
theorem gall_any {w : World} {d m : Nat} {F : List GV} (h : ManAt w d m F) (hF : F.length ≤ 1000) (hr : RisZ GV.id F) (hid : ∀ x ∈ F, 0 ≤ x.id ∧ x.id ≤ 999) :
    Calls Tryz.prog 8 #[.pointer (some ⟨d, 0, none⟩)] w (AllPost w (F.map GV.g)) := by
  obtain ⟨i0, hi, hz0, hz1, hz2⟩ := info_parts infoGrpM
  have hmx : Tryz.prog.follows .mixedOrders = true := by kernel_rfl
  refine (callsIn_wide (n := 9)).1 ?_
  refine callsIn_of_wp_marks Tryz.func8 rfl trivial ?_ rfl
  simp only [Tryz.ntmps8, List.size_toArray, List.length_cons, List.length_nil, Nat.reduceAdd, Nat.reduceSub, Array.replicate_succ, Array.replicate_zero, List.push_toArray, List.append_toArray, List.nil_append, List.cons_append]
  have bO := Boxed.new w 35 (.slice none 0 0)
  have hB0 : Below w.heap.size w (w.alloc (.cells #[.slice none 0 0] 35)) := (Below.refl _ w).alloc (Nat.le_refl _) _
  have hsz : (w.alloc (.cells #[.slice none 0 0] 35)).heap.size = w.heap.size + 1 := by simp
  have HD := Lib.hid h
  have HB0 := Lib.hid hB0
  have HbO := Lib.hid bO
  have HSz := Lib.hid hsz
  clear h hB0 bO hsz
  gi_wp2_with (gi_at_call 14; refine (callsIn_wide.2 (gorder_any d _)).mono ?_; rintro e w1 ⟨rfl, rfl⟩)
  obtain ⟨w1, hw1⟩ : ∃ w1, w1 = (w.alloc (.cells #[.slice none 0 0] 35)).alloc (.cells #[.pointer (some ⟨d, 0, none⟩)] 23) := ⟨_, rfl⟩
  rw [← hw1]
  have hB1 : Below w.heap.size w w1 := by rw [hw1]; exact bel_alloc HB0.out _
  have bO1 : Boxed w1 w.heap.size 35 (.slice none 0 0) := by rw [hw1]; exact HbO.out.alloc _
  have cb : w1.cell? ⟨w.heap.size + 1, 0, none⟩ = some (.pointer (some ⟨d, 0, none⟩)) := by
    have := (Boxed.new (w.alloc (.cells #[.slice none 0 0] 35)) 23 (.pointer (some ⟨d, 0, none⟩))).cell
    rw [hw1]; rwa [World.size_alloc] at this
  have hsz1 : w1.heap.size = w.heap.size + 2 := by rw [hw1]; simp
  clear hw1
  have hdl := heap_lt HD.out.1
  have hml := HD.out.2.map.lt
  have HI := Lib.hid (gorder_iter HD.out (by omega) hr hid (w.heap.size + 1) (fun _ => True) (fun k => k = w.heap.size) w1 hB1 cb ⟨trivial, trivial, trivial⟩ ⟨by omega, by omega, by omega⟩ (fun k hk => by omega) (by omega))
  clear cb
  refine range_outerV rfl (enters_of Tryz.func22 (by kernel_rfl) rfl) HI.out (fun _ => rfl)
    (fun B1 pre W => gallI w w.heap.size B1 (pre.map GV.g) W) (fun _ _ _ => False) (fun _ _ => gallI_stab hB1.size) (fun _ _ => Stab.pure _)
    (fun W1 hb => ⟨_, boxed_below bO1 hb (by omega), ⟨[], rfl, World.ownsRow_nil _ _ _ _, fun x hx => by cases hx⟩, hB1.trans (hb.mono hB1.size), Nat.le_refl _⟩) ?hr ?hd (fun _ _ _ _ _ _ h => h.elim)
  case hr =>
    rintro B1 L pre x suf W hBB hx hl' hi1 hrec
    have hpl : pre.length < 1000 := by have h1 := congrArg List.length hx; simp at h1; omega
    have hxF : x ∈ F := by rw [hx]; simp
    obtain ⟨g, ga, gc⟩ := x
    obtain ⟨v, hv⟩ := hi1
    have hgx : HasG W ga g := ((HD.out.2.below hv.2.2.1).has _ hxF)
    obtain ⟨id, fi, te, ht, hvv, hc, gl⟩ := g
    dsimp only [GM.val, GV.val] at *
    gi_wp2
    refine rdThen_mk (fun W' => gallV w w.heap.size B1 (pre.map GV.g) v W' ∧ (W'.heap[W.heap.size]? = some (.cells #[.int .i64 id, .int .i64 fi, .int .i64 te, .int .i64 ht, .int .i64 hvv, .int .i64 hc, .slice ga gl.length gc] 39 (0, 0)) ∧ HasG W' ga ⟨id, fi, te, ht, hvv, hc, gl⟩))
      ((gallV_stab hB1.size).and ((Stab.block (fun h => h) (.inr rfl)).and hasG_stab)) ⟨gallV_stab hB1.size _ _ hv (Moves.alloc _ _), World.alloc_heap_new W _, hgx.below (bel_alloc (Below.refl _ _) _)⟩ ((Rd.refl _ _ _).alloc _) ?_
    have hXv : some W.heap.size ≠ v.ownBlock := fun e => by obtain ⟨Gs, _, hrow, _⟩ := hv.2.1; have := (ownBlock_ltA hrow e).2; omega
    have hXB : B1 ≤ W.heap.size := hv.2.2.2
    clear hv hgx hrec
    obtain ⟨Xb, hXb⟩ : ∃ Xb, Xb = W.heap.size := ⟨_, rfl⟩
    rw [← hXb] at hXv hXB ⊢
    clear hXb W
    rintro W ⟨⟨hv, ⟨Gs, hGs, hrow, hall⟩, hB, hs⟩, hblk, hgx⟩ hrec
    have HGs := Lib.hid hGs
    have HALL := Lib.hid hall
    have HBK := Lib.hid hblk
    have HHG := Lib.hid hgx
    have HXV := Lib.hid hXv
    have HV := Lib.hid hv
    have HROW := Lib.hid hrow
    have HB := Lib.hid hB
    have HPL := Lib.hid (show (pre.map GV.g).length = pre.length from List.length_map _)
    have HH2 := Lib.hid (fun (w2 : World) (hB' : Below W.heap.size W w2) => (show heldGB Xb ⟨id, fi, te, ht, hvv, hc, gl⟩ ga gc w2 from (hB'.block _ (heap_lt hblk)).trans hblk))
    have GO := Lib.hid (fun W' (hB' : Below W.heap.size W W') => own2_any ⟨id, fi, te, ht, hvv, hc, gl⟩ ga gc W' (hgx.below hB'))
    have hcd : W.drew.cell? ⟨w.heap.size, 0, none⟩ = some v := hv.cell
    have hfd := hv.frozen
    have hS0 : heldGB Xb ⟨id, fi, te, ht, hvv, hc, gl⟩ ga gc W.drew := hblk
    have hxw : w.heap.size < Xb := by omega
    clear hx hxF hall hgx hGs hblk hXv hrow hB
    gi_wp2
    refine wpIn_of_heldM (S := heldGB Xb ⟨id, fi, te, ht, hvv, hc, gl⟩ ga gc) hmx (by kernel_rfl) ⟨_, rfl⟩ hS0 (fun hHeld => ?_)
    refine wpAnyH_take (i := 1) (v := .agg #[.int .i64 id, .int .i64 fi, .int .i64 te, .int .i64 ht, .int .i64 hvv, .int .i64 hc, .slice ga gl.length gc]) rfl (by kernel_rfl) (by kernel_rfl) (by kernel_rfl) (fun _ _ _ h => absurd h.1 (by simp)) (Or.inl ⟨by rfl, fun w hSw => by obtain ⟨g0, g1, g2, g3, g4, g5, g6, fg⟩ := cells7 hSw; go_simp⟩) hHeld ?_
    try simp only [Act.put, List.getElem_toArray, List.getElem_cons_succ, List.getElem_cons_zero, List.setIfInBounds_toArray, List.set_cons_zero, List.set_cons_succ]
    refine wpAnyH_ready (rs := [0, 2]) (by kernel_rfl) (by simp) ?_
    refine AllReadyH.cons rfl (fun K hK => ?_) (AllReadyH.cons rfl (fun K hK => ?_) AllReadyH.nil)
    · go_simp
      refine hK.out _ _ hHeld (fun hHeld => ?_)
      clear hK K
      try simp only [Act.put, List.getElem_toArray, List.getElem_cons_succ, List.getElem_cons_zero, List.setIfInBounds_toArray, List.set_cons_zero, List.set_cons_succ]
      refine wpAnyH_ready (rs := [2]) (by kernel_rfl) (by simp) ?_
      refine AllReadyH.cons rfl (fun K hK => ?_) AllReadyH.nil
      go_simp
      refine (GO.out _ (Below.refl W.heap.size W).drew).mono ?_
      rintro e w2 ⟨a', c', rfl, hG', hle, hB2, hnew⟩
      refine hK.out _ _ (hHeld.below hB2) (fun hHeld => ?_)
      clear hK K
      try simp only [Act.put, List.getElem_toArray, List.getElem_cons_succ, List.getElem_cons_zero, List.setIfInBounds_toArray, List.set_cons_zero, List.set_cons_succ]
      have hB2' : Below W.heap.size W w2 := (Below.refl W.heap.size W).drew.trans hB2
      have hcd2 : w2.cell? ⟨w.heap.size, 0, none⟩ = some v := (hB2'.cell (p := ⟨w.heap.size, 0, none⟩) (heap_lt HV.out)).trans HV.out.cell
      have hcd3 : (w2.alloc (.cells #[.int .i64 id, .int .i64 fi, .int .i64 te, .int .i64 ht, .int .i64 hvv, .int .i64 hc, .slice a' gl.length c'] 39)).cell? ⟨w.heap.size, 0, none⟩ = some v := ((bel_alloc (Below.refl w2.heap.size w2) _).cell (p := ⟨w.heap.size, 0, none⟩) (Nat.lt_of_lt_of_le (heap_lt HV.out) hB2'.size)).trans hcd2
      have hs2 : B1 ≤ w2.heap.size := Nat.le_trans hs hB2'.size
      have HROW3 := Lib.hid ((ownsRow_below (n := 0) HROW.out hB2').alloc (.cells #[.int .i64 id, .int .i64 fi, .int .i64 te, .int .i64 ht, .int .i64 hvv, .int .i64 hc, .slice a' gl.length c'] 39))
      refine wpAnyH_ready (rs := [3]) (by kernel_rfl) (by simp) ?_
      refine AllReadyH.cons rfl (fun K hK => ?_) AllReadyH.nil
      go_simp
      refine hK.out _ _ (hHeld.below (bel_alloc (Below.refl _ _) _)) (fun hHeld => ?_)
      clear hK K
      try simp only [Act.put, List.getElem_toArray, List.getElem_cons_succ, List.getElem_cons_zero, List.setIfInBounds_toArray, List.set_cons_zero, List.set_cons_succ]
      refine wpAnyH_ready (rs := [4]) (by kernel_rfl) (by simp) ?_
      refine AllReadyH.cons rfl (fun K hK => ?_) AllReadyH.nil
      refine step_append_lies _ rfl _ _ 35 rfl B1 39 i0 (.agg #[.int .i64 0, .int .i64 0, .int .i64 0, .int .i64 0, .int .i64 0, .int .i64 0, .slice none 0 0]) 7 72 Tryz.underlying35 hi hz0 hz1 hz2 rfl (by decide) _ _ _ rfl HROW3.out ⟨w2.heap.size, 0, none⟩ 1 1 [.int .i64 id, .int .i64 fi, .int .i64 te, .int .i64 ht, .int .i64 hvv, .int .i64 hc, .slice a' gl.length c'] rfl rfl (gnews_new _ _ _) (by simp [Value.oneCell']) (by omega) (by rw [HPL.out]; unfold maxLen; omega) (by rw [HPL.out]; omega) (by simp; omega) _ rfl ?_
      intro g' cap' w4 hown4 hgrow4 hlies4 _
      have hA := (gall_step (B0 := w.heap.size + 2) (L := L) HB.out (show w.heap.size < B1 by omega) hs HV.out HGs.out HROW.out HALL.out hB2' ⟨⟨id, fi, te, ht, hvv, hc, gl⟩, a', c'⟩ hG' hle hnew (hHeld0 := HH2.out _ hB2') hxw HXV.out hown4 hgrow4 hlies4)
      simp only [List.length_map] at hA
      have HA := Lib.hid hA
      clear hA
      refine hK.out _ _ HA.out.1 (fun hHeld => ?_)
      clear hK K
      try simp only [Act.put, List.getElem_toArray, List.getElem_cons_succ, List.getElem_cons_zero, List.setIfInBounds_toArray, List.set_cons_zero, List.set_cons_succ]
      have hc2 := HA.out.2.1.cell
      have hf2 := HA.out.2.1.frozen
      refine wpAnyH_ready (rs := [5]) (by kernel_rfl) (by simp) ?_
      refine AllReadyH.cons rfl (fun K hK => ?_) AllReadyH.nil
      go_simp
      refine hK.out _ _ HA.out.2.2.1 (fun hHeld => ?_)
      clear hK K
      try simp only [Act.put, List.getElem_toArray, List.getElem_cons_succ, List.getElem_cons_zero, List.setIfInBounds_toArray, List.set_cons_zero, List.set_cons_succ]
      refine wpAnyH_done (by kernel_rfl) ?_ _
      refine onlyNormal_mk ?_
      gi_wp2
      exact ⟨by have h := HA.out.2.2.2.1; first | exact h | (rw [← hsz1] at h; exact h) | (rw [hsz1]; exact h), by show gallI w w.heap.size B1 ((pre ++ [_]).map GV.g) _; rw [List.map_append]; exact ⟨_, HA.out.2.2.2.2⟩⟩
    · go_simp
      refine (GO.out _ (Below.refl W.heap.size W).drew).mono ?_
      rintro e w2 ⟨a', c', rfl, hG', hle, hB2, hnew⟩
      refine hK.out _ _ (hHeld.below hB2) (fun hHeld => ?_)
      clear hK K
      try simp only [Act.put, List.getElem_toArray, List.getElem_cons_succ, List.getElem_cons_zero, List.setIfInBounds_toArray, List.set_cons_zero, List.set_cons_succ]
      have hB2' : Below W.heap.size W w2 := (Below.refl W.heap.size W).drew.trans hB2
      have hcd2 : w2.cell? ⟨w.heap.size, 0, none⟩ = some v := (hB2'.cell (p := ⟨w.heap.size, 0, none⟩) (heap_lt HV.out)).trans HV.out.cell
      have hcd3 : (w2.alloc (.cells #[.int .i64 id, .int .i64 fi, .int .i64 te, .int .i64 ht, .int .i64 hvv, .int .i64 hc, .slice a' gl.length c'] 39)).cell? ⟨w.heap.size, 0, none⟩ = some v := ((bel_alloc (Below.refl w2.heap.size w2) _).cell (p := ⟨w.heap.size, 0, none⟩) (Nat.lt_of_lt_of_le (heap_lt HV.out) hB2'.size)).trans hcd2
      have hs2 : B1 ≤ w2.heap.size := Nat.le_trans hs hB2'.size
      have HROW3 := Lib.hid ((ownsRow_below (n := 0) HROW.out hB2').alloc (.cells #[.int .i64 id, .int .i64 fi, .int .i64 te, .int .i64 ht, .int .i64 hvv, .int .i64 hc, .slice a' gl.length c'] 39))
      refine wpAnyH_ready (rs := [0, 3]) (by kernel_rfl) (by simp) ?_
      refine AllReadyH.cons rfl (fun K hK => ?_) (AllReadyH.cons rfl (fun K hK => ?_) AllReadyH.nil)
      · go_simp
        refine hK.out _ _ hHeld (fun hHeld => ?_)
        clear hK K
        try simp only [Act.put, List.getElem_toArray, List.getElem_cons_succ, List.getElem_cons_zero, List.setIfInBounds_toArray, List.set_cons_zero, List.set_cons_succ]
        refine wpAnyH_ready (rs := [3]) (by kernel_rfl) (by simp) ?_
        refine AllReadyH.cons rfl (fun K hK => ?_) AllReadyH.nil
        go_simp
        refine hK.out _ _ (hHeld.below (bel_alloc (Below.refl _ _) _)) (fun hHeld => ?_)
        clear hK K
        try simp only [Act.put, List.getElem_toArray, List.getElem_cons_succ, List.getElem_cons_zero, List.setIfInBounds_toArray, List.set_cons_zero, List.set_cons_succ]
        refine wpAnyH_ready (rs := [4]) (by kernel_rfl) (by simp) ?_
        refine AllReadyH.cons rfl (fun K hK => ?_) AllReadyH.nil
        refine step_append_lies _ rfl _ _ 35 rfl B1 39 i0 (.agg #[.int .i64 0, .int .i64 0, .int .i64 0, .int .i64 0, .int .i64 0, .int .i64 0, .slice none 0 0]) 7 72 Tryz.underlying35 hi hz0 hz1 hz2 rfl (by decide) _ _ _ rfl HROW3.out ⟨w2.heap.size, 0, none⟩ 1 1 [.int .i64 id, .int .i64 fi, .int .i64 te, .int .i64 ht, .int .i64 hvv, .int .i64 hc, .slice a' gl.length c'] rfl rfl (gnews_new _ _ _) (by simp [Value.oneCell']) (by omega) (by rw [HPL.out]; unfold maxLen; omega) (by rw [HPL.out]; omega) (by simp; omega) _ rfl ?_
        intro g' cap' w4 hown4 hgrow4 hlies4 _
        have hA := (gall_step (B0 := w.heap.size + 2) (L := L) HB.out (show w.heap.size < B1 by omega) hs HV.out HGs.out HROW.out HALL.out hB2' ⟨⟨id, fi, te, ht, hvv, hc, gl⟩, a', c'⟩ hG' hle hnew (hHeld0 := HH2.out _ hB2') hxw HXV.out hown4 hgrow4 hlies4)
        simp only [List.length_map] at hA
        have HA := Lib.hid hA
        clear hA
        refine hK.out _ _ HA.out.1 (fun hHeld => ?_)
        clear hK K
        try simp only [Act.put, List.getElem_toArray, List.getElem_cons_succ, List.getElem_cons_zero, List.setIfInBounds_toArray, List.set_cons_zero, List.set_cons_succ]
        have hc2 := HA.out.2.1.cell
        have hf2 := HA.out.2.1.frozen
        refine wpAnyH_ready (rs := [5]) (by kernel_rfl) (by simp) ?_
        refine AllReadyH.cons rfl (fun K hK => ?_) AllReadyH.nil
        go_simp
        refine hK.out _ _ HA.out.2.2.1 (fun hHeld => ?_)
        clear hK K
        try simp only [Act.put, List.getElem_toArray, List.getElem_cons_succ, List.getElem_cons_zero, List.setIfInBounds_toArray, List.set_cons_zero, List.set_cons_succ]
        refine wpAnyH_done (by kernel_rfl) ?_ _
        refine onlyNormal_mk ?_
        gi_wp2
        exact ⟨by have h := HA.out.2.2.2.1; first | exact h | (rw [← hsz1] at h; exact h) | (rw [hsz1]; exact h), by show gallI w w.heap.size B1 ((pre ++ [_]).map GV.g) _; rw [List.map_append]; exact ⟨_, HA.out.2.2.2.2⟩⟩
      · go_simp
        refine hK.out _ _ (hHeld.below (bel_alloc (Below.refl _ _) _)) (fun hHeld => ?_)
        clear hK K
        try simp only [Act.put, List.getElem_toArray, List.getElem_cons_succ, List.getElem_cons_zero, List.setIfInBounds_toArray, List.set_cons_zero, List.set_cons_succ]
        refine wpAnyH_ready (rs := [0]) (by kernel_rfl) (by simp) ?_
        refine AllReadyH.cons rfl (fun K hK => ?_) AllReadyH.nil
        go_simp
        refine hK.out _ _ hHeld (fun hHeld => ?_)
        clear hK K
        try simp only [Act.put, List.getElem_toArray, List.getElem_cons_succ, List.getElem_cons_zero, List.setIfInBounds_toArray, List.set_cons_zero, List.set_cons_succ]
        refine wpAnyH_ready (rs := [4]) (by kernel_rfl) (by simp) ?_
        refine AllReadyH.cons rfl (fun K hK => ?_) AllReadyH.nil
        refine step_append_lies _ rfl _ _ 35 rfl B1 39 i0 (.agg #[.int .i64 0, .int .i64 0, .int .i64 0, .int .i64 0, .int .i64 0, .int .i64 0, .slice none 0 0]) 7 72 Tryz.underlying35 hi hz0 hz1 hz2 rfl (by decide) _ _ _ rfl HROW3.out ⟨w2.heap.size, 0, none⟩ 1 1 [.int .i64 id, .int .i64 fi, .int .i64 te, .int .i64 ht, .int .i64 hvv, .int .i64 hc, .slice a' gl.length c'] rfl rfl (gnews_new _ _ _) (by simp [Value.oneCell']) (by omega) (by rw [HPL.out]; unfold maxLen; omega) (by rw [HPL.out]; omega) (by simp; omega) _ rfl ?_
        intro g' cap' w4 hown4 hgrow4 hlies4 _
        have hA := (gall_step (B0 := w.heap.size + 2) (L := L) HB.out (show w.heap.size < B1 by omega) hs HV.out HGs.out HROW.out HALL.out hB2' ⟨⟨id, fi, te, ht, hvv, hc, gl⟩, a', c'⟩ hG' hle hnew (hHeld0 := HH2.out _ hB2') hxw HXV.out hown4 hgrow4 hlies4)
        simp only [List.length_map] at hA
        have HA := Lib.hid hA
        clear hA
        refine hK.out _ _ HA.out.1 (fun hHeld => ?_)
        clear hK K
        try simp only [Act.put, List.getElem_toArray, List.getElem_cons_succ, List.getElem_cons_zero, List.setIfInBounds_toArray, List.set_cons_zero, List.set_cons_succ]
        have hc2 := HA.out.2.1.cell
        have hf2 := HA.out.2.1.frozen
        refine wpAnyH_ready (rs := [5]) (by kernel_rfl) (by simp) ?_
        refine AllReadyH.cons rfl (fun K hK => ?_) AllReadyH.nil
        go_simp
        refine hK.out _ _ HA.out.2.2.1 (fun hHeld => ?_)
        clear hK K
        try simp only [Act.put, List.getElem_toArray, List.getElem_cons_succ, List.getElem_cons_zero, List.setIfInBounds_toArray, List.set_cons_zero, List.set_cons_succ]
        refine wpAnyH_done (by kernel_rfl) ?_ _
        refine onlyNormal_mk ?_
        gi_wp2
        exact ⟨by have h := HA.out.2.2.2.1; first | exact h | (rw [← hsz1] at h; exact h) | (rw [hsz1]; exact h), by show gallI w w.heap.size B1 ((pre ++ [_]).map GV.g) _; rw [List.map_append]; exact ⟨_, HA.out.2.2.2.2⟩⟩
    done
  case hd =>
    rintro B1 W hBB ⟨v, hv, ⟨Gs, hGs, hrow, hall⟩, hB, hs⟩ hD
    have hc := hv.cell
    have hw1 : w.heap.size ≤ w1.heap.size := hB1.size
    have HR := Lib.hid (own_baseM (ownsRow_keptM hrow hD rfl (.deferred none)) (show w.heap.size ≤ B1 by omega))
    have HB2 := Lib.hid (below_putObj (D := w1.heap.size) hB (Nat.le_refl _) hw1 (.deferred none))
    have HA := Lib.hid (fun x (hx : x ∈ Gs) => (And.intro (hasG_put (hall x hx).1 hD rfl (.deferred none)) (hall x hx).2.1))
    clear hrow hB hall
    gi_wp2
    exact leave_one (v := v) hD (by simp [results, Tryz.results8, go_sem]) ⟨v, Gs, rfl, hGs, by rw [List.length_map] at *; exact HR.out, HA.out, HB2.out⟩
end Go.Proofs.YthedmemkckclpaaGreat
