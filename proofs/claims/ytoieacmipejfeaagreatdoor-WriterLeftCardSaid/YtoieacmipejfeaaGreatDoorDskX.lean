/- DskL, DskP, DskK, DskQ, DskT, DskV, DskW, DskX: in one text. -/
import Derived.Test.YtoieacmipejfeaaGreatDoorDskI
import Derived.Test.YtoieacmipejfeaaGreatDoorRegion
import Derived.Deep.RegionHeld3
import Derived.Deep.AppendLies
import Derived.WalkSpells
import Derived.Laws.IdiomStrings
import Derived.Deep.RegionHeld
/- The contract of a disk's All. -/
namespace Go.Proofs.YtoieacmipejfeaaGreatDoor
open Go.RowKit Go.Shelf
set_option linter.unusedVariables false
attribute [local go_sem] Oper.semAt_some wide_fn wide_round_fn

def PF.cells (f : PF) : List Value := [.string f.n, .string ⟨f.b.toArray⟩, .int .i64 f.k]
def pfCells (L : List PF) : List Value := L.flatMap PF.cells
theorem pfCells_snoc (L : List PF) (f : PF) : pfCells (L ++ [f]) = pfCells L ++ f.cells := by simp [pfCells]
theorem infoFile : (Tryz.prog.info? 90).map (fun i => (i.zero, i.size, i.bytes)) = some (some (.agg #[.string ⟨#[]⟩, .string ⟨#[]⟩, .int .i64 0]), 3, 40) := by kernel_rfl
theorem order_any (d : Nat) (W : World) : Calls Tryz.prog 49 #[.pointer (some ⟨d, 0, none⟩)] W fun e w' => e = .returned (.func (.func 66) #[] #[.pointer (some ⟨W.heap.size, 0, none⟩)]) ∧ w' = W.alloc (.cells #[.pointer (some ⟨d, 0, none⟩)] 25) := by
  go_enter Tryz.func49, Tryz.ntmps49
  go_wp2
  go_ret
  exact ⟨rfl, rfl⟩
theorem fnews_new (w : World) (e : TypeId) (news : List Value) : ∀ j u, news[j]? = some u → (w.alloc (.cells news.toArray e)).cell? ((⟨w.heap.size, 0, none⟩ : Addr).add j) = some u := fun j u h =>
  World.news_of_block (heap_alloc_new w _) j u (by simpa using h)
theorem ownsRow_kept {W : World} {base : Nat} {e : TypeId} {size : Nat} {v : Value} {k : Nat} {xs : List Value} (h : W.ownsRow base e size v k xs) {D : Nat} {o : Obj} (hD : W.heap[D]? = some o) (hc : o.isCells = false) (o' : Obj) : (W.putObj D o').ownsRow base e size v k xs := by
  refine ⟨h.1, ?_⟩
  rcases h.2 with h2 | ⟨g, cap, cur, hv, hg, hh, r⟩
  · exact .inl h2
  · refine .inr ⟨g, cap, cur, hv, hg, (World.putObj_heap_other (fun e => ?_)).trans hh, r⟩
    rw [e, hD] at hh
    cases hh
    cases hc
theorem wpIn_of_held {F : Fence} {n : Nat} {P : Program} {id : Nat} {Q : Exit → Act → World → Prop} {a : Act} {w : World} {l : List Oper} {S : World → Prop} (hm : P.follows .mixedOrders = true) (hd : l.all (fun o => !isDefer o.op) = true) (hF : ∃ ro, F = { Fence.wide with round := ro }) (hS : S w.drew)
    (h : S w.drew → wpAnyH P .any l.toArray (onlyNormal Q) S l.toArray.size (Array.replicate l.toArray.size false) a w.drew) : (Code.region id l.toArray true).wpIn F n P Q a w := by
  refine wpIn_region_any hm (anyIn_of_plain hF (fun i o ho => ?_) _ _ _ _ (wpAny_of_held _ _ _ _ (h hS)))
  have hmem : o ∈ l := by
    simp only [List.getElem?_toArray] at ho
    exact List.mem_of_getElem? ho
  have := List.all_eq_true.1 hd o hmem
  simpa using this
/-- What a round reads of a file. -/
def heldS (x : FileC) (a : Option Addr) (cap : Nat) (W : World) : Prop := W.cell? ⟨x.fb, 0, none⟩ = some (.slice a x.b.length cap) ∧ W.cell? ⟨x.fb, 1, none⟩ = some (.int .i64 x.k) ∧ (convert 55 9 (.slice a x.b.length cap)).run Tryz.prog W = .ok (.string ⟨x.b.toArray⟩) W
theorem heldS_of {w W : World} {B d m : Nat} {D : PD} {F : List FileC} (h : HasDisk w B d m D F) {x : FileC} (hx : x ∈ F) {a : Option Addr} {cap : Nat} (hv : x.v = .slice a x.b.length cap) (hB : Below w.heap.size w W) : heldS x a cap W := by
  obtain ⟨hfc, hfr, -⟩ := (h.below hB).file x hx
  rw [hv] at hfc hfr
  obtain ⟨k0, k1, -, -⟩ := cells2 hfc
  exact ⟨k0, k1, run_string_G Tryz.underlying55 Tryz.underlying5 Tryz.underlying9 hfr⟩
theorem app_all {w W w2 : World} {t e : TypeId} {sz B0 B1 n k L : Nat} {v v' : Value} {xs ys : List Value} {tmp : Obj} (hte : t ≠ e) (hB : Below w.heap.size w W) (hBB : w.heap.size < B1) (hs : B1 ≤ W.heap.size) (hv : Boxed W w.heap.size t v) (hrow : W.ownsRow B1 e sz v n xs)
    (hown' : w2.ownsRow B1 e sz v' k ys) (hgrow : (W.drew.alloc tmp).grownBy w2 v.ownBlock) :
    Below w.heap.size w w2 ∧ Boxed w2 w.heap.size t v ∧ Below w.heap.size w (w2.setCell ⟨w.heap.size, 0, none⟩ v') ∧ Boxed (w2.setCell ⟨w.heap.size, 0, none⟩ v') w.heap.size t v' ∧ (w2.setCell ⟨w.heap.size, 0, none⟩ v').ownsRow B1 e sz v' k ys ∧ Rd B0 (fun j => (j < B1 ∧ ¬ (j = w.heap.size)) ∧ j ≠ L) W (w2.setCell ⟨w.heap.size, 0, none⟩ v') := by
  obtain ⟨h1, h2, h3, h4, h5⟩ := boxed_appended (W := W.drew) (n₀ := w.heap.size) (base := B1) (B0 := B0) (S := fun j => (j < B1 ∧ ¬ (j = w.heap.size)) ∧ j ≠ L) (show Boxed W.drew w.heap.size t v from hv) hte (show W.drew.ownsRow B1 e sz v n xs from hrow) (by omega) hs (Nat.le_refl _) (fun h => h.1.2 rfl) (fun j hj h => by have := h.1.1; omega) hown' hgrow
  refine ⟨(bel_alloc hB.drew tmp).grown hgrow (by have := (bel_alloc hB.drew tmp).size; exact this) (fun j hj => by have := ownBlock_ge hrow hj; omega), h1, hB.drew.trans h5, h2, h3, ?_⟩
  exact (Rd.refl _ _ W).drew.trans h4
/-- The box q holds a slice that owns ys in blocks from B1 on; nothing that lay in w has turned. -/
def allI (w : World) (q : Nat) (t e : TypeId) (sz B1 n : Nat) (ys : List Value) (W : World) : Prop := ∃ v, Boxed W q t v ∧ W.ownsRow B1 e sz v n ys ∧ Below w.heap.size w W ∧ B1 ≤ W.heap.size
theorem allI_stab {w : World} {q B : Nat} {t e : TypeId} {sz B1 n : Nat} {ys : List Value} (h : w.heap.size ≤ B) : Stab B (fun _ => False) (allI w q t e sz B1 n ys) :=
  Stab.ex fun v => (Stab.boxed id).and ((Stab.ownsRow (fun _ h => h.elim)).and ((Stab.below (Nat.le_refl _) h (fun _ h => h.elim)).and Stab.size))
set_option maxRecDepth 100000 in
set_option maxHeartbeats 1000000 in
theorem all_any {w : World} {B d m : Nat} {D : PD} {F : List FileC} (h : HasDisk w B d m D F) (hF : F.length ≤ 1000) :
    Calls Tryz.prog 47 #[.pointer (some ⟨d, 0, none⟩)] w fun e w' => ∃ v, e = .returned v ∧ w'.ownsRow w.heap.size 90 3 v F.length (pfCells D.L) ∧ Below w.heap.size w w' := by
  obtain ⟨i0, hi, hz0, hz1, hz2⟩ := info_parts infoFile
  have hmx : Tryz.prog.follows .mixedOrders = true := by kernel_rfl
  refine (callsIn_wide (n := 9)).1 ?_
  refine callsIn_of_wp_marks Tryz.func47 rfl trivial ?_ rfl
  simp only [Tryz.ntmps47, List.size_toArray, List.length_cons, List.length_nil, Nat.reduceAdd, Nat.reduceSub, Array.replicate_succ, Array.replicate_zero, List.push_toArray, List.append_toArray, List.nil_append, List.cons_append]
  have bO := Boxed.new w 87 (.slice none 0 0)
  have hB0 : Below w.heap.size w (w.alloc (.cells #[.slice none 0 0] 87)) := (Below.refl _ w).alloc (Nat.le_refl _) _
  have hsz : (w.alloc (.cells #[.slice none 0 0] 87)).heap.size = w.heap.size + 1 := by simp
  have HD := Lib.hid h
  have HL := Lib.hid h.core
  have HB0 := Lib.hid hB0
  have HbO := Lib.hid bO
  have HSz := Lib.hid hsz
  clear h hB0 bO hsz
  gi_wp2_with (gi_at_call 49; refine (callsIn_wide.2 (order_any d _)).mono ?_; rintro e w1 ⟨rfl, rfl⟩)
  obtain ⟨w1, hw1⟩ : ∃ w1, w1 = (w.alloc (.cells #[.slice none 0 0] 87)).alloc (.cells #[.pointer (some ⟨d, 0, none⟩)] 25) := ⟨_, rfl⟩
  rw [← hw1]
  have hB1 : Below w.heap.size w w1 := by rw [hw1]; exact bel_alloc HB0.out _
  have bO1 : Boxed w1 w.heap.size 87 (.slice none 0 0) := by rw [hw1]; exact HbO.out.alloc _
  have cb : w1.cell? ⟨w.heap.size + 1, 0, none⟩ = some (.pointer (some ⟨d, 0, none⟩)) := by
    have := (Boxed.new (w.alloc (.cells #[.slice none 0 0] 87)) 25 (.pointer (some ⟨d, 0, none⟩))).cell
    rw [hw1]; rwa [World.size_alloc] at this
  have hsz1 : w1.heap.size = w.heap.size + 2 := by rw [hw1]; simp
  clear hw1
  have hdl := HD.out.lt (k := d) (.inl rfl)
  have hml := HD.out.lt (k := m) (.inr (.inl rfl))
  have HI := Lib.hid (order_iter HD.out (by omega) (w.heap.size + 1) (fun _ => True) (fun k => k = w.heap.size) w1 hB1 cb ⟨trivial, trivial, trivial⟩ ⟨by omega, by omega, by omega⟩ (fun k hk => by omega) (by omega))
  clear cb
  refine range_outerV rfl (enters_of Tryz.func66 (by kernel_rfl) rfl) HI.out (fun _ => rfl)
    (fun B1 pre W => allI w w.heap.size 87 90 3 B1 pre.length (pfCells (pre.map FileC.core)) W) (fun _ _ _ => False) (fun _ _ => allI_stab hB1.size) (fun _ _ => Stab.pure _)
    (fun W1 hb => ⟨_, boxed_below bO1 hb (by omega), World.ownsRow_nil _ _ _ _, hB1.trans (hb.mono hB1.size), Nat.le_refl _⟩) ?hr ?hd (fun _ _ _ _ _ _ h => h.elim)
  case hr =>
    rintro B1 L pre x suf W hBB hx hl' hi1 hrec
    have hpl : pre.length < 1000 := by have h1 := congrArg List.length hx; simp at h1; omega
    have hxF : x ∈ F := by rw [hx]; simp
    dsimp only [FileC.val]
    gi_wp2
    refine rdThen_mk _ (allI_stab hB1.size) hi1 (Rd.refl _ _ _) ?_
    clear hi1 hrec W
    rintro W ⟨v, hv, hrow, hB, hs⟩ hrec
    have hc := hv.cell
    have hf := hv.frozen
    obtain ⟨hfc, hfr, -⟩ := (HD.out.below hB).file x hxF
    obtain ⟨a, cap, hxv⟩ := own_sliceG hfr
    rw [hxv] at hfc hfr
    obtain ⟨k0, k1, -, -⟩ := cells2 hfc
    have hcv := run_string_G (P := Tryz.prog) (src := 55) (dst := 9) Tryz.underlying55 Tryz.underlying5 Tryz.underlying9 hfr
    have k0d : W.drew.cell? ⟨x.fb, 0, none⟩ = _ := k0
    have k1d : W.drew.cell? ⟨x.fb, 1, none⟩ = _ := k1
    have hcd : W.drew.cell? ⟨w.heap.size, 0, none⟩ = _ := hc
    have hcvd := run_string_G (P := Tryz.prog) (W := W.drew) (src := 55) (dst := 9) Tryz.underlying55 Tryz.underlying5 Tryz.underlying9 (show ownsG W.drew B 5 1 (.slice a x.b.length cap) x.b.length (x.b.map vb) from hfr)
    have hS2 : ∀ W', Below w.heap.size w W' → heldS x a cap W' := fun W' hb => heldS_of HD.out hxF hxv hb
    have hxF' := hxF
    clear hx hxF hfc hfr hxv
    gi_wp2
    have HRow0 := Lib.hid hrow
    have hca := (hv.alloc (.cells #[.string x.n, .string ⟨x.b.toArray⟩, .int .i64 x.k] 90)).cell
    have hBa := bel_alloc hB.drew (.cells #[.string x.n, .string ⟨x.b.toArray⟩, .int .i64 x.k] 90)
    have HB := Lib.hid hB
    have HV := Lib.hid hv
    have HRow := Lib.hid ((show W.drew.ownsRow B1 90 3 v pre.length (pfCells (pre.map FileC.core)) from hrow).alloc (.cells #[.string x.n, .string ⟨x.b.toArray⟩, .int .i64 x.k] 90))
    refine wpIn_of_held (S := heldS x a cap) hmx (by kernel_rfl) ⟨_, rfl⟩ ⟨k0d, k1d, hcvd⟩ (fun hHeld => ?_)
    refine wpAnyH_take (i := 1) (v := .string x.n) rfl (by kernel_rfl) (by kernel_rfl) (by kernel_rfl) (fun _ _ _ h => absurd h.1 (by simp)) (Or.inl ⟨by rfl, fun w hSw => by obtain ⟨s0, s1, s2⟩ := hSw; go_simp⟩) hHeld ?_
    try simp only [Act.put, List.getElem_toArray, List.getElem_cons_succ, List.getElem_cons_zero, List.setIfInBounds_toArray, List.set_cons_zero, List.set_cons_succ]
    refine wpAnyH_take (i := 2) (v := .pointer (some ⟨x.fb, 0, none⟩)) rfl (by kernel_rfl) (by kernel_rfl) (by kernel_rfl) (fun _ _ _ h => absurd h.1 (by simp)) (Or.inl ⟨by rfl, fun w hSw => by obtain ⟨s0, s1, s2⟩ := hSw; go_simp⟩) hHeld ?_
    try simp only [Act.put, List.getElem_toArray, List.getElem_cons_succ, List.getElem_cons_zero, List.setIfInBounds_toArray, List.set_cons_zero, List.set_cons_succ]
    refine wpAnyH_take (i := 3) (v := .pointer (some ⟨x.fb, 0, none⟩)) rfl (by kernel_rfl) (by kernel_rfl) (by kernel_rfl) (fun _ _ _ h => absurd h.1 (by simp)) (Or.inl ⟨by rfl, fun w hSw => by obtain ⟨s0, s1, s2⟩ := hSw; go_simp⟩) hHeld ?_
    try simp only [Act.put, List.getElem_toArray, List.getElem_cons_succ, List.getElem_cons_zero, List.setIfInBounds_toArray, List.set_cons_zero, List.set_cons_succ]
    refine wpAnyH_take (i := 4) (v := .pointer (some ⟨x.fb, 0, none⟩)) rfl (by kernel_rfl) (by kernel_rfl) (by kernel_rfl) (fun _ _ _ h => absurd h.1 (by simp)) (Or.inl ⟨by rfl, fun w hSw => by obtain ⟨s0, s1, s2⟩ := hSw; go_simp⟩) hHeld ?_
    try simp only [Act.put, List.getElem_toArray, List.getElem_cons_succ, List.getElem_cons_zero, List.setIfInBounds_toArray, List.set_cons_zero, List.set_cons_succ]
    refine wpAnyH_take (i := 5) (v := .slice a x.b.length cap) rfl (by kernel_rfl) (by kernel_rfl) (by kernel_rfl) (fun _ _ _ h => absurd h.1 (by simp)) (Or.inl ⟨by rfl, fun w hSw => by obtain ⟨s0, s1, s2⟩ := hSw; go_simp⟩) hHeld ?_
    try simp only [Act.put, List.getElem_toArray, List.getElem_cons_succ, List.getElem_cons_zero, List.setIfInBounds_toArray, List.set_cons_zero, List.set_cons_succ]
    refine wpAnyH_take (i := 6) (v := .string ⟨x.b.toArray⟩) rfl (by kernel_rfl) (by kernel_rfl) (by kernel_rfl) (fun _ _ _ h => absurd h.1 (by simp)) (Or.inl ⟨by rfl, fun w hSw => by obtain ⟨s0, s1, s2⟩ := hSw; go_simp⟩) hHeld ?_
    try simp only [Act.put, List.getElem_toArray, List.getElem_cons_succ, List.getElem_cons_zero, List.setIfInBounds_toArray, List.set_cons_zero, List.set_cons_succ]
    refine wpAnyH_take (i := 7) (v := .pointer (some ⟨x.fb, 0, none⟩)) rfl (by kernel_rfl) (by kernel_rfl) (by kernel_rfl) (fun _ _ _ h => absurd h.1 (by simp)) (Or.inl ⟨by rfl, fun w hSw => by obtain ⟨s0, s1, s2⟩ := hSw; go_simp⟩) hHeld ?_
    try simp only [Act.put, List.getElem_toArray, List.getElem_cons_succ, List.getElem_cons_zero, List.setIfInBounds_toArray, List.set_cons_zero, List.set_cons_succ]
    refine wpAnyH_take (i := 8) (v := .pointer (some ⟨x.fb, 0, none⟩)) rfl (by kernel_rfl) (by kernel_rfl) (by kernel_rfl) (fun _ _ _ h => absurd h.1 (by simp)) (Or.inl ⟨by rfl, fun w hSw => by obtain ⟨s0, s1, s2⟩ := hSw; go_simp⟩) hHeld ?_
    try simp only [Act.put, List.getElem_toArray, List.getElem_cons_succ, List.getElem_cons_zero, List.setIfInBounds_toArray, List.set_cons_zero, List.set_cons_succ]
    refine wpAnyH_take (i := 9) (v := .pointer (some ⟨x.fb, 1, none⟩)) rfl (by kernel_rfl) (by kernel_rfl) (by kernel_rfl) (fun _ _ _ h => absurd h.1 (by simp)) (Or.inl ⟨by rfl, fun w hSw => by obtain ⟨s0, s1, s2⟩ := hSw; go_simp⟩) hHeld ?_
    try simp only [Act.put, List.getElem_toArray, List.getElem_cons_succ, List.getElem_cons_zero, List.setIfInBounds_toArray, List.set_cons_zero, List.set_cons_succ]
    refine wpAnyH_take (i := 10) (v := .int .i64 x.k) rfl (by kernel_rfl) (by kernel_rfl) (by kernel_rfl) (fun _ _ _ h => absurd h.1 (by simp)) (Or.inl ⟨by rfl, fun w hSw => by obtain ⟨s0, s1, s2⟩ := hSw; go_simp⟩) hHeld ?_
    try simp only [Act.put, List.getElem_toArray, List.getElem_cons_succ, List.getElem_cons_zero, List.setIfInBounds_toArray, List.set_cons_zero, List.set_cons_succ]
    refine wpAnyH_take (i := 11) (v := .agg #[.string x.n, .string ⟨x.b.toArray⟩, .int .i64 x.k]) rfl (by kernel_rfl) (by kernel_rfl) (by kernel_rfl) (fun _ _ _ h => absurd h.1 (by simp)) (Or.inl ⟨by rfl, fun w hSw => by obtain ⟨s0, s1, s2⟩ := hSw; go_simp⟩) hHeld ?_
    try simp only [Act.put, List.getElem_toArray, List.getElem_cons_succ, List.getElem_cons_zero, List.setIfInBounds_toArray, List.set_cons_zero, List.set_cons_succ]
    refine wpAnyH_ready (rs := [0, 12]) (by kernel_rfl) (by simp) ?_
    refine AllReadyH.cons rfl (fun K hK => ?_) (AllReadyH.cons rfl (fun K hK => ?_) AllReadyH.nil)
    · go_simp
      refine hK.out _ _ hHeld (fun hHeld => ?_)
      clear hK K
      try simp only [Act.put, List.getElem_toArray, List.getElem_cons_succ, List.getElem_cons_zero, List.setIfInBounds_toArray, List.set_cons_zero, List.set_cons_succ]
      refine wpAnyH_ready (rs := [12]) (by kernel_rfl) (by simp) ?_
      refine AllReadyH.cons rfl (fun K hK => ?_) AllReadyH.nil
      go_simp
      refine hK.out _ _ (hS2 _ hBa) (fun hHeld => ?_)
      clear hK K
      try simp only [Act.put, List.getElem_toArray, List.getElem_cons_succ, List.getElem_cons_zero, List.setIfInBounds_toArray, List.set_cons_zero, List.set_cons_succ]
      refine wpAnyH_ready (rs := [13]) (by kernel_rfl) (by simp) ?_
      refine AllReadyH.cons rfl (fun K hK => ?_) AllReadyH.nil
      refine step_append_lies _ rfl _ _ 87 rfl B1 90 i0 (.agg #[.string ⟨#[]⟩, .string ⟨#[]⟩, .int .i64 0]) 3 40 Tryz.underlying87 hi hz0 hz1 hz2 rfl (by decide) _ _ _ rfl HRow.out ⟨W.drew.heap.size, 0, none⟩ 1 1 [.string x.n, .string ⟨x.b.toArray⟩, .int .i64 x.k] rfl rfl (fnews_new _ _ _) (by simp [Value.oneCell']) (by omega) (by unfold maxLen; omega) (by omega) (by simp; omega) _ rfl ?_
      intro g' cap' w2 hown' hgrow _ _
      have HA := Lib.hid (app_all (t := 87) (e := 90) (B0 := w1.heap.size) (L := L) (by decide) HB.out (by omega) hs HV.out HRow0.out hown' hgrow)
      refine hK.out _ _ (hS2 _ HA.out.1) (fun hHeld => ?_)
      clear hK K
      try simp only [Act.put, List.getElem_toArray, List.getElem_cons_succ, List.getElem_cons_zero, List.setIfInBounds_toArray, List.set_cons_zero, List.set_cons_succ]
      have hq := HA.out.2.1
      have hc2 := hq.cell
      have hf2 := hq.frozen
      refine wpAnyH_ready (rs := [14]) (by kernel_rfl) (by simp) ?_
      refine AllReadyH.cons rfl (fun K hK => ?_) AllReadyH.nil
      go_simp
      refine hK.out _ _ (hS2 _ HA.out.2.2.1) (fun hHeld => ?_)
      clear hK K
      try simp only [Act.put, List.getElem_toArray, List.getElem_cons_succ, List.getElem_cons_zero, List.setIfInBounds_toArray, List.set_cons_zero, List.set_cons_succ]
      refine wpAnyH_done (by kernel_rfl) ?_ _
      refine onlyNormal_mk ?_
      gi_wp2
      refine ⟨HA.out.2.2.2.2.2, _, HA.out.2.2.2.1, ?_, HA.out.2.2.1, ?_⟩
      · rw [List.length_append, List.map_append, List.map_cons, List.map_nil, pfCells_snoc]; exact HA.out.2.2.2.2.1
      · exact Nat.le_trans hs HA.out.2.2.2.2.2.size
    · go_simp
      refine hK.out _ _ (hS2 _ hBa) (fun hHeld => ?_)
      clear hK K
      try simp only [Act.put, List.getElem_toArray, List.getElem_cons_succ, List.getElem_cons_zero, List.setIfInBounds_toArray, List.set_cons_zero, List.set_cons_succ]
      refine wpAnyH_ready (rs := [0]) (by kernel_rfl) (by simp) ?_
      refine AllReadyH.cons rfl (fun K hK => ?_) AllReadyH.nil
      go_simp
      refine hK.out _ _ hHeld (fun hHeld => ?_)
      clear hK K
      try simp only [Act.put, List.getElem_toArray, List.getElem_cons_succ, List.getElem_cons_zero, List.setIfInBounds_toArray, List.set_cons_zero, List.set_cons_succ]
      refine wpAnyH_ready (rs := [13]) (by kernel_rfl) (by simp) ?_
      refine AllReadyH.cons rfl (fun K hK => ?_) AllReadyH.nil
      refine step_append_lies _ rfl _ _ 87 rfl B1 90 i0 (.agg #[.string ⟨#[]⟩, .string ⟨#[]⟩, .int .i64 0]) 3 40 Tryz.underlying87 hi hz0 hz1 hz2 rfl (by decide) _ _ _ rfl HRow.out ⟨W.drew.heap.size, 0, none⟩ 1 1 [.string x.n, .string ⟨x.b.toArray⟩, .int .i64 x.k] rfl rfl (fnews_new _ _ _) (by simp [Value.oneCell']) (by omega) (by unfold maxLen; omega) (by omega) (by simp; omega) _ rfl ?_
      intro g' cap' w2 hown' hgrow _ _
      have HA := Lib.hid (app_all (t := 87) (e := 90) (B0 := w1.heap.size) (L := L) (by decide) HB.out (by omega) hs HV.out HRow0.out hown' hgrow)
      refine hK.out _ _ (hS2 _ HA.out.1) (fun hHeld => ?_)
      clear hK K
      try simp only [Act.put, List.getElem_toArray, List.getElem_cons_succ, List.getElem_cons_zero, List.setIfInBounds_toArray, List.set_cons_zero, List.set_cons_succ]
      have hq := HA.out.2.1
      have hc2 := hq.cell
      have hf2 := hq.frozen
      refine wpAnyH_ready (rs := [14]) (by kernel_rfl) (by simp) ?_
      refine AllReadyH.cons rfl (fun K hK => ?_) AllReadyH.nil
      go_simp
      refine hK.out _ _ (hS2 _ HA.out.2.2.1) (fun hHeld => ?_)
      clear hK K
      try simp only [Act.put, List.getElem_toArray, List.getElem_cons_succ, List.getElem_cons_zero, List.setIfInBounds_toArray, List.set_cons_zero, List.set_cons_succ]
      refine wpAnyH_done (by kernel_rfl) ?_ _
      refine onlyNormal_mk ?_
      gi_wp2
      refine ⟨HA.out.2.2.2.2.2, _, HA.out.2.2.2.1, ?_, HA.out.2.2.1, ?_⟩
      · rw [List.length_append, List.map_append, List.map_cons, List.map_nil, pfCells_snoc]; exact HA.out.2.2.2.2.1
      · exact Nat.le_trans hs HA.out.2.2.2.2.2.size
  case hd =>
    rintro B1 W hBB ⟨v, hv, hrow, hB, hs⟩ hD
    have hc := hv.cell
    have hw1 : w.heap.size ≤ w1.heap.size := hB1.size
    have HR := Lib.hid (ownsRow_base (ownsRow_kept hrow hD rfl (.deferred none)) (show w.heap.size ≤ B1 by omega))
    have HB2 := Lib.hid (below_putObj (D := w1.heap.size) hB (Nat.le_refl _) hw1 (.deferred none))
    clear hrow hB
    gi_wp2
    exact leave_one hD (results_tmp rfl _ _ _) ⟨_, rfl, by rw [← HL.out]; exact HR.out, HB2.out⟩

end Go.Proofs.YtoieacmipejfeaaGreatDoor

/- The contract of slices.Clone at bytes that are owned. -/
namespace Go.Proofs.YtoieacmipejfeaaGreatDoor
open Go.RowKit Go.Shelf
set_option linter.unusedVariables false
attribute [local go_sem] Oper.semAt_some wide_fn wide_round_fn

end Go.Proofs.YtoieacmipejfeaaGreatDoor

/- The contract of a disk's Crash. -/
namespace Go.Proofs.YtoieacmipejfeaaGreatDoor
open Go.RowKit Go.Shelf
set_option linter.unusedVariables false
attribute [local go_sem] Oper.semAt_some wide_fn wide_round_fn

theorem ownsG_moves {B0 B : Nat} {W W' : World} {e : TypeId} {sz n : Nat} {v : Value} {xs : List Value} (h : ownsG W B e sz v n xs) (hm : Moves B0 (fun _ => False) W W') : ownsG W' B e sz v n xs := by
  refine ⟨h.1, ?_⟩
  rcases h.2 with h2 | ⟨g, cap, cur, fz, hv, hb, hg, r⟩
  · exact .inl h2
  · exact .inr ⟨g, cap, cur, fz, hv, hb, hm.block _ _ hg id (.inr rfl), r⟩
theorem HasDisk.moves {B0 : Nat} {W W' : World} {B d m : Nat} {D : PD} {F : List FileC} (h : HasDisk W B d m D F) (hm : Moves B0 (fun _ => False) W W') (hlt : m < B0) : HasDisk W' B d m D F :=
  { cell := hm.block _ _ h.cell id (.inr rfl)
    map := by
      obtain ⟨es, clock, h1, r⟩ := h.map
      exact ⟨es, clock, hm.block _ _ h1 id (.inl hlt), r⟩
    file := fun f hf => ⟨hm.block _ _ (h.file f hf).1 id (.inr rfl), ownsG_moves (h.file f hf).2.1 hm, (h.file f hf).2.2⟩
    fbs := h.fbs, rows := h.rows, nms := h.nms, core := h.core, low := h.low }
/-- A file is cut to k bytes, which are kept. -/
def cutC1 (f : FileC) (k : Nat) : FileC := ⟨f.n, f.fb, match f.v with | .slice a _ cap => .slice a k cap | v => v, f.b.take k, k⟩
theorem cutC_any {W : World} {B d m : Nat} {D : PD} {F : List FileC} (h : HasDisk W B d m D F) {f : FileC} (hf : f ∈ F) {a : Option Addr} {cap : Nat} (hv : f.v = .slice a f.b.length cap) {k : Nat} (hkl : k ≤ f.b.length) :
    HasDisk (cutW W f.fb a k cap) B d m { D with L := setK PF.n (cutC1 f k).core D.L } (setK FileC.n (cutC1 f k) F) ∧ FrameT (fun k => k = f.fb) W (cutW W f.fb a k cap) := by
  obtain ⟨h1, h2, h3⟩ := h.file f hf
  have hne := h.apart.2.2 f hf f hf
  have hF1 : FrameT (fun k => k = f.fb) W (cutW W f.fb a k cap) := (FrameT.setCell W f.fb 0 (.slice a k cap)).drew.trans (FrameT.setCell _ f.fb 1 (.int .i64 k))
  have hF := hF1.mono (U := fun k => k = f.fb ∨ f.v.ownBlock = some k) fun k hk => .inl hk
  have hg : (cutW W f.fb a k cap).heap[f.fb]? = some (.cells #[.slice a k cap, .int .i64 k] 97 (0, 0)) := by
    unfold cutW
    rw [heap_setCell_same (W.setCell ⟨f.fb, 0, none⟩ (.slice a k cap)).drew _ _ _ _ _ (show (W.setCell ⟨f.fb, 0, none⟩ (.slice a k cap)).heap[f.fb]? = _ from heap_setCell_same _ _ _ _ _ _ h1)]
    rfl
  rw [hv] at h2
  have hr := ownsG_frame (ownsG_cut h2 hkl) hF1 (fun j hj e => hne (by rw [hv, ← e]; exact ownBlock_len.trans hj))
  have hl : (f.b.take k).length = k := by rw [List.length_take]; omega
  have e : cutC1 f k = ⟨f.n, f.fb, .slice a k cap, f.b.take k, k⟩ := by unfold cutC1; rw [hv]
  rw [e]
  exact ⟨h.set hf ⟨f.n, f.fb, .slice a k cap, f.b.take k, k⟩ rfl rfl ⟨hg, by dsimp only; rw [hl]; exact hr, by dsimp only; rw [hl]; exact Nat.le_refl _⟩ (fun j hj => .inl (by rw [hv]; exact ownBlock_len.trans hj)) hF, hF1⟩
theorem setK_mid {α : Type} {nm : α → ByteArray} {P S : List α} {x y : α} (e : nm y = nm x) (h : (P ++ x :: S).Pairwise fun f g => nm f ≠ nm g) : setK nm y (P ++ x :: S) = P ++ y :: S := by
  unfold setK
  obtain ⟨h1, h2, h3⟩ := List.pairwise_append.1 h
  obtain ⟨h4, h5⟩ := List.pairwise_cons.1 h2
  rw [List.map_append, List.map_cons, if_pos e.symm]
  congr 1
  · conv => rhs; rw [← List.map_id P]
    apply List.map_congr_left
    intro z hz
    rw [if_neg (by rw [e]; exact h3 z hz x List.mem_cons_self)]; rfl
  · congr 1
    conv => rhs; rw [← List.map_id S]
    apply List.map_congr_left
    intro z hz
    rw [if_neg (by rw [e]; exact fun e2 => h4 z hz e2.symm)]; rfl

def share (keep i : Nat) : Nat := keep / 2 ^ (8 * (i % 8)) % 256
def crK (keep i : Nat) (f : FileC) : Nat := f.k + (f.b.length - f.k) * share keep i / 255
def crF (keep : Nat) : Nat → List FileC → List FileC
  | _, [] => []
  | i, f :: r => cutC1 f (crK keep i f) :: crF keep (i + 1) r
theorem crF_snoc (keep : Nat) (x : FileC) : ∀ (pre : List FileC) (i : Nat), crF keep i (pre ++ [x]) = crF keep i pre ++ [cutC1 x (crK keep (i + pre.length) x)]
  | [], i => rfl
  | f :: r, i => by
    show cutC1 f _ :: crF keep (i + 1) (r ++ [x]) = _
    rw [crF_snoc keep x r (i + 1)]
    show _ = cutC1 f _ :: (crF keep (i + 1) r ++ _)
    rw [List.length_cons, show i + 1 + r.length = i + (r.length + 1) by omega]
/-- What a crash's loop leaves behind pre. -/
def crI (w : World) (B d m kb ib : Nat) (D : PD) (F : List FileC) (keep : Nat) (pre : List FileC) (W : World) : Prop :=
  ∃ suf, F = pre ++ suf ∧ HasDisk W B d m { D with L := (crF keep 0 pre ++ suf).map FileC.core } (crF keep 0 pre ++ suf) ∧ Boxed W kb 54 (.int .u64 keep) ∧ Boxed W ib 3 (.int .i64 pre.length) ∧ FrameT (fun k => ∃ f ∈ F, k = f.fb) w W
theorem crI_stab {w : World} {B d m kb ib : Nat} {D : PD} {F : List FileC} {keep : Nat} {pre : List FileC} {B0 : Nat} (hm : m < B0) (hw : w.heap.size ≤ B0) : Stab B0 (fun _ => False) (crI w B d m kb ib D F keep pre) := by
  rintro W W' ⟨suf, h1, h2, h3, h4, h5⟩ hmv
  exact ⟨suf, h1, h2.moves hmv hm, (Stab.boxed id) _ _ h3 hmv, (Stab.boxed id) _ _ h4 hmv, h5.after (T := fun k => ∃ f ∈ F, k = f.fb) ⟨hmv.os, hmv.tape, hmv.output, hmv.size, fun k o ho _ hc => hmv.block k o ho id hc⟩ hw⟩
theorem own_kind {W : World} {B d m : Nat} {D : PD} {F : List FileC} (h : HasDisk W B d m D F) {k : Nat} {vs : Array Value} {t : TypeId} {fr : Nat × Nat} (hk : W.heap[k]? = some (.cells vs t fr)) (h1 : t ≠ 72) (h2 : t ≠ 97) (h3 : t ≠ 5) : ¬ ownD F d m k := by
  rintro (rfl | rfl | ⟨f, hf, rfl | hj⟩)
  · rw [h.cell] at hk; injection hk with hk; injection hk with _ ht; exact h1 ht.symm
  · obtain ⟨es, c, hm, -⟩ := h.map; rw [hm] at hk; cases hk
  · rw [(h.file f hf).1] at hk; injection hk with hk; injection hk with _ ht; exact h2 ht.symm
  · rcases (h.file f hf).2.1.2 with ⟨hv, _⟩ | ⟨g, cap, cur, fz, hv, _, hg, _⟩
    · rw [hv] at hj; cases hj
    · rw [hv] at hj
      obtain rfl : g = k := by simpa [Value.ownBlock] using hj
      rw [hg] at hk; injection hk with hk; injection hk with _ ht; exact h3 ht.symm
theorem rd_frame {B0 : Nat} {S T : Nat → Prop} {W W' : World} (h : FrameT T W W') (h1 : ∀ k, S k → ¬ T k) (h2 : ∀ k, T k → k < B0) : Rd B0 S W W' :=
  ⟨h.os, h.tape, h.output, h.size, fun k o ho hc => h.get ho (hc.elim (h1 k) (fun hb ht => by have := h2 k ht; omega))⟩
theorem crI_step {w W : World} {B d m kb ib B0 B1 L : Nat} {D : PD} {F : List FileC} {keep : Nat} {pre suf : List FileC} {x : FileC} {a : Option Addr} {cap nn : Nat} (hs : F = pre ++ x :: suf) (hd : HasDisk W B d m { D with L := (crF keep 0 pre ++ x :: suf).map FileC.core } (crF keep 0 pre ++ x :: suf))
    (hkb : Boxed W kb 54 (.int .u64 keep)) (hib : Boxed W ib 3 (.int .i64 pre.length)) (hFr : FrameT (fun k => ∃ f ∈ F, k = f.fb) w W) (hxv : x.v = .slice a x.b.length cap) (hnn : nn = crK keep pre.length x) (hcl : nn ≤ x.b.length)
    (hne : kb ≠ x.fb ∧ ib ≠ x.fb ∧ kb ≠ ib ∧ w.heap.size ≤ ib ∧ x.fb < B0 ∧ ib < B0) :
    crI w B d m kb ib D F keep (pre ++ [x]) ((cutW W x.fb a nn cap).setCell ⟨ib, 0, none⟩ (.int .i64 ((pre.length : Int) + 1))) ∧
    Rd B0 (fun k => (k < B1 ∧ ¬ (k = ib ∨ ∃ f ∈ F, k = f.fb)) ∧ k ≠ L) W ((cutW W x.fb a nn cap).setCell ⟨ib, 0, none⟩ (.int .i64 ((pre.length : Int) + 1))) := by
  obtain ⟨n1, n2, n3, n4, n5, n6⟩ := hne
  obtain ⟨hc1, hc2⟩ := cutC_any hd (f := x) (by simp) hxv hcl
  have hxF : x ∈ F := by rw [hs]; simp
  have hib2 : Boxed (cutW W x.fb a nn cap) ib 3 (.int .i64 pre.length) := hc2.get hib n2
  have hkb2 : Boxed (cutW W x.fb a nn cap) kb 54 (.int .u64 keep) := hc2.get hkb n1
  have hS := FrameT.setCell (cutW W x.fb a nn cap) ib 0 (.int .i64 ((pre.length : Int) + 1))
  have hnm := hd.nms
  dsimp only at hc1
  rw [← setK_map (nm := FileC.n) (nb := PF.n) (g := FileC.core) (fun _ => rfl), setK_mid (show FileC.n (cutC1 x nn) = FileC.n x from rfl) hnm] at hc1
  have e : crF keep 0 pre ++ cutC1 x nn :: suf = crF keep 0 (pre ++ [x]) ++ suf := by rw [crF_snoc, hnn, Nat.zero_add]; simp
  rw [e] at hc1
  refine ⟨⟨suf, by rw [hs]; simp, hc1.frame hS (fun k hk e2 => ?_), hS.get hkb2 n3, ?_, ?_⟩, ?_⟩
  · have e2 : k = ib := e2
    rw [e2] at hk
    exact own_kind hc1 hib2 (by decide) (by decide) (by decide) hk
  · rw [List.length_append]
    exact hib2.set _
  · exact (hFr.trans (hc2.mono fun k hk => ⟨x, hxF, hk⟩)).belowN ((Below.refl _ _).setCell (p := ⟨ib, 0, none⟩) n4 _ |>.mono (Nat.le_refl _))
  · refine rd_frame (T := fun k => k = x.fb ∨ k = ib) ((hc2.mono fun k hk => .inl hk).trans (hS.mono fun k hk => .inr hk)) (fun k hk ht => ?_) (fun k hk => by rcases hk with rfl | rfl <;> assumption)
    rcases ht with rfl | rfl
    · exact hk.1.2 (.inr ⟨x, hxF, rfl⟩)
    · exact hk.1.2 (.inl rfl)
theorem crash_end {w W W2 : World} {B d m D0 : Nat} {D : PD} {F G : List FileC} (h : HasDisk W B d m D G) (hFr : FrameT (fun k => ∃ f ∈ F, k = f.fb) w W) (hF : FrameT (fun k => k = d) W W2) (hc : W2.heap[d]? = some (.cells #[.map (some m), .int .i64 D.room, .int .i64 D.steps, .bool false, .int .i64 0] 72 (0, 0)))
    (hD : W2.heap[D0]? = some (.deferred (some []))) (hlt : w.heap.size ≤ D0) :
    HasDisk (W2.putObj D0 (.deferred none)) B d m { D with lim := false, left := 0 } G ∧ FrameT (ownD F d m) w (W2.putObj D0 (.deferred none)) := by
  have h2 : HasDisk W2 B d m { D with lim := false, left := 0 } G := h.own hF hc rfl
  have hP : FrameT (fun k => k = D0) W2 (W2.putObj D0 (.deferred none)) := (frame_grown (grownBy_putObj' W2 D0 (.deferred none))).mono fun k hk => by injection hk
  have hno : ¬ ownD G d m D0 := by
    rintro (e | e | ⟨f, hf, e | hj⟩)
    · rw [e, h2.cell] at hD; cases hD
    · obtain ⟨es, c, hm, -⟩ := h2.map; rw [e, hm] at hD; cases hD
    · rw [e, (h2.file f hf).1] at hD; cases hD
    · rcases (h2.file f hf).2.1.2 with ⟨hv, _⟩ | ⟨g, cap, cur, fz, hv, _, hg, _⟩
      · rw [hv] at hj; cases hj
      · rw [hv] at hj
        obtain rfl : g = D0 := by simpa [Value.ownBlock] using hj
        rw [hg] at hD; cases hD
  refine ⟨h2.frame hP (fun k hk e => hno (by rw [← (show k = D0 from e)]; exact hk)), ?_⟩
  have h3 := (hFr.mono (U := ownD F d m) fun k ⟨f, hf, e⟩ => .inr (.inr ⟨f, hf, .inl e⟩)).trans (hF.mono fun k hk => .inl hk)
  exact h3.belowN (below_putObj (Below.refl _ _) h3.size hlt _)
theorem bits_and_u64 (a b : Nat) (ha : a < 18446744073709551616) (hb : b < 18446744073709551616) : bits .and .u64 (a : Int) (b : Int) = ((a &&& b : Nat) : Int) := by
  have hab : a &&& b < 2 ^ 64 := Nat.and_lt_two_pow _ (by omega)
  show IntKind.u64.wrap ((BitVec.ofInt 64 (a : Int) &&& BitVec.ofInt 64 (b : Int)).toNat : Int) = _
  rw [BitVec.toNat_and, ofInt_u64 a (by omega), ofInt_u64 b (by omega)]
  show (((a &&& b : Nat) : Int)) % 18446744073709551616 = _
  omega
theorem share_bits (keep i : Nat) (hk : keep < 18446744073709551616) : wrap64 (bits .and .u64 ((keep : Int) / 2 ^ (8 * (i % 8))) 255) = (share keep i : Int) := by
  have e : ((keep : Int) / 2 ^ (8 * (i % 8))) = ((keep / 2 ^ (8 * (i % 8)) : Nat) : Int) := by push_cast; rfl
  have hlt : keep / 2 ^ (8 * (i % 8)) < 18446744073709551616 := Nat.lt_of_le_of_lt (Nat.div_le_self _ _) hk
  have e2 : keep / 2 ^ (8 * (i % 8)) &&& 255 = share keep i := Nat.and_two_pow_sub_one_eq_mod _ 8
  rw [e, show (255 : Int) = ((255 : Nat) : Int) from rfl, bits_and_u64 _ _ hlt (by decide), e2]
  have := Nat.mod_lt (keep / 2 ^ (8 * (i % 8))) (show 0 < 256 by decide)
  unfold share
  unfold wrap64
  omega
theorem share_le (keep i : Nat) : share keep i ≤ 255 := by unfold share; omega
theorem crK_le {keep i : Nat} {f : FileC} (h : f.k ≤ f.b.length) : crK keep i f ≤ f.b.length := by
  unfold crK
  have h1 : (f.b.length - f.k) * share keep i ≤ (f.b.length - f.k) * 255 := Nat.mul_le_mul_left _ (share_le _ _)
  omega
set_option maxRecDepth 100000 in
set_option maxHeartbeats 1000000 in
theorem crash_any {w : World} {B d m : Nat} {D : PD} {F : List FileC} (h : HasDisk w B d m D F) (hF : F.length ≤ 1000) (hu : usedL D.L ≤ 1000000000) (keep : Nat) (hk : keep < 18446744073709551616) :
    Calls Tryz.prog 24 #[.pointer (some ⟨d, 0, none⟩), .int .u64 keep] w fun e w' => (∃ v, e = .returned v) ∧ HasDisk w' B d m { D with L := (crF keep 0 F).map FileC.core, lim := false, left := 0 } (crF keep 0 F) ∧ FrameT (ownD F d m) w w' := by
  have hmx : Tryz.prog.follows .mixedOrders = true := by kernel_rfl
  refine (callsIn_wide (n := 9)).1 ?_
  refine callsIn_of_wp_marks Tryz.func24 rfl trivial ?_ rfl
  simp only [Tryz.ntmps24, List.size_toArray, List.length_cons, List.length_nil, Nat.reduceAdd, Nat.reduceSub, Array.replicate_succ, Array.replicate_zero, List.push_toArray, List.append_toArray, List.nil_append, List.cons_append]
  have HD := Lib.hid h
  have HU := Lib.hid hu
  have HKp := Lib.hid hk
  clear h hu hk
  gi_wp2_with (gi_at_call 49; refine (callsIn_wide.2 (order_any d _)).mono ?_; rintro e w1 ⟨rfl, rfl⟩)
  obtain ⟨w1, hw1⟩ : ∃ w1, w1 = ((w.alloc (.cells #[.int .u64 keep] 54)).alloc (.cells #[.int .i64 0] 3)).alloc (.cells #[.pointer (some ⟨d, 0, none⟩)] 25) := ⟨_, rfl⟩
  rw [← hw1]
  have hB1 : Below w.heap.size w w1 := by rw [hw1]; exact bel_alloc (bel_alloc (bel_alloc (Below.refl _ _) _) _) _
  have bK : Boxed w1 w.heap.size 54 (.int .u64 keep) := by rw [hw1]; exact ((Boxed.new w _ _).alloc _).alloc _
  have bI : Boxed w1 (w.heap.size + 1) 3 (.int .i64 0) := by
    have := (Boxed.new (w.alloc (.cells #[.int .u64 keep] 54)) 3 (.int .i64 0)).alloc (.cells #[.pointer (some ⟨d, 0, none⟩)] 25)
    rw [hw1]; rwa [World.size_alloc] at this
  have cb : w1.cell? ⟨w.heap.size + 1 + 1, 0, none⟩ = some (.pointer (some ⟨d, 0, none⟩)) := by
    have := (Boxed.new ((w.alloc (.cells #[.int .u64 keep] 54)).alloc (.cells #[.int .i64 0] 3)) 25 (.pointer (some ⟨d, 0, none⟩))).cell
    rw [hw1]; rwa [World.size_alloc, World.size_alloc] at this
  have hsz1 : w1.heap.size = w.heap.size + 3 := by rw [hw1]; simp
  clear hw1
  have hdl := HD.out.lt (k := d) (.inl rfl)
  have hml := HD.out.lt (k := m) (.inr (.inl rfl))
  have hfl : ∀ f ∈ F, f.fb < w.heap.size ∧ f.fb ≠ d ∧ f.fb ≠ m := fun f hf => ⟨HD.out.lt (k := f.fb) (.inr (.inr ⟨f, hf, .inl rfl⟩)), (HD.out.apart.2.1 f hf).1, (HD.out.apart.2.1 f hf).2.1⟩
  have hVn : ∀ k, (∀ f ∈ F, k ≠ f.fb) → k ≠ w.heap.size + 1 → ¬ (k = w.heap.size + 1 ∨ ∃ f ∈ F, k = f.fb) := fun k h1 h2 h => h.elim h2 (fun ⟨f, hf, e⟩ => h1 f hf e)
  have HI := Lib.hid (order_iter HD.out (by omega) (w.heap.size + 1 + 1) (fun _ => True) (fun k => k = w.heap.size + 1 ∨ ∃ f ∈ F, k = f.fb) w1 hB1 cb ⟨trivial, trivial, trivial⟩
    ⟨hVn _ (fun f hf e => by have := (hfl f hf).1; omega) (by omega), hVn _ (fun f hf e => (hfl f hf).2.1 e.symm) (by omega), hVn _ (fun f hf e => (hfl f hf).2.2 e.symm) (by omega)⟩ (fun k hk => hk.elim (fun h => by omega) (fun ⟨f, hf, e⟩ => by have := (hfl f hf).1; omega)) (by omega))
  clear cb
  refine range_outerV rfl (enters_of Tryz.func66 (by kernel_rfl) rfl) HI.out (fun _ => rfl)
    (fun _ pre W => crI w B d m w.heap.size (w.heap.size + 1) D F keep pre W) (fun _ _ _ => False) (fun _ _ => crI_stab (by omega) (by omega)) (fun _ _ => Stab.pure _)
    (fun W1 hb => ⟨F, rfl, by
      have h2 := HD.out.below (hB1.trans (hb.mono hB1.size))
      show HasDisk W1 B d m { D with L := F.map FileC.core } F
      rw [h2.core]; exact h2, boxed_below bK hb (by omega), boxed_below bI hb (by omega), (FrameT.below (T := fun _ => False) (hB1.trans (hb.mono hB1.size))).mono (fun _ h => False.elim h)⟩) ?hr ?hd (fun _ _ _ _ _ _ h => h.elim)
  case hr =>
    rintro B1 L pre x suf W hBB hx hl' hi1 hrec
    have hpl : pre.length < 1000 := by have h1 := congrArg List.length hx; simp at h1; omega
    have hxF : x ∈ F := by rw [hx]; simp
    dsimp only [FileC.val]
    gi_wp2
    refine rdThen_mk _ (crI_stab (by omega) (by omega)) hi1 (Rd.refl _ _ _) ?_
    clear hi1 hrec W
    rintro W ⟨suf', hs', hd, hkb, hib, hFr⟩ hrec
    obtain rfl : suf' = x :: suf := by rw [hx] at hs'; exact (List.append_cancel_left hs').symm
    have hxD : x ∈ crF keep 0 pre ++ x :: suf := by simp
    obtain ⟨hfc, hfr, hkl⟩ := hd.file x hxD
    obtain ⟨a, cap, hxv⟩ := own_sliceG hfr
    have cK := hkb.cell
    have cI := hib.cell
    have hxl : x.b.length ≤ 1000000000 := Nat.le_trans (by
      rw [← HD.out.core]; exact used_mem (f := x.core) (List.mem_map.2 ⟨x, hxF, rfl⟩)) HU.out
    gi_wp2
    rw [share_bits keep pre.length HKp.out]
    have hsl := share_le keep pre.length
    have hck : crK keep pre.length x = x.k + (x.b.length - x.k) * share keep pre.length / 255 := rfl
    have hcl := crK_le (keep := keep) (i := pre.length) hkl
    generalize share keep pre.length = sh at *
    rw [hxv] at hfc
    obtain ⟨k0, k1, k2, k3⟩ := cells2 hfc
    have k0d : W.drew.cell? ⟨x.fb, 0, none⟩ = _ := k0
    have k1d : W.drew.cell? ⟨x.fb, 1, none⟩ = _ := k1
    have k2d : W.drew.frozen? ⟨x.fb, 0, none⟩ = _ := k2
    have hcap : x.b.length ≤ cap := by
      rw [hxv] at hfr
      rcases hfr.2 with ⟨e, h0⟩ | ⟨g, cap', cur, fz, e, _, _, hle, _⟩
      · injection e with e1 e2 e3; omega
      · injection e with e1 e2 e3; omega
    obtain ⟨dl, hdl'⟩ : ∃ dl, dl = x.b.length - x.k := ⟨_, rfl⟩
    rw [← hdl'] at hck
    have hmul : dl * sh ≤ dl * 255 := Nat.mul_le_mul_left _ hsl
    obtain ⟨pr, hpr⟩ : ∃ pr, pr = dl * sh := ⟨_, rfl⟩
    rw [← hpr] at hck hmul
    obtain ⟨nn, hnn⟩ : ∃ nn, nn = crK keep pre.length x := ⟨_, rfl⟩
    rw [← hnn] at hck hcl
    have hw1 : IntKind.i64.wrap ((x.b.length : Int) - (x.k : Int)) = (dl : Int) := by rw [IntWalk.i64_in _ (by omega)]; omega
    have hw2 : IntKind.i64.wrap ((dl : Int) * (sh : Int)) = (pr : Int) := by
      have : (pr : Int) = (dl : Int) * (sh : Int) := by rw [hpr]; push_cast; rfl
      rw [← this]; exact IntWalk.i64_in _ (by omega)
    have hw3 : IntKind.i64.wrap ((pr : Int).tdiv 255) = ((pr / 255 : Nat) : Int) := by
      have : (pr : Int).tdiv 255 = ((pr / 255 : Nat) : Int) := by rw [Int.tdiv_eq_ediv_of_nonneg (by omega)]; omega
      rw [this]; exact IntWalk.i64_in _ (by omega)
    have hw3' : IntKind.i64.wrap ((pr : Int) / 255) = ((pr / 255 : Nat) : Int) := by
      have : (pr : Int) / 255 = ((pr / 255 : Nat) : Int) := by omega
      rw [this]; exact IntWalk.i64_in _ (by omega)
    obtain ⟨qt, hqt⟩ : ∃ qt, qt = pr / 255 := ⟨_, rfl⟩
    rw [← hqt] at hw3 hw3' hck
    have hw4 : IntKind.i64.wrap ((x.k : Int) + (qt : Int)) = (nn : Int) := by rw [IntWalk.i64_in _ (by omega)]; omega
    have hn1 : (0 : Int) ≤ (nn : Int) := by omega
    have hn2 : (nn : Int) ≤ (cap : Int) := by omega
    have hn3 : nn ≤ cap := by omega
    have HNN := Lib.hid hnn
    have HCL := Lib.hid hcl
    have HXV := Lib.hid hxv
    have HFC := Lib.hid hfc
    clear hdl' hpr hqt hnn hck hmul hxv hfc hfr hsl hcl hcap
    refine wpIn_still_tail 26 hmx (by kernel_rfl) (by kernel_rfl) ⟨_, rfl⟩ ?_
    simp only [List.take_succ_cons, List.take_zero, List.drop_succ_cons, List.drop_zero]
    repeat still_step
    refine wpStill_nil ?_
    go_wp2
    refine onlyNormal_mk ?_
    have hfx := hfl x hxF
    have HST := Lib.hid (crI_step (B0 := w1.heap.size) (B1 := B1) (L := L) (w := w) hx hd hkb hib hFr HXV.out HNN.out HCL.out ⟨by omega, by omega, by omega, by omega, by omega, by omega⟩)
    have hib2 := (cutC_any hd hxD HXV.out HCL.out).2.get hib (show w.heap.size + 1 ≠ x.fb by omega)
    obtain ⟨i1, i2⟩ : (cutW W x.fb a nn cap).cell? ⟨w.heap.size + 1, 0, none⟩ = some (.int .i64 pre.length) ∧ (cutW W x.fb a nn cap).frozen? ⟨w.heap.size + 1, 0, none⟩ = false := ⟨Boxed.cell hib2, Boxed.frozen hib2⟩
    clear k0 k1 k2 k3 k0d k1d k2d cK cI hd hkb hib hFr hib2 hw1 hw2 hw3 hw3' hw4 hxD hx hs'
    gi_wp2_with (gi_at_call 50; refine (callsIn_wide.2 (cutKeep HFC.out)).mono ?_; rintro e w6 ⟨⟨v, rfl⟩, rfl⟩)
    exact ⟨HST.out.2, HST.out.1⟩
  case hd =>
    rintro B1 W hBB ⟨suf', hs', hd, hkb, hib, hFr⟩ hD
    obtain rfl : suf' = [] := by
      have := congrArg List.length hs'
      rw [List.length_append] at this
      exact List.eq_nil_of_length_eq_zero (by omega)
    rw [List.append_nil] at hd
    clear hs' hkb hib
    obtain ⟨c0, c1, c2, c3, c4⟩ := cells5 hd.cell
    obtain ⟨f2, f3, f4⟩ := frozen5 hd.cell
    have H1 := Lib.hid (heap_setCell_same _ d 4 _ _ (.int .i64 0) (heap_setCell_same W d 3 _ _ (.bool false) hd.cell))
    have H2 := Lib.hid ((FrameT.setCell W d 3 (.bool false)).trans (FrameT.setCell _ d 4 (.int .i64 0)))
    have HD2 := Lib.hid hd
    have HFR := Lib.hid hFr
    clear hd hFr
    have hD2 := H2.out.get hD (show ¬ w1.heap.size = d by omega)
    have HFin := Lib.hid (crash_end (D0 := w1.heap.size) HD2.out HFR.out H2.out (by rw [H1.out]; simp) hD2 (by omega))
    clear H1
    gi_wp2
    rw [← hsz1]
    exact leave_one hD2 (results_none rfl _ _ _) ⟨⟨_, rfl⟩, HFin.out⟩

end Go.Proofs.YtoieacmipejfeaaGreatDoor

/- The contract of a disk's Copy. -/
namespace Go.Proofs.YtoieacmipejfeaaGreatDoor
open Go.RowKit Go.Shelf
set_option linter.unusedVariables false
attribute [local go_sem] Oper.semAt_some wide_fn wide_round_fn

def risN (L : List PF) : Prop := L.Pairwise fun a b => bytesBefore a.n.data.toList b.n.data.toList = true
theorem HasDisk.ris {W : World} {B d m : Nat} {D : PD} {F : List FileC} (h : HasDisk W B d m D F) : risN D.L := by
  obtain ⟨es, he, hp, -⟩ := h.map.canon lawStr
  unfold dmap at he
  injection he with he
  subst he
  unfold risN
  rw [← h.core, List.pairwise_map]
  rw [List.pairwise_map] at hp
  exact hp
theorem before_no {a b : List UInt8} (h : bytesBefore a b = true) : bytesBefore b a = false := by
  cases e : bytesBefore b a with
  | false => rfl
  | true =>
    have := Go.WideShapes.bytes_trans _ _ _ h e
    rw [Go.WideAt.bytes_irrefl] at this; cases this
theorem before_ne {a b : ByteArray} (h : bytesBefore a.data.toList b.data.toList = true) : a ≠ b := fun e => by rw [e, Go.WideAt.bytes_irrefl] at h; cases h
theorem ins_head {x : PF} : ∀ {l : List PF}, (∀ z ∈ l, bytesBefore x.n.data.toList z.n.data.toList = true) → insK PF.n x l = x :: l
  | [], _ => rfl
  | z :: r, h => by
    show (if bytesBefore x.n.data.toList z.n.data.toList = true then x :: z :: r else z :: insK PF.n x r) = _
    rw [if_pos (h z List.mem_cons_self)]
theorem ins_filter {x : PF} {p : PF → Bool} (hp : p x = false) : ∀ {L : List PF}, risN L → x ∈ L → insK PF.n x (L.filter p) = L.filter fun y => p y || decide (y.n = x.n)
  | [], _, hx => by cases hx
  | y :: r, hL, hx => by
    obtain ⟨h1, h2⟩ := List.pairwise_cons.1 hL
    rw [List.filter_cons, List.filter_cons]
    rcases List.mem_cons.1 hx with rfl | hx
    · rw [hp, decide_eq_true rfl]
      simp only [Bool.or_true, if_true, Bool.false_eq_true, if_false]
      rw [ins_head (fun z hz => h1 z ((List.mem_filter.1 hz).1))]
      congr 1
      apply List.filter_congr
      intro z hz
      rw [decide_eq_false (fun e => before_ne (h1 z hz) e.symm), Bool.or_false]
    · have hyx := h1 x hx
      rw [decide_eq_false (before_ne hyx), Bool.or_false]
      cases hpy : p y
      · simp only [Bool.false_eq_true, if_false]
        exact ins_filter hp h2 hx
      · simp only [if_true]
        show (if bytesBefore x.n.data.toList y.n.data.toList = true then x :: y :: r.filter p else y :: insK PF.n x (r.filter p)) = _
        rw [before_no hyx, if_neg (by simp), ins_filter hp h2 hx]
theorem put_filter {x : PF} {p : PF → Bool} (hp : ∀ y, y.n = x.n → p y = false) {L : List PF} (hL : risN L) (hx : x ∈ L) : putK PF.n x (L.filter p) = L.filter fun y => p y || decide (y.n = x.n) := by
  unfold putK
  rw [show delK PF.n (L.filter p) x.n = L.filter p from by
    unfold delK
    rw [List.filter_eq_self]
    intro y hy
    have := (List.mem_filter.1 hy).2
    by_cases e : y.n = x.n
    · rw [hp y e] at this; cases this
    · simp [e]]
  exact ins_filter (hp x rfl) hL hx

theorem below_grown {a b : World} (h : Below a.heap.size a b) : a.grownBy b none := ⟨h.os, h.tape, h.output, h.size, fun k hk _ => h.block k hk⟩
theorem own_iter {W : World} {B d m k : Nat} {D : PD} {F : List FileC} (h : HasDisk W B d m D F) {mb : Option Nat} {s c : Nat} {z : Array Nat} (hk : W.heap[k]? = some (.mapIter mb s z c)) : ¬ ownD F d m k := by
  rintro (rfl | rfl | ⟨f, hf, rfl | hj⟩)
  · rw [h.cell] at hk; cases hk
  · obtain ⟨es, c, hm, -⟩ := h.map; rw [hm] at hk; cases hk
  · rw [(h.file f hf).1] at hk; cases hk
  · rcases (h.file f hf).2.1.2 with ⟨hv, _⟩ | ⟨g, cap, cur, fz, hv, _, hg, _⟩
    · rw [hv] at hj; cases hj
    · rw [hv] at hj
      obtain rfl : g = k := by simpa [Value.ownBlock] using hj
      rw [hg] at hk; cases hk
theorem copy_step {w1 w4 w5 : World} {B2 d2 m2 n' : Nat} {D' : PD} {G : List FileC} {f : FileC} {v' : Value} (h : HasDisk w1 B2 d2 m2 D' G) (hB4 : Below w1.heap.size w1 w4) (hown4 : w4.ownsRow w1.heap.size 5 1 v' f.b.length (f.b.map vb)) (hfk : f.k ≤ f.b.length) (hB2 : B2 ≤ w1.heap.size)
    (hm : w5.ownsMap Tryz.prog 9 ptrElem m2 n' ((dmap G).put (keyL f.n) (.lit (.int .i64 w4.heap.size)))) (hT : (w4.alloc (.cells #[v', .int .i64 f.k] 97)).mapTurned w5 m2) :
    HasDisk w5 B2 d2 m2 { D' with L := putK PF.n f.core D'.L } (putK FileC.n ⟨f.n, w4.heap.size, v', f.b, f.k⟩ G) := by
  have h4 := hB4.size
  have h2 := h.below (bel_alloc hB4 (.cells #[v', .int .i64 f.k] 97))
  have hF := frame_map hT.grown
  have hml := h.lt (k := m2) (.inr (.inl rfl))
  refine h2.put ⟨f.n, w4.heap.size, v', f.b, f.k⟩ (fun g hg _ => ⟨fun e => ?_, fun j hj e => ?_⟩) ⟨hF.get (World.alloc_heap_new _ _) (show ¬ w4.heap.size = m2 by omega), ?_, hfk⟩ hm hF (show B2 ≤ w4.heap.size by omega)
  · have e : g.fb = w4.heap.size := e
    have := h.lt (k := g.fb) (.inr (.inr ⟨g, hg, .inl rfl⟩))
    omega
  · have e : v'.ownBlock = some j := e
    have h5 := ownBlock_ge hown4 e
    have := h.lt (k := j) (.inr (.inr ⟨g, hg, .inr hj⟩))
    omega
  · refine ownsG_frame (ownsG_of (ownsRow_base (hown4.alloc _) hB2)) hF (fun j hj e => ?_)
    have e : j = m2 := e
    have := ownBlock_ge hown4 hj
    omega
theorem copy_arm {w1 w4 : World} {B2 d2 m2 : Nat} {D' : PD} {G : List FileC} (h : HasDisk w1 B2 d2 m2 D' G) (hB4 : Below w1.heap.size w1 w4) {s : ByteArray} (hs : s.size ≤ maxLen) (hGm : G.length < maxLen) (v' : Value) (k : Nat) :
    ∃ w5, (Instr.mapUpdate 69 (.map (some m2)) (.string s) (.pointer (some ⟨w4.heap.size, 0, none⟩))).run Tryz.prog (w4.alloc (.cells #[v', .int .i64 k] 97)) = .ok () w5 ∧ w5.ownsMap Tryz.prog 9 ptrElem m2 (G.length + 1) ((dmap G).put (keyL s) (.lit (.int .i64 w4.heap.size))) ∧ (w4.alloc (.cells #[v', .int .i64 k] 97)).mapTurned w5 m2 ∧
      (∀ p : Addr, p.block < w1.heap.size → p.block ≠ m2 → ∀ u, w1.cell? p = some u → w4.cell? p = some u ∧ w5.cell? p = some u) := by
  have hm : (w4.alloc (.cells #[v', .int .i64 k] 97)).ownsMap Tryz.prog 9 ptrElem m2 G.length (dmap G) := (ownsMap_frame h.map (FrameT.below (T := fun _ => False) hB4) id).alloc _
  obtain ⟨w5, h1, h2, h3⟩ := hm.store lawStr Tryz.underlying69 hGm (Go.WideMaps.keyOf_string_mk (s := s) Tryz.underlying9 hs) (ptr_some w4.heap.size)
  refine ⟨w5, h1, h2, h3, fun p hp hne u hu => ?_⟩
  have h4 := (hB4.cell hp).trans hu
  exact ⟨h4, (frame_map h3.grown).cell (((bel_alloc (Below.refl w4.heap.size w4) (.cells #[v', .int .i64 k] 97)).cell (Nat.lt_of_lt_of_le hp hB4.size)).trans h4) hne⟩
end Go.Proofs.YtoieacmipejfeaaGreatDoor

/- What '[]byte(s)' lays, as a row that may be a file's. -/
namespace Go.Proofs.YtoieacmipejfeaaGreatDoor
open Go.RowKit Go.Shelf
set_option linter.unusedVariables false

theorem bytes_G (W : World) (s : ByteArray) (hs : s.size ≤ maxLen) : ∃ cap w4, (convert 9 55 (.string s)).run Tryz.prog W = .ok (.slice (some ⟨W.heap.size, 0, none⟩) s.size cap) w4 ∧ Below W.heap.size W w4 ∧ ownsG w4 W.heap.size 5 1 (.slice (some ⟨W.heap.size, 0, none⟩) s.size cap) s.size (s.data.toList.map vb) := by
  refine ⟨_, _, run_bytes_of_string W 9 55 5 s Tryz.underlying9 Tryz.underlying55 Tryz.underlying5, (Below.refl _ W).drew.alloc (Nat.le_refl _) _, ?_⟩
  have hge := grownCap_ge W s.size 0 5
  have hle := grownCap_le_maxLen W s.size 0 5 hs
  have hsz : s.data.size = s.size := rfl
  have hb : (bytesRow s (grownCap W s.size 0 5)).size = grownCap W s.size 0 5 := by
    unfold bytesRow
    rw [Array.size_append, Array.size_map, Array.size_replicate]; omega
  refine ⟨by simp [hsz], .inr ⟨W.heap.size, _, bytesRow s (grownCap W s.size 0 5), ((bytesRow s (grownCap W s.size 0 5)).size, (bytesRow s (grownCap W s.size 0 5)).size + 1), rfl, Nat.le_refl _, ?_, hge, hle, by rw [hb, Nat.mul_one], ?_, .inr (Nat.le_refl _)⟩⟩
  · show (W.heap.push _)[W.heap.size]? = _
    simp
  · unfold bytesRow
    rw [Array.toList_append, Array.toList_map, Nat.mul_one]
    have e : (s.data.toList.map fun b => Value.int .u8 b.toNat).length = s.size := by simp [hsz]
    rw [← e]
    exact List.take_left

end Go.Proofs.YtoieacmipejfeaaGreatDoor

/- The contract of disk.Of. -/
namespace Go.Proofs.YtoieacmipejfeaaGreatDoor
open Go.RowKit Go.Shelf
set_option linter.unusedVariables false
attribute [local go_sem] Oper.semAt_some wide_fn wide_round_fn

/-- A file as it comes in. -/
structure IFile where
  n : ByteArray
  b : ByteArray
  k : Int
def FilesAt (W : World) (a : Option Addr) (l : List IFile) : Prop := ∀ i (h : i < l.length), ∃ b off, a = some ⟨b, off, none⟩ ∧ b < W.heap.size ∧ W.cell? ⟨b, off + i * 3, none⟩ = some (.string l[i].n) ∧ W.cell? ⟨b, off + i * 3 + 1, none⟩ = some (.string l[i].b) ∧ W.cell? ⟨b, off + i * 3 + 2, none⟩ = some (.int .i64 l[i].k)
def heldK (k : Int) (n : Nat) : Nat := (min (max k 0) n).toNat
def ofStep (L : List PF) (f : IFile) : List PF := if (getK PF.n L f.n).isSome = true ∨ 1000 ≤ L.length then L else putK PF.n ⟨f.n, f.b.data.toList, heldK f.k f.b.size⟩ L
def ofL (L : List PF) (l : List IFile) : List PF := l.foldl ofStep L
def ofD (room : Int) (l : List IFile) : PD := ⟨ofL [] l, (min (max room 0) 1000000).toNat, 0, false, 0⟩
theorem of_step {w1 w4 w5 : World} {B2 d2 m2 n' : Nat} {D' : PD} {G : List FileC} {s : ByteArray} {b : List UInt8} {k : Nat} {v' : Value} (h : HasDisk w1 B2 d2 m2 D' G) (hB4 : Below w1.heap.size w1 w4) (hown4 : ownsG w4 w1.heap.size 5 1 v' b.length (b.map vb)) (hfk : k ≤ b.length) (hB2 : B2 ≤ w1.heap.size)
    (hm : w5.ownsMap Tryz.prog 9 ptrElem m2 n' ((dmap G).put (keyL s) (.lit (.int .i64 w4.heap.size)))) (hT : (w4.alloc (.cells #[v', .int .i64 k] 97)).mapTurned w5 m2) :
    HasDisk w5 B2 d2 m2 { D' with L := putK PF.n ⟨s, b, k⟩ D'.L } (putK FileC.n ⟨s, w4.heap.size, v', b, k⟩ G) := by
  have h4 := hB4.size
  have h2 := h.below (bel_alloc hB4 (.cells #[v', .int .i64 k] 97))
  have hF := frame_map hT.grown
  have hml := h.lt (k := m2) (.inr (.inl rfl))
  have hb : ownsG w4 B2 5 1 v' b.length (b.map vb) := by
    refine ⟨hown4.1, ?_⟩
    rcases hown4.2 with h3 | ⟨g, cap, cur, fz, hv, hb, r⟩
    · exact .inl h3
    · exact .inr ⟨g, cap, cur, fz, hv, Nat.le_trans hB2 hb, r⟩
  refine h2.put ⟨s, w4.heap.size, v', b, k⟩ (fun g hg _ => ⟨fun e => ?_, fun j hj e => ?_⟩) ⟨hF.get (World.alloc_heap_new _ _) (show ¬ w4.heap.size = m2 by omega), ?_, hfk⟩ hm hF (show B2 ≤ w4.heap.size by omega)
  · have e : g.fb = w4.heap.size := e
    have := h.lt (k := g.fb) (.inr (.inr ⟨g, hg, .inl rfl⟩))
    omega
  · have e : v'.ownBlock = some j := e
    have h5 := (ownsG_lt hown4 j e).1
    have := h.lt (k := j) (.inr (.inr ⟨g, hg, .inr hj⟩))
    omega
  · have hF2 : FrameT (fun k => k = m2) w4 w5 := ((FrameT.below (T := fun _ => False) (bel_alloc (Below.refl w4.heap.size w4) (.cells #[v', .int .i64 k] 97))).mono (fun _ h => False.elim h)).trans hF
    refine ownsG_frame hb hF2 (fun j hj e => ?_)
    have e : j = m2 := e
    have := (ownsG_lt hown4 j hj).1
    omega
theorem FilesAt.below {w W : World} {a : Option Addr} {l : List IFile} (h : FilesAt w a l) (hB : Below w.heap.size w W) : FilesAt W a l := fun i hi => by
  obtain ⟨b, off, e, hb, h0, h1, h2⟩ := h i hi
  exact ⟨b, off, e, Nat.lt_of_lt_of_le hb hB.size, (hB.cell hb).trans h0, (hB.cell hb).trans h1, (hB.cell hb).trans h2⟩
theorem ofL_take (L : List PF) (l : List IFile) {k : Nat} (h : k < l.length) : ofL L (l.take (k + 1)) = ofStep (ofL L (l.take k)) l[k] := by
  unfold ofL
  rw [List.take_succ_eq_append_getElem h, List.foldl_append]; rfl

end Go.Proofs.YtoieacmipejfeaaGreatDoor

/- How many files and bytes a disk has behind each operation (plain lists). -/
namespace Go.Proofs.YtoieacmipejfeaaGreatDoor
set_option linter.unusedVariables false

theorem del_len {α : Type} (nm : α → ByteArray) (F : List α) (s : ByteArray) : (delK nm F s).length ≤ F.length := List.length_filter_le _ _
theorem put_len {α : Type} (nm : α → ByteArray) (x : α) (F : List α) : (putK nm x F).length ≤ F.length + 1 := by
  unfold putK
  rw [insK_len]
  have := del_len nm F (nm x)
  omega
theorem turn_len (g : PF → PF) (L : List PF) (s : ByteArray) : (turnL g L s).length = L.length := by unfold turnL; simp
theorem used_cons (f : PF) (L : List PF) : usedL (f :: L) = f.b.length + usedL L := by simp [usedL]
theorem used_del : ∀ (L : List PF) (s : ByteArray), usedL (delK PF.n L s) ≤ usedL L
  | [], _ => Nat.le_refl _
  | f :: r, s => by
    have ih := used_del r s
    rw [used_cons]
    unfold delK at ih ⊢
    rw [List.filter_cons]
    split
    · rw [used_cons]; omega
    · omega
theorem used_ins (x : PF) : ∀ L : List PF, usedL (insK PF.n x L) = x.b.length + usedL L
  | [] => by simp [insK, usedL]
  | f :: r => by
    unfold insK
    split
    · rw [used_cons]
    · rw [used_cons, used_ins x r, used_cons]; omega
theorem used_put (x : PF) (L : List PF) : usedL (putK PF.n x L) ≤ usedL L + x.b.length := by
  unfold putK
  rw [used_ins]
  have := used_del L x.n
  omega
theorem used_turn {g : PF → PF} (hg : ∀ x, (g x).b.length ≤ x.b.length) : ∀ (L : List PF) (s : ByteArray), usedL (turnL g L s) ≤ usedL L
  | [], _ => Nat.le_refl _
  | f :: r, s => by
    have ih := used_turn hg r s
    show usedL ((if f.n = s then g f else f) :: turnL g r s) ≤ _
    rw [used_cons, used_cons]
    have := hg f
    split <;> omega
theorem turn_none {g : PF → PF} {L : List PF} {s : ByteArray} (h : ∀ f ∈ L, f.n ≠ s) : turnL g L s = L := by
  unfold turnL
  conv => rhs; rw [← List.map_id L]
  apply List.map_congr_left
  intro f hf
  rw [if_neg (h f hf)]; rfl
/-- Where names differ, one file alone turns. -/
theorem used_app {L : List PF} (h : L.Pairwise fun f g => f.n ≠ g.n) (s b : ByteArray) : usedL (turnL (appP b) L s) ≤ usedL L + b.size := by
  induction L with
  | nil => exact Nat.zero_le _
  | cons f r ih =>
    obtain ⟨h1, h2⟩ := List.pairwise_cons.1 h
    show usedL ((if f.n = s then appP b f else f) :: turnL (appP b) r s) ≤ _
    rw [used_cons, used_cons]
    by_cases e : f.n = s
    · rw [if_pos e, turn_none (fun g hg e2 => h1 g hg (e.trans e2.symm))]
      have : (appP b f).b.length = f.b.length + b.size := by
        show (f.b ++ b.data.toList).length = _
        rw [List.length_append, Array.length_toList]; rfl
      omega
    · rw [if_neg e]
      have := ih h2
      omega
theorem ris_names {L : List PF} (h : risN L) : L.Pairwise fun f g => f.n ≠ g.n := h.imp fun h => before_ne h

end Go.Proofs.YtoieacmipejfeaaGreatDoor

/- A disk with the blocks that are its own (DkT); what each operation leaves of it; its bounds (Fit). -/
namespace Go.Proofs.YtoieacmipejfeaaGreatDoor
open Go.RowKit Go.Shelf
set_option linter.unusedVariables false

/-! ### Bounds -/
structure Fit (D : PD) (n : Nat) : Prop where
  room : D.room ≤ 1000000
  used : usedL D.L ≤ 2000000
  len : D.L.length ≤ 1000
  steps : D.steps ≤ n
  left : D.left < 9223372036854775808
theorem Fit.up {D : PD} {n k : Nat} (h : Fit D n) (hk : n ≤ k) : Fit D k := ⟨h.room, h.used, h.len, Nat.le_trans h.steps hk, h.left⟩
theorem Fit.done {D : PD} {n : Nat} {L : List PF} (h : Fit D n) (hu : usedL L ≤ 2000000) (hl : L.length ≤ 1000) : Fit (doneD { D with L := L }) (n + 1) := by
  refine ⟨h.room, hu, hl, Nat.succ_le_succ h.steps, ?_⟩
  have := h.left
  show (if D.lim then D.left - 1 else D.left) < _
  split <;> omega
theorem Fit.create {D : PD} {n : Nat} (h : Fit D n) (s : ByteArray) : Fit (createD D s) (n + 1) := by
  unfold createD
  by_cases e : createE D s = 0
  · rw [if_pos e]
    have hl : ¬ 1000 ≤ D.L.length := by
      intro hc
      unfold createE at e
      rw [if_pos hc] at e
      split at e
      · cases e
      · split at e <;> cases e
    have h1 := used_put ⟨s, [], 0⟩ D.L
    have h2 := put_len PF.n ⟨s, [], 0⟩ D.L
    have h3 := h.used
    simp only [List.length_nil] at h1
    exact h.done (by omega) (by omega)
  · rw [if_neg e]; exact h.up (by omega)
theorem Fit.append {D : PD} {n : Nat} (h : Fit D n) (hp : D.L.Pairwise fun f g => f.n ≠ g.n) (s b : ByteArray) : Fit (appendD D s b) (n + 1) := by
  unfold appendD
  by_cases e : appendE D s b = 0
  · rw [if_pos e]
    have hr : ¬ D.room < usedL D.L + b.size := by
      intro hc
      unfold appendE at e
      rw [if_pos hc] at e
      split at e
      · exact absurd e (by assumption)
      · cases e
    have h1 := used_app hp s b
    have h2 := h.room
    exact h.done (by omega) (by rw [turn_len]; exact h.len)
  · rw [if_neg e]; exact h.up (by omega)
theorem Fit.turn {D : PD} {n : Nat} (h : Fit D n) {g : PF → PF} (hg : ∀ x, (g x).b.length ≤ x.b.length) (s : ByteArray) : Fit (if askE D s = 0 then doneD { D with L := turnL g D.L s } else D) (n + 1) := by
  split
  · exact h.done (Nat.le_trans (used_turn hg D.L s) h.used) (by rw [turn_len]; exact h.len)
  · exact h.up (by omega)
theorem Fit.sync {D : PD} {n : Nat} (h : Fit D n) (s : ByteArray) : Fit (syncD D s) (n + 1) := h.turn (g := keepP) (fun x => Nat.le_refl _) s
theorem Fit.cut {D : PD} {n : Nat} (h : Fit D n) (s : ByteArray) (k : Int) : Fit (cutD D s k) (n + 1) := h.turn (g := cutP k) (fun x => by show (x.b.take _).length ≤ _; rw [List.length_take]; omega) s
theorem Fit.remove {D : PD} {n : Nat} (h : Fit D n) (s : ByteArray) : Fit (removeD D s) (n + 1) := by
  unfold removeD
  split
  · exact h.done (Nat.le_trans (used_del D.L s) h.used) (Nat.le_trans (del_len _ _ _) h.len)
  · exact h.up (by omega)
theorem used_del_get : ∀ {L : List PF} {s : ByteArray} {f : PF}, getK PF.n L s = some f → usedL (delK PF.n L s) + f.b.length ≤ usedL L ∧ (delK PF.n L s).length + 1 ≤ L.length
  | [], s, f, h => by cases h
  | g :: r, s, f, h => by
    unfold getK at h
    rw [List.find?_cons] at h
    unfold delK
    rw [List.filter_cons, used_cons, List.length_cons]
    by_cases e : g.n = s
    · simp only [e, decide_true] at h
      injection h with h
      subst h
      have h1 := used_del r s
      have h2 := del_len PF.n r s
      unfold delK at h1 h2
      simp only [e, decide_true, Bool.not_true, Bool.false_eq_true, if_false]
      omega
    · simp only [e, decide_false] at h
      have ih := used_del_get (L := r) (s := s) (f := f) h
      unfold delK at ih
      simp only [e, decide_false, Bool.not_false, if_true, used_cons, List.length_cons]
      omega
theorem Fit.rename {D : PD} {n : Nat} (h : Fit D n) (s t : ByteArray) : Fit (renameD D s t) (n + 1) := by
  unfold renameD
  split
  · rename_i e
    unfold renF
    cases hg : getK PF.n D.L s with
    | none => exact h.done h.used h.len
    | some f =>
      dsimp only
      have h1 := used_del_get hg
      have h2 := used_put (namedP f t f.b.length) (delK PF.n D.L s)
      have h3 := put_len PF.n (namedP f t f.b.length) (delK PF.n D.L s)
      have h4 := h.used
      have h5 := h.len
      have h6 : (namedP f t f.b.length).b.length = f.b.length := rfl
      exact h.done (by omega) (by omega)
  · exact h.up (by omega)
def limitD (D : PD) (n : Int) : PD := { D with lim := true, left := (max n 0).toNat }
theorem Fit.limit {D : PD} {n : Nat} (h : Fit D n) {k : Int} (hk : k < 9223372036854775808) : Fit (limitD D k) n := ⟨h.room, h.used, h.len, h.steps, by show (max k 0).toNat < _; omega⟩
def crP (keep i : Nat) (f : PF) : PF := ⟨f.n, f.b.take (f.k + (f.b.length - f.k) * share keep i / 255), f.k + (f.b.length - f.k) * share keep i / 255⟩
def crL (keep : Nat) : Nat → List PF → List PF
  | _, [] => []
  | i, f :: r => crP keep i f :: crL keep (i + 1) r
theorem crF_core (keep : Nat) : ∀ (F : List FileC) (i : Nat), (crF keep i F).map FileC.core = crL keep i (F.map FileC.core)
  | [], _ => rfl
  | f :: r, i => by
    show (cutC1 f _).core :: (crF keep (i + 1) r).map FileC.core = crP keep i f.core :: crL keep (i + 1) (r.map FileC.core)
    rw [crF_core keep r (i + 1)]; rfl
theorem crL_used (keep : Nat) : ∀ (L : List PF) (i : Nat), usedL (crL keep i L) ≤ usedL L ∧ (crL keep i L).length = L.length
  | [], _ => ⟨Nat.le_refl _, rfl⟩
  | f :: r, i => by
    have ih := crL_used keep r (i + 1)
    show usedL (crP keep i f :: crL keep (i + 1) r) ≤ _ ∧ (crP keep i f :: crL keep (i + 1) r).length = _
    rw [used_cons, used_cons, List.length_cons, List.length_cons]
    have : (crP keep i f).b.length ≤ f.b.length := by show (f.b.take _).length ≤ _; rw [List.length_take]; omega
    omega
def crashD (D : PD) (keep : Nat) : PD := { D with L := crL keep 0 D.L, lim := false, left := 0 }
theorem Fit.crash {D : PD} {n : Nat} (h : Fit D n) (keep : Nat) : Fit (crashD D keep) n := by
  have := crL_used keep D.L 0
  exact ⟨h.room, Nat.le_trans this.1 h.used, by show (crL keep 0 D.L).length ≤ _; rw [this.2]; exact h.len, h.steps, by show (0 : Nat) < _; omega⟩

/-! ### A disk and its own blocks -/
def DkT (W : World) (B d : Nat) (D : PD) (T : Nat → Prop) : Prop := ∃ m F, HasDisk W B d m D F ∧ T = ownD F d m
theorem DkT.lt {W : World} {B d : Nat} {D : PD} {T : Nat → Prop} (h : DkT W B d D T) {k : Nat} (hk : T k) : k < W.heap.size := by
  obtain ⟨m, F, h, rfl⟩ := h; exact h.lt hk
theorem DkT.ge {W : World} {B d : Nat} {D : PD} {T : Nat → Prop} (h : DkT W B d D T) {k : Nat} (hk : T k) : B ≤ k := by
  obtain ⟨m, F, h, rfl⟩ := h; exact h.ge hk
theorem DkT.own {W : World} {B d : Nat} {D : PD} {T : Nat → Prop} (h : DkT W B d D T) : T d := by
  obtain ⟨m, F, h, rfl⟩ := h; exact .inl rfl
theorem DkT.base {W : World} {B d : Nat} {D : PD} {T : Nat → Prop} (h : DkT W B d D T) : B ≤ W.heap.size := Nat.le_of_lt (Nat.lt_of_le_of_lt (h.ge h.own) (h.lt h.own))
theorem DkT.frame {T U : Nat → Prop} {W W' : World} {B d : Nat} {D : PD} (h : DkT W B d D T) (hF : FrameT U W W') (hT : ∀ k, T k → ¬ U k) : DkT W' B d D T := by
  obtain ⟨m, F, h, rfl⟩ := h; exact ⟨m, F, h.frame hF hT, rfl⟩
theorem DkT.below {T : Nat → Prop} {W W' : World} {B d : Nat} {D : PD} (h : DkT W B d D T) (hB : Below W.heap.size W W') : DkT W' B d D T := by
  obtain ⟨m, F, h, rfl⟩ := h; exact ⟨m, F, h.below hB, rfl⟩
theorem DkT.names {W : World} {B d : Nat} {D : PD} {T : Nat → Prop} (h : DkT W B d D T) : risN D.L := by
  obtain ⟨m, F, h, rfl⟩ := h; exact h.ris
/-- What an operation on the disk at d leaves. -/
def OpT (W : World) (B d : Nat) (T : Nat → Prop) (D' : PD) (W' : World) : Prop := ∃ T', DkT W' B d D' T' ∧ FrameT T W W' ∧ ∀ k, T' k → T k ∨ W.heap.size ≤ k
theorem OpT.of {W W' : World} {B d m : Nat} {F : List FileC} {D' : PD} (h : OpD W B d m F D' W') : OpT W B d (ownD F d m) D' W' := by
  obtain ⟨F', h1, h2, h3⟩ := h
  exact ⟨_, ⟨m, F', h1, rfl⟩, h2, h3⟩
theorem OpT.same {W W' : World} {B d : Nat} {T : Nat → Prop} {D : PD} (h : DkT W B d D T) (hB : Below W.heap.size W W') : OpT W B d T D W' := ⟨T, h.below hB, FrameT.below hB, fun _ hk => .inl hk⟩
theorem newT (room : Int) (w : World) : Calls Tryz.prog 10 #[.int .i64 room] w fun e w' => e = .returned (.pointer (some ⟨w.heap.size + 1, 0, none⟩)) ∧ (∃ T, DkT w' w.heap.size (w.heap.size + 1) ⟨[], (min (max room 0) 1000000).toNat, 0, false, 0⟩ T) ∧ Below w.heap.size w w' := by
  refine (dnew_any room w).mono ?_
  rintro e w' ⟨rfl, h, hB⟩
  exact ⟨rfl, ⟨_, _, _, h, rfl⟩, hB⟩
theorem createT {W : World} {B d n : Nat} {D : PD} {T : Nat → Prop} (h : DkT W B d D T) (hf : Fit D n) (hn : n ≤ 1000000) (s : ByteArray) (hs : s.size ≤ maxLen) :
    Calls Tryz.prog 29 #[.pointer (some ⟨d, 0, none⟩), .string s] W fun e w' => e = .returned (.int .i64 (createE D s)) ∧ OpT W B d T (createD D s) w' := by
  have hb := h.base
  obtain ⟨m, F, h, rfl⟩ := h
  refine (create_any h s hs (by have := hf.steps; omega) hf.left hb).mono ?_
  rintro e w' ⟨rfl, ho⟩; exact ⟨rfl, .of ho⟩
theorem appendT {W : World} {B d n : Nat} {D : PD} {T : Nat → Prop} (h : DkT W B d D T) (hf : Fit D n) (hn : n ≤ 1000000) (s b : ByteArray) (hs : s.size ≤ maxLen) (hb : b.size ≤ 1000000) :
    Calls Tryz.prog 30 #[.pointer (some ⟨d, 0, none⟩), .string s, .string b] W fun e w' => e = .returned (.int .i64 (appendE D s b)) ∧ OpT W B d T (appendD D s b) w' := by
  have hbs := h.base
  obtain ⟨m, F, h, rfl⟩ := h
  refine (append_any h s b hs hb (by have := hf.used; omega) hf.room (by have := hf.steps; omega) hf.left hbs).mono ?_
  rintro e w' ⟨rfl, ho⟩; exact ⟨rfl, .of ho⟩
theorem syncT {W : World} {B d n : Nat} {D : PD} {T : Nat → Prop} (h : DkT W B d D T) (hf : Fit D n) (hn : n ≤ 1000000) (s : ByteArray) (hs : s.size ≤ maxLen) :
    Calls Tryz.prog 39 #[.pointer (some ⟨d, 0, none⟩), .string s] W fun e w' => e = .returned (.int .i64 (askE D s)) ∧ OpT W B d T (syncD D s) w' := by
  obtain ⟨m, F, h, rfl⟩ := h
  refine (sync_any h s hs (by have := hf.steps; omega) hf.left).mono ?_
  rintro e w' ⟨rfl, ho⟩; exact ⟨rfl, .of ho⟩
theorem removeT {W : World} {B d n : Nat} {D : PD} {T : Nat → Prop} (h : DkT W B d D T) (hf : Fit D n) (hn : n ≤ 1000000) (s : ByteArray) (hs : s.size ≤ maxLen) :
    Calls Tryz.prog 43 #[.pointer (some ⟨d, 0, none⟩), .string s] W fun e w' => e = .returned (.int .i64 (askE D s)) ∧ OpT W B d T (removeD D s) w' := by
  obtain ⟨m, F, h, rfl⟩ := h
  refine (remove_any h s hs (by have := hf.steps; omega) hf.left).mono ?_
  rintro e w' ⟨rfl, ho⟩; exact ⟨rfl, .of ho⟩
theorem HasDisk.len {W : World} {B d m : Nat} {D : PD} {F : List FileC} (h : HasDisk W B d m D F) : F.length = D.L.length := by rw [← h.core, List.length_map]
theorem renameT {W : World} {B d n : Nat} {D : PD} {T : Nat → Prop} (h : DkT W B d D T) (hf : Fit D n) (hn : n ≤ 1000000) (s t : ByteArray) (hs : s.size ≤ maxLen) (ht : t.size ≤ maxLen) :
    Calls Tryz.prog 60 #[.pointer (some ⟨d, 0, none⟩), .string s, .string t] W fun e w' => e = .returned (.int .i64 (askE D s)) ∧ OpT W B d T (renameD D s t) w' := by
  obtain ⟨m, F, h, rfl⟩ := h
  refine (rename_any h s t hs ht (by have := hf.len; rw [h.len]; unfold maxLen; omega) (by have := hf.steps; omega) hf.left).mono ?_
  rintro e w' ⟨rfl, ho⟩; exact ⟨rfl, .of ho⟩
theorem dreadT {W : World} {B d : Nat} {D : PD} {T : Nat → Prop} (h : DkT W B d D T) (s : ByteArray) (hs : s.size ≤ maxLen) :
    Calls Tryz.prog 25 #[.pointer (some ⟨d, 0, none⟩), .string s] W fun e w' => e = .returned (.tuple #[.string (readB D s), .int .i64 (askE D s)]) ∧ w' = W := by
  obtain ⟨m, F, h, rfl⟩ := h
  exact dread_any h s hs
theorem limitT {W : World} {B d : Nat} {D : PD} {T : Nat → Prop} (h : DkT W B d D T) (k : Int) :
    Calls Tryz.prog 23 #[.pointer (some ⟨d, 0, none⟩), .int .i64 k] W fun e w' => (∃ v, e = .returned v) ∧ OpT W B d T (limitD D k) w' := by
  obtain ⟨m, F, h, rfl⟩ := h
  refine (limit_any h k).mono ?_
  rintro e w' ⟨he, h1, h2⟩
  exact ⟨he, _, ⟨m, F, h1, rfl⟩, h2.mono fun k hk => .inl hk, fun k hk => .inl hk⟩
theorem crF_own (keep : Nat) {d m : Nat} : ∀ {F : List FileC} (i : Nat) {k : Nat}, ownD (crF keep i F) d m k → ownD F d m k
  | [], _, _, h => h
  | f :: r, i, k, h => by
    rcases h with h | h | ⟨x, hx, h⟩
    · exact .inl h
    · exact .inr (.inl h)
    · rcases List.mem_cons.1 (show x ∈ cutC1 f (crK keep i f) :: crF keep (i + 1) r from hx) with rfl | hx
      · refine .inr (.inr ⟨f, List.mem_cons_self .., ?_⟩)
        rcases h with h | h
        · exact .inl h
        · right
          obtain ⟨n, fb, v, b, k'⟩ := f
          cases v with
          | slice a l c => cases a <;> exact h
          | _ => exact h
      · have := crF_own keep (d := d) (m := m) (F := r) (i + 1) (k := k) (.inr (.inr ⟨x, hx, h⟩))
        rcases this with h | h | ⟨y, hy, h⟩
        · exact .inl h
        · exact .inr (.inl h)
        · exact .inr (.inr ⟨y, List.mem_cons_of_mem _ hy, h⟩)
theorem crashT {W : World} {B d n : Nat} {D : PD} {T : Nat → Prop} (h : DkT W B d D T) (hf : Fit D n) (keep : Nat) (hk : keep < 18446744073709551616) :
    Calls Tryz.prog 24 #[.pointer (some ⟨d, 0, none⟩), .int .u64 keep] W fun e w' => (∃ v, e = .returned v) ∧ OpT W B d T (crashD D keep) w' := by
  obtain ⟨m, F, h, rfl⟩ := h
  refine (crash_any h (by rw [h.len]; exact hf.len) (by have := hf.used; omega) keep hk).mono ?_
  rintro e w' ⟨he, h1, h2⟩
  refine ⟨he, _, ⟨m, _, ?_, rfl⟩, h2, fun k hk => .inl (crF_own keep 0 hk)⟩
  have hc : (crF keep 0 F).map FileC.core = crL keep 0 D.L := by rw [crF_core, h.core]
  rw [hc] at h1
  exact h1
theorem usedT {W : World} {B d n : Nat} {D : PD} {T : Nat → Prop} (h : DkT W B d D T) (hf : Fit D n) : Calls Tryz.prog 28 #[.pointer (some ⟨d, 0, none⟩)] W fun e w' => e = .returned (.int .i64 (usedL D.L)) ∧ Below W.heap.size W w' := by
  obtain ⟨m, F, h, rfl⟩ := h
  exact used_any h (by have := hf.used; omega)
theorem allT {W : World} {B d n : Nat} {D : PD} {T : Nat → Prop} (h : DkT W B d D T) (hf : Fit D n) :
    Calls Tryz.prog 47 #[.pointer (some ⟨d, 0, none⟩)] W fun e w' => ∃ v, e = .returned v ∧ w'.ownsRow W.heap.size 90 3 v D.L.length (pfCells D.L) ∧ Below W.heap.size W w' := by
  obtain ⟨m, F, h, rfl⟩ := h
  have := all_any h (by rw [h.len]; exact hf.len)
  rw [h.len] at this
  exact this
/-! ### One disk in a world, all of whose blocks are new since w -/
def One (w : World) (d : Nat) (D : PD) (W : World) : Prop := ∃ T, DkT W w.heap.size d D T ∧ Below w.heap.size w W
theorem One.below {w W W' : World} {d : Nat} {D : PD} (h : One w d D W) (hB : Below W.heap.size W W') : One w d D W' := by
  obtain ⟨T, h, hB0⟩ := h
  exact ⟨T, h.below hB, bel2 hB0 hB⟩
theorem One.op {w W W' : World} {d : Nat} {D D' : PD} {T : Nat → Prop} (h : DkT W w.heap.size d D T) (hB : Below w.heap.size w W) (ho : OpT W w.heap.size d T D' W') : One w d D' W' := by
  obtain ⟨T', h1, h2, h3⟩ := ho
  exact ⟨T', h1, hB.trans (h2.toBelow hB.size fun k hk => h.ge hk)⟩
theorem One.bel {w W : World} {d : Nat} {D : PD} (h : One w d D W) : Below w.heap.size w W := h.choose_spec.2
theorem One.ris {w W : World} {d : Nat} {D : PD} (h : One w d D W) : risN D.L := h.choose_spec.1.names
theorem newO (room : Int) (w : World) : Calls Tryz.prog 10 #[.int .i64 room] w fun e w' => e = .returned (.pointer (some ⟨w.heap.size + 1, 0, none⟩)) ∧ One w (w.heap.size + 1) ⟨[], (min (max room 0) 1000000).toNat, 0, false, 0⟩ w' := by
  refine (newT room w).mono ?_
  rintro e w' ⟨rfl, ⟨T, h⟩, hB⟩; exact ⟨rfl, T, h, hB⟩
theorem createO {w W : World} {d n : Nat} {D : PD} (h : One w d D W) (hf : Fit D n) (hn : n ≤ 1000000) (s : ByteArray) (hs : s.size ≤ maxLen) :
    Calls Tryz.prog 29 #[.pointer (some ⟨d, 0, none⟩), .string s] W fun e w' => e = .returned (.int .i64 (createE D s)) ∧ One w d (createD D s) w' := by
  obtain ⟨T, h, hB⟩ := h
  refine (createT h hf hn s hs).mono ?_
  rintro e w' ⟨rfl, ho⟩; exact ⟨rfl, .op h hB ho⟩
theorem appendO {w W : World} {d n : Nat} {D : PD} (h : One w d D W) (hf : Fit D n) (hn : n ≤ 1000000) (s b : ByteArray) (hs : s.size ≤ maxLen) (hb : b.size ≤ 1000000) :
    Calls Tryz.prog 30 #[.pointer (some ⟨d, 0, none⟩), .string s, .string b] W fun e w' => e = .returned (.int .i64 (appendE D s b)) ∧ One w d (appendD D s b) w' := by
  obtain ⟨T, h, hB⟩ := h
  refine (appendT h hf hn s b hs hb).mono ?_
  rintro e w' ⟨rfl, ho⟩; exact ⟨rfl, .op h hB ho⟩
theorem syncO {w W : World} {d n : Nat} {D : PD} (h : One w d D W) (hf : Fit D n) (hn : n ≤ 1000000) (s : ByteArray) (hs : s.size ≤ maxLen) :
    Calls Tryz.prog 39 #[.pointer (some ⟨d, 0, none⟩), .string s] W fun e w' => e = .returned (.int .i64 (askE D s)) ∧ One w d (syncD D s) w' := by
  obtain ⟨T, h, hB⟩ := h
  refine (syncT h hf hn s hs).mono ?_
  rintro e w' ⟨rfl, ho⟩; exact ⟨rfl, .op h hB ho⟩
theorem removeO {w W : World} {d n : Nat} {D : PD} (h : One w d D W) (hf : Fit D n) (hn : n ≤ 1000000) (s : ByteArray) (hs : s.size ≤ maxLen) :
    Calls Tryz.prog 43 #[.pointer (some ⟨d, 0, none⟩), .string s] W fun e w' => e = .returned (.int .i64 (askE D s)) ∧ One w d (removeD D s) w' := by
  obtain ⟨T, h, hB⟩ := h
  refine (removeT h hf hn s hs).mono ?_
  rintro e w' ⟨rfl, ho⟩; exact ⟨rfl, .op h hB ho⟩
theorem renameO {w W : World} {d n : Nat} {D : PD} (h : One w d D W) (hf : Fit D n) (hn : n ≤ 1000000) (s t : ByteArray) (hs : s.size ≤ maxLen) (ht : t.size ≤ maxLen) :
    Calls Tryz.prog 60 #[.pointer (some ⟨d, 0, none⟩), .string s, .string t] W fun e w' => e = .returned (.int .i64 (askE D s)) ∧ One w d (renameD D s t) w' := by
  obtain ⟨T, h, hB⟩ := h
  refine (renameT h hf hn s t hs ht).mono ?_
  rintro e w' ⟨rfl, ho⟩; exact ⟨rfl, .op h hB ho⟩
theorem dreadO {w W : World} {d : Nat} {D : PD} (h : One w d D W) (s : ByteArray) (hs : s.size ≤ maxLen) :
    Calls Tryz.prog 25 #[.pointer (some ⟨d, 0, none⟩), .string s] W fun e w' => e = .returned (.tuple #[.string (readB D s), .int .i64 (askE D s)]) ∧ w' = W := by
  obtain ⟨T, h, hB⟩ := h
  exact dreadT h s hs
theorem limitO {w W : World} {d : Nat} {D : PD} (h : One w d D W) (k : Int) :
    Calls Tryz.prog 23 #[.pointer (some ⟨d, 0, none⟩), .int .i64 k] W fun e w' => (∃ v, e = .returned v) ∧ One w d (limitD D k) w' := by
  obtain ⟨T, h, hB⟩ := h
  refine (limitT h k).mono ?_
  rintro e w' ⟨he, ho⟩; exact ⟨he, .op h hB ho⟩
theorem crashO {w W : World} {d n : Nat} {D : PD} (h : One w d D W) (hf : Fit D n) (keep : Nat) (hk : keep < 18446744073709551616) :
    Calls Tryz.prog 24 #[.pointer (some ⟨d, 0, none⟩), .int .u64 keep] W fun e w' => (∃ v, e = .returned v) ∧ One w d (crashD D keep) w' := by
  obtain ⟨T, h, hB⟩ := h
  refine (crashT h hf keep hk).mono ?_
  rintro e w' ⟨he, ho⟩; exact ⟨he, .op h hB ho⟩
theorem usedO {w W : World} {d n : Nat} {D : PD} (h : One w d D W) (hf : Fit D n) : Calls Tryz.prog 28 #[.pointer (some ⟨d, 0, none⟩)] W fun e w' => e = .returned (.int .i64 (usedL D.L)) ∧ Below W.heap.size W w' := usedT h.choose_spec.1 hf
theorem allO {w W : World} {d n : Nat} {D : PD} (h : One w d D W) (hf : Fit D n) :
    Calls Tryz.prog 47 #[.pointer (some ⟨d, 0, none⟩)] W fun e w' => ∃ v, e = .returned v ∧ w'.ownsRow W.heap.size 90 3 v D.L.length (pfCells D.L) ∧ Below W.heap.size W w' := allT h.choose_spec.1 hf

end Go.Proofs.YtoieacmipejfeaaGreatDoor
