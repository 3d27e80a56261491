/- The contract of a disk's All. -/
import Derived.Test.YtieekahlknmkfaaDskI
import Derived.Test.YtieekahlknmkfaaRegion
import Derived.Deep.RegionHeld3
import Derived.Deep.AppendLies
namespace Go.Proofs.Ytieekahlknmkfaa
open Go.RowKit Go.Shelf
set_option linter.unusedVariables false
attribute [local go_sem] Oper.semAt_some wide_fn wide_round_fn

def PF.cells (f : PF) : List Value := [.string f.n, .string ⟨f.b.toArray⟩, .int .i64 f.k]
def pfCells (L : List PF) : List Value := L.flatMap PF.cells
theorem pfCells_snoc (L : List PF) (f : PF) : pfCells (L ++ [f]) = pfCells L ++ f.cells := by simp [pfCells]
theorem infoFile : (Try.prog.info? 26).map (fun i => (i.zero, i.size, i.bytes)) = some (some (.agg #[.string ⟨#[]⟩, .string ⟨#[]⟩, .int .i64 0]), 3, 40) := by kernel_rfl
theorem order_any (d : Nat) (W : World) : Calls Try.prog 60 #[.pointer (some ⟨d, 0, none⟩)] W fun e w' => e = .returned (.func (.func 77) #[] #[.pointer (some ⟨W.heap.size, 0, none⟩)]) ∧ w' = W.alloc (.cells #[.pointer (some ⟨d, 0, none⟩)] 27) := by
  go_enter Try.func60, Try.ntmps60
  go_wp2
  go_ret
  exact ⟨rfl, rfl⟩
theorem fnews_new (w : World) (e : TypeId) (news : List Value) : ∀ j u, news[j]? = some u → (w.alloc (.cells news.toArray e)).cell? ((⟨w.heap.size, 0, none⟩ : Addr).add j) = some u := fun j u h =>
  World.news_of_block (heap_alloc_new w _) j u (by simpa using h)
theorem ownsRow_kept {W : World} {base : Nat} {e : TypeId} {size : Nat} {v : Value} {k : Nat} {xs : List Value} (h : W.ownsRow base e size v k xs) {D : Nat} {o : Obj} (hD : W.heap[D]? = some o) (hc : o.isCells = false) (o' : Obj) : (W.putObj D o').ownsRow base e size v k xs := by
  refine ⟨h.1, ?_⟩
  rcases h.2 with h2 | ⟨g, cap, cur, hv, hg, hh, r⟩
  · exact .inl h2
  · refine .inr ⟨g, cap, cur, hv, hg, (World.putObj_heap_other (fun e => ?_)).trans hh, r⟩
    rw [e, hD] at hh
    cases hh
    cases hc
theorem wpIn_of_held {F : Fence} {n : Nat} {P : Program} {id : Nat} {Q : Exit → Act → World → Prop} {a : Act} {w : World} {l : List Oper} {S : World → Prop} (hm : P.follows .mixedOrders = true) (hd : l.all (fun o => !isDefer o.op) = true) (hF : ∃ ro, F = { Fence.wide with round := ro }) (hS : S w.drew)
    (h : S w.drew → wpAnyH P .any l.toArray (onlyNormal Q) S l.toArray.size (Array.replicate l.toArray.size false) a w.drew) : (Code.region id l.toArray true).wpIn F n P Q a w := by
  refine wpIn_region_any hm (anyIn_of_plain hF (fun i o ho => ?_) _ _ _ _ (wpAny_of_held _ _ _ _ (h hS)))
  have hmem : o ∈ l := by
    simp only [List.getElem?_toArray] at ho
    exact List.mem_of_getElem? ho
  have := List.all_eq_true.1 hd o hmem
  simpa using this
/-- What a round reads of a file. -/
def heldS (x : FileC) (a : Option Addr) (cap : Nat) (W : World) : Prop := W.cell? ⟨x.fb, 0, none⟩ = some (.slice a x.b.length cap) ∧ W.cell? ⟨x.fb, 1, none⟩ = some (.int .i64 x.k) ∧ (convert 64 9 (.slice a x.b.length cap)).run Try.prog W = .ok (.string ⟨x.b.toArray⟩) W
theorem heldS_of {w W : World} {B d m : Nat} {D : PD} {F : List FileC} (h : HasDisk w B d m D F) {x : FileC} (hx : x ∈ F) {a : Option Addr} {cap : Nat} (hv : x.v = .slice a x.b.length cap) (hB : Below w.heap.size w W) : heldS x a cap W := by
  obtain ⟨hfc, hfr, -⟩ := (h.below hB).file x hx
  rw [hv] at hfc hfr
  obtain ⟨k0, k1, -, -⟩ := cells2 hfc
  exact ⟨k0, k1, run_string_G Try.underlying64 Try.underlying5 Try.underlying9 hfr⟩
theorem app_all {w W w2 : World} {t e : TypeId} {sz B0 B1 n k L : Nat} {v v' : Value} {xs ys : List Value} {tmp : Obj} (hte : t ≠ e) (hB : Below w.heap.size w W) (hBB : w.heap.size < B1) (hs : B1 ≤ W.heap.size) (hv : Boxed W w.heap.size t v) (hrow : W.ownsRow B1 e sz v n xs)
    (hown' : w2.ownsRow B1 e sz v' k ys) (hgrow : (W.drew.alloc tmp).grownBy w2 v.ownBlock) :
    Below w.heap.size w w2 ∧ Boxed w2 w.heap.size t v ∧ Below w.heap.size w (w2.setCell ⟨w.heap.size, 0, none⟩ v') ∧ Boxed (w2.setCell ⟨w.heap.size, 0, none⟩ v') w.heap.size t v' ∧ (w2.setCell ⟨w.heap.size, 0, none⟩ v').ownsRow B1 e sz v' k ys ∧ Rd B0 (fun j => (j < B1 ∧ ¬ (j = w.heap.size)) ∧ j ≠ L) W (w2.setCell ⟨w.heap.size, 0, none⟩ v') := by
  obtain ⟨h1, h2, h3, h4, h5⟩ := boxed_appended (W := W.drew) (n₀ := w.heap.size) (base := B1) (B0 := B0) (S := fun j => (j < B1 ∧ ¬ (j = w.heap.size)) ∧ j ≠ L) (show Boxed W.drew w.heap.size t v from hv) hte (show W.drew.ownsRow B1 e sz v n xs from hrow) (by omega) hs (Nat.le_refl _) (fun h => h.1.2 rfl) (fun j hj h => by have := h.1.1; omega) hown' hgrow
  refine ⟨(bel_alloc hB.drew tmp).grown hgrow (by have := (bel_alloc hB.drew tmp).size; exact this) (fun j hj => by have := ownBlock_ge hrow hj; omega), h1, hB.drew.trans h5, h2, h3, ?_⟩
  exact (Rd.refl _ _ W).drew.trans h4
/-- The box q holds a slice that owns ys in blocks from B1 on; nothing that lay in w has turned. -/
def allI (w : World) (q : Nat) (t e : TypeId) (sz B1 n : Nat) (ys : List Value) (W : World) : Prop := ∃ v, Boxed W q t v ∧ W.ownsRow B1 e sz v n ys ∧ Below w.heap.size w W ∧ B1 ≤ W.heap.size
theorem allI_stab {w : World} {q B : Nat} {t e : TypeId} {sz B1 n : Nat} {ys : List Value} (h : w.heap.size ≤ B) : Stab B (fun _ => False) (allI w q t e sz B1 n ys) :=
  Stab.ex fun v => (Stab.boxed id).and ((Stab.ownsRow (fun _ h => h.elim)).and ((Stab.below (Nat.le_refl _) h (fun _ h => h.elim)).and Stab.size))
set_option maxRecDepth 100000 in
set_option maxHeartbeats 1000000 in
theorem all_any {w : World} {B d m : Nat} {D : PD} {F : List FileC} (h : HasDisk w B d m D F) (hF : F.length ≤ 1000) :
    Calls Try.prog 29 #[.pointer (some ⟨d, 0, none⟩)] w fun e w' => ∃ v, e = .returned v ∧ w'.ownsRow w.heap.size 26 3 v F.length (pfCells D.L) ∧ Below w.heap.size w w' := by
  obtain ⟨i0, hi, hz0, hz1, hz2⟩ := info_parts infoFile
  have hmx : Try.prog.follows .mixedOrders = true := by kernel_rfl
  refine (callsIn_wide (n := 9)).1 ?_
  refine callsIn_of_wp_marks Try.func29 rfl trivial ?_ rfl
  simp only [Try.ntmps29, List.size_toArray, List.length_cons, List.length_nil, Nat.reduceAdd, Nat.reduceSub, Array.replicate_succ, Array.replicate_zero, List.push_toArray, List.append_toArray, List.nil_append, List.cons_append]
  have bO := Boxed.new w 22 (.slice none 0 0)
  have hB0 : Below w.heap.size w (w.alloc (.cells #[.slice none 0 0] 22)) := (Below.refl _ w).alloc (Nat.le_refl _) _
  have hsz : (w.alloc (.cells #[.slice none 0 0] 22)).heap.size = w.heap.size + 1 := by simp
  have HD := Lib.hid h
  have HL := Lib.hid h.core
  have HB0 := Lib.hid hB0
  have HbO := Lib.hid bO
  have HSz := Lib.hid hsz
  clear h hB0 bO hsz
  gi_wp2_with (gi_at_call 60; refine (callsIn_wide.2 (order_any d _)).mono ?_; rintro e w1 ⟨rfl, rfl⟩)
  obtain ⟨w1, hw1⟩ : ∃ w1, w1 = (w.alloc (.cells #[.slice none 0 0] 22)).alloc (.cells #[.pointer (some ⟨d, 0, none⟩)] 27) := ⟨_, rfl⟩
  rw [← hw1]
  have hB1 : Below w.heap.size w w1 := by rw [hw1]; exact bel_alloc HB0.out _
  have bO1 : Boxed w1 w.heap.size 22 (.slice none 0 0) := by rw [hw1]; exact HbO.out.alloc _
  have cb : w1.cell? ⟨w.heap.size + 1, 0, none⟩ = some (.pointer (some ⟨d, 0, none⟩)) := by
    have := (Boxed.new (w.alloc (.cells #[.slice none 0 0] 22)) 27 (.pointer (some ⟨d, 0, none⟩))).cell
    rw [hw1]; rwa [World.size_alloc] at this
  have hsz1 : w1.heap.size = w.heap.size + 2 := by rw [hw1]; simp
  clear hw1
  have hdl := HD.out.lt (k := d) (.inl rfl)
  have hml := HD.out.lt (k := m) (.inr (.inl rfl))
  have HI := Lib.hid (order_iter HD.out (by omega) (w.heap.size + 1) (fun _ => True) (fun k => k = w.heap.size) w1 hB1 cb ⟨trivial, trivial, trivial⟩ ⟨by omega, by omega, by omega⟩ (fun k hk => by omega) (by omega))
  clear cb
  refine range_outerV rfl (enters_of Try.func77 (by kernel_rfl) rfl) HI.out (fun _ => rfl)
    (fun B1 pre W => allI w w.heap.size 22 26 3 B1 pre.length (pfCells (pre.map FileC.core)) W) (fun _ _ _ => False) (fun _ _ => allI_stab hB1.size) (fun _ _ => Stab.pure _)
    (fun W1 hb => ⟨_, boxed_below bO1 hb (by omega), World.ownsRow_nil _ _ _ _, hB1.trans (hb.mono hB1.size), Nat.le_refl _⟩) ?hr ?hd (fun _ _ _ _ _ _ h => h.elim)
  case hr =>
    rintro B1 L pre x suf W hBB hx hl' hi1 hrec
    have hpl : pre.length < 1000 := by have h1 := congrArg List.length hx; simp at h1; omega
    have hxF : x ∈ F := by rw [hx]; simp
    dsimp only [FileC.val]
    gi_wp2
    refine rdThen_mk _ (allI_stab hB1.size) hi1 (Rd.refl _ _ _) ?_
    clear hi1 hrec W
    rintro W ⟨v, hv, hrow, hB, hs⟩ hrec
    have hc := hv.cell
    have hf := hv.frozen
    obtain ⟨hfc, hfr, -⟩ := (HD.out.below hB).file x hxF
    obtain ⟨a, cap, hxv⟩ := own_sliceG hfr
    rw [hxv] at hfc hfr
    obtain ⟨k0, k1, -, -⟩ := cells2 hfc
    have hcv := run_string_G (P := Try.prog) (src := 64) (dst := 9) Try.underlying64 Try.underlying5 Try.underlying9 hfr
    have k0d : W.drew.cell? ⟨x.fb, 0, none⟩ = _ := k0
    have k1d : W.drew.cell? ⟨x.fb, 1, none⟩ = _ := k1
    have hcd : W.drew.cell? ⟨w.heap.size, 0, none⟩ = _ := hc
    have hcvd := run_string_G (P := Try.prog) (W := W.drew) (src := 64) (dst := 9) Try.underlying64 Try.underlying5 Try.underlying9 (show ownsG W.drew B 5 1 (.slice a x.b.length cap) x.b.length (x.b.map vb) from hfr)
    have hS2 : ∀ W', Below w.heap.size w W' → heldS x a cap W' := fun W' hb => heldS_of HD.out hxF hxv hb
    have hxF' := hxF
    clear hx hxF hfc hfr hxv
    gi_wp2
    have HRow0 := Lib.hid hrow
    have hca := (hv.alloc (.cells #[.string x.n, .string ⟨x.b.toArray⟩, .int .i64 x.k] 26)).cell
    have hBa := bel_alloc hB.drew (.cells #[.string x.n, .string ⟨x.b.toArray⟩, .int .i64 x.k] 26)
    have HB := Lib.hid hB
    have HV := Lib.hid hv
    have HRow := Lib.hid ((show W.drew.ownsRow B1 26 3 v pre.length (pfCells (pre.map FileC.core)) from hrow).alloc (.cells #[.string x.n, .string ⟨x.b.toArray⟩, .int .i64 x.k] 26))
    refine wpIn_of_held (S := heldS x a cap) hmx (by kernel_rfl) ⟨_, rfl⟩ ⟨k0d, k1d, hcvd⟩ (fun hHeld => ?_)
    refine wpAnyH_take (i := 1) (v := .string x.n) rfl (by kernel_rfl) (by kernel_rfl) (by kernel_rfl) (fun _ _ _ h => absurd h.1 (by simp)) (Or.inl ⟨by rfl, fun w hSw => by obtain ⟨s0, s1, s2⟩ := hSw; go_simp⟩) hHeld ?_
    try simp only [Act.put, List.getElem_toArray, List.getElem_cons_succ, List.getElem_cons_zero, List.setIfInBounds_toArray, List.set_cons_zero, List.set_cons_succ]
    refine wpAnyH_take (i := 2) (v := .pointer (some ⟨x.fb, 0, none⟩)) rfl (by kernel_rfl) (by kernel_rfl) (by kernel_rfl) (fun _ _ _ h => absurd h.1 (by simp)) (Or.inl ⟨by rfl, fun w hSw => by obtain ⟨s0, s1, s2⟩ := hSw; go_simp⟩) hHeld ?_
    try simp only [Act.put, List.getElem_toArray, List.getElem_cons_succ, List.getElem_cons_zero, List.setIfInBounds_toArray, List.set_cons_zero, List.set_cons_succ]
    refine wpAnyH_take (i := 3) (v := .pointer (some ⟨x.fb, 0, none⟩)) rfl (by kernel_rfl) (by kernel_rfl) (by kernel_rfl) (fun _ _ _ h => absurd h.1 (by simp)) (Or.inl ⟨by rfl, fun w hSw => by obtain ⟨s0, s1, s2⟩ := hSw; go_simp⟩) hHeld ?_
    try simp only [Act.put, List.getElem_toArray, List.getElem_cons_succ, List.getElem_cons_zero, List.setIfInBounds_toArray, List.set_cons_zero, List.set_cons_succ]
    refine wpAnyH_take (i := 4) (v := .pointer (some ⟨x.fb, 0, none⟩)) rfl (by kernel_rfl) (by kernel_rfl) (by kernel_rfl) (fun _ _ _ h => absurd h.1 (by simp)) (Or.inl ⟨by rfl, fun w hSw => by obtain ⟨s0, s1, s2⟩ := hSw; go_simp⟩) hHeld ?_
    try simp only [Act.put, List.getElem_toArray, List.getElem_cons_succ, List.getElem_cons_zero, List.setIfInBounds_toArray, List.set_cons_zero, List.set_cons_succ]
    refine wpAnyH_take (i := 5) (v := .slice a x.b.length cap) rfl (by kernel_rfl) (by kernel_rfl) (by kernel_rfl) (fun _ _ _ h => absurd h.1 (by simp)) (Or.inl ⟨by rfl, fun w hSw => by obtain ⟨s0, s1, s2⟩ := hSw; go_simp⟩) hHeld ?_
    try simp only [Act.put, List.getElem_toArray, List.getElem_cons_succ, List.getElem_cons_zero, List.setIfInBounds_toArray, List.set_cons_zero, List.set_cons_succ]
    refine wpAnyH_take (i := 6) (v := .string ⟨x.b.toArray⟩) rfl (by kernel_rfl) (by kernel_rfl) (by kernel_rfl) (fun _ _ _ h => absurd h.1 (by simp)) (Or.inl ⟨by rfl, fun w hSw => by obtain ⟨s0, s1, s2⟩ := hSw; go_simp⟩) hHeld ?_
    try simp only [Act.put, List.getElem_toArray, List.getElem_cons_succ, List.getElem_cons_zero, List.setIfInBounds_toArray, List.set_cons_zero, List.set_cons_succ]
    refine wpAnyH_take (i := 7) (v := .pointer (some ⟨x.fb, 0, none⟩)) rfl (by kernel_rfl) (by kernel_rfl) (by kernel_rfl) (fun _ _ _ h => absurd h.1 (by simp)) (Or.inl ⟨by rfl, fun w hSw => by obtain ⟨s0, s1, s2⟩ := hSw; go_simp⟩) hHeld ?_
    try simp only [Act.put, List.getElem_toArray, List.getElem_cons_succ, List.getElem_cons_zero, List.setIfInBounds_toArray, List.set_cons_zero, List.set_cons_succ]
    refine wpAnyH_take (i := 8) (v := .pointer (some ⟨x.fb, 0, none⟩)) rfl (by kernel_rfl) (by kernel_rfl) (by kernel_rfl) (fun _ _ _ h => absurd h.1 (by simp)) (Or.inl ⟨by rfl, fun w hSw => by obtain ⟨s0, s1, s2⟩ := hSw; go_simp⟩) hHeld ?_
    try simp only [Act.put, List.getElem_toArray, List.getElem_cons_succ, List.getElem_cons_zero, List.setIfInBounds_toArray, List.set_cons_zero, List.set_cons_succ]
    refine wpAnyH_take (i := 9) (v := .pointer (some ⟨x.fb, 1, none⟩)) rfl (by kernel_rfl) (by kernel_rfl) (by kernel_rfl) (fun _ _ _ h => absurd h.1 (by simp)) (Or.inl ⟨by rfl, fun w hSw => by obtain ⟨s0, s1, s2⟩ := hSw; go_simp⟩) hHeld ?_
    try simp only [Act.put, List.getElem_toArray, List.getElem_cons_succ, List.getElem_cons_zero, List.setIfInBounds_toArray, List.set_cons_zero, List.set_cons_succ]
    refine wpAnyH_take (i := 10) (v := .int .i64 x.k) rfl (by kernel_rfl) (by kernel_rfl) (by kernel_rfl) (fun _ _ _ h => absurd h.1 (by simp)) (Or.inl ⟨by rfl, fun w hSw => by obtain ⟨s0, s1, s2⟩ := hSw; go_simp⟩) hHeld ?_
    try simp only [Act.put, List.getElem_toArray, List.getElem_cons_succ, List.getElem_cons_zero, List.setIfInBounds_toArray, List.set_cons_zero, List.set_cons_succ]
    refine wpAnyH_take (i := 11) (v := .agg #[.string x.n, .string ⟨x.b.toArray⟩, .int .i64 x.k]) rfl (by kernel_rfl) (by kernel_rfl) (by kernel_rfl) (fun _ _ _ h => absurd h.1 (by simp)) (Or.inl ⟨by rfl, fun w hSw => by obtain ⟨s0, s1, s2⟩ := hSw; go_simp⟩) hHeld ?_
    try simp only [Act.put, List.getElem_toArray, List.getElem_cons_succ, List.getElem_cons_zero, List.setIfInBounds_toArray, List.set_cons_zero, List.set_cons_succ]
    refine wpAnyH_ready (rs := [0, 12]) (by kernel_rfl) (by simp) ?_
    refine AllReadyH.cons rfl (fun K hK => ?_) (AllReadyH.cons rfl (fun K hK => ?_) AllReadyH.nil)
    · go_simp
      refine hK.out _ _ hHeld (fun hHeld => ?_)
      clear hK K
      try simp only [Act.put, List.getElem_toArray, List.getElem_cons_succ, List.getElem_cons_zero, List.setIfInBounds_toArray, List.set_cons_zero, List.set_cons_succ]
      refine wpAnyH_ready (rs := [12]) (by kernel_rfl) (by simp) ?_
      refine AllReadyH.cons rfl (fun K hK => ?_) AllReadyH.nil
      go_simp
      refine hK.out _ _ (hS2 _ hBa) (fun hHeld => ?_)
      clear hK K
      try simp only [Act.put, List.getElem_toArray, List.getElem_cons_succ, List.getElem_cons_zero, List.setIfInBounds_toArray, List.set_cons_zero, List.set_cons_succ]
      refine wpAnyH_ready (rs := [13]) (by kernel_rfl) (by simp) ?_
      refine AllReadyH.cons rfl (fun K hK => ?_) AllReadyH.nil
      refine step_append_lies _ rfl _ _ 22 rfl B1 26 i0 (.agg #[.string ⟨#[]⟩, .string ⟨#[]⟩, .int .i64 0]) 3 40 Try.underlying22 hi hz0 hz1 hz2 rfl (by decide) _ _ _ rfl HRow.out ⟨W.drew.heap.size, 0, none⟩ 1 1 [.string x.n, .string ⟨x.b.toArray⟩, .int .i64 x.k] rfl rfl (fnews_new _ _ _) (by simp [Value.oneCell']) (by omega) (by unfold maxLen; omega) (by omega) (by simp; omega) _ rfl ?_
      intro g' cap' w2 hown' hgrow _ _
      have HA := Lib.hid (app_all (t := 22) (e := 26) (B0 := w1.heap.size) (L := L) (by decide) HB.out (by omega) hs HV.out HRow0.out hown' hgrow)
      refine hK.out _ _ (hS2 _ HA.out.1) (fun hHeld => ?_)
      clear hK K
      try simp only [Act.put, List.getElem_toArray, List.getElem_cons_succ, List.getElem_cons_zero, List.setIfInBounds_toArray, List.set_cons_zero, List.set_cons_succ]
      have hq := HA.out.2.1
      have hc2 := hq.cell
      have hf2 := hq.frozen
      refine wpAnyH_ready (rs := [14]) (by kernel_rfl) (by simp) ?_
      refine AllReadyH.cons rfl (fun K hK => ?_) AllReadyH.nil
      go_simp
      refine hK.out _ _ (hS2 _ HA.out.2.2.1) (fun hHeld => ?_)
      clear hK K
      try simp only [Act.put, List.getElem_toArray, List.getElem_cons_succ, List.getElem_cons_zero, List.setIfInBounds_toArray, List.set_cons_zero, List.set_cons_succ]
      refine wpAnyH_done (by kernel_rfl) ?_ _
      refine onlyNormal_mk ?_
      gi_wp2
      refine ⟨HA.out.2.2.2.2.2, _, HA.out.2.2.2.1, ?_, HA.out.2.2.1, ?_⟩
      · rw [List.length_append, List.map_append, List.map_cons, List.map_nil, pfCells_snoc]; exact HA.out.2.2.2.2.1
      · exact Nat.le_trans hs HA.out.2.2.2.2.2.size
    · go_simp
      refine hK.out _ _ (hS2 _ hBa) (fun hHeld => ?_)
      clear hK K
      try simp only [Act.put, List.getElem_toArray, List.getElem_cons_succ, List.getElem_cons_zero, List.setIfInBounds_toArray, List.set_cons_zero, List.set_cons_succ]
      refine wpAnyH_ready (rs := [0]) (by kernel_rfl) (by simp) ?_
      refine AllReadyH.cons rfl (fun K hK => ?_) AllReadyH.nil
      go_simp
      refine hK.out _ _ hHeld (fun hHeld => ?_)
      clear hK K
      try simp only [Act.put, List.getElem_toArray, List.getElem_cons_succ, List.getElem_cons_zero, List.setIfInBounds_toArray, List.set_cons_zero, List.set_cons_succ]
      refine wpAnyH_ready (rs := [13]) (by kernel_rfl) (by simp) ?_
      refine AllReadyH.cons rfl (fun K hK => ?_) AllReadyH.nil
      refine step_append_lies _ rfl _ _ 22 rfl B1 26 i0 (.agg #[.string ⟨#[]⟩, .string ⟨#[]⟩, .int .i64 0]) 3 40 Try.underlying22 hi hz0 hz1 hz2 rfl (by decide) _ _ _ rfl HRow.out ⟨W.drew.heap.size, 0, none⟩ 1 1 [.string x.n, .string ⟨x.b.toArray⟩, .int .i64 x.k] rfl rfl (fnews_new _ _ _) (by simp [Value.oneCell']) (by omega) (by unfold maxLen; omega) (by omega) (by simp; omega) _ rfl ?_
      intro g' cap' w2 hown' hgrow _ _
      have HA := Lib.hid (app_all (t := 22) (e := 26) (B0 := w1.heap.size) (L := L) (by decide) HB.out (by omega) hs HV.out HRow0.out hown' hgrow)
      refine hK.out _ _ (hS2 _ HA.out.1) (fun hHeld => ?_)
      clear hK K
      try simp only [Act.put, List.getElem_toArray, List.getElem_cons_succ, List.getElem_cons_zero, List.setIfInBounds_toArray, List.set_cons_zero, List.set_cons_succ]
      have hq := HA.out.2.1
      have hc2 := hq.cell
      have hf2 := hq.frozen
      refine wpAnyH_ready (rs := [14]) (by kernel_rfl) (by simp) ?_
      refine AllReadyH.cons rfl (fun K hK => ?_) AllReadyH.nil
      go_simp
      refine hK.out _ _ (hS2 _ HA.out.2.2.1) (fun hHeld => ?_)
      clear hK K
      try simp only [Act.put, List.getElem_toArray, List.getElem_cons_succ, List.getElem_cons_zero, List.setIfInBounds_toArray, List.set_cons_zero, List.set_cons_succ]
      refine wpAnyH_done (by kernel_rfl) ?_ _
      refine onlyNormal_mk ?_
      gi_wp2
      refine ⟨HA.out.2.2.2.2.2, _, HA.out.2.2.2.1, ?_, HA.out.2.2.1, ?_⟩
      · rw [List.length_append, List.map_append, List.map_cons, List.map_nil, pfCells_snoc]; exact HA.out.2.2.2.2.1
      · exact Nat.le_trans hs HA.out.2.2.2.2.2.size
  case hd =>
    rintro B1 W hBB ⟨v, hv, hrow, hB, hs⟩ hD
    have hc := hv.cell
    have hw1 : w.heap.size ≤ w1.heap.size := hB1.size
    have HR := Lib.hid (ownsRow_base (ownsRow_kept hrow hD rfl (.deferred none)) (show w.heap.size ≤ B1 by omega))
    have HB2 := Lib.hid (below_putObj (D := w1.heap.size) hB (Nat.le_refl _) hw1 (.deferred none))
    clear hrow hB
    gi_wp2
    exact leave_one hD (results_tmp rfl _ _ _) ⟨_, rfl, by rw [← HL.out]; exact HR.out, HB2.out⟩

end Go.Proofs.Ytieekahlknmkfaa
