/- LgG, LgC, LgE, LgH, LgK: in one text. -/
import Derived.Test.YtdncdlbhgaehmaaLgA
import Derived.Test.YtdncdlbhgaehmaaSprIs
import Derived.Test.YtdncdlbhgaehmaaPlcK
import Derived.Test.YtdncdlbhgaehmaaGrpTrm
/- (*Ledger).Get, Dense. -/
namespace Go.Proofs.Ytdncdlbhgaehmaa
open Go.RowKit Go.Shelf
set_option linter.unusedVariables false
set_option linter.unusedSimpArgs false
attribute [local go_sem] Oper.semAt_some wide_fn wide_round_fn

/-- What Get tells. -/
def GetPost (W : World) (F : List LE) (i : Int) (r : Ending) (w' : World) : Prop :=
  Below W.heap.size W w' ∧ ((∃ x va vc, getZ LE.k F i = some x ∧ r = .returned (.tuple #[x.L.g.val va vc, .bool true]) ∧ HasG w' va x.L.g ∧ x.L.g.l.length ≤ vc) ∨ (getZ LE.k F i = none ∧ r = .returned (.tuple #[.agg #[.int .i64 0, .int .i64 0, .int .i64 0, .int .i64 0, .int .i64 0, .int .i64 0, .slice none 0 0], .bool false])))
set_option maxRecDepth 100000 in
set_option maxHeartbeats 2000000 in
theorem lget_any {W : World} {e M : Nat} {F : List LE} (h : LedAt W e M F) (i : Int) (hi : -9223372036854775808 ≤ i ∧ i < 9223372036854775808) : Calls Try.prog 49 #[.pointer (some ⟨e, 0, none⟩), .int .i64 i] W (GetPost W F i) := by
  have hA := bel_alloc (Below.refl W.heap.size W) (.cells #[.int .i64 0, .int .i64 0, .int .i64 0, .int .i64 0, .int .i64 0, .int .i64 0, .slice none 0 0] 65)
  have hq := World.alloc_heap_new W (.cells #[.int .i64 0, .int .i64 0, .int .i64 0, .int .i64 0, .int .i64 0, .int .i64 0, .slice none 0 0] 65)
  have hA1 := h.below hA
  have c0 : (W.alloc (.cells #[.int .i64 0, .int .i64 0, .int .i64 0, .int .i64 0, .int .i64 0, .int .i64 0, .slice none 0 0] 65)).cell? ⟨e, 0, none⟩ = some (.map (some M)) := cell_of_row _ _ 0 _ _ _ hA1.box
  have hlk := hA1.map.look i (wfP hi)
  have HQ := Lib.hid hq
  have HA := Lib.hid hA
  cases hg : getZ LE.k F i with
  | none =>
    rw [hg, show lookL F i = .pointer none by unfold lookL; rw [hg]] at hlk
    have HG := Lib.hid hg
    obtain ⟨q0, q1, q2, q3, q4, q5, q6, -⟩ := cells7 hq
    have f0 := frozen_of_row _ W.heap.size 0 _ _ hq; have f1 := frozen_of_row _ W.heap.size 1 _ _ hq; have f2 := frozen_of_row _ W.heap.size 2 _ _ hq; have f3 := frozen_of_row _ W.heap.size 3 _ _ hq; have f4 := frozen_of_row _ W.heap.size 4 _ _ hq; have f5 := frozen_of_row _ W.heap.size 5 _ _ hq; have f6 := frozen_of_row _ W.heap.size 6 _ _ hq
    clear h hi hg hA1 hA hq
    go_enter Try.func49, Try.ntmps49
    go_wp2
    obtain ⟨e0, e1, e2, e3, e4, e5, e6, -⟩ := cells7 HQ.out
    refine bodyPost_ret (v := .tuple #[.agg #[.int .i64 0, .int .i64 0, .int .i64 0, .int .i64 0, .int .i64 0, .int .i64 0, .slice none 0 0], .bool false]) (by simp [results, Try.results49, go_sem, e0, e1, e2, e3, e4, e5, e6]) rfl ?_
    exact ⟨HA.out, .inr ⟨HG.out, rfl⟩⟩
  | some x =>
    rw [hg, show lookL F i = x.val by unfold lookL; rw [hg]] at hlk
    have HG := Lib.hid hg
    have HL := Lib.hid (hA1.logs x (getZ_some hg).1)
    clear h hi hg hA1 hA hq
    obtain ⟨xd, xm, ⟨⟨id, fi, te, ht, hv, hc, gl⟩, xF⟩⟩ := x
    dsimp only [LE.val] at *
    have GP := Lib.hid (fun W' (hB' : Below (W.alloc (.cells #[.int .i64 0, .int .i64 0, .int .i64 0, .int .i64 0, .int .i64 0, .int .i64 0, .slice none 0 0] 65)).heap.size (W.alloc (.cells #[.int .i64 0, .int .i64 0, .int .i64 0, .int .i64 0, .int .i64 0, .int .i64 0, .slice none 0 0] 65)) W') => (show Calls Try.prog 52 #[.pointer (some ⟨xd, 0, none⟩)] W' (fun e w' => ∃ ga gc, e = .returned (.agg #[.int .i64 id, .int .i64 fi, .int .i64 te, .int .i64 ht, .int .i64 hv, .int .i64 hc, .slice ga gl.length gc]) ∧ HasG w' ga ⟨id, fi, te, ht, hv, hc, gl⟩ ∧ gl.length ≤ gc ∧ Below W'.heap.size W' w' ∧ ∀ k, inBlkE ga gl.length k → W'.heap.size ≤ k) from by
      obtain ⟨_, a9, c9, h9⟩ := HL.out.below hB'
      exact pgroupN_any h9.g))
    go_enter Try.func49, Try.ntmps49
    go_wp2_with (go_at_call 52; ((with_reducible refine (GP.out _ (Below.refl _ _)).mono ?_); rintro r w2 ⟨ga, gc, rfl, hG, hle, hB2, hnew⟩; have hq := (hB2.block _ (heap_lt HQ.out)).trans HQ.out; have HQ2 := Lib.hid hq; obtain ⟨q0, q1, q2, q3, q4, q5, q6, -⟩ := cells7 hq; have f0 := frozen_of_row _ W.heap.size 0 _ _ hq; have f1 := frozen_of_row _ W.heap.size 1 _ _ hq; have f2 := frozen_of_row _ W.heap.size 2 _ _ hq; have f3 := frozen_of_row _ W.heap.size 3 _ _ hq; have f4 := frozen_of_row _ W.heap.size 4 _ _ hq; have f5 := frozen_of_row _ W.heap.size 5 _ _ hq; have f6 := frozen_of_row _ W.heap.size 6 _ _ hq; clear hq))
    have hs := st7_block HQ2.out (.int .i64 id) (.int .i64 fi) (.int .i64 te) (.int .i64 ht) (.int .i64 hv) (.int .i64 hc) (.slice ga gl.length gc)
    have hF := st7_frame w2 W.heap.size (.int .i64 id) (.int .i64 fi) (.int .i64 te) (.int .i64 ht) (.int .i64 hv) (.int .i64 hc) (.slice ga gl.length gc)
    obtain ⟨e0, e1, e2, e3, e4, e5, e6, -⟩ := cells7 hs
    have hBW := bel2 HA.out hB2
    refine bodyPost_ret (v := .tuple #[.agg #[.int .i64 id, .int .i64 fi, .int .i64 te, .int .i64 ht, .int .i64 hv, .int .i64 hc, .slice ga gl.length gc], .bool true]) (by simp [results, Try.results49, go_sem, e0, e1, e2, e3, e4, e5, e6]) rfl ?_
    refine ⟨hBW.trans (hF.toBelow hBW.size (fun k hk => by omega)), .inl ⟨_, ga, gc, HG.out, rfl, hasG_p hG hF (fun k hk hT => ?_), hle⟩⟩
    have := hnew k hk
    simp only [World.size_alloc] at this
    omega
def denB (F : List LE) : Bool := F.all fun x => isG x.L.g
end Go.Proofs.Ytdncdlbhgaehmaa

/- (*Ledger).Copy. -/
namespace Go.Proofs.Ytdncdlbhgaehmaa
open Go.RowKit Go.Shelf
set_option linter.unusedVariables false
attribute [local go_sem] Oper.semAt_some wide_fn wide_round_fn

theorem below_grownL {a b : World} (h : Below a.heap.size a b) : a.grownBy b none := ⟨h.os, h.tape, h.output, h.size, fun k hk _ => h.block k hk⟩
abbrev numLg (i : Int) : Lit := .int .i64 i
theorem int_of_keyOfG {P : Program} {k : TypeId} {q : IntKind} (hk : P.underlying k = some (.int q)) {v : Value} {l : Lit} (h : keyOf P k v = some l) : ∃ s : Int, v = .int q s ∧ l = .int q s := by
  rw [keyOf_int hk] at h
  unfold mapKey at h
  cases v <;> simp [hk] at h
  rename_i k n
  exact ⟨n, by rw [h.1.1], h.2.symm⟩
theorem next_logs {W : World} {m r n cnt : Nat} {left : Lit → Bool} {F : List LE} (h : W.ranges Try.prog 3 plcElem m r n (lmap F) left cnt) (ty : TypeId) :
    (cnt = 0 ∧ (∀ kl, left kl = false) ∧ (Instr.next (.pointer (some ⟨r, 0, none⟩)) false ty).run Try.prog W = .ok (.tuple #[.bool false]) W) ∨
    ∃ f w' cnt', f ∈ F ∧ left (numLg f.k) = true ∧ (Instr.next (.pointer (some ⟨r, 0, none⟩)) false ty).run Try.prog W = .ok (.tuple #[.bool true, .int .i64 f.k, .pointer (some ⟨f.d, 0, none⟩)]) w' ∧
      w'.ranges Try.prog 3 plcElem m r n (lmap F) (fun z => left z && !z.sameKey (numLg f.k)) cnt' ∧ cnt' < cnt ∧ W.grownBy w' (some r) ∧ w'.heap.size = W.heap.size ∧ (Instr.entry (.pointer (some ⟨r, 0, none⟩))).run Try.prog w' = .ok (.tuple #[.int .i64 f.k, .pointer (some ⟨f.d, 0, none⟩)]) w' := by
  rcases h.next lawP ty with h0 | ⟨key, v, kl, y, w', cnt', hkey, hlk, hv, hat, hrun, hrg, hlt, hgr, hsz, hen⟩
  · exact .inl h0
  · right
    obtain ⟨s, rfl, rfl⟩ := int_of_keyOfG Try.underlying3 hkey
    have hg : ∃ f, getZ LE.k F s = some f := by
      cases e : getZ LE.k F s with
      | some f => exact ⟨f, rfl⟩
      | none =>
        have a1 := hat .nil
        have a2 := hat (.lit (.int .i64 0))
        rw [lmap_at, e] at a1 a2
        rw [← a1] at a2; cases a2
    obtain ⟨f, hg⟩ := hg
    obtain ⟨hf, rfl⟩ := getZ_some hg
    have a1 : (DataW.held f.val : DataW Value) = y.1 := by have := hat .nil; rw [lmap_at, hg] at this; exact this
    clear hat
    have hp : v = f.val := plcElem_some (ps := y.2) (hv.trans (congrArg some (show y = (DataW.held f.val, y.2) by rw [a1])))
    subst hp
    exact ⟨f, w', cnt', hf, hlk, hrun, hrg, hlt, hgr, hsz, hen⟩
set_option maxRecDepth 100000 in
theorem wpList_next_logs {w : World} {ops : Array Oper} {rest : List Oper} {o : Oper} {a : Act} {Q : Exit → Act → World → Prop} (hg : o.guard = none) (it : Operand) (hop : o.op = Op.next it false) {m r n cnt : Nat} {left : Lit → Bool} {F : List LE}
    (hit : a.eval it = .pointer (some ⟨r, 0, none⟩)) (h : w.ranges Try.prog 3 plcElem m r n (lmap F) left cnt)
    (hDone : cnt = 0 → (∀ kl, left kl = false) → wpList Try.prog ops Q rest (a.put o.dst (.tuple #[.bool false])) w)
    (hMore : ∀ (f : LE) (w' : World) (cnt' : Nat), f ∈ F → left (numLg f.k) = true → w'.ranges Try.prog 3 plcElem m r n (lmap F) (fun z => left z && !z.sameKey (numLg f.k)) cnt' → cnt' < cnt → w.grownBy w' (some r) → w'.heap.size = w.heap.size →
      (Instr.entry (.pointer (some ⟨r, 0, none⟩))).run Try.prog w' = .ok (.tuple #[.int .i64 f.k, .pointer (some ⟨f.d, 0, none⟩)]) w' → wpList Try.prog ops Q rest (a.put o.dst (.tuple #[.bool true, .int .i64 f.k, .pointer (some ⟨f.d, 0, none⟩)])) w') :
    wpList Try.prog ops Q (o :: rest) a w := by
  refine wpList_plain hg fun K' hK' => ?_
  unfold Oper.wp
  rcases next_logs h o.type with ⟨h0, hl, hrun⟩ | ⟨f, w', cnt', hf, hl, hrun, hrg, hlt, hgr, hsz, hen⟩
  · simp [execOp, hop, hit, hrun, Result.andThen]
    exact hK' _ _ (hDone h0 hl)
  · simp [execOp, hop, hit, hrun, Result.andThen]
    exact hK' _ _ (hMore f w' cnt' hf hl hrg hlt hgr hsz hen)
theorem ris_mem_ext {A B : List LG} (hA : RisZ LG.n A) (hB : RisZ LG.n B) (h : ∀ x, x ∈ A ↔ x ∈ B) : A = B := by
  refine risZ_ext (nm := LG.n) hA hB (fun i => ?_)
  cases h1 : getZ LG.n A i with
  | some x =>
    obtain ⟨hx, rfl⟩ := getZ_some h1
    exact (risZ_get hB ((h x).1 hx)).symm
  | none =>
    cases h2 : getZ LG.n B i with
    | none => rfl
    | some x =>
      obtain ⟨hx, rfl⟩ := getZ_some h2
      rw [risZ_get hA ((h x).2 hx)] at h1; cases h1
theorem put_filterL {A : List LG} (hA : RisZ LG.n A) {left : Lit → Bool} {x : LG} (hx : x ∈ A) (hl : left (numLg x.n) = true) : putZ LG.n x (A.filter fun L => !left (numLg L.n)) = A.filter fun L => !(left (numLg L.n) && !(numLg L.n).sameKey (numLg x.n)) := by
  refine ris_mem_ext (risZ_put (hA.sublist List.filter_sublist) x) (hA.sublist List.filter_sublist) (fun L => ?_)
  have huniq : L ∈ A → L.n = x.n → L = x := fun hL hn => by
    have h1 := risZ_get hA hL
    rw [hn, risZ_get hA hx] at h1
    exact (Option.some.inj h1).symm
  rw [mem_putZ, List.mem_filter, List.mem_filter, same_idx]
  by_cases hn : L.n = x.n
  · constructor
    · rintro (rfl | ⟨-, h2⟩)
      · exact ⟨hx, by simp⟩
      · exact absurd hn h2
    · rintro ⟨h1, -⟩; exact .inl (huniq h1 hn)
  · constructor
    · rintro (rfl | ⟨⟨h1, h2⟩, -⟩)
      · exact absurd rfl hn
      · refine ⟨h1, ?_⟩
        rw [decide_eq_false hn]; simpa using h2
    · rintro ⟨h1, h2⟩
      refine .inr ⟨⟨h1, ?_⟩, hn⟩
      rw [decide_eq_false hn] at h2; simpa using h2
/-- A map's iterator is none of a ledger's blocks, nor a row's. -/
theorem LedAt.iter {W W' : World} {e M r : Nat} {G : List LE} (h : LedAt W e M G) {mb : Option Nat} {s c : Nat} {z : Array Nat} (hr : W.heap[r]? = some (.mapIter mb s z c)) (hg : W.grownBy W' (some r)) : LedAt W' e M G := by
  have hF : FrameT (fun k => k = r) W W' := grown_frame hg
  refine h.frame hF (fun k hk hkr => ?_) (fun a l hrow k hk hkr => ?_)
  · subst hkr
    rcases hk with rfl | rfl | ⟨x, hx, rfl | rfl⟩
    · rw [h.box] at hr; cases hr
    · obtain ⟨es, ck, hm⟩ := h.map.block
      rw [hm] at hr; cases hr
    · obtain ⟨_, a2, c2, h2⟩ := h.logs x hx
      rw [h2.1] at hr; cases hr
    · obtain ⟨_, a2, c2, h2⟩ := h.logs x hx
      obtain ⟨es, ck, hm⟩ := h2.2.1.block
      rw [hm] at hr; cases hr
  · subst hkr
    obtain ⟨k, off, he, h0, rfl⟩ := hk
    obtain ⟨b2, off2, e2, _, hc⟩ := hrow.2.2 h0
    have e3 := he.symm.trans e2
    cases e3
    have hl : (entryCells l).length = l.length * 3 := hrow.1
    obtain ⟨o, ho, hcl⟩ := isCells_of_cell (hc 0 (by omega))
    have ho2 : W.heap[k]? = some o := ho
    rw [hr] at ho2; cases ho2; cases hcl
set_option maxRecDepth 100000 in
set_option maxHeartbeats 2000000 in
theorem lcopy_any {w : World} {e m : Nat} {F : List LE} (h : LedAt w e m F) (hF : F.length ≤ 1000) :
    Calls Try.prog 47 #[.pointer (some ⟨e, 0, none⟩)] w fun r w' => ∃ e2 M2 G, r = .returned (.pointer (some ⟨e2, 0, none⟩)) ∧ LedAt w' e2 M2 G ∧ G.map LE.L = F.map LE.L ∧ (∀ k, ownLg G e2 M2 k → w.heap.size ≤ k) ∧ Below w.heap.size w w' := by
  have HD := Lib.hid h
  have GN := Lib.hid (fun W => lnew_any W)
  have hml := h.map.lt
  have HML := Lib.hid hml
  clear h hml
  go_enter Try.func47, Try.ntmps47
  go_wp2_with (first
    | (go_at_call 26; ((with_reducible refine (GN.out _).mono ?_); rintro r wn ⟨rfl, hN, hBn⟩; have HN := Lib.hid hN; have hDn := HD.out.below hBn; have HA := Lib.hid hBn; have HDn := Lib.hid hDn; have c0 : wn.cell? ⟨e, 0, none⟩ = some (.map (some m)) := cell_of_row _ _ 0 _ _ _ hDn.box; have hmap := hDn.map; clear hN hBn hDn))
    | (at_range; refine wpList_range_own _ rfl _ 87 rfl 3 91 lawP Try.underlying87 plcElem m F.length (lmap F) rfl hmap ?_; intro w0 hrg0 hg0 hs0))
  go_frame
  have HWN := Lib.hid (show w.heap.size + 2 ≤ wn.heap.size from by have := heap_lt HN.out.box; omega)
  obtain ⟨r, hr⟩ : ∃ r, r = wn.heap.size := ⟨_, rfl⟩
  rw [← hr] at hrg0 hs0 ⊢
  have HRW := Lib.hid hr
  clear hr
  go_loopw [] (fun wr => ∃ (left : Lit → Bool) (cnt : Nat) (G : List LE), wr.ranges Try.prog 3 plcElem m r F.length (lmap F) left cnt ∧ LedAt wr (w.heap.size + 1) w.heap.size G ∧ G.map LE.L = (F.map LE.L).filter (fun L => !left (numLg L.n)) ∧ (∀ k, ownLg G (w.heap.size + 1) w.heap.size k → w.heap.size ≤ k) ∧ Below w.heap.size w wr)
    (fun wr => wr.rangeLeft m r)
  case atStart =>
    refine ⟨_, _, [], hrg0, ?_, ?_, ?_, HA.out.grown hg0 (by have := HWN.out; omega) (fun j hj => by cases hj)⟩
    · have hFg : FrameT (fun k => False) wn w0 := ⟨hg0.os, hg0.tape, hg0.output, hg0.size, fun k hk _ => hg0.block k hk (by simp)⟩
      exact HN.out.frame hFg (fun _ _ => id) (fun _ _ _ _ _ => id)
    · symm
      rw [List.map_nil, List.filter_eq_nil_iff]
      intro L hL
      obtain ⟨x, hx, rfl⟩ := List.mem_map.1 hL
      rw [show Maps.has (lmap F) (numLg x.L.n) = (getZ LE.k F x.k).isSome from lmap_has F x.k, risZ_get HD.out.ris hx]; simp
    · rintro k (rfl | rfl | ⟨x, hx, -⟩)
      · omega
      · omega
      · cases hx
  case round =>
    obtain ⟨left, cnt, G, hrg, hG, hGL, hGo, hB⟩ := hrel
    have HB := Lib.hid hB
    have HG := Lib.hid hG
    have HGL := Lib.hid hGL
    have HGO := Lib.hid hGo
    clear hB hG hGL hGo
    go_wp2_with (at_next; refine wpList_next_logs rfl _ rfl rfl hrg ?_ ?_)
    · intro hc0 hl0
      have HE := Lib.hid (show ((F.map LE.L).filter fun L => !left (numLg L.n)) = F.map LE.L by rw [List.filter_eq_self]; intro p _; rw [hl0]; rfl)
      clear hc0 hl0
      go_wp2
      go_ret
      exact ⟨_, _, G, rfl, HG.out, HGL.out.trans HE.out, HGO.out, HB.out⟩
    · intro f w1 cnt1 hf hl hrg1 hlt hg1 hs1 hen
      have hB1 : Below w.heap.size w w1 := HB.out.grown hg1 HB.out.size (fun j hj => by have := Option.some.inj hj; have := HRW.out; have := HWN.out; omega)
      have hG1 : LedAt w1 (w.heap.size + 1) w.heap.size G := by
        obtain ⟨es, clock, since, seen, z0, -, -, -, -, hr, -⟩ := hrg
        exact HG.out.iter hr hg1
      have hno : getZ LE.k G f.k = none := by
        cases hq : getZ LE.k G f.k with
        | none => rfl
        | some y =>
          obtain ⟨hy, hyk⟩ := getZ_some hq
          have : y.L ∈ (F.map LE.L).filter (fun L => !left (numLg L.n)) := by rw [← HGL.out]; exact List.mem_map.2 ⟨y, hy, rfl⟩
          have h2 := (List.mem_filter.1 this).2
          rw [show y.L.n = f.k from hyk, hl] at h2
          cases h2
      have GC := Lib.hid (fun W' (hB' : Below w1.heap.size w1 W') => pcopyS_any (((HD.out.below hB1).logs f hf).below hB'))
      have hid := HD.out.ids f hf
      have q0 : w1.cell? ⟨w.heap.size + 1, 0, none⟩ = some (.map (some w.heap.size)) := cell_of_row _ _ 0 _ _ _ hG1.box
      have hGl : G.length ≤ 1000 := by
        have h9 := congrArg List.length HGL.out
        rw [List.length_map] at h9
        rw [h9]
        exact Nat.le_trans (List.length_filter_le _ _) (by rw [List.length_map]; exact hF)
      have hGm : G.length < maxLen := by unfold maxLen; omega
      have hkey := Maps.keyOf_int_mk Try.underlying3 (wfP (n := f.k) ⟨by omega, by omega⟩)
      have HG1 := Lib.hid hG1
      have HB1 := Lib.hid hB1
      have HR1 := Lib.hid hrg1
      have HNO := Lib.hid hno
      have HID := Lib.hid hid
      have HM := Lib.hid (show cnt1 < wr.rangeLeft m r by rw [hrg.left_eq]; exact hlt)
      have HPF := Lib.hid (put_filterL HD.out.risL (List.mem_map.2 ⟨f, hf, rfl⟩) hl)
      clear hG1 hB1 hg1 hrg1 hrg hlt hl hf hno hid hmap hg0 hs0 hrg0 hGl
      obtain ⟨fd, fm, fL⟩ := f
      dsimp only [LE.val, LE.k] at *
      go_wp2
      go_region_held3 (fun W' => W'.cell? ⟨w.heap.size + 1, 0, none⟩ = some (.map (some w.heap.size))) (go_keep) (first
        | (go_at_call 74; (with_reducible refine (GC.out _ ?hb).mono ?_); (case hb => first | exact Below.refl _ _ | exact (Below.refl _ _).drew); rintro r4 w4 ⟨d', m', rfl, h1, h2, hL4, hB4⟩; have hB4' : Below w1.heap.size w1 w4 := (by first | exact hB4 | exact (Below.refl w1.heap.size w1).drew.trans hB4); have h1' : w1.heap.size ≤ m' := h1; have hG4 := HG1.out.below hB4'; obtain ⟨w5, hrun5, hown5, hturn5⟩ := hG4.map.store lawP Try.underlying87 hGm hkey (show plcElem (.pointer (some ⟨d', 0, none⟩)) = some (.held (.pointer (some ⟨d', 0, none⟩)), []) from rfl); have t0 : w4.cell? ⟨w.heap.size + 1, 0, none⟩ = some (.map (some w.heap.size)) := cell_of_row _ _ 0 _ _ _ hG4.box; have hF5 := turned_frame hturn5; have ho5 := LedAt.add (x := ⟨d', m', fL⟩) HG1.out hB4' hL4 ⟨(show w1.heap.size ≤ d' by omega), h1'⟩ HID.out HNO.out hF5 (HasLm.put ⟨d', m', fL⟩ hown5); have u0 : w5.cell? ⟨w.heap.size + 1, 0, none⟩ = some (.map (some w.heap.size)) := cell_of_row _ _ 0 _ _ _ ho5.1.box; have H5 := Lib.hid ho5; have H4 := Lib.hid (And.intro hB4' hturn5); clear hL4 hB4 hB4' hG4 hown5 hturn5 hF5 ho5))
      obtain ⟨hB4, hturn5⟩ := H4.out
      have hr5 := Lib.hid ((HR1.out.kept (below_grownL hB4) (by simp) (by simp)).kept hturn5.grown (fun e => by have := Option.some.inj e; have := HWN.out; have := HRW.out; have := HML.out; omega) (fun e => by have := Option.some.inj e; have := HWN.out; have := HRW.out; have := HML.out; omega))
      have hb5 := Lib.hid ((bel2 HB1.out hB4).grown hturn5.grown (by have h1 := hB4.size; have h2 := HB1.out.size; omega) (fun j hj => by have := Option.some.inj hj; omega))
      have hGL5 := Lib.hid (show (putZ LE.k ⟨d', m', fL⟩ G).map LE.L = (F.map LE.L).filter (fun L => !(left (numLg L.n) && !(numLg L.n).sameKey (numLg fL.n))) by
        rw [putZ_map (nm := LE.k) (nb := LG.n) (g := LE.L) (fun _ => rfl), HGL.out]
        exact HPF.out)
      have hGO5 := Lib.hid (show ∀ k, ownLg (putZ LE.k ⟨d', m', fL⟩ G) (w.heap.size + 1) w.heap.size k → w.heap.size ≤ k from fun k hk => by
        rcases H5.out.2.2 k hk with h | h
        · exact HGO.out k h
        · have := HB1.out.size; omega)
      clear hB4 hturn5 t0 u0 q0
      go_wp2
      go_roundw
      case rel => exact ⟨_, cnt1, _, hr5.out, H5.out.1, hGL5.out, hGO5.out, hb5.out⟩
      case measure => rw [hr5.out.left_eq]; exact HM.out

end Go.Proofs.Ytdncdlbhgaehmaa

/- ledger.Same, and the comparisons it makes. -/
namespace Go.Proofs.Ytdncdlbhgaehmaa
open Go.RowKit Go.Shelf
set_option linter.unusedVariables false
set_option linter.unusedSimpArgs false
attribute [local go_sem] Oper.semAt_some wide_fn wide_round_fn

theorem spot_atL {w W : World} {b off : Nat} {l : List SpotC} (hb : b < w.heap.size) (hB : Below w.heap.size w W) (hc : ∀ j (h : j < (spotCells l).length), w.cell? ⟨b, off + j, none⟩ = some (spotCells l)[j]) {k : Nat} (hk : k < l.length) :
    W.cell? ⟨b, off + k * 4, none⟩ = some (.int .i64 l[k].g) ∧ W.cell? ⟨b, off + k * 4 + 1, none⟩ = some (.int .i64 l[k].i) ∧ W.cell? ⟨b, off + k * 4 + 2, none⟩ = some (.int .i64 l[k].s) ∧ W.cell? ⟨b, off + k * 4 + 3, none⟩ = some (.int .i64 l[k].p) := by
  have cell : ∀ i v, i < 4 → (l[k].cells)[i]? = some v → W.cell? ⟨b, off + (k * 4 + i), none⟩ = some v := fun i v hi hv =>
    (hB.cell (p := ⟨b, off + (k * 4 + i), none⟩) hb).trans (RowV.at_ (len := l.length) (sz := 4) hc (by rw [spotCells, flat_at SpotC.cells 4 SpotC.len l k i hk hi]; exact hv))
  exact ⟨cell 0 _ (by decide) rfl, cell 1 _ (by decide) rfl, cell 2 _ (by decide) rfl, cell 3 _ (by decide) rfl⟩
instance : DecidableEq SpotC := fun x y => if h : x.g = y.g ∧ x.i = y.i ∧ x.s = y.s ∧ x.p = y.p then isTrue (by
    obtain ⟨a, b, c, d⟩ := x
    obtain ⟨e, f, g, k⟩ := y
    obtain ⟨h1, h2, h3, h4⟩ := h
    dsimp only at h1 h2 h3 h4
    rw [h1, h2, h3, h4]) else isFalse (fun e => h (by rw [e]; exact ⟨rfl, rfl, rfl, rfl⟩))
set_option maxRecDepth 100000 in
theorem eqSpotL (x y : SpotC) (w : World) : (Op.equalIn 10000 86 (.agg #[.int .i64 x.g, .int .i64 x.i, .int .i64 x.s, .int .i64 x.p]) (.agg #[.int .i64 y.g, .int .i64 y.i, .int .i64 y.s, .int .i64 y.p])).run Try.prog w = .ok (decide (x = y)) w := by
  have hS : Try.prog.underlying 86 = some (.struct (Try.prog.fieldsOf 86)) := by kernel_rfl
  have hS2 : Try.prog.underlying 34 = some (.struct (Try.prog.fieldsOf 34)) := by kernel_rfl
  obtain ⟨a, b, c, d⟩ := x
  obtain ⟨e, f, g, h⟩ := y
  rw [show (10000 : Nat) = 9999 + 1 from rfl, run_equalIn_agg w 9999 86 _ _ hS (by kernel_rfl)]
  simp only [Program.fieldsOf, Try.underlying86]
  have h2 : ∀ c d g h : Int, (Op.equalIn 9999 34 (.agg #[.int .i64 c, .int .i64 d]) (.agg #[.int .i64 g, .int .i64 h])).run Try.prog w = .ok (decide (c = g) && decide (d = h)) w := fun c d g h => by
    rw [show (9999 : Nat) = 9998 + 1 from rfl, run_equalIn_agg w 9998 34 _ _ hS2 (by kernel_rfl)]
    simp only [Program.fieldsOf, Try.underlying34]
    clear hS hS2
    go_simp
    by_cases h1 : c = g <;> by_cases h2 : d = h <;> simp [h1, h2]
  clear hS hS2
  go_simp
  by_cases h1 : a = e <;> by_cases h3 : b = f <;> by_cases h4 : c = g <;> by_cases h5 : d = h <;> simp [h1, h3, h4, h5, h2]
theorem neqSpotL (x y : SpotC) (w : World) : (binOp .neq 86 (.agg #[.int .i64 x.g, .int .i64 x.i, .int .i64 x.s, .int .i64 x.p]) (.agg #[.int .i64 y.g, .int .i64 y.i, .int .i64 y.s, .int .i64 y.p])).run Try.prog w = .ok (.bool (!(decide (x = y)))) w := by
  rw [run_neq_struct, eqSpotL]; rfl
theorem eqlSpotL (x y : SpotC) (w : World) : (binOp .eql 86 (.agg #[.int .i64 x.g, .int .i64 x.i, .int .i64 x.s, .int .i64 x.p]) (.agg #[.int .i64 y.g, .int .i64 y.i, .int .i64 y.s, .int .i64 y.p])).run Try.prog w = .ok (.bool (decide (x = y))) w := by
  rw [run_eql_struct, eqSpotL]; rfl
set_option maxRecDepth 100000 in
set_option maxHeartbeats 1000000 in
theorem equalS_any (a b : Option Addr) (n1 n2 c1 c2 : Nat) (l m : List SpotC) (hl : l.length = n1) (hm : m.length = n2) (hn1 : n1 < 1000000) (hn2 : n2 < 1000000) (w : World) (h1 : RowV w a n1 4 (spotCells l)) (h2 : RowV w b n2 4 (spotCells m)) :
    Gives Try.prog 43 #[.slice a n1 c1, .slice b n2 c2] w (.bool (decide (l = m))) := by
  have hc1 := h1.2.2
  have hc2 := h2.2.2
  clear h1 h2
  unfold Gives
  by_cases hne : n1 = n2
  · subst hne
    go_enter Try.func43, Try.ntmps43
    go_wp2
    go_loopw [13] (fun i wr => ∃ k : Nat, k ≤ n1 ∧ i = .int .i64 k ∧ l.take k = m.take k ∧ Below w.heap.size w wr) (fun i _ => n1 - (intOf i).toNat)
    case atStart => exact ⟨0, by omega, rfl, rfl, Below.refl _ _⟩
    case round =>
      obtain ⟨k, hk, rfl, ht, hB⟩ := hrel
      have HT := Lib.hid ht
      clear ht
      by_cases hlt : k < n1
      · obtain ⟨b1, o1, rfl, hb1, hx1⟩ := hc1 (by omega)
        obtain ⟨b2, o2, rfl, hb2, hx2⟩ := hc2 (by omega)
        have hkl : k < l.length := by omega
        have hkm : k < m.length := by omega
        obtain ⟨d0, d1, d2, d3⟩ := spot_atL hb1 hB hx1 hkl
        obtain ⟨f0, f1, f2, f3⟩ := spot_atL hb2 hB hx2 hkm
        have HS := Lib.hid (show l[k] = m[k] → l.take (k + 1) = m.take (k + 1) by intro h; rw [List.take_succ_eq_append_getElem hkl, List.take_succ_eq_append_getElem hkm, HT.out, h])
        have HN := Lib.hid (show l[k] ≠ m[k] → decide (l = m) = false by intro h; simp; rintro rfl; exact h rfl)
        clear hx1 hx2
        generalize l[k] = x at *
        generalize m[k] = y at *
        have hne := fun w => neqSpotL x y w
        by_cases hxy : x = y
        · rw [decide_eq_true hxy] at hne
          have HS' := Lib.hid (HS.out hxy)
          clear HS HN
          subst hxy
          go_wp2
          go_quiet (fail)
          go_wp2
          go_roundw
          case rel => exact ⟨k + 1, by omega, by go_num, HS'.out, below_drewN hB _⟩
          case measure => simp [intOf]; omega
        · rw [decide_eq_false hxy] at hne
          have HN' := Lib.hid (HN.out hxy)
          clear HS HN hxy
          go_wp2
          go_quiet (fail)
          go_wp2
          go_ret
          exact ⟨by rw [HN'.out]; rfl, below_drewN hB _⟩
      · obtain rfl : k = n1 := by omega
        have HV := Lib.hid (show decide (l = m) = true by
          have := HT.out
          rw [List.take_of_length_le (by omega), List.take_of_length_le (by omega)] at this
          simp [this])
        go_wp2
        go_ret
        exact ⟨by rw [HV.out]; rfl, hB⟩
  · have HV := Lib.hid (show decide (l = m) = false by simp; rintro rfl; omega)
    go_enter Try.func43, Try.ntmps43
    go_wp2
    go_ret
    exact ⟨by rw [HV.out]; rfl, Below.refl _ _⟩


theorem lvCells_len : ∀ L : List GVL, (lvCells L).length = L.length * 7
  | [] => rfl
  | x :: r => by
    have := lvCells_len r
    unfold lvCells at this ⊢
    rw [List.flatMap_cons, List.length_append, this]
    show 7 + r.length * 7 = (r.length + 1) * 7
    omega
/-- A row of groups, as Groups tells it. -/
def GrpsAt (W : World) (a : Option Addr) (n : Nat) (Gs : List GVL) : Prop := Gs.length = n ∧ n < 1000000 ∧ RowV W a n 7 (lvCells Gs) ∧ ∀ x, x ∈ Gs → HasG W x.a x.g ∧ x.g.l.length ≤ x.c
theorem GrpsAt.below {W W' : World} {a : Option Addr} {n : Nat} {Gs : List GVL} (h : GrpsAt W a n Gs) (hB : Below W.heap.size W W') : GrpsAt W' a n Gs := ⟨h.1, h.2.1, h.2.2.1.below hB, fun x hx => ⟨⟨(h.2.2.2 x hx).1.1, (h.2.2.2 x hx).1.2.below hB⟩, (h.2.2.2 x hx).2⟩⟩
theorem grp_atL {w W : World} {b off : Nat} {L : List GVL} (hb : b < w.heap.size) (hB : Below w.heap.size w W) (hc : ∀ j (h : j < (lvCells L).length), w.cell? ⟨b, off + j, none⟩ = some (lvCells L)[j]) {k : Nat} (hk : k < L.length) :
    ∀ j v, j < 7 → ((L[k].g.arr L[k].a L[k].c).toList)[j]? = some v → W.cell? ⟨b, off + k * 7 + j, none⟩ = some v := fun j v hj hv => by
  rw [Nat.add_assoc]
  have hf : lvCells L = (L.map fun x => (x.g.arr x.a x.c).toList).flatten := by unfold lvCells; rw [List.flatMap_def]
  exact (hB.cell (p := ⟨b, off + (k * 7 + j), none⟩) hb).trans (RowV.at_ (len := L.length) (sz := 7) hc (by rw [hf, flat_at (fun x : GVL => (x.g.arr x.a x.c).toList) 7 (fun _ => rfl) L k j hk hj]; exact hv))
set_option maxRecDepth 100000 in
set_option maxHeartbeats 2000000 in
theorem equalG_any (a b : Option Addr) (n1 n2 c1 c2 : Nat) (l m : List GVL) (w : World) (h1 : GrpsAt w a n1 l) (h2 : GrpsAt w b n2 m) :
    Gives Try.prog 41 #[.slice a n1 c1, .slice b n2 c2, .func (.func 42) #[] #[]] w (.bool (decide (l.map GVL.g = m.map GVL.g))) := by
  have hl := h1.1
  have hm := h2.1
  have hn1 := h1.2.1
  have hn2 := h2.2.1
  have hc1 := h1.2.2.1.2.2
  have hc2 := h2.2.2.1.2.2
  have H1 := Lib.hid (fun W (hB : Below w.heap.size w W) => h1.below hB)
  have H2 := Lib.hid (fun W (hB : Below w.heap.size w W) => h2.below hB)
  clear h1 h2
  unfold Gives
  by_cases hne : n1 = n2
  · subst hne
    go_enter Try.func41, Try.ntmps41
    go_wp2
    go_loopw [17] (fun i wr => ∃ k : Nat, k ≤ n1 ∧ i = .int .i64 k ∧ (l.map GVL.g).take k = (m.map GVL.g).take k ∧ Below w.heap.size w wr) (fun i _ => n1 - (intOf i).toNat)
    case atStart => exact ⟨0, by omega, rfl, rfl, Below.refl _ _⟩
    case round =>
      obtain ⟨k, hk, rfl, ht, hB⟩ := hrel
      have HT := Lib.hid ht
      clear ht
      by_cases hlt : k < n1
      · obtain ⟨b1, o1, rfl, hb1, hx1⟩ := hc1 (by omega)
        obtain ⟨b2, o2, rfl, hb2, hx2⟩ := hc2 (by omega)
        have hkl : k < l.length := by omega
        have hkm : k < m.length := by omega
        have C1 := fun W (hW : Below w.heap.size w W) => grp_atL hb1 hW hx1 hkl
        have C2 := fun W (hW : Below w.heap.size w W) => grp_atL hb2 hW hx2 hkm
        have HS := Lib.hid (show l[k].g = m[k].g → (l.map GVL.g).take (k + 1) = (m.map GVL.g).take (k + 1) by intro h; rw [List.take_succ_eq_append_getElem (by simpa using hkl), List.take_succ_eq_append_getElem (by simpa using hkm), HT.out, List.getElem_map, List.getElem_map, h])
        have HN := Lib.hid (show l[k].g ≠ m[k].g → decide (l.map GVL.g = m.map GVL.g) = false by
          intro h
          rw [decide_eq_false_iff_not]
          intro e
          have e2 : (l.map GVL.g)[k]? = (m.map GVL.g)[k]? := by rw [e]
          rw [List.getElem?_map, List.getElem?_map, List.getElem?_eq_getElem hkl, List.getElem?_eq_getElem hkm] at e2
          exact h (Option.some.inj e2))
        have GS := Lib.hid (fun W (hW : Below w.heap.size w W) => (show Gives Try.prog 42 #[l[k].g.val l[k].a l[k].c, m[k].g.val m[k].a m[k].c] W (.bool (sameG l[k].g m[k].g)) from
          grpSame_any l[k].g.id l[k].g.fi l[k].g.te l[k].g.ht l[k].g.hv l[k].g.hc l[k].g.l l[k].a l[k].c m[k].g.id m[k].g.fi m[k].g.te m[k].g.ht m[k].g.hv m[k].g.hc m[k].g.l m[k].a m[k].c W (((H1.out W hW).2.2.2 _ (List.getElem_mem hkl)).1) (((H2.out W hW).2.2.2 _ (List.getElem_mem hkm)).1)))
        clear hx1 hx2
        generalize l[k] = x at *
        generalize m[k] = y at *
        obtain ⟨⟨xid, xfi, xte, xht, xhv, xhc, xl⟩, xa, xc⟩ := x
        obtain ⟨⟨yid, yfi, yte, yht, yhv, yhc, yl⟩, ya, yc⟩ := y
        have C1 := Lib.hid C1
        have C2 := Lib.hid C2
        dsimp only [GM.val, GM.arr] at *
        have CC := Lib.hid (fun W (hW : Below w.heap.size w W) => And.intro (And.intro (C1.out W hW 0 _ (by decide) rfl) (And.intro (C1.out W hW 1 _ (by decide) rfl) (And.intro (C1.out W hW 2 _ (by decide) rfl) (And.intro (C1.out W hW 3 _ (by decide) rfl) (And.intro (C1.out W hW 4 _ (by decide) rfl) (And.intro (C1.out W hW 5 _ (by decide) rfl) (C1.out W hW 6 _ (by decide) rfl))))))) (And.intro (C2.out W hW 0 _ (by decide) rfl) (And.intro (C2.out W hW 1 _ (by decide) rfl) (And.intro (C2.out W hW 2 _ (by decide) rfl) (And.intro (C2.out W hW 3 _ (by decide) rfl) (And.intro (C2.out W hW 4 _ (by decide) rfl) (And.intro (C2.out W hW 5 _ (by decide) rfl) (C2.out W hW 6 _ (by decide) rfl))))))))
        obtain ⟨⟨d0, d1, d2, d3, d4, d5, d6⟩, -⟩ := CC.out wr hB
        obtain ⟨-, f0, f1, f2, f3, f4, f5, f6⟩ := CC.out (wr.alloc (.cells #[.int .i64 xid, .int .i64 xfi, .int .i64 xte, .int .i64 xht, .int .i64 xhv, .int .i64 xhc, .slice xa xl.length xc] 65)) (bel2 hB (bel_alloc (Below.refl _ _) _))
        rw [Nat.add_zero] at d0 f0
        have hBa := bel2 hB (bel_alloc (bel_alloc (Below.refl wr.heap.size wr) (.cells #[.int .i64 xid, .int .i64 xfi, .int .i64 xte, .int .i64 xht, .int .i64 xhv, .int .i64 xhc, .slice xa xl.length xc] 65)) (.cells #[.int .i64 yid, .int .i64 yfi, .int .i64 yte, .int .i64 yht, .int .i64 yhv, .int .i64 yhc, .slice ya yl.length yc] 65))
        have HBa := Lib.hid hBa
        clear hBa C1 C2
        by_cases hxy : sameG ⟨xid, xfi, xte, xht, xhv, xhc, xl⟩ ⟨yid, yfi, yte, yht, yhv, yhc, yl⟩ = true
        · rw [hxy] at GS
          have HS' := Lib.hid (HS.out (of_decide_eq_true hxy))
          clear HS HN hxy
          go_wp2_with (go_at_call 42; ((with_reducible refine (GS.out _ HBa.out).mono ?_); rintro r w2 ⟨rfl, hB2⟩))
          go_roundw
          case rel => exact ⟨k + 1, by omega, by go_num, HS'.out, bel2 HBa.out hB2⟩
          case measure => simp [intOf]; omega
        · have hxf : sameG ⟨xid, xfi, xte, xht, xhv, xhc, xl⟩ ⟨yid, yfi, yte, yht, yhv, yhc, yl⟩ = false := by simpa using hxy
          rw [hxf] at GS
          have HN' := Lib.hid (HN.out (fun e => hxy (by rw [e]; exact decide_eq_true rfl)))
          clear HS HN hxy hxf
          go_wp2_with (go_at_call 42; ((with_reducible refine (GS.out _ HBa.out).mono ?_); rintro r w2 ⟨rfl, hB2⟩))
          go_ret
          exact ⟨by rw [HN'.out]; rfl, bel2 HBa.out hB2⟩
      · obtain rfl : k = n1 := by omega
        have HV := Lib.hid (show decide (l.map GVL.g = m.map GVL.g) = true by
          have := HT.out
          rw [List.take_of_length_le (by rw [List.length_map]; omega), List.take_of_length_le (by rw [List.length_map]; omega)] at this
          simp [this])
        go_wp2
        go_ret
        exact ⟨by rw [HV.out]; rfl, hB⟩
  · have HV := Lib.hid (show decide (l.map GVL.g = m.map GVL.g) = false by
      rw [decide_eq_false_iff_not]; intro e; have := congrArg List.length e; simp at this; omega)
    go_enter Try.func41, Try.ntmps41
    go_wp2
    go_ret
    exact ⟨by rw [HV.out]; rfl, Below.refl _ _⟩

end Go.Proofs.Ytdncdlbhgaehmaa

/- A ledger as one state: its blocks, what its calls tell (package ledger). -/
namespace Go.Proofs.Ytdncdlbhgaehmaa
open Go.RowKit Go.Shelf
set_option linter.unusedVariables false
attribute [local go_sem] Oper.semAt_some wide_fn wide_round_fn

theorem lgrps_any {w : World} {d m : Nat} {F : List LE} (h : LedAt w d m F) (hF : F.length ≤ 1000) : Calls Try.prog 30 #[.pointer (some ⟨d, 0, none⟩)] w fun e w' => ∃ a c Gs, e = .returned (.slice a F.length c) ∧ GrpsAt w' a F.length Gs ∧ Gs.map GVL.g = F.map (fun x => x.L.g) ∧ Below w.heap.size w w' := by
  refine (lall_any h hF).mono ?_
  rintro e w' ⟨v, Gs, rfl, h1, h2, h3, h4⟩
  obtain ⟨a, c, rfl, -, hr⟩ := rowV_own h2
  rw [List.length_map] at hr
  have hl : Gs.length = F.length := by have := congrArg List.length h1; rwa [List.length_map, List.length_map] at this
  exact ⟨a, c, Gs, by rw [List.length_map], ⟨hl, by omega, hr, h3⟩, h1, h4⟩
theorem lspots_any {w : World} {d m N : Nat} {F : List LE} (h : LedAt w d m F) (hF : F.length ≤ 1000) (hok : okA N (F.map LE.L)) (hN : N ≤ 10000) : Calls Try.prog 32 #[.pointer (some ⟨d, 0, none⟩)] w fun e w' => ∃ a c, e = .returned (.slice a (fl F).length c) ∧ RowV w' a (fl F).length 4 (spotCells (fl F)) ∧ Below w.heap.size w w' := by
  refine (sall_any h hF hok hN).mono ?_
  rintro e w' ⟨v, rfl, h2, h4⟩
  obtain ⟨a, c, rfl, -, hr⟩ := rowV_own h2
  exact ⟨a, c, rfl, hr, h4⟩
def sameLB (F F2 : List LE) : Bool := decide (F.map (fun x => x.L.g) = F2.map (fun x => x.L.g)) && decide (fl F = fl F2)
set_option maxRecDepth 100000 in
set_option maxHeartbeats 2000000 in
theorem lsame_any {w : World} {e M e2 M2 N : Nat} {F F2 : List LE} (h : LedAt w e M F) (h2 : LedAt w e2 M2 F2) (hF : F.length ≤ 1000) (hF2 : F2.length ≤ 1000) (hok : okA N (F.map LE.L)) (hok2 : okA N (F2.map LE.L)) (hN : N ≤ 10000) (hs : F.length * (N + 2) < 1000000) (hs2 : F2.length * (N + 2) < 1000000) :
    Calls Try.prog 23 #[.pointer (some ⟨e, 0, none⟩), .pointer (some ⟨e2, 0, none⟩)] w fun r w' => r = .returned (.bool (sameLB F F2)) ∧ Below w.heap.size w w' := by
  have hl1 := fl_len hok
  have hl2 := fl_len hok2
  have G1 := Lib.hid (fun W (hB : Below w.heap.size w W) => lgrps_any (h.below hB) hF)
  have G2 := Lib.hid (fun W (hB : Below w.heap.size w W) => lgrps_any (h2.below hB) hF2)
  have S1 := Lib.hid (fun W (hB : Below w.heap.size w W) => lspots_any (h.below hB) hF hok hN)
  have S2 := Lib.hid (fun W (hB : Below w.heap.size w W) => lspots_any (h2.below hB) hF2 hok2 hN)
  have GE := Lib.hid (fun W a n c Gs a2 n2 c2 Gs2 (hg : GrpsAt W a n Gs) (hg2 : GrpsAt W a2 n2 Gs2) => equalG_any a a2 n n2 c c2 Gs Gs2 W hg hg2)
  have SE := Lib.hid (fun W a c a2 c2 (hr : RowV W a (fl F).length 4 (spotCells (fl F))) (hr2 : RowV W a2 (fl F2).length 4 (spotCells (fl F2))) => equalS_any a a2 _ _ c c2 (fl F) (fl F2) rfl rfl (by omega) (by omega) W hr hr2)
  unfold sameLB
  clear h h2 hok hok2 hl1 hl2 hs hs2 hF hF2 hN
  generalize fl F = X at *
  generalize fl F2 = Y at *
  generalize F.map (fun x => x.L.g) = A at *
  generalize F2.map (fun x => x.L.g) = B at *
  generalize F.length = n1 at *
  generalize F2.length = n2 at *
  unfold Gives at *
  by_cases hAB : A = B
  · have HAB := Lib.hid hAB
    rw [decide_eq_true hAB]
    clear hAB
    go_enter Try.func23, Try.ntmps23
    go_wp2_with (first
      | (go_at_call 30; ((with_reducible refine (G2.out _ hB1).mono ?_); rintro r w2 ⟨a2, c2, Gs2, rfl, hG2, hm2, hB2⟩; have HG2 := Lib.hid hG2; have HM2 := Lib.hid hm2; have HB2 := Lib.hid (bel2 hB1 hB2); clear hG2 hm2; have HBB := Lib.hid hB2; clear hB1 hB2))
      | (go_at_call 30; ((with_reducible refine (G1.out _ (Below.refl _ _)).mono ?_); rintro r w1 ⟨a1, c1, Gs1, rfl, hG1, hm1, hB1⟩; have HG1 := Lib.hid hG1; have HM1 := Lib.hid hm1; clear hG1 hm1))
      | (go_at_call 41; ((with_reducible refine (GE.out _ _ _ _ _ _ _ _ _ (HG1.out.below HBB.out) HG2.out).mono ?_); rintro r w3 ⟨rfl, hB3⟩; rw [HM1.out, HM2.out, decide_eq_true HAB.out]; have HB3 := Lib.hid (bel2 HB2.out hB3); clear HG1 HG2 hB3))
      | (go_at_call 32; ((with_reducible refine (S2.out _ hB4).mono ?_); rintro r w5 ⟨b2, k2, rfl, hS2, hB5⟩; have HS2 := Lib.hid hS2; have HB5 := Lib.hid (bel2 hB4 hB5); have HR1 := Lib.hid (HS1.out.below hB5); clear hS2 hB4 hB5))
      | (go_at_call 32; ((with_reducible refine (S1.out _ HB3.out).mono ?_); rintro r w4 ⟨b1, k1, rfl, hS1, hB4'⟩; have HS1 := Lib.hid hS1; have hB4 := bel2 HB3.out hB4'; clear hS1 hB4'))
      | (go_at_call 43; ((with_reducible refine (SE.out _ _ _ _ _ HR1.out HS2.out).mono ?_); rintro r w6 ⟨rfl, hB6⟩)))
    go_ret
    exact ⟨by simp, bel2 HB5.out hB6⟩
  · have HAB := Lib.hid hAB
    rw [decide_eq_false hAB]
    clear hAB
    go_enter Try.func23, Try.ntmps23
    go_wp2_with (first
      | (go_at_call 30; ((with_reducible refine (G2.out _ hB1).mono ?_); rintro r w2 ⟨a2, c2, Gs2, rfl, hG2, hm2, hB2⟩; have HG2 := Lib.hid hG2; have HM2 := Lib.hid hm2; have HB2 := Lib.hid (bel2 hB1 hB2); clear hG2 hm2; have HBB := Lib.hid hB2; clear hB1 hB2))
      | (go_at_call 30; ((with_reducible refine (G1.out _ (Below.refl _ _)).mono ?_); rintro r w1 ⟨a1, c1, Gs1, rfl, hG1, hm1, hB1⟩; have HG1 := Lib.hid hG1; have HM1 := Lib.hid hm1; clear hG1 hm1))
      | (go_at_call 41; ((with_reducible refine (GE.out _ _ _ _ _ _ _ _ _ (HG1.out.below HBB.out) HG2.out).mono ?_); rintro r w3 ⟨rfl, hB3⟩; rw [HM1.out, HM2.out, decide_eq_false HAB.out]; have HB3 := Lib.hid (bel2 HB2.out hB3); clear HG1 HG2 hB3)))
    go_ret
    exact ⟨by simp, HB3.out⟩

end Go.Proofs.Ytdncdlbhgaehmaa

/- A ledger with the blocks that are its own (LT); one, two ledgers made since (LG1, LG2). -/
namespace Go.Proofs.Ytdncdlbhgaehmaa
open Go.RowKit Go.Shelf
set_option linter.unusedVariables false
attribute [local go_sem] Oper.semAt_some wide_fn wide_round_fn

def flA (A : List LG) : List SpotC := A.flatMap fun L => spotsL L.g L.F
def denA (A : List LG) : Bool := A.all fun L => isG L.g
theorem fl_flA (F : List LE) : fl F = flA (F.map LE.L) := by unfold fl flA; rw [List.flatMap_map]
theorem den_denA (F : List LE) : denB F = denA (F.map LE.L) := by unfold denB denA; rw [List.all_map]; rfl
def LT (W : World) (e : Nat) (A : List LG) (T : Nat → Prop) : Prop := ∃ M F, LedAt W e M F ∧ F.map LE.L = A ∧ T = ownLg F e M
theorem LT.lt {W : World} {e : Nat} {A : List LG} {T : Nat → Prop} (h : LT W e A T) {k : Nat} (hk : T k) : k < W.heap.size := by
  obtain ⟨M, F, h, -, rfl⟩ := h; exact h.lt hk
theorem LT.below {W W' : World} {e : Nat} {A : List LG} {T : Nat → Prop} (h : LT W e A T) (hB : Below W.heap.size W W') : LT W' e A T := by
  obtain ⟨M, F, h, h1, h2⟩ := h; exact ⟨M, F, h.below hB, h1, h2⟩
theorem LT.other {W W' : World} {e e2 : Nat} {A A2 : List LG} {T T2 : Nat → Prop} (h : LT W e A T) (h2 : LT W e2 A2 T2) (hF : FrameT T2 W W') (hT : ∀ k, T k → ¬ T2 k) : LT W' e A T := by
  obtain ⟨M, F, h, h1, rfl⟩ := h
  obtain ⟨M2, F2, h2, -, rfl⟩ := h2
  exact ⟨M, F, h.other h2 hF hT, h1, rfl⟩
theorem LT.ris {W : World} {e : Nat} {A : List LG} {T : Nat → Prop} (h : LT W e A T) : RisZ LG.n A ∧ ∀ L ∈ A, 0 ≤ L.n ∧ L.n ≤ 999 := by
  obtain ⟨M, F, h, rfl, -⟩ := h
  refine ⟨h.risL, fun L hL => ?_⟩
  obtain ⟨x, hx, rfl⟩ := List.mem_map.1 hL
  exact h.ids x hx
def OpLT (W : World) (e : Nat) (T : Nat → Prop) (A' : List LG) (W' : World) : Prop := ∃ T', LT W' e A' T' ∧ FrameT T W W' ∧ ∀ k, T' k → T k ∨ W.heap.size ≤ k
/-- Do. -/
theorem tDo {W : World} {e N c : Nat} {A : List LG} {T : Nat → Prop} (h : LT W e A T) (hok : okA N A) (a : Option Addr) (len cap : Nat) (L : List PL) (hp : HasP W a len L) (hc : ∀ x ∈ L, x.2.length ≤ c ∧ x.2.length ≤ x.1.cap) (hN : N + len * (c + 2) ≤ 100000) (hA : A.length + len < 100000) (s t : Int) :
    Calls Try.prog 27 #[.pointer (some ⟨e, 0, none⟩), .slice a len cap, .agg #[.int .i64 s, .int .i64 t]] W fun r w' => (∃ v, r = .returned v) ∧ OpLT W e T (ldo A L s t) w' := by
  obtain ⟨M, F, h, rfl, rfl⟩ := h
  refine (ldo_any h hok a len cap L hp hc hN (by rwa [List.length_map] at hA) s t).mono ?_
  rintro r w' ⟨h1, F', h2, h3, -, -⟩
  exact ⟨h1, _, ⟨M, F', h2.1, h3, rfl⟩, h2.2.1, h2.2.2⟩
theorem ldo_ok {N c : Nat} : ∀ {L : List PL} {A : List LG} (h : okA N A) (s t : Int), (∀ x ∈ L, x.2.length ≤ c) → okA (N + L.length * (c + 2)) (ldo A L s t)
  | [], A, h, s, t, _ => by simpa [ldo] using h
  | x :: r, A, h, s, t, hc => by
    have h1 := ldo1_ok h x s t (hc x (by simp))
    have h2 := ldo_ok (L := r) h1 s t (fun y hy => hc y (List.mem_cons_of_mem _ hy))
    have e : N + (c + 2) + r.length * (c + 2) = N + (x :: r).length * (c + 2) := by rw [List.length_cons, Nat.succ_mul]; omega
    rw [e] at h2
    exact h2
theorem ldo_len : ∀ (L : List PL) (A : List LG) (s t : Int), (ldo A L s t).length ≤ A.length + L.length
  | [], A, s, t => Nat.le_refl _
  | x :: r, A, s, t => by
    have h1 := ldo1_len A x s t
    have h2 := ldo_len r (ldo1 A x s t) s t
    show (ldo (ldo1 A x s t) r s t).length ≤ _
    rw [List.length_cons]; omega
/-- One ledger, made since w: what lay in w is as it was. -/
def LG1 (w : World) (e : Nat) (A : List LG) (W : World) : Prop := ∃ T, LT W e A T ∧ Below w.heap.size w W ∧ ∀ k, T k → w.heap.size ≤ k
theorem LG1.below {w W W' : World} {e : Nat} {A : List LG} (h : LG1 w e A W) (hB : Below W.heap.size W W') : LG1 w e A W' := by
  obtain ⟨T, h1, h2, h3⟩ := h; exact ⟨T, h1.below hB, bel2 h2 hB, h3⟩
theorem LG1.bel {w W : World} {e : Nat} {A : List LG} (h : LG1 w e A W) : Below w.heap.size w W := h.choose_spec.2.1
theorem LG1.ris {w W : World} {e : Nat} {A : List LG} (h : LG1 w e A W) : RisZ LG.n A ∧ ∀ L ∈ A, 0 ≤ L.n ∧ L.n ≤ 999 := h.choose_spec.1.ris
theorem gNew1 {w W : World} (hB : Below w.heap.size w W) : Calls Try.prog 26 #[] W fun r w' => ∃ e, r = .returned (.pointer (some ⟨e, 0, none⟩)) ∧ LG1 w e [] w' ∧ W.heap.size ≤ e ∧ Below W.heap.size W w' := by
  refine (lnew_any W).mono ?_
  rintro r w' ⟨rfl, h, hB2⟩
  have := hB.size
  refine ⟨_, rfl, ⟨_, ⟨_, _, h, rfl, rfl⟩, bel2 hB hB2, ?_⟩, by omega, hB2⟩
  rintro k (rfl | rfl | ⟨x, hx, -⟩)
  · omega
  · omega
  · cases hx
theorem gDo1 {w W : World} {e N c : Nat} {A : List LG} (h : LG1 w e A W) (hok : okA N A) (a : Option Addr) (len cap : Nat) (L : List PL) (hp : HasP W a len L) (hc : ∀ x ∈ L, x.2.length ≤ c ∧ x.2.length ≤ x.1.cap) (hN : N + len * (c + 2) ≤ 100000) (hA : A.length + len < 100000) (s t : Int) :
    Calls Try.prog 27 #[.pointer (some ⟨e, 0, none⟩), .slice a len cap, .agg #[.int .i64 s, .int .i64 t]] W fun r w' => (∃ v, r = .returned v) ∧ LG1 w e (ldo A L s t) w' := by
  obtain ⟨T, h1, h2, h3⟩ := h
  refine (tDo h1 hok a len cap L hp hc hN hA s t).mono ?_
  rintro r w' ⟨h4, T', h5, h6, h7⟩
  refine ⟨h4, T', h5, h2.trans (h6.toBelow h2.size (fun k hk => h3 k hk)), fun k hk => ?_⟩
  rcases h7 k hk with h | h
  · exact h3 k h
  · exact Nat.le_trans h2.size h
theorem tGroups {W : World} {e : Nat} {A : List LG} {T : Nat → Prop} (h : LT W e A T) (hA : A.length ≤ 1000) : Calls Try.prog 30 #[.pointer (some ⟨e, 0, none⟩)] W fun r w' => ∃ a c Gs, r = .returned (.slice a A.length c) ∧ GrpsAt w' a A.length Gs ∧ Gs.map GVL.g = A.map LG.g ∧ Below W.heap.size W w' := by
  obtain ⟨M, F, h, rfl, rfl⟩ := h
  rw [List.length_map] at hA
  refine (lgrps_any h hA).mono ?_
  rintro r w' ⟨a, c, Gs, rfl, h1, h2, h3⟩
  rw [List.length_map]
  exact ⟨a, c, Gs, rfl, h1, by rw [h2, List.map_map]; rfl, h3⟩
theorem tSpots {W : World} {e N : Nat} {A : List LG} {T : Nat → Prop} (h : LT W e A T) (hA : A.length ≤ 1000) (hok : okA N A) (hN : N ≤ 10000) : Calls Try.prog 32 #[.pointer (some ⟨e, 0, none⟩)] W fun r w' => ∃ a c, r = .returned (.slice a (flA A).length c) ∧ RowV w' a (flA A).length 4 (spotCells (flA A)) ∧ Below W.heap.size W w' := by
  obtain ⟨M, F, h, rfl, rfl⟩ := h
  rw [List.length_map] at hA
  have := lspots_any h hA hok hN
  rw [fl_flA] at this
  exact this
/-- What Get tells. -/
def GetA (W : World) (A : List LG) (i : Int) (r : Ending) (w' : World) : Prop :=
  Below W.heap.size W w' ∧ ((∃ L va vc, getZ LG.n A i = some L ∧ r = .returned (.tuple #[L.g.val va vc, .bool true]) ∧ HasG w' va L.g ∧ L.g.l.length ≤ vc) ∨ (getZ LG.n A i = none ∧ r = .returned (.tuple #[.agg #[.int .i64 0, .int .i64 0, .int .i64 0, .int .i64 0, .int .i64 0, .int .i64 0, .slice none 0 0], .bool false])))
theorem tGet {W : World} {e : Nat} {A : List LG} {T : Nat → Prop} (h : LT W e A T) (i : Int) (hi : -9223372036854775808 ≤ i ∧ i < 9223372036854775808) : Calls Try.prog 49 #[.pointer (some ⟨e, 0, none⟩), .int .i64 i] W (GetA W A i) := by
  obtain ⟨M, F, h, rfl, rfl⟩ := h
  have hg : getZ LG.n (F.map LE.L) i = (getZ LE.k F i).map LE.L := (getZ_map (nm := LE.k) (nb := LG.n) (g := LE.L) (fun _ => rfl) F i).symm
  refine (lget_any h i hi).mono ?_
  rintro r w' ⟨hB, ⟨x, va, vc, h1, h2, h3, h4⟩ | ⟨h1, h2⟩⟩
  · exact ⟨hB, .inl ⟨x.L, va, vc, by rw [hg, h1]; rfl, h2, h3, h4⟩⟩
  · exact ⟨hB, .inr ⟨by rw [hg, h1]; rfl, h2⟩⟩
theorem tCopy {W : World} {e : Nat} {A : List LG} {T : Nat → Prop} (h : LT W e A T) (hA : A.length ≤ 1000) : Calls Try.prog 47 #[.pointer (some ⟨e, 0, none⟩)] W fun r w' => ∃ e2, r = .returned (.pointer (some ⟨e2, 0, none⟩)) ∧ LG1 W e2 A w' := by
  obtain ⟨M, F, h, rfl, rfl⟩ := h
  rw [List.length_map] at hA
  refine (lcopy_any h hA).mono ?_
  rintro r w' ⟨e2, M2, G, rfl, h1, h2, h3, h4⟩
  exact ⟨e2, rfl, _, ⟨M2, G, h1, h2, rfl⟩, h4, h3⟩
def sameA (A B : List LG) : Bool := decide (A.map LG.g = B.map LG.g) && decide (flA A = flA B)
theorem tSame {W : World} {e e2 N : Nat} {A A2 : List LG} {T T2 : Nat → Prop} (h : LT W e A T) (h2 : LT W e2 A2 T2) (hA : A.length ≤ 1000) (hA2 : A2.length ≤ 1000) (hok : okA N A) (hok2 : okA N A2) (hN : N ≤ 10000) (hs : A.length * (N + 2) < 1000000) (hs2 : A2.length * (N + 2) < 1000000) :
    Calls Try.prog 23 #[.pointer (some ⟨e, 0, none⟩), .pointer (some ⟨e2, 0, none⟩)] W fun r w' => r = .returned (.bool (sameA A A2)) ∧ Below W.heap.size W w' := by
  obtain ⟨M, F, h, rfl, rfl⟩ := h
  obtain ⟨M2, F2, h2, rfl, rfl⟩ := h2
  rw [List.length_map] at hA hA2 hs hs2
  have := lsame_any h h2 hA hA2 hok hok2 hN hs hs2
  unfold sameLB at this
  rw [fl_flA, fl_flA] at this
  unfold sameA
  rw [List.map_map, List.map_map]
  exact this
/-! ### Two ledgers -/
def LG2 (w : World) (e : Nat) (A : List LG) (e2 : Nat) (A2 : List LG) (W : World) : Prop := ∃ T T2, LT W e A T ∧ LT W e2 A2 T2 ∧ (∀ k, T k → ¬ T2 k) ∧ Below w.heap.size w W ∧ (∀ k, T k → w.heap.size ≤ k) ∧ ∀ k, T2 k → w.heap.size ≤ k
theorem LG2.swap {w W : World} {e e2 : Nat} {A A2 : List LG} (h : LG2 w e A e2 A2 W) : LG2 w e2 A2 e A W := by
  obtain ⟨T, T2, h1, h2, h3, h4, h5, h6⟩ := h
  exact ⟨T2, T, h2, h1, fun k hk hk2 => h3 k hk2 hk, h4, h6, h5⟩
theorem LG2.below {w W W' : World} {e e2 : Nat} {A A2 : List LG} (h : LG2 w e A e2 A2 W) (hB : Below W.heap.size W W') : LG2 w e A e2 A2 W' := by
  obtain ⟨T, T2, h1, h2, h3, h4, h5, h6⟩ := h
  exact ⟨T, T2, h1.below hB, h2.below hB, h3, bel2 h4 hB, h5, h6⟩
theorem LG2.bel {w W : World} {e e2 : Nat} {A A2 : List LG} (h : LG2 w e A e2 A2 W) : Below w.heap.size w W := by
  obtain ⟨T, T2, h1, h2, h3, h4, h5, h6⟩ := h; exact h4
theorem LG2.one {w W : World} {e e2 : Nat} {A A2 : List LG} (h : LG2 w e A e2 A2 W) : LG1 w e A W := by
  obtain ⟨T, T2, h1, h2, h3, h4, h5, h6⟩ := h; exact ⟨T, h1, h4, h5⟩
/-- A ledger that is newer than all of the other's. -/
theorem LG1.two {w W W' : World} {e e2 : Nat} {A A2 : List LG} (h : LG1 w e A W) (h2 : LG1 W e2 A2 W') : LG2 w e A e2 A2 W' := by
  obtain ⟨T, h1, hB, hT⟩ := h
  obtain ⟨T2, h3, hB2, hT2⟩ := h2
  exact ⟨T, T2, h1.below hB2, h3, fun k hk hk2 => by have := h1.lt hk; have := hT2 k hk2; omega, bel2 hB hB2, hT, fun k hk => Nat.le_trans hB.size (hT2 k hk)⟩
theorem gDo2 {w W : World} {e e2 N c : Nat} {A A2 : List LG} (h : LG2 w e A e2 A2 W) (hok : okA N A) (a : Option Addr) (len cap : Nat) (L : List PL) (hp : HasP W a len L) (hc : ∀ x ∈ L, x.2.length ≤ c ∧ x.2.length ≤ x.1.cap) (hN : N + len * (c + 2) ≤ 100000) (hA : A.length + len < 100000) (s t : Int) :
    Calls Try.prog 27 #[.pointer (some ⟨e, 0, none⟩), .slice a len cap, .agg #[.int .i64 s, .int .i64 t]] W fun r w' => (∃ v, r = .returned v) ∧ LG2 w e (ldo A L s t) e2 A2 w' := by
  obtain ⟨T, T2, h1, h2, h3, h4, h5, h6⟩ := h
  refine (tDo h1 hok a len cap L hp hc hN hA s t).mono ?_
  rintro r w' ⟨g1, T', g2, g3, g4⟩
  refine ⟨g1, T', T2, g2, h2.other h1 g3 (fun k hk hk2 => h3 k hk2 hk), fun k hk hk2 => ?_, h4.trans (g3.toBelow h4.size (fun k hk => h5 k hk)), fun k hk => ?_, h6⟩
  · rcases g4 k hk with h | h
    · exact h3 k h hk2
    · have := h2.lt hk2; omega
  · rcases g4 k hk with h | h
    · exact h5 k h
    · exact Nat.le_trans h4.size h

end Go.Proofs.Ytdncdlbhgaehmaa
