/- ManE, ManU: in one text. -/
import Derived.Test.YthedmemkckclpaaGreatManD
import Derived.Maps.RangeWalk
import Derived.Deep.RegionWith
import Derived.Test.YthedmemkckclpaaGreatManW
import Derived.Test.YthedmemkckclpaaGreatMan
import Derived.Test.YthedmemkckclpaaGreatManI
/- maps.EqualFunc at groups, many.Same. -/
namespace Go.Proofs.YthedmemkckclpaaGreat
open Go.RowKit Go.Shelf
set_option linter.unusedVariables false
attribute [local go_sem] Oper.semAt_some wide_fn wide_round_fn

theorem risZ_sub {α : Type} {nm : α → Int} : ∀ (M L : List α), RisZ nm M → RisZ nm L → (∀ x ∈ L, x ∈ M) → L.length ≤ M.length ∧ (L.length = M.length → L = M)
  | [], L, _, _, h => by
    cases L with
    | nil => exact ⟨Nat.le_refl _, fun _ => rfl⟩
    | cons x r => exact absurd (h x List.mem_cons_self) (by simp)
  | y :: s, L, hM, hL, h => by
    obtain ⟨m1, m2⟩ := List.pairwise_cons.1 hM
    cases L with
    | nil => exact ⟨Nat.zero_le _, fun e => by simp at e⟩
    | cons x r =>
      obtain ⟨l1, l2⟩ := List.pairwise_cons.1 hL
      rcases List.mem_cons.1 (h x List.mem_cons_self) with rfl | hx
      · have := risZ_sub s r m2 l2 (fun z hz => by
          rcases List.mem_cons.1 (h z (List.mem_cons_of_mem _ hz)) with rfl | hz'
          · have := l1 z hz; omega
          · exact hz')
        exact ⟨by simp only [List.length_cons]; omega, fun e => by rw [this.2 (by simpa using e)]⟩
      · have := risZ_sub s (x :: r) m2 hL (fun z hz => by
          rcases List.mem_cons.1 (h z hz) with rfl | hz'
          · rcases List.mem_cons.1 hz with rfl | hz2
            · exact hx
            · have a := l1 z hz2; have b := m1 x hx; omega
          · exact hz')
        exact ⟨by simp only [List.length_cons] at this ⊢; omega, fun e => by simp only [List.length_cons] at this e; omega⟩
theorem getZ_gvE (F : List GV) (s : Int) : (getZ GV.id F s).map GV.g = getZ GM.id (F.map GV.g) s := getZ_map (g := GV.g) (nm := GV.id) (nb := GM.id) (fun _ => rfl) F s
/-- One step of a loop over the groups. -/
theorem next_grp {W : World} {m r n cnt : Nat} {left : Lit → Bool} {F : List GV} (h : W.ranges Tryz.prog 3 valElem m r n (gmap F) left cnt) (ty : TypeId) :
    (cnt = 0 ∧ (∀ kl, left kl = false) ∧ (Instr.next (.pointer (some ⟨r, 0, none⟩)) false ty).run Tryz.prog W = .ok (.tuple #[.bool false]) W) ∨
    ∃ x w' cnt', x ∈ F ∧ left (.int .i64 x.id) = true ∧ (Instr.next (.pointer (some ⟨r, 0, none⟩)) false ty).run Tryz.prog W = .ok (.tuple #[.bool true, .int .i64 x.id, x.val]) w' ∧
      w'.ranges Tryz.prog 3 valElem m r n (gmap F) (fun z => left z && !z.sameKey (.int .i64 x.id)) cnt' ∧ cnt' < cnt ∧ W.grownBy w' (some r) ∧ w'.heap.size = W.heap.size ∧ (Instr.entry (.pointer (some ⟨r, 0, none⟩))).run Tryz.prog w' = .ok (.tuple #[.int .i64 x.id, x.val]) w' := by
  rcases h.next lawG ty with h0 | ⟨key, v, kl, y, w', cnt', hkey, hlk, hv, hat, hrun, hrg, hlt, hgr, hsz, hen⟩
  · exact .inl h0
  · right
    obtain ⟨s, rfl, rfl, hs⟩ := Maps.keyOf_int_inv Tryz.underlying3 hkey
    have hg : ∃ x, getZ GV.id F s = some x := by
      cases e : getZ GV.id F s with
      | some x => exact ⟨x, rfl⟩
      | none =>
        have a1 := hat .nil
        have a2 := hat (.lit (.int .i64 0))
        rw [gmap_at, e] at a1 a2
        rw [← a1] at a2; cases a2
    obtain ⟨x, hg⟩ := hg
    obtain ⟨hx, rfl⟩ := getZ_some hg
    have a1 : (DataW.held x.val : DataW Value) = y.1 := by have := hat .nil; rw [gmap_at, hg] at this; exact this
    clear hat
    have hp : v = x.val := valElem_some (ps := y.2) (hv.trans (congrArg some (show y = (DataW.held x.val, y.2) by rw [a1])))
    subst hp
    exact ⟨x, w', cnt', hx, hlk, hrun, hrg, hlt, hgr, hsz, hen⟩
set_option maxRecDepth 100000 in
theorem wpList_next_grp {w : World} {ops : Array Oper} {rest : List Oper} {o : Oper} {a : Act} {Q : Exit → Act → World → Prop} (hg : o.guard = none) (it : Operand) (hop : o.op = Op.next it false) {m r n cnt : Nat} {left : Lit → Bool} {F : List GV}
    (hit : a.eval it = .pointer (some ⟨r, 0, none⟩)) (h : w.ranges Tryz.prog 3 valElem m r n (gmap F) left cnt)
    (hDone : cnt = 0 → (∀ kl, left kl = false) → wpList Tryz.prog ops Q rest (a.put o.dst (.tuple #[.bool false])) w)
    (hMore : ∀ (x : GV) (w' : World) (cnt' : Nat), x ∈ F → left (.int .i64 x.id) = true → w'.ranges Tryz.prog 3 valElem m r n (gmap F) (fun z => left z && !z.sameKey (.int .i64 x.id)) cnt' → cnt' < cnt → w.grownBy w' (some r) → w'.heap.size = w.heap.size →
      (Instr.entry (.pointer (some ⟨r, 0, none⟩))).run Tryz.prog w' = .ok (.tuple #[.int .i64 x.id, x.val]) w' → wpList Tryz.prog ops Q rest (a.put o.dst (.tuple #[.bool true, .int .i64 x.id, x.val])) w') :
    wpList Tryz.prog ops Q (o :: rest) a w := by
  refine wpList_plain hg fun K' hK' => ?_
  unfold Oper.wp
  rcases next_grp h o.type with ⟨h0, hl, hrun⟩ | ⟨x, w', cnt', hx, hl, hrun, hrg, hlt, hgr, hsz, hen⟩
  · simp [execOp, hop, hit, hrun, Result.andThen]
    exact hK' _ _ (hDone h0 hl)
  · simp [execOp, hop, hit, hrun, Result.andThen]
    exact hK' _ _ (hMore x w' cnt' hx hl hrg hlt hgr hsz hen)
set_option maxRecDepth 100000 in
set_option maxHeartbeats 2000000 in
theorem gequal_any {W : World} {m n : Nat} {F G : List GV} (h1 : HasMap W m F) (h2 : HasMap W n G) (hF : RisZ GM.id (F.map GV.g)) (hG : RisZ GM.id (G.map GV.g)) (hid : ∀ x ∈ F, 0 ≤ x.id ∧ x.id ≤ 999) (hFl : F.length ≤ 1000) (hGl : G.length ≤ 1000) :
    Gives Tryz.prog 21 #[.map (some m), .map (some n), .func (.func 12) #[] #[]] W (.bool (decide (F.map GV.g = G.map GV.g))) := by
  have hm1 := h1.map
  have hm2 := h2.map
  have HH1 := Lib.hid h1
  have HH2 := Lib.hid h2
  unfold Gives
  by_cases hlen : F.length = G.length
  · have HSub := Lib.hid (show (∀ x ∈ F, getZ GM.id (G.map GV.g) x.id = some x.g) → decide (F.map GV.g = G.map GV.g) = true from fun hall => decide_eq_true ((risZ_sub (G.map GV.g) (F.map GV.g) hG hF (fun z hz => by
      obtain ⟨x, hx, rfl⟩ := List.mem_map.1 hz
      exact (getZ_some (hall x hx)).1)).2 (by rw [List.length_map, List.length_map, hlen])))
    have HNot := Lib.hid (show ∀ x ∈ F, getZ GM.id (G.map GV.g) x.id ≠ some x.g → decide (F.map GV.g = G.map GV.g) = false from fun x hx hne => decide_eq_false (fun e => hne (by rw [← e]; exact risZ_get hF (List.mem_map.2 ⟨x, hx, rfl⟩))))
    have HHas := Lib.hid (show ∀ x ∈ F, Maps.has (gmap F) (.int .i64 x.id) = true from fun x hx => by
      rw [gmap_has]
      cases e : getZ GV.id F x.id with
      | some y => rfl
      | none => exact absurd rfl (getZ_none e x hx))
    have HId := Lib.hid hid
    have HRF := Lib.hid hF
    have hli : ((F.length : Nat) : Int) = (G.length : Int) := by omega
    have hln : ((F.length : Int) != (G.length : Int)) = false := by rw [bne_eq_false_iff_eq]; exact hli
    clear h1 h2 hF hG hid hlen hli
    go_enter Tryz.func21, Tryz.ntmps21
    go_wp2_with (first
      | (at_len; refine wpList_len_own _ rfl _ 40 rfl 3 39 Tryz.underlying40 valElem m F.length (gmap F) rfl hm1 ?_; rw [gmap_size])
      | (at_len; refine wpList_len_own _ rfl _ 40 rfl 3 39 Tryz.underlying40 valElem n G.length (gmap G) rfl hm2 ?_; rw [gmap_size])
      | (at_range; refine wpList_range_own _ rfl _ 40 rfl 3 39 lawG Tryz.underlying40 valElem m F.length (gmap F) rfl hm1 ?_; intro w0 hrg0 hg0 hs0))
    go_frame
    have HG0 := Lib.hid (show Below W.heap.size W w0 from (Below.refl _ _).grown hg0 (by simp) (fun j hj => by cases hj))
    clear hg0 hs0
    go_loopw [6] (fun v wr => ∃ (left : Lit → Bool) (cnt : Nat), wr.ranges Tryz.prog 3 valElem m W.heap.size F.length (gmap F) left cnt ∧ v = .bool false ∧ (∀ x ∈ F, left (.int .i64 x.id) = true ∨ getZ GM.id (G.map GV.g) x.id = some x.g) ∧ Below W.heap.size W wr) (fun _ wr => wr.rangeLeft m W.heap.size)
    case atStart => exact ⟨_, _, hrg0, rfl, fun x hx => .inl (HHas.out x hx), HG0.out⟩
    case round =>
      obtain ⟨left, cnt, hrg, rfl, hall, hB⟩ := hrel
      have HAll := Lib.hid hall
      have HB := Lib.hid hB
      clear hall hB
      go_wp2_with (at_next; refine wpList_next_grp rfl _ rfl rfl hrg ?_ ?_)
      · intro hc0 hl0
        have HE := Lib.hid (HSub.out (fun x hx => (HAll.out x hx).resolve_left (by rw [hl0]; simp)))
        clear hc0 hl0
        go_wp2
        go_ret
        exact ⟨by rw [HE.out]; rfl, HB.out⟩
      · intro x w1 cnt1 hx hl hrg1 hlt hg1 hs1 hen
        have hB1 : Below W.heap.size W w1 := HB.out.grown hg1 HB.out.size (fun j hj => by cases hj; exact Nat.le_refl _)
        have hidx := HId.out x hx
        have HR := Lib.hid hrg1
        have HM := Lib.hid (show w1.rangeLeft m W.heap.size < wr.rangeLeft m W.heap.size by rw [hrg1.left_eq, hrg.left_eq]; exact hlt)
        have HMl := Lib.hid (show cnt1 < wr.rangeLeft m W.heap.size by rw [hrg.left_eq]; exact hlt)
        have HN := Lib.hid (HNot.out x hx)
        have HSt := Lib.hid (show getZ GM.id (G.map GV.g) x.id = some x.g → ∀ y ∈ F, (left (.int .i64 y.id) && !(Lit.int .i64 y.id).sameKey (.int .i64 x.id)) = true ∨ getZ GM.id (G.map GV.g) y.id = some y.g from fun he y hy => by
          by_cases hyx : y.id = x.id
          · right
            have h1 := risZ_get HRF.out (List.mem_map.2 ⟨x, hx, rfl⟩)
            have h2 := risZ_get HRF.out (List.mem_map.2 ⟨y, hy, rfl⟩)
            have e : x.g = y.g := by
              have : getZ GM.id (F.map GV.g) x.g.id = getZ GM.id (F.map GV.g) y.g.id := by rw [show x.g.id = y.g.id from hyx.symm]
              rw [h1, h2] at this; injection this
            rw [hyx, he, e]
          · rcases HAll.out y hy with h | h
            · left; rw [h, same_num, decide_eq_false hyx]; rfl
            · exact .inr h)
        have hgx := (HH1.out.below hB1).has x hx
        have hGV := getZ_gvE G x.id
        obtain ⟨⟨id, fi, te, ht, hv, hc, gl⟩, ga, gc⟩ := x
        have HGX := Lib.hid hgx
        dsimp only [GV.val, GM.val, GV.id] at *
        clear hg1 hs1 hrg1 hrg hlt hl hx hgx
        have hB1x := Lib.hid hB1
        have hBx := Lib.hid (bel_alloc hB1 (.cells #[.int .i64 id, .int .i64 fi, .int .i64 te, .int .i64 ht, .int .i64 hv, .int .i64 hc, .slice ga gl.length gc] 39))
        have hlk := HasMap.look (HH2.out.below hBx.out) id (wf64 ⟨by omega, by omega⟩)
        cases hgz : getZ GV.id G id with
        | none =>
          have HLK := Lib.hid (show lookV G id = .agg #[.int .i64 0, .int .i64 0, .int .i64 0, .int .i64 0, .int .i64 0, .int .i64 0, .slice none 0 0] by unfold lookV; rw [hgz])
          have HF2 := Lib.hid (HN.out (by rw [← hGV, hgz]; simp))
          rw [HLK.out, hgz] at hlk
          simp only [Option.isSome_none] at hlk
          clear hgz hGV
          go_wp2
          go_ret
          exact ⟨by rw [HF2.out]; rfl, bel_alloc hBx.out _⟩
        | some y =>
          have hyG := (HH2.out.below hB1).has y (getZ_some hgz).1
          obtain ⟨⟨yid, yfi, yte, yht, yhv, yhc, yl⟩, ya, yc⟩ := y
          have HLK := Lib.hid (show lookV G id = .agg #[.int .i64 yid, .int .i64 yfi, .int .i64 yte, .int .i64 yht, .int .i64 yhv, .int .i64 yhc, .slice ya yl.length yc] by unfold lookV; rw [hgz])
          have GS := Lib.hid (fun W' (hB' : Below w1.heap.size w1 W') => grpSame_any id fi te ht hv hc gl ga gc yid yfi yte yht yhv yhc yl ya yc W' (HGX.out.below hB') (hyG.below hB'))
          have HGe := Lib.hid (show getZ GM.id (G.map GV.g) id = some (⟨yid, yfi, yte, yht, yhv, yhc, yl⟩ : GM) by rw [← hGV, hgz]; rfl)
          rw [HLK.out, hgz] at hlk
          simp only [Option.isSome_some] at hlk
          unfold Gives sameG at GS
          clear hgz hGV hyG hB1
          have hBw := Lib.hid (bel_alloc (bel_alloc (Below.refl w1.heap.size w1) (.cells #[.int .i64 id, .int .i64 fi, .int .i64 te, .int .i64 ht, .int .i64 hv, .int .i64 hc, .slice ga gl.length gc] 39)) (.cells #[.int .i64 yid, .int .i64 yfi, .int .i64 yte, .int .i64 yht, .int .i64 yhv, .int .i64 yhc, .slice ya yl.length yc] 39))
          by_cases he : (⟨id, fi, te, ht, hv, hc, gl⟩ : GM) = (⟨yid, yfi, yte, yht, yhv, yhc, yl⟩ : GM)
          · have HC := Lib.hid (HSt.out (by rw [HGe.out, he]))
            rw [decide_eq_true he] at GS
            clear he
            go_wp2_with (go_at_call 12; ((with_reducible refine (GS.out _ hBw.out).mono ?_); rintro e w3 ⟨rfl, hB3⟩))
            have hBz := Lib.hid (show Below w1.heap.size w1 w3 from bel2 hBw.out hB3)
            have hrz := Lib.hid (HR.out.kept (row := none) ⟨hBz.out.os, hBz.out.tape, hBz.out.output, hBz.out.size, fun k hk _ => hBz.out.block k hk⟩ (by simp) (by simp))
            go_roundw
            case rel => exact ⟨_, cnt1, hrz.out, rfl, HC.out, bel2 hB1x.out hBz.out⟩
            case measure => rw [hrz.out.left_eq]; exact HMl.out
          · have HF2 := Lib.hid (HN.out (by rw [HGe.out]; intro e; injection e with e; exact he e.symm))
            rw [decide_eq_false he] at GS
            clear he
            go_wp2_with (go_at_call 12; ((with_reducible refine (GS.out _ hBw.out).mono ?_); rintro e w3 ⟨rfl, hB3⟩))
            go_ret
            exact ⟨by rw [HF2.out]; rfl, bel2 hB1x.out (bel2 hBw.out hB3)⟩
  · have HNo := Lib.hid (show decide (F.map GV.g = G.map GV.g) = false from decide_eq_false (fun e => hlen (by have := congrArg List.length e; simpa using this)))
    have hli : ((F.length : Int) != (G.length : Int)) = true := by rw [bne_iff_ne]; omega
    clear h1 h2 hF hG hid hlen
    go_enter Tryz.func21, Tryz.ntmps21
    go_wp2_with (first
      | (at_len; refine wpList_len_own _ rfl _ 40 rfl 3 39 Tryz.underlying40 valElem m F.length (gmap F) rfl hm1 ?_; rw [gmap_size])
      | (at_len; refine wpList_len_own _ rfl _ 40 rfl 3 39 Tryz.underlying40 valElem n G.length (gmap G) rfl hm2 ?_; rw [gmap_size]))
    go_ret
    exact ⟨by rw [HNo.out]; rfl, Below.refl _ _⟩
set_option maxRecDepth 100000 in
/-- many.Same at whatever groups. -/
theorem msame_any {W : World} {d m e n : Nat} {F G : List GV} (h1 : ManAt W d m F) (h2 : ManAt W e n G) (hF : RisZ GM.id (F.map GV.g)) (hG : RisZ GM.id (G.map GV.g)) (hid : ∀ x ∈ F, 0 ≤ x.id ∧ x.id ≤ 999) (hFl : F.length ≤ 1000) (hGl : G.length ≤ 1000) :
    Gives Tryz.prog 13 #[.pointer (some ⟨d, 0, none⟩), .pointer (some ⟨e, 0, none⟩)] W (.bool (decide (F.map GV.g = G.map GV.g))) := by
  have GE := Lib.hid (fun W' (hB : Below W.heap.size W W') => gequal_any (h1.2.below hB) (h2.2.below hB) hF hG hid hFl hGl)
  have c1 : W.drew.cell? ⟨d, 0, none⟩ = some (.map (some m)) := cell_of_row _ _ 0 _ _ _ h1.1
  have c2 : W.drew.cell? ⟨e, 0, none⟩ = some (.map (some n)) := cell_of_row _ _ 0 _ _ _ h2.1
  clear h1 h2 hF hG hid hFl hGl
  generalize decide (F.map GV.g = G.map GV.g) = b at *
  unfold Gives at *
  go_enter Tryz.func13, Tryz.ntmps13
  go_wp2
  go_region_with (go_at_call 21; ((with_reducible refine (GE.out _ (Below.refl W.heap.size W).drew).mono ?_); rintro e w1 ⟨rfl, hB1⟩))
  all_goals
    first
      | (go_ret; exact ⟨rfl, (Below.refl W.heap.size W).drew.trans hB1⟩)
      | (go_wp2; go_ret; exact ⟨rfl, (Below.refl W.heap.size W).drew.trans hB1⟩)

end Go.Proofs.YthedmemkckclpaaGreat

/- All groups behind a pointer as one state: each method told by plain data. -/
namespace Go.Proofs.YthedmemkckclpaaGreat
open Go.RowKit Go.Shelf
set_option linter.unusedVariables false

/-- Behind the pointer d, which is younger than w, lie the groups L. -/
def MS (w : World) (d : Nat) (L : List GM) (W : World) : Prop := ∃ m F, ManAt W d m F ∧ F.map GV.g = L ∧ w.heap.size ≤ d ∧ Below w.heap.size w W
theorem MS.cell {w W : World} {d : Nat} {L : List GM} (h : MS w d L W) : ∃ m, W.heap[d]? = some (.cells #[.map (some m)] 42 (0, 0)) := by
  obtain ⟨m, F, h, _⟩ := h; exact ⟨m, h.1⟩
theorem MS.lt {w W : World} {d : Nat} {L : List GM} (h : MS w d L W) : d < W.heap.size := by
  obtain ⟨m, h⟩ := h.cell; exact heap_lt h
theorem MS.ge {w W : World} {d : Nat} {L : List GM} (h : MS w d L W) : w.heap.size ≤ d := h.choose_spec.choose_spec.2.2.1
theorem MS.bel {w W : World} {d : Nat} {L : List GM} (h : MS w d L W) : Below w.heap.size w W := h.choose_spec.choose_spec.2.2.2
theorem MS.below {w W W' : World} {d : Nat} {L : List GM} (h : MS w d L W) (hB : Below W.heap.size W W') : MS w d L W' := by
  obtain ⟨m, F, h, e, hd, h0⟩ := h
  exact ⟨m, F, h.below hB, e, hd, bel2 h0 hB⟩
/-- Another pointer's cell is written: these groups stay. -/
theorem MS.other {w W W' : World} {d c : Nat} {L M : List GM} (h : MS w d L W) (hc : MS w c M W) (hn : c ≠ d) (hF : FrameT (fun k => k = c) W W') : MS w d L W' := by
  obtain ⟨n, hc'⟩ := hc.cell
  have hge := hc.ge
  obtain ⟨m, F, ⟨h1, h2⟩, e, hd, h0⟩ := h
  obtain ⟨es, clock, hb⟩ := h2.block
  refine ⟨m, F, ⟨hF.get h1 (fun k => hn k.symm), h2.frame hF (fun k => ?_) (fun x hx k hk e => (h2.has x hx).not_cell hc' k hk e)⟩, e, hd, h0.trans (hF.toBelow h0.size fun k hk => hk ▸ hge)⟩
  subst k
  rw [hb] at hc'
  cases hc'
theorem ms_new {w W : World} (hB : Below w.heap.size w W) : Calls Tryz.prog 5 #[] W fun e w' => ∃ d, e = .returned (.pointer (some ⟨d, 0, none⟩)) ∧ W.heap.size ≤ d ∧ MS w d [] w' ∧ Below W.heap.size W w' := by
  refine (mnew_any W).mono ?_
  rintro e w' ⟨rfl, h, hB'⟩
  exact ⟨_, rfl, Nat.le_succ _, ⟨_, [], h, rfl, Nat.le_succ_of_le hB.size, bel2 hB hB'⟩, hB'⟩
theorem ms_do {N : Nat} {w W : World} {d : Nat} {L : List GM} (h : MS w d L W) (hN : manOK N L) (a : Option Addr) (len cap : Nat) (ps : List PL) (hp : HasP W a len ps) (hN5 : N + 6 * len ≤ 100000) (hg : ∀ x ∈ ps, -9223372036854775808 ≤ x.1.g ∧ x.1.g < 9223372036854775808) :
    Calls Tryz.prog 18 #[.pointer (some ⟨d, 0, none⟩), .slice a len cap] W fun e w' => e = .returned (.int .i64 (manT L ps)) ∧ MS w d (manDo L ps) w' ∧ FrameT (fun k => k = d) W w' := by
  obtain ⟨m, F, h, rfl, hd, h0⟩ := h
  refine (mdoall_any h hN a len cap ps hp hN5 hg).mono ?_
  rintro e w' ⟨rfl, m', F', h1, h2, hF⟩
  exact ⟨rfl, ⟨m', F', h1, h2, hd, h0.trans (hF.toBelow h0.size fun k hk => hk ▸ hd)⟩, hF⟩
theorem ms_get {w W : World} {d : Nat} {L : List GM} (h : MS w d L W) (i : Int) (hi : -9223372036854775808 ≤ i ∧ i < 9223372036854775808) :
    Calls Tryz.prog 11 #[.pointer (some ⟨d, 0, none⟩), .int .i64 i] W fun e w' => ∃ a c, e = .returned (.tuple #[(getM L i).val a c, .bool (getZ GM.id L i).isSome]) ∧ HasG w' a (getM L i) ∧ (getM L i).l.length ≤ c ∧ Below W.heap.size W w' := by
  obtain ⟨m, F, h, rfl, hd, h0⟩ := h
  exact mget_any h i hi
theorem ms_copy {w W : World} {d : Nat} {L : List GM} (h : MS w d L W) : Calls Tryz.prog 17 #[.pointer (some ⟨d, 0, none⟩)] W fun e w' => ∃ c, e = .returned (.pointer (some ⟨c, 0, none⟩)) ∧ W.heap.size ≤ c ∧ MS w c L w' ∧ Below W.heap.size W w' := by
  obtain ⟨m, F, h, rfl, hd, h0⟩ := h
  refine (mcopy_any h).mono ?_
  rintro e w' ⟨d', m', rfl, hd', _, h', hB⟩
  exact ⟨d', rfl, hd', ⟨m', F, h', rfl, Nat.le_trans h0.size hd', bel2 h0 hB⟩, hB⟩
/-- A group's number is one of 0 to 999, as in a list of groups that are. -/
theorem isG_id {g : GM} (h : isG g = true) : 0 ≤ g.id ∧ g.id ≤ 999 := (isG_iff.1 h).1.1
theorem man_ris {F : List GV} (h : RisZ GM.id (F.map GV.g)) : RisZ GV.id F := by
  unfold RisZ at *
  rw [List.pairwise_map] at h
  exact h
theorem man_ids {N : Nat} {F : List GV} (hN : manOK N (F.map GV.g)) : ∀ x ∈ F, 0 ≤ x.id ∧ x.id ≤ 999 := fun x hx => isG_id (hN.2 x.g (List.mem_map.2 ⟨x, hx, rfl⟩)).1
theorem man_len {N : Nat} {F : List GV} (hN : manOK N (F.map GV.g)) : F.length ≤ 1000 := by
  have := manOK_len hN
  rwa [List.length_map] at this
theorem ms_all {N : Nat} {w W : World} {d : Nat} {L : List GM} (h : MS w d L W) (hN : manOK N L) : Calls Tryz.prog 8 #[.pointer (some ⟨d, 0, none⟩)] W (AllPost W L) := by
  obtain ⟨m, F, h, rfl, hd, h0⟩ := h
  exact gall_any h (man_len hN) (man_ris hN.1) (man_ids hN)
theorem ms_same {N : Nat} {w W : World} {d c : Nat} {L M : List GM} (h : MS w d L W) (hc : MS w c M W) (hN : manOK N L) (hM : manOK N M) :
    Gives Tryz.prog 13 #[.pointer (some ⟨d, 0, none⟩), .pointer (some ⟨c, 0, none⟩)] W (.bool (decide (L = M))) := by
  obtain ⟨m, F, h, rfl, hd, h0⟩ := h
  obtain ⟨n, G, hc, rfl, hd', h0'⟩ := hc
  exact msame_any h hc hN.1 hM.1 (man_ids hN) (man_len hN) (man_len hM)
theorem ms_of {w W : World} (hB : Below w.heap.size w W) (a : Option Addr) (len cap : Nat) (Gl : List GV) (hl : Gl.length = len) (hm : len ≤ 1000) (hrow : RowV W a len 7 (gvCells Gl)) (hg : ∀ x ∈ Gl, HasG W x.a x.g ∧ in64 x.g.id) :
    Calls Tryz.prog 10 #[.slice a len cap] W fun e w' => ∃ d, e = .returned (.pointer (some ⟨d, 0, none⟩)) ∧ W.heap.size ≤ d ∧ MS w d (ofL (Gl.map GV.g)) w' ∧ Below W.heap.size W w' := by
  refine (mof_any a len cap Gl hl hm hrow hg).mono ?_
  rintro e w' ⟨d, m, F, rfl, hd, h, hF, hB'⟩
  exact ⟨d, rfl, hd, ⟨m, F, h, hF, Nat.le_trans hB.size hd, bel2 hB hB'⟩, hB'⟩

end Go.Proofs.YthedmemkckclpaaGreat
