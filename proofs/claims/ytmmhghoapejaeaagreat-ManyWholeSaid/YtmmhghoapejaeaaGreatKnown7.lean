/- ManE, ManU, Kn7, Kn7R, Known7: in one text. -/
import Derived.Test.YtmmhghoapejaeaaGreatManD
import Derived.Maps.RangeWalk
import Derived.Deep.RegionWith
import Derived.Test.YtmmhghoapejaeaaGreatManW
import Derived.Test.YtmmhghoapejaeaaGreatMan
import Derived.Test.YtmmhghoapejaeaaGreatManI
/- maps.EqualFunc at groups, many.Same. -/
namespace Go.Proofs.YtmmhghoapejaeaaGreat
open Go.RowKit Go.Shelf
set_option linter.unusedVariables false
attribute [local go_sem] Oper.semAt_some wide_fn wide_round_fn

theorem risZ_sub {α : Type} {nm : α → Int} : ∀ (M L : List α), RisZ nm M → RisZ nm L → (∀ x ∈ L, x ∈ M) → L.length ≤ M.length ∧ (L.length = M.length → L = M)
  | [], L, _, _, h => by
    cases L with
    | nil => exact ⟨Nat.le_refl _, fun _ => rfl⟩
    | cons x r => exact absurd (h x List.mem_cons_self) (by simp)
  | y :: s, L, hM, hL, h => by
    obtain ⟨m1, m2⟩ := List.pairwise_cons.1 hM
    cases L with
    | nil => exact ⟨Nat.zero_le _, fun e => by simp at e⟩
    | cons x r =>
      obtain ⟨l1, l2⟩ := List.pairwise_cons.1 hL
      rcases List.mem_cons.1 (h x List.mem_cons_self) with rfl | hx
      · have := risZ_sub s r m2 l2 (fun z hz => by
          rcases List.mem_cons.1 (h z (List.mem_cons_of_mem _ hz)) with rfl | hz'
          · have := l1 z hz; omega
          · exact hz')
        exact ⟨by simp only [List.length_cons]; omega, fun e => by rw [this.2 (by simpa using e)]⟩
      · have := risZ_sub s (x :: r) m2 hL (fun z hz => by
          rcases List.mem_cons.1 (h z hz) with rfl | hz'
          · rcases List.mem_cons.1 hz with rfl | hz2
            · exact hx
            · have a := l1 z hz2; have b := m1 x hx; omega
          · exact hz')
        exact ⟨by simp only [List.length_cons] at this ⊢; omega, fun e => by simp only [List.length_cons] at this e; omega⟩
theorem getZ_gvE (F : List GV) (s : Int) : (getZ GV.id F s).map GV.g = getZ GM.id (F.map GV.g) s := getZ_map (g := GV.g) (nm := GV.id) (nb := GM.id) (fun _ => rfl) F s
/-- One step of a loop over the groups. -/
theorem next_grp {W : World} {m r n cnt : Nat} {left : Lit → Bool} {F : List GV} (h : W.ranges Tryz.prog 3 valElem m r n (gmap F) left cnt) (ty : TypeId) :
    (cnt = 0 ∧ (∀ kl, left kl = false) ∧ (Instr.next (.pointer (some ⟨r, 0, none⟩)) false ty).run Tryz.prog W = .ok (.tuple #[.bool false]) W) ∨
    ∃ x w' cnt', x ∈ F ∧ left (.int .i64 x.id) = true ∧ (Instr.next (.pointer (some ⟨r, 0, none⟩)) false ty).run Tryz.prog W = .ok (.tuple #[.bool true, .int .i64 x.id, x.val]) w' ∧
      w'.ranges Tryz.prog 3 valElem m r n (gmap F) (fun z => left z && !z.sameKey (.int .i64 x.id)) cnt' ∧ cnt' < cnt ∧ W.grownBy w' (some r) ∧ w'.heap.size = W.heap.size ∧ (Instr.entry (.pointer (some ⟨r, 0, none⟩))).run Tryz.prog w' = .ok (.tuple #[.int .i64 x.id, x.val]) w' := by
  rcases h.next lawG ty with h0 | ⟨key, v, kl, y, w', cnt', hkey, hlk, hv, hat, hrun, hrg, hlt, hgr, hsz, hen⟩
  · exact .inl h0
  · right
    obtain ⟨s, rfl, rfl, hs⟩ := Maps.keyOf_int_inv Tryz.underlying3 hkey
    have hg : ∃ x, getZ GV.id F s = some x := by
      cases e : getZ GV.id F s with
      | some x => exact ⟨x, rfl⟩
      | none =>
        have a1 := hat .nil
        have a2 := hat (.lit (.int .i64 0))
        rw [gmap_at, e] at a1 a2
        rw [← a1] at a2; cases a2
    obtain ⟨x, hg⟩ := hg
    obtain ⟨hx, rfl⟩ := getZ_some hg
    have a1 : (DataW.held x.val : DataW Value) = y.1 := by have := hat .nil; rw [gmap_at, hg] at this; exact this
    clear hat
    have hp : v = x.val := valElem_some (ps := y.2) (hv.trans (congrArg some (show y = (DataW.held x.val, y.2) by rw [a1])))
    subst hp
    exact ⟨x, w', cnt', hx, hlk, hrun, hrg, hlt, hgr, hsz, hen⟩
set_option maxRecDepth 100000 in
theorem wpList_next_grp {w : World} {ops : Array Oper} {rest : List Oper} {o : Oper} {a : Act} {Q : Exit → Act → World → Prop} (hg : o.guard = none) (it : Operand) (hop : o.op = Op.next it false) {m r n cnt : Nat} {left : Lit → Bool} {F : List GV}
    (hit : a.eval it = .pointer (some ⟨r, 0, none⟩)) (h : w.ranges Tryz.prog 3 valElem m r n (gmap F) left cnt)
    (hDone : cnt = 0 → (∀ kl, left kl = false) → wpList Tryz.prog ops Q rest (a.put o.dst (.tuple #[.bool false])) w)
    (hMore : ∀ (x : GV) (w' : World) (cnt' : Nat), x ∈ F → left (.int .i64 x.id) = true → w'.ranges Tryz.prog 3 valElem m r n (gmap F) (fun z => left z && !z.sameKey (.int .i64 x.id)) cnt' → cnt' < cnt → w.grownBy w' (some r) → w'.heap.size = w.heap.size →
      (Instr.entry (.pointer (some ⟨r, 0, none⟩))).run Tryz.prog w' = .ok (.tuple #[.int .i64 x.id, x.val]) w' → wpList Tryz.prog ops Q rest (a.put o.dst (.tuple #[.bool true, .int .i64 x.id, x.val])) w') :
    wpList Tryz.prog ops Q (o :: rest) a w := by
  refine wpList_plain hg fun K' hK' => ?_
  unfold Oper.wp
  rcases next_grp h o.type with ⟨h0, hl, hrun⟩ | ⟨x, w', cnt', hx, hl, hrun, hrg, hlt, hgr, hsz, hen⟩
  · simp [execOp, hop, hit, hrun, Result.andThen]
    exact hK' _ _ (hDone h0 hl)
  · simp [execOp, hop, hit, hrun, Result.andThen]
    exact hK' _ _ (hMore x w' cnt' hx hl hrg hlt hgr hsz hen)
set_option maxRecDepth 100000 in
set_option maxHeartbeats 2000000 in
theorem gequal_any {W : World} {m n : Nat} {F G : List GV} (h1 : HasMap W m F) (h2 : HasMap W n G) (hF : RisZ GM.id (F.map GV.g)) (hG : RisZ GM.id (G.map GV.g)) (hid : ∀ x ∈ F, 0 ≤ x.id ∧ x.id ≤ 999) (hFl : F.length ≤ 1000) (hGl : G.length ≤ 1000) :
    Gives Tryz.prog 46 #[.map (some m), .map (some n), .func (.func 47) #[] #[]] W (.bool (decide (F.map GV.g = G.map GV.g))) := by
  have hm1 := h1.map
  have hm2 := h2.map
  have HH1 := Lib.hid h1
  have HH2 := Lib.hid h2
  unfold Gives
  by_cases hlen : F.length = G.length
  · have HSub := Lib.hid (show (∀ x ∈ F, getZ GM.id (G.map GV.g) x.id = some x.g) → decide (F.map GV.g = G.map GV.g) = true from fun hall => decide_eq_true ((risZ_sub (G.map GV.g) (F.map GV.g) hG hF (fun z hz => by
      obtain ⟨x, hx, rfl⟩ := List.mem_map.1 hz
      exact (getZ_some (hall x hx)).1)).2 (by rw [List.length_map, List.length_map, hlen])))
    have HNot := Lib.hid (show ∀ x ∈ F, getZ GM.id (G.map GV.g) x.id ≠ some x.g → decide (F.map GV.g = G.map GV.g) = false from fun x hx hne => decide_eq_false (fun e => hne (by rw [← e]; exact risZ_get hF (List.mem_map.2 ⟨x, hx, rfl⟩))))
    have HHas := Lib.hid (show ∀ x ∈ F, Maps.has (gmap F) (.int .i64 x.id) = true from fun x hx => by
      rw [gmap_has]
      cases e : getZ GV.id F x.id with
      | some y => rfl
      | none => exact absurd rfl (getZ_none e x hx))
    have HId := Lib.hid hid
    have HRF := Lib.hid hF
    have hli : ((F.length : Nat) : Int) = (G.length : Int) := by omega
    have hln : ((F.length : Int) != (G.length : Int)) = false := by rw [bne_eq_false_iff_eq]; exact hli
    clear h1 h2 hF hG hid hlen hli
    go_enter Tryz.func46, Tryz.ntmps46
    go_wp2_with (first
      | (at_len; refine wpList_len_own _ rfl _ 63 rfl 3 31 Tryz.underlying63 valElem m F.length (gmap F) rfl hm1 ?_; rw [gmap_size])
      | (at_len; refine wpList_len_own _ rfl _ 63 rfl 3 31 Tryz.underlying63 valElem n G.length (gmap G) rfl hm2 ?_; rw [gmap_size])
      | (at_range; refine wpList_range_own _ rfl _ 63 rfl 3 31 lawG Tryz.underlying63 valElem m F.length (gmap F) rfl hm1 ?_; intro w0 hrg0 hg0 hs0))
    go_frame
    have HG0 := Lib.hid (show Below W.heap.size W w0 from (Below.refl _ _).grown hg0 (by simp) (fun j hj => by cases hj))
    clear hg0 hs0
    go_loopw [6] (fun v wr => ∃ (left : Lit → Bool) (cnt : Nat), wr.ranges Tryz.prog 3 valElem m W.heap.size F.length (gmap F) left cnt ∧ v = .bool false ∧ (∀ x ∈ F, left (.int .i64 x.id) = true ∨ getZ GM.id (G.map GV.g) x.id = some x.g) ∧ Below W.heap.size W wr) (fun _ wr => wr.rangeLeft m W.heap.size)
    case atStart => exact ⟨_, _, hrg0, rfl, fun x hx => .inl (HHas.out x hx), HG0.out⟩
    case round =>
      obtain ⟨left, cnt, hrg, rfl, hall, hB⟩ := hrel
      have HAll := Lib.hid hall
      have HB := Lib.hid hB
      clear hall hB
      go_wp2_with (at_next; refine wpList_next_grp rfl _ rfl rfl hrg ?_ ?_)
      · intro hc0 hl0
        have HE := Lib.hid (HSub.out (fun x hx => (HAll.out x hx).resolve_left (by rw [hl0]; simp)))
        clear hc0 hl0
        go_wp2
        go_ret
        exact ⟨by rw [HE.out]; rfl, HB.out⟩
      · intro x w1 cnt1 hx hl hrg1 hlt hg1 hs1 hen
        have hB1 : Below W.heap.size W w1 := HB.out.grown hg1 HB.out.size (fun j hj => by cases hj; exact Nat.le_refl _)
        have hidx := HId.out x hx
        have HR := Lib.hid hrg1
        have HM := Lib.hid (show w1.rangeLeft m W.heap.size < wr.rangeLeft m W.heap.size by rw [hrg1.left_eq, hrg.left_eq]; exact hlt)
        have HMl := Lib.hid (show cnt1 < wr.rangeLeft m W.heap.size by rw [hrg.left_eq]; exact hlt)
        have HN := Lib.hid (HNot.out x hx)
        have HSt := Lib.hid (show getZ GM.id (G.map GV.g) x.id = some x.g → ∀ y ∈ F, (left (.int .i64 y.id) && !(Lit.int .i64 y.id).sameKey (.int .i64 x.id)) = true ∨ getZ GM.id (G.map GV.g) y.id = some y.g from fun he y hy => by
          by_cases hyx : y.id = x.id
          · right
            have h1 := risZ_get HRF.out (List.mem_map.2 ⟨x, hx, rfl⟩)
            have h2 := risZ_get HRF.out (List.mem_map.2 ⟨y, hy, rfl⟩)
            have e : x.g = y.g := by
              have : getZ GM.id (F.map GV.g) x.g.id = getZ GM.id (F.map GV.g) y.g.id := by rw [show x.g.id = y.g.id from hyx.symm]
              rw [h1, h2] at this; injection this
            rw [hyx, he, e]
          · rcases HAll.out y hy with h | h
            · left; rw [h, same_num, decide_eq_false hyx]; rfl
            · exact .inr h)
        have hgx := (HH1.out.below hB1).has x hx
        have hGV := getZ_gvE G x.id
        obtain ⟨⟨id, fi, te, ht, hv, hc, gl⟩, ga, gc⟩ := x
        have HGX := Lib.hid hgx
        dsimp only [GV.val, GM.val, GV.id] at *
        clear hg1 hs1 hrg1 hrg hlt hl hx hgx
        have hB1x := Lib.hid hB1
        have hBx := Lib.hid (bel_alloc hB1 (.cells #[.int .i64 id, .int .i64 fi, .int .i64 te, .int .i64 ht, .int .i64 hv, .int .i64 hc, .slice ga gl.length gc] 31))
        have hlk := HasMap.look (HH2.out.below hBx.out) id (wf64 ⟨by omega, by omega⟩)
        cases hgz : getZ GV.id G id with
        | none =>
          have HLK := Lib.hid (show lookV G id = .agg #[.int .i64 0, .int .i64 0, .int .i64 0, .int .i64 0, .int .i64 0, .int .i64 0, .slice none 0 0] by unfold lookV; rw [hgz])
          have HF2 := Lib.hid (HN.out (by rw [← hGV, hgz]; simp))
          rw [HLK.out, hgz] at hlk
          simp only [Option.isSome_none] at hlk
          clear hgz hGV
          go_wp2
          go_ret
          exact ⟨by rw [HF2.out]; rfl, bel_alloc hBx.out _⟩
        | some y =>
          have hyG := (HH2.out.below hB1).has y (getZ_some hgz).1
          obtain ⟨⟨yid, yfi, yte, yht, yhv, yhc, yl⟩, ya, yc⟩ := y
          have HLK := Lib.hid (show lookV G id = .agg #[.int .i64 yid, .int .i64 yfi, .int .i64 yte, .int .i64 yht, .int .i64 yhv, .int .i64 yhc, .slice ya yl.length yc] by unfold lookV; rw [hgz])
          have GS := Lib.hid (fun W' (hB' : Below w1.heap.size w1 W') => grpSame_any id fi te ht hv hc gl ga gc yid yfi yte yht yhv yhc yl ya yc W' (HGX.out.below hB') (hyG.below hB'))
          have HGe := Lib.hid (show getZ GM.id (G.map GV.g) id = some (⟨yid, yfi, yte, yht, yhv, yhc, yl⟩ : GM) by rw [← hGV, hgz]; rfl)
          rw [HLK.out, hgz] at hlk
          simp only [Option.isSome_some] at hlk
          unfold Gives sameG at GS
          clear hgz hGV hyG hB1
          have hBw := Lib.hid (bel_alloc (bel_alloc (Below.refl w1.heap.size w1) (.cells #[.int .i64 id, .int .i64 fi, .int .i64 te, .int .i64 ht, .int .i64 hv, .int .i64 hc, .slice ga gl.length gc] 31)) (.cells #[.int .i64 yid, .int .i64 yfi, .int .i64 yte, .int .i64 yht, .int .i64 yhv, .int .i64 yhc, .slice ya yl.length yc] 31))
          by_cases he : (⟨id, fi, te, ht, hv, hc, gl⟩ : GM) = (⟨yid, yfi, yte, yht, yhv, yhc, yl⟩ : GM)
          · have HC := Lib.hid (HSt.out (by rw [HGe.out, he]))
            rw [decide_eq_true he] at GS
            clear he
            go_wp2_with (go_at_call 47; ((with_reducible refine (GS.out _ hBw.out).mono ?_); rintro e w3 ⟨rfl, hB3⟩))
            have hBz := Lib.hid (show Below w1.heap.size w1 w3 from bel2 hBw.out hB3)
            have hrz := Lib.hid (HR.out.kept (row := none) ⟨hBz.out.os, hBz.out.tape, hBz.out.output, hBz.out.size, fun k hk _ => hBz.out.block k hk⟩ (by simp) (by simp))
            go_roundw
            case rel => exact ⟨_, cnt1, hrz.out, rfl, HC.out, bel2 hB1x.out hBz.out⟩
            case measure => rw [hrz.out.left_eq]; exact HMl.out
          · have HF2 := Lib.hid (HN.out (by rw [HGe.out]; intro e; injection e with e; exact he e.symm))
            rw [decide_eq_false he] at GS
            clear he
            go_wp2_with (go_at_call 47; ((with_reducible refine (GS.out _ hBw.out).mono ?_); rintro e w3 ⟨rfl, hB3⟩))
            go_ret
            exact ⟨by rw [HF2.out]; rfl, bel2 hB1x.out (bel2 hBw.out hB3)⟩
  · have HNo := Lib.hid (show decide (F.map GV.g = G.map GV.g) = false from decide_eq_false (fun e => hlen (by have := congrArg List.length e; simpa using this)))
    have hli : ((F.length : Int) != (G.length : Int)) = true := by rw [bne_iff_ne]; omega
    clear h1 h2 hF hG hid hlen
    go_enter Tryz.func46, Tryz.ntmps46
    go_wp2_with (first
      | (at_len; refine wpList_len_own _ rfl _ 63 rfl 3 31 Tryz.underlying63 valElem m F.length (gmap F) rfl hm1 ?_; rw [gmap_size])
      | (at_len; refine wpList_len_own _ rfl _ 63 rfl 3 31 Tryz.underlying63 valElem n G.length (gmap G) rfl hm2 ?_; rw [gmap_size]))
    go_ret
    exact ⟨by rw [HNo.out]; rfl, Below.refl _ _⟩
set_option maxRecDepth 100000 in
/-- many.Same at whatever groups. -/
theorem msame_any {W : World} {d m e n : Nat} {F G : List GV} (h1 : ManAt W d m F) (h2 : ManAt W e n G) (hF : RisZ GM.id (F.map GV.g)) (hG : RisZ GM.id (G.map GV.g)) (hid : ∀ x ∈ F, 0 ≤ x.id ∧ x.id ≤ 999) (hFl : F.length ≤ 1000) (hGl : G.length ≤ 1000) :
    Gives Tryz.prog 28 #[.pointer (some ⟨d, 0, none⟩), .pointer (some ⟨e, 0, none⟩)] W (.bool (decide (F.map GV.g = G.map GV.g))) := by
  have GE := Lib.hid (fun W' (hB : Below W.heap.size W W') => gequal_any (h1.2.below hB) (h2.2.below hB) hF hG hid hFl hGl)
  have c1 : W.drew.cell? ⟨d, 0, none⟩ = some (.map (some m)) := cell_of_row _ _ 0 _ _ _ h1.1
  have c2 : W.drew.cell? ⟨e, 0, none⟩ = some (.map (some n)) := cell_of_row _ _ 0 _ _ _ h2.1
  clear h1 h2 hF hG hid hFl hGl
  generalize decide (F.map GV.g = G.map GV.g) = b at *
  unfold Gives at *
  go_enter Tryz.func28, Tryz.ntmps28
  go_wp2
  go_region_with (go_at_call 46; ((with_reducible refine (GE.out _ (Below.refl W.heap.size W).drew).mono ?_); rintro e w1 ⟨rfl, hB1⟩))
  all_goals
    first
      | (go_ret; exact ⟨rfl, (Below.refl W.heap.size W).drew.trans hB1⟩)
      | (go_wp2; go_ret; exact ⟨rfl, (Below.refl W.heap.size W).drew.trans hB1⟩)

end Go.Proofs.YtmmhghoapejaeaaGreat

/- All groups behind a pointer as one state: each method told by plain data. -/
namespace Go.Proofs.YtmmhghoapejaeaaGreat
open Go.RowKit Go.Shelf
set_option linter.unusedVariables false

/-- Behind the pointer d, which is younger than w, lie the groups L. -/
def MS (w : World) (d : Nat) (L : List GM) (W : World) : Prop := ∃ m F, ManAt W d m F ∧ F.map GV.g = L ∧ w.heap.size ≤ d ∧ Below w.heap.size w W
theorem MS.cell {w W : World} {d : Nat} {L : List GM} (h : MS w d L W) : ∃ m, W.heap[d]? = some (.cells #[.map (some m)] 65 (0, 0)) := by
  obtain ⟨m, F, h, _⟩ := h; exact ⟨m, h.1⟩
theorem MS.lt {w W : World} {d : Nat} {L : List GM} (h : MS w d L W) : d < W.heap.size := by
  obtain ⟨m, h⟩ := h.cell; exact heap_lt h
theorem MS.ge {w W : World} {d : Nat} {L : List GM} (h : MS w d L W) : w.heap.size ≤ d := h.choose_spec.choose_spec.2.2.1
theorem MS.bel {w W : World} {d : Nat} {L : List GM} (h : MS w d L W) : Below w.heap.size w W := h.choose_spec.choose_spec.2.2.2
theorem MS.below {w W W' : World} {d : Nat} {L : List GM} (h : MS w d L W) (hB : Below W.heap.size W W') : MS w d L W' := by
  obtain ⟨m, F, h, e, hd, h0⟩ := h
  exact ⟨m, F, h.below hB, e, hd, bel2 h0 hB⟩
/-- Another pointer's cell is written: these groups stay. -/
theorem MS.other {w W W' : World} {d c : Nat} {L M : List GM} (h : MS w d L W) (hc : MS w c M W) (hn : c ≠ d) (hF : FrameT (fun k => k = c) W W') : MS w d L W' := by
  obtain ⟨n, hc'⟩ := hc.cell
  have hge := hc.ge
  obtain ⟨m, F, ⟨h1, h2⟩, e, hd, h0⟩ := h
  obtain ⟨es, clock, hb⟩ := h2.block
  refine ⟨m, F, ⟨hF.get h1 (fun k => hn k.symm), h2.frame hF (fun k => ?_) (fun x hx k hk e => (h2.has x hx).not_cell hc' k hk e)⟩, e, hd, h0.trans (hF.toBelow h0.size fun k hk => hk ▸ hge)⟩
  subst k
  rw [hb] at hc'
  cases hc'
theorem ms_new {w W : World} (hB : Below w.heap.size w W) : Calls Tryz.prog 29 #[] W fun e w' => ∃ d, e = .returned (.pointer (some ⟨d, 0, none⟩)) ∧ W.heap.size ≤ d ∧ MS w d [] w' ∧ Below W.heap.size W w' := by
  refine (mnew_any W).mono ?_
  rintro e w' ⟨rfl, h, hB'⟩
  exact ⟨_, rfl, Nat.le_succ _, ⟨_, [], h, rfl, Nat.le_succ_of_le hB.size, bel2 hB hB'⟩, hB'⟩
theorem ms_do {N : Nat} {w W : World} {d : Nat} {L : List GM} (h : MS w d L W) (hN : manOK N L) (a : Option Addr) (len cap : Nat) (ps : List PL) (hp : HasP W a len ps) (hN5 : N + 6 * len ≤ 100000) (hg : ∀ x ∈ ps, -9223372036854775808 ≤ x.1.g ∧ x.1.g < 9223372036854775808) :
    Calls Tryz.prog 19 #[.pointer (some ⟨d, 0, none⟩), .slice a len cap] W fun e w' => e = .returned (.int .i64 (manT L ps)) ∧ MS w d (manDo L ps) w' ∧ FrameT (fun k => k = d) W w' := by
  obtain ⟨m, F, h, rfl, hd, h0⟩ := h
  refine (mdoall_any h hN a len cap ps hp hN5 hg).mono ?_
  rintro e w' ⟨rfl, m', F', h1, h2, hF⟩
  exact ⟨rfl, ⟨m', F', h1, h2, hd, h0.trans (hF.toBelow h0.size fun k hk => hk ▸ hd)⟩, hF⟩
theorem ms_check {N : Nat} {w W : World} {d : Nat} {L : List GM} (h : MS w d L W) (hN : manOK N L) (a : Option Addr) (len cap : Nat) (ps : List PL) (hp : HasP W a len ps) (hN5 : N + 6 * len ≤ 100000) (hg : ∀ x ∈ ps, -9223372036854775808 ≤ x.1.g ∧ x.1.g < 9223372036854775808) :
    Gives Tryz.prog 18 #[.pointer (some ⟨d, 0, none⟩), .slice a len cap] W (.int .i64 (manT L ps)) := by
  obtain ⟨m, F, h, rfl, hd, h0⟩ := h
  exact mcheck_any h hN a len cap ps hp hN5 hg
theorem ms_settle {N : Nat} {w W : World} {d : Nat} {L : List GM} (h : MS w d L W) (hN : manOK N L) (a : Option Addr) (len cap : Nat) (ps : List PL) (hp : HasP W a len ps) (hN5 : N + 6 * len ≤ 100000) (hg : ∀ x ∈ ps, -9223372036854775808 ≤ x.1.g ∧ x.1.g < 9223372036854775808) :
    Calls Tryz.prog 15 #[.pointer (some ⟨d, 0, none⟩), .slice a len cap] W (SetPost W L ps) := by
  obtain ⟨m, F, h, rfl, hd, h0⟩ := h
  exact msettle_any h hN a len cap ps hp hN5 hg
theorem ms_get {w W : World} {d : Nat} {L : List GM} (h : MS w d L W) (i : Int) (hi : -9223372036854775808 ≤ i ∧ i < 9223372036854775808) :
    Calls Tryz.prog 22 #[.pointer (some ⟨d, 0, none⟩), .int .i64 i] W fun e w' => ∃ a c, e = .returned (.tuple #[(getM L i).val a c, .bool (getZ GM.id L i).isSome]) ∧ HasG w' a (getM L i) ∧ (getM L i).l.length ≤ c ∧ Below W.heap.size W w' := by
  obtain ⟨m, F, h, rfl, hd, h0⟩ := h
  exact mget_any h i hi
theorem ms_copy {w W : World} {d : Nat} {L : List GM} (h : MS w d L W) : Calls Tryz.prog 14 #[.pointer (some ⟨d, 0, none⟩)] W fun e w' => ∃ c, e = .returned (.pointer (some ⟨c, 0, none⟩)) ∧ W.heap.size ≤ c ∧ MS w c L w' ∧ Below W.heap.size W w' := by
  obtain ⟨m, F, h, rfl, hd, h0⟩ := h
  refine (mcopy_any h).mono ?_
  rintro e w' ⟨d', m', rfl, hd', _, h', hB⟩
  exact ⟨d', rfl, hd', ⟨m', F, h', rfl, Nat.le_trans h0.size hd', bel2 h0 hB⟩, hB⟩
/-- A group's number is one of 0 to 999, as in a list of groups that are. -/
theorem isG_id {g : GM} (h : isG g = true) : 0 ≤ g.id ∧ g.id ≤ 999 := (isG_iff.1 h).1.1
theorem man_ris {F : List GV} (h : RisZ GM.id (F.map GV.g)) : RisZ GV.id F := by
  unfold RisZ at *
  rw [List.pairwise_map] at h
  exact h
theorem man_ids {N : Nat} {F : List GV} (hN : manOK N (F.map GV.g)) : ∀ x ∈ F, 0 ≤ x.id ∧ x.id ≤ 999 := fun x hx => isG_id (hN.2 x.g (List.mem_map.2 ⟨x, hx, rfl⟩)).1
theorem man_len {N : Nat} {F : List GV} (hN : manOK N (F.map GV.g)) : F.length ≤ 1000 := by
  have := manOK_len hN
  rwa [List.length_map] at this
theorem ms_all {N : Nat} {w W : World} {d : Nat} {L : List GM} (h : MS w d L W) (hN : manOK N L) : Calls Tryz.prog 25 #[.pointer (some ⟨d, 0, none⟩)] W (AllPost W L) := by
  obtain ⟨m, F, h, rfl, hd, h0⟩ := h
  exact gall_any h (man_len hN) (man_ris hN.1) (man_ids hN)
theorem ms_same {N : Nat} {w W : World} {d c : Nat} {L M : List GM} (h : MS w d L W) (hc : MS w c M W) (hN : manOK N L) (hM : manOK N M) :
    Gives Tryz.prog 28 #[.pointer (some ⟨d, 0, none⟩), .pointer (some ⟨c, 0, none⟩)] W (.bool (decide (L = M))) := by
  obtain ⟨m, F, h, rfl, hd, h0⟩ := h
  obtain ⟨n, G, hc, rfl, hd', h0'⟩ := hc
  exact msame_any h hc hN.1 hM.1 (man_ids hN) (man_len hN) (man_len hM)
theorem ms_of {w W : World} (hB : Below w.heap.size w W) (a : Option Addr) (len cap : Nat) (Gl : List GV) (hl : Gl.length = len) (hm : len ≤ 1000) (hrow : RowV W a len 7 (gvCells Gl)) (hg : ∀ x ∈ Gl, HasG W x.a x.g ∧ in64 x.g.id) :
    Calls Tryz.prog 12 #[.slice a len cap] W fun e w' => ∃ d, e = .returned (.pointer (some ⟨d, 0, none⟩)) ∧ W.heap.size ≤ d ∧ MS w d (ofL (Gl.map GV.g)) w' ∧ Below W.heap.size W w' := by
  refine (mof_any a len cap Gl hl hm hrow hg).mono ?_
  rintro e w' ⟨d, m, F, rfl, hd, h, hF, hB'⟩
  exact ⟨d, rfl, hd, ⟨m, F, h, hF, Nat.le_trans hB.size hd, bel2 hB hB'⟩, hB'⟩

end Go.Proofs.YtmmhghoapejaeaaGreat

/- What the seventh layer's example does, as plain data. -/
namespace Go.Proofs.YtmmhghoapejaeaaGreat
open Go.RowKit Go.Shelf
set_option linter.unusedVariables false

def k7g2 : GM := ⟨2, 1, 0, 0, 0, 0, [⟨1, 3, ⟨#[98]⟩⟩]⟩
def k7g5 : GM := ⟨5, 1, 0, 0, 0, 0, [⟨1, 3, ⟨#[97]⟩⟩]⟩
def k7L : List GM := [k7g2, k7g5]
def k7P (g k i t : Int) : PartC := ⟨g, k, none, 0, 0, 0, 0, 0, i, t, false, false⟩
theorem k7do1 (a b : Option Addr) (c e : Nat) : manT [] [(appP 5 a c, appE 1 ⟨#[97]⟩), (appP 2 b e, appE 1 ⟨#[98]⟩)] = 0 ∧ manDo [] [(appP 5 a c, appE 1 ⟨#[97]⟩), (appP 2 b e, appE 1 ⟨#[98]⟩)] = k7L := ⟨by kernel_rfl, by kernel_rfl⟩
theorem k7do2 : manT k7L [(k7P 9 5 0 0, [])] = 13 ∧ manDo k7L [(k7P 9 5 0 0, [])] = k7L := ⟨by kernel_rfl, by kernel_rfl⟩
theorem k7do3 (a b : Option Addr) (c e : Nat) : manT k7L [(appP 5 a c, appE 2 ⟨#[99]⟩), (appP 5 b e, appE 9 ⟨#[100]⟩)] = 14 ∧ manDo k7L [(appP 5 a c, appE 2 ⟨#[99]⟩), (appP 5 b e, appE 9 ⟨#[100]⟩)] = k7L := ⟨by kernel_rfl, by kernel_rfl⟩
theorem k7do4 : manT k7L [] = 11 ∧ manDo k7L [] = k7L := ⟨by kernel_rfl, by kernel_rfl⟩
theorem k7set : manS k7L [(k7P 5 4 1 3, [])] = [(k7P 5 3 1 3, [])] := by kernel_rfl
theorem k7do5 : manT k7L [(k7P 2 5 0 0, [])] = 0 ∧ manDo k7L [(k7P 2 5 0 0, [])] = [k7g5] := ⟨by kernel_rfl, by kernel_rfl⟩
theorem k7chk (a : Option Addr) (c : Nat) : manT k7L [(appP 2 a c, appE 2 ⟨#[120]⟩)] = 0 := by kernel_rfl
theorem k7of : ofL k7L = k7L := by kernel_rfl
theorem k7get : getM k7L 5 = k7g5 ∧ (getZ GM.id k7L 5).isSome = true ∧ (getZ GM.id k7L 9).isSome = false := ⟨by kernel_rfl, by kernel_rfl, by kernel_rfl⟩
theorem k7ok : manOK 1 k7L ∧ manOK 1 [k7g5] := by
  refine ⟨⟨?_, fun g hg => ?_⟩, ⟨?_, fun g hg => ?_⟩⟩
  · show List.Pairwise _ [k7g2, k7g5]; simp [k7g2, k7g5]
  · simp only [k7L, List.mem_cons, List.not_mem_nil, or_false] at hg
    rcases hg with rfl | rfl
    · exact ⟨by kernel_rfl, by decide⟩
    · exact ⟨by kernel_rfl, by decide⟩
  · show List.Pairwise _ [k7g5]; simp
  · simp only [List.mem_cons, List.not_mem_nil, or_false] at hg
    subst hg
    exact ⟨by kernel_rfl, by decide⟩

end Go.Proofs.YtmmhghoapejaeaaGreat

/- Rows of parts that are laid by hand. -/
namespace Go.Proofs.YtmmhghoapejaeaaGreat
open Go.RowKit Go.Shelf
set_option linter.unusedVariables false

theorem hasP_app2 {W : World} {g h : Int} {a b : Option Addr} {c e : Nat} {l r : List EntryC} (hp : HasE W (appP g a c) l) (hq : HasE W (appP h b e) r) :
    HasP (W.alloc (.cells #[.int .i64 g, .int .i64 1, .slice a 1 c, .int .i64 0, .int .i64 0, .int .i64 0, .int .i64 0, .int .i64 0, .bool false, .bool false, .int .i64 h, .int .i64 1, .slice b 1 e, .int .i64 0, .int .i64 0, .int .i64 0, .int .i64 0, .int .i64 0, .bool false, .bool false] 44)) (some ⟨W.heap.size, 0, none⟩) 2 [(appP g a c, l), (appP h b e, r)] := by
  have hB := fun cs => bel_alloc (Below.refl W.heap.size W) (.cells cs 44)
  refine ⟨rfl, by decide, rowV_new W 44 _ 2 10 rfl (by decide), fun x hx => ?_⟩
  simp only [List.mem_cons, List.not_mem_nil, or_false] at hx
  rcases hx with rfl | rfl
  · exact hp.below (hB _)
  · exact hq.below (hB _)
theorem hasP_app1 {W : World} {g : Int} {a : Option Addr} {c : Nat} {l : List EntryC} (hp : HasE W (appP g a c) l) :
    HasP (W.alloc (.cells #[.int .i64 g, .int .i64 1, .slice a 1 c, .int .i64 0, .int .i64 0, .int .i64 0, .int .i64 0, .int .i64 0, .bool false, .bool false] 44)) (some ⟨W.heap.size, 0, none⟩) 1 [(appP g a c, l)] := by
  have hB := fun cs => bel_alloc (Below.refl W.heap.size W) (.cells cs 44)
  refine ⟨rfl, by decide, rowV_new W 44 _ 1 10 rfl (by decide), fun x hx => ?_⟩
  rw [List.mem_singleton.1 hx]
  exact hp.below (hB _)
theorem hasP_k7 (W : World) (g k i t : Int) :
    HasP (W.alloc (.cells #[.int .i64 g, .int .i64 k, .slice none 0 0, .int .i64 0, .int .i64 0, .int .i64 0, .int .i64 i, .int .i64 t, .bool false, .bool false] 44)) (some ⟨W.heap.size, 0, none⟩) 1 [(k7P g k i t, [])] := by
  refine ⟨rfl, by decide, rowV_new W 44 _ 1 10 rfl (by decide), fun x hx => ?_⟩
  rw [List.mem_singleton.1 hx]
  exact hasE_nil rfl rfl
theorem one_in {p : PL} (h : -9223372036854775808 ≤ p.1.g ∧ p.1.g < 9223372036854775808) : ∀ x ∈ [p], -9223372036854775808 ≤ x.1.g ∧ x.1.g < 9223372036854775808 := fun x hx => by
  rw [List.mem_singleton.1 hx]; exact h
theorem two_in {p q : PL} (h : -9223372036854775808 ≤ p.1.g ∧ p.1.g < 9223372036854775808) (k : -9223372036854775808 ≤ q.1.g ∧ q.1.g < 9223372036854775808) : ∀ x ∈ [p, q], -9223372036854775808 ≤ x.1.g ∧ x.1.g < 9223372036854775808 := fun x hx => by
  simp only [List.mem_cons, List.not_mem_nil, or_false] at hx
  rcases hx with rfl | rfl
  · exact h
  · exact k
/-- A list that is just laid, done: another block is laid ahead of it. -/
theorem ms_do_new {N : Nat} {w W : World} {d : Nat} {L : List GM} (h : MS w d L W) (hN : manOK N L) (o : Obj) (len cap : Nat) (ps : List PL) (hp : HasP (W.alloc o) (some ⟨W.heap.size, 0, none⟩) len ps) (hN5 : N + 6 * len ≤ 100000) (hg : ∀ x ∈ ps, -9223372036854775808 ≤ x.1.g ∧ x.1.g < 9223372036854775808) {t : Int} {M : List GM} (ht : manT L ps = t) (hM : manDo L ps = M) :
    Calls Tryz.prog 19 #[.pointer (some ⟨d, 0, none⟩), .slice (some ⟨W.heap.size, 0, none⟩) len cap] (W.alloc o) fun e w' => e = .returned (.int .i64 t) ∧ MS w d M w' ∧ FrameT (fun k => k = d) W w' := by
  subst ht
  subst hM
  have hB := bel_alloc (Below.refl W.heap.size W) o
  refine (ms_do (h.below hB) hN (some ⟨W.heap.size, 0, none⟩) len cap ps hp hN5 hg).mono ?_
  rintro e w' ⟨rfl, h1, h2⟩
  exact ⟨rfl, h1, (FrameT.below hB).trans h2⟩

theorem k7get5 {w W : World} {d : Nat} (h : MS w d k7L W) : Calls Tryz.prog 22 #[.pointer (some ⟨d, 0, none⟩), .int .i64 5] W fun e w' => ∃ a c, e = .returned (.tuple #[.agg #[.int .i64 5, .int .i64 1, .int .i64 0, .int .i64 0, .int .i64 0, .int .i64 0, .slice a 1 c], .bool true]) ∧ HasG w' a k7g5 ∧ Below W.heap.size W w' := by
  have := ms_get h 5 (by decide)
  rw [k7get.1, k7get.2.1] at this
  exact this.mono fun _ _ ⟨a, c, h1, h2, _, h3⟩ => ⟨a, c, h1, h2, h3⟩
theorem k7get9 {w W : World} {d : Nat} (h : MS w d k7L W) : Calls Tryz.prog 22 #[.pointer (some ⟨d, 0, none⟩), .int .i64 9] W fun e w' => ∃ a c, e = .returned (.tuple #[.agg #[.int .i64 0, .int .i64 0, .int .i64 0, .int .i64 0, .int .i64 0, .int .i64 0, .slice a 0 c], .bool false]) ∧ Below W.heap.size W w' := by
  have := ms_get h 9 (by decide)
  rw [show getM k7L 9 = ⟨0, 0, 0, 0, 0, 0, []⟩ by kernel_rfl, k7get.2.2] at this
  exact this.mono fun _ _ ⟨a, c, h1, h2, _, h3⟩ => ⟨a, c, h1, h3⟩
theorem k7all {w W : World} {d : Nat} (h : MS w d k7L W) : Calls Tryz.prog 25 #[.pointer (some ⟨d, 0, none⟩)] W fun e w' => ∃ b off c Gs, e = .returned (.slice (some ⟨b, off, none⟩) 2 c) ∧ b < w'.heap.size ∧ w'.cell? ⟨b, off, none⟩ = some (.int .i64 2) ∧ RowV w' (some ⟨b, off, none⟩) 2 7 (gvCells Gs) ∧ Gs.map GV.g = k7L ∧ (∀ x ∈ Gs, HasG w' x.a x.g) ∧ Below W.heap.size W w' := by
  refine (ms_all h k7ok.1).mono ?_
  rintro e w' ⟨v, Gs, rfl, hg, ho, hh, hB⟩
  obtain ⟨a, cap, rfl, hl, hr⟩ := rowV_own ho
  have hr : RowV w' a 2 7 (gvCells Gs) := hr
  obtain ⟨b, off, rfl, hb, hc⟩ := hr.2.2 (by decide)
  refine ⟨b, off, cap, Gs, rfl, hb, ?_, hr, hg, fun x hx => (hh x hx).1, hB⟩
  · match Gs, hg with
    | x :: r, hg =>
      have h0 := hc 0 (by rw [hr.1]; decide)
      have e0 : x.g = k7g2 := by simpa [k7L] using (List.cons.inj hg).1
      rw [Nat.add_zero] at h0
      rw [h0]
      show some (Value.int .i64 x.g.id) = _
      rw [e0]; rfl
theorem k7copy {w W : World} {d : Nat} {L : List GM} (h : MS w d L W) : Calls Tryz.prog 14 #[.pointer (some ⟨d, 0, none⟩)] W fun e w' => ∃ c, e = .returned (.pointer (some ⟨c, 0, none⟩)) ∧ c ≠ d ∧ W.heap.size ≤ c ∧ MS w c L w' ∧ MS w d L w' ∧ Below W.heap.size W w' := by
  refine (ms_copy h).mono ?_
  rintro e w' ⟨c, rfl, hc, hM, hB⟩
  exact ⟨c, rfl, fun k => by have := h.lt; omega, hc, hM, h.below hB, hB⟩
theorem k7settle {w W : World} {d : Nat} (h : MS w d k7L W) : Calls Tryz.prog 15 #[.pointer (some ⟨d, 0, none⟩), .slice (some ⟨W.heap.size, 0, none⟩) 1 1] (W.alloc (.cells #[.int .i64 5, .int .i64 4, .slice none 0 0, .int .i64 0, .int .i64 0, .int .i64 0, .int .i64 1, .int .i64 3, .bool false, .bool false] 44)) fun e w' => ∃ b off c, e = .returned (.slice (some ⟨b, off, none⟩) 1 c) ∧ b < w'.heap.size ∧ w'.cell? ⟨b, off + 1, none⟩ = some (.int .i64 3) ∧ Below W.heap.size W w' := by
  have hB0 := bel_alloc (Below.refl W.heap.size W) (.cells #[.int .i64 5, .int .i64 4, .slice none 0 0, .int .i64 0, .int .i64 0, .int .i64 0, .int .i64 1, .int .i64 3, .bool false, .bool false] 44)
  refine (ms_settle (h.below hB0) k7ok.1 _ 1 1 _ (hasP_k7 W 5 4 1 3) (by decide) (one_in (by decide : -9223372036854775808 ≤ (5 : Int) ∧ (5 : Int) < 9223372036854775808))).mono ?_
  rintro e w' ⟨a, c, S, rfl, hP, hS, _, hB⟩
  rw [k7set] at hS
  obtain ⟨hl, _, hr, _⟩ := hP
  obtain ⟨b, off, rfl, hb, hc⟩ := hr.2.2 (by decide)
  refine ⟨b, off, c, rfl, hb, ?_, bel2 hB0 hB⟩
  match S, hS with
  | x :: r, hS =>
    have h1 := hc 1 (by rw [hr.1]; decide)
    rw [h1]
    have e1 : core x = core (k7P 5 3 1 3, []) := (List.cons.inj hS).1
    show some (Value.int .i64 x.1.k) = _
    have e2 : x.1.k = 3 := by
      have := e1
      simp [core, k7P] at this
      first | exact this.2.1 | exact this.1.2.1 | omega
    rw [e2]

end Go.Proofs.YtmmhghoapejaeaaGreat

/- What the seventh layer's laws hold by themselves: the examples. -/
namespace Go.Proofs.YtmmhghoapejaeaaGreat
open Go.RowKit Go.Shelf
set_option linter.unusedVariables false
attribute [local go_sem] Oper.semAt_some wide_fn wide_round_fn

theorem k7rows {W W' : World} {b off c n : Nat} {X : List Value} (h : RowV W (some ⟨b, off, none⟩) n 7 X) (hb : b ≠ c) (hF : FrameT (fun k => k = c) W W') : RowV W' (some ⟨b, off, none⟩) n 7 X :=
  ⟨h.1, h.2.1, fun h0 => by
    obtain ⟨b', off', e, hb', hc⟩ := h.2.2 h0
    cases e
    exact ⟨b, off, rfl, Nat.lt_of_lt_of_le hb' hF.size, fun j hj => hF.cell (hc j hj) hb⟩⟩
theorem k7has {w W W' : World} {c : Nat} {L : List GM} {a : Option Addr} {g : GM} (h : HasG W a g) (hc : MS w c L W) (hF : FrameT (fun k => k = c) W W') : HasG W' a g := by
  obtain ⟨m, hc⟩ := hc.cell
  exact hasG_frame h hF (fun k hk e => h.not_cell hc k hk e)
set_option maxRecDepth 100000 in
set_option maxHeartbeats 4000000 in
theorem man_known (w : World) : Gives Tryz.prog 9 #[] w (.bool true) := by
  have GN := Lib.hid (ms_new (Below.refl w.heap.size w))
  have GA1 := Lib.hid (fun W => (show Calls Tryz.prog 21 #[.int .i64 5, .int .i64 1, .string ⟨#[97]⟩] W fun e w' => ∃ a c, e = .returned (.agg #[.int .i64 5, .int .i64 1, .slice a 1 c, .int .i64 0, .int .i64 0, .int .i64 0, .int .i64 0, .int .i64 0, .bool false, .bool false]) ∧ HasE w' (appP 5 a c) (appE 1 ⟨#[97]⟩) ∧ Below W.heap.size W w' ∧ ∀ k, inBlkE a 1 k → W.heap.size ≤ k from app7_any 5 1 ⟨#[97]⟩ W))
  have GA2 := Lib.hid (fun W => (show Calls Tryz.prog 21 #[.int .i64 2, .int .i64 1, .string ⟨#[98]⟩] W fun e w' => ∃ a c, e = .returned (.agg #[.int .i64 2, .int .i64 1, .slice a 1 c, .int .i64 0, .int .i64 0, .int .i64 0, .int .i64 0, .int .i64 0, .bool false, .bool false]) ∧ HasE w' (appP 2 a c) (appE 1 ⟨#[98]⟩) ∧ Below W.heap.size W w' ∧ ∀ k, inBlkE a 1 k → W.heap.size ≤ k from app7_any 2 1 ⟨#[98]⟩ W))
  have GA3 := Lib.hid (fun W => (show Calls Tryz.prog 21 #[.int .i64 5, .int .i64 2, .string ⟨#[99]⟩] W fun e w' => ∃ a c, e = .returned (.agg #[.int .i64 5, .int .i64 1, .slice a 1 c, .int .i64 0, .int .i64 0, .int .i64 0, .int .i64 0, .int .i64 0, .bool false, .bool false]) ∧ HasE w' (appP 5 a c) (appE 2 ⟨#[99]⟩) ∧ Below W.heap.size W w' ∧ ∀ k, inBlkE a 1 k → W.heap.size ≤ k from app7_any 5 2 ⟨#[99]⟩ W))
  have GA4 := Lib.hid (fun W => (show Calls Tryz.prog 21 #[.int .i64 5, .int .i64 9, .string ⟨#[100]⟩] W fun e w' => ∃ a c, e = .returned (.agg #[.int .i64 5, .int .i64 1, .slice a 1 c, .int .i64 0, .int .i64 0, .int .i64 0, .int .i64 0, .int .i64 0, .bool false, .bool false]) ∧ HasE w' (appP 5 a c) (appE 9 ⟨#[100]⟩) ∧ Below W.heap.size W w' ∧ ∀ k, inBlkE a 1 k → W.heap.size ≤ k from app7_any 5 9 ⟨#[100]⟩ W))
  have GD1 := Lib.hid (fun W d a b c e (h : MS w d [] W) (hp : HasE W (appP 5 a c) (appE 1 ⟨#[97]⟩)) (hq : HasE W (appP 2 b e) (appE 1 ⟨#[98]⟩)) => ms_do_new h (manOK_nil 0) _ 2 2 _ (hasP_app2 hp hq) (by decide) (two_in (by decide : -9223372036854775808 ≤ (5 : Int) ∧ (5 : Int) < 9223372036854775808) (by decide : -9223372036854775808 ≤ (2 : Int) ∧ (2 : Int) < 9223372036854775808)) (k7do1 a b c e).1 (k7do1 a b c e).2)
  have GD2 := Lib.hid (fun W d (h : MS w d k7L W) => ms_do_new h k7ok.1 _ 1 1 _ (hasP_k7 W 9 5 0 0) (by decide) (one_in (by decide : -9223372036854775808 ≤ (9 : Int) ∧ (9 : Int) < 9223372036854775808)) k7do2.1 k7do2.2)
  have GD3 := Lib.hid (fun W d a b c e (h : MS w d k7L W) (hp : HasE W (appP 5 a c) (appE 2 ⟨#[99]⟩)) (hq : HasE W (appP 5 b e) (appE 9 ⟨#[100]⟩)) => ms_do_new h k7ok.1 _ 2 2 _ (hasP_app2 hp hq) (by decide) (two_in (by decide : -9223372036854775808 ≤ (5 : Int) ∧ (5 : Int) < 9223372036854775808) (by decide : -9223372036854775808 ≤ (5 : Int) ∧ (5 : Int) < 9223372036854775808)) (k7do3 a b c e).1 (k7do3 a b c e).2)
  have GD4 := Lib.hid (fun W d (h : MS w d k7L W) => by
    have := ms_do h k7ok.1 none 0 0 [] (hasP_nil _ _) (by decide) (fun x hx => by cases hx)
    rw [k7do4.1, k7do4.2] at this
    exact this)
  have GG5 := Lib.hid (fun W d (h : MS w d k7L W) => k7get5 h)
  have GG9 := Lib.hid (fun W d (h : MS w d k7L W) => k7get9 h)
  have GL := Lib.hid (fun W d (h : MS w d k7L W) => k7all h)
  have GS := Lib.hid (fun W d (h : MS w d k7L W) => k7settle h)
  have GC := Lib.hid (fun W d (h : MS w d k7L W) => k7copy h)
  have GD5 := Lib.hid (fun W d (h : MS w d k7L W) => ms_do_new h k7ok.1 _ 1 1 _ (hasP_k7 W 2 5 0 0) (by decide) (one_in (by decide : -9223372036854775808 ≤ (2 : Int) ∧ (2 : Int) < 9223372036854775808)) k7do5.1 k7do5.2)
  have GM1 := Lib.hid (fun W c d (hc : MS w c [k7g5] W) (h : MS w d k7L W) => (show Gives Tryz.prog 28 #[.pointer (some ⟨c, 0, none⟩), .pointer (some ⟨d, 0, none⟩)] W (.bool false) from by have := ms_same hc h k7ok.2 k7ok.1; rwa [show decide ([k7g5] = k7L) = false from decide_eq_false (fun e => by cases e)] at this))
  have GM2 := Lib.hid (fun W c d (hc : MS w c k7L W) (h : MS w d k7L W) => (show Gives Tryz.prog 28 #[.pointer (some ⟨c, 0, none⟩), .pointer (some ⟨d, 0, none⟩)] W (.bool true) from by have := ms_same hc h k7ok.1 k7ok.1; rwa [decide_eq_true rfl] at this))
  have GA5 := Lib.hid (fun W => (show Calls Tryz.prog 21 #[.int .i64 2, .int .i64 2, .string ⟨#[120]⟩] W fun e w' => ∃ a c, e = .returned (.agg #[.int .i64 2, .int .i64 1, .slice a 1 c, .int .i64 0, .int .i64 0, .int .i64 0, .int .i64 0, .int .i64 0, .bool false, .bool false]) ∧ HasE w' (appP 2 a c) (appE 2 ⟨#[120]⟩) ∧ Below W.heap.size W w' ∧ ∀ k, inBlkE a 1 k → W.heap.size ≤ k from app7_any 2 2 ⟨#[120]⟩ W))
  have GK := Lib.hid (fun W d a c (h : MS w d k7L W) (hp : HasE W (appP 2 a c) (appE 2 ⟨#[120]⟩)) => (show Calls Tryz.prog 18 #[.pointer (some ⟨d, 0, none⟩), .slice (some ⟨W.heap.size, 0, none⟩) 1 1] (W.alloc (.cells #[.int .i64 2, .int .i64 1, .slice a 1 c, .int .i64 0, .int .i64 0, .int .i64 0, .int .i64 0, .int .i64 0, .bool false, .bool false] 44)) (fun e w' => e = .returned (.int .i64 0) ∧ Below W.heap.size W w') from by
    have hB := bel_alloc (Below.refl W.heap.size W) (.cells #[.int .i64 2, .int .i64 1, .slice a 1 c, .int .i64 0, .int .i64 0, .int .i64 0, .int .i64 0, .int .i64 0, .bool false, .bool false] 44)
    have := ms_check (h.below hB) k7ok.1 (some ⟨W.heap.size, 0, none⟩) 1 1 _ (hasP_app1 hp) (by decide) (one_in (by decide : -9223372036854775808 ≤ (2 : Int) ∧ (2 : Int) < 9223372036854775808))
    rw [k7chk] at this
    exact this.mono fun e w' ⟨h1, h2⟩ => ⟨h1, bel2 hB h2⟩))
  have GO := Lib.hid (fun W d b off c Gs (h : MS w d k7L W) (hr : RowV W (some ⟨b, off, none⟩) 2 7 (gvCells Gs)) (hg : Gs.map GV.g = k7L) (hh : ∀ x ∈ Gs, HasG W x.a x.g) => (show Calls Tryz.prog 12 #[.slice (some ⟨b, off, none⟩) 2 c] W (fun e w' => ∃ d, e = .returned (.pointer (some ⟨d, 0, none⟩)) ∧ MS w d k7L w') from by
    have hl : Gs.length = 2 := by have := congrArg List.length hg; simpa [k7L] using this
    refine (ms_of h.bel (some ⟨b, off, none⟩) 2 c Gs hl (by decide) hr (fun x hx => ⟨hh x hx, ?_⟩)).mono ?_
    · have h1 := isG_id (k7ok.1.2 x.g (by rw [← hg]; exact List.mem_map.2 ⟨x, hx, rfl⟩)).1
      unfold in64
      omega
    · rintro e w' ⟨d, rfl, _, h1, _⟩
      rw [hg, k7of] at h1
      exact ⟨d, rfl, h1⟩))
  unfold Gives
  go_enter Tryz.func9, Tryz.ntmps9
  go_wp2_with (first
    | (go_at_call 29; ((with_reducible refine GN.out.mono ?_); rintro e w1 ⟨d, rfl, hd1, hM, hB⟩; clear hd1; clear hB))
    | (go_at_call 21; ((with_reducible refine (GA1.out _).mono ?_); rintro e w2 ⟨a1, c1, rfl, hE1, hB, -⟩; replace hM := hM.below hB; clear hB))
    | (go_at_call 21; ((with_reducible refine (GA2.out _).mono ?_); rintro e w3 ⟨a2, c2, rfl, hE2, hB, -⟩; replace hM := hM.below hB; replace hE1 := hE1.below hB; clear hB))
    | (go_at_call 19; ((refine (GD1.out _ _ _ _ _ _ hM hE1 hE2).mono ?_); rintro e w4 ⟨rfl, hM4, -⟩; clear hM; clear hE1; clear hE2))
    | (go_at_call 19; ((refine (GD2.out _ _ hM4).mono ?_); rintro e w5 ⟨rfl, hM5, -⟩; clear hM4))
    | (go_at_call 21; ((with_reducible refine (GA3.out _).mono ?_); rintro e w6 ⟨a3, c3, rfl, hE3, hB, -⟩; replace hM5 := hM5.below hB; clear hB))
    | (go_at_call 21; ((with_reducible refine (GA4.out _).mono ?_); rintro e w7 ⟨a4, c4, rfl, hE4, hB, -⟩; replace hM5 := hM5.below hB; replace hE3 := hE3.below hB; clear hB))
    | (go_at_call 19; ((refine (GD3.out _ _ _ _ _ _ hM5 hE3 hE4).mono ?_); rintro e w8 ⟨rfl, hM8, -⟩; clear hM5; clear hE3; clear hE4))
    | (go_at_call 19; ((refine (GD4.out _ _ hM8).mono ?_); rintro e w9 ⟨rfl, hM9, -⟩; clear hM8))
    | (go_at_call 22; ((refine (GG5.out _ _ hM9).mono ?_); rintro e w10 ⟨a5, c5, rfl, hG5, hB⟩; replace hM9 := hM9.below hB; clear hB; have hb := bel_alloc (Below.refl w10.heap.size w10) (.cells #[.int .i64 5, .int .i64 1, .int .i64 0, .int .i64 0, .int .i64 0, .int .i64 0, .slice a5 1 c5] 31); have hg := World.alloc_heap_new w10 (.cells #[.int .i64 5, .int .i64 1, .int .i64 0, .int .i64 0, .int .i64 0, .int .i64 0, .slice a5 1 c5] 31); have hMa := hM9.below hb; clear hM9; clear hb))
    | (go_at_call 22; ((refine (GG9.out _ _ hMa).mono ?_); rintro e w11 ⟨a9, c9, rfl, hB⟩; replace hMa := hMa.below hB; replace hg := (hB.block _ (heap_lt hg)).trans hg; clear hB; have hb := bel_alloc (Below.refl w11.heap.size w11) (.cells #[.int .i64 0, .int .i64 0, .int .i64 0, .int .i64 0, .int .i64 0, .int .i64 0, .slice a9 0 c9] 31); have hMb := hMa.below hb; clear hMa; have hg2 := (hb.block _ (heap_lt hg)).trans hg; clear hb; clear hg))
    | (go_at_call 25; ((refine (GL.out _ _ hMb).mono ?_); rintro e w12 ⟨lb, lo, lc, Gs, rfl, hlb, hl0, hlr, hGs, hGh, hB⟩; have hMc := hMb.below hB; clear hMb; have hg3 := (hB.block _ (heap_lt hg2)).trans hg2; clear hg2; clear hB))
    | (go_at_call 15; ((refine (GS.out _ _ hMc).mono ?_); rintro e w13 ⟨sb, so, sc, rfl, hsb, hs1, hB⟩; have hMd := hMc.below hB; clear hMc; have hg4 := (hB.block _ (heap_lt hg3)).trans hg3; clear hg3; replace hl0 := (hB.cell (p := ⟨lb, lo, none⟩) hlb).trans hl0; replace hlb := Nat.lt_of_lt_of_le hlb hB.size; replace hlr := hlr.below hB; replace hGh := fun x hx => (hGh x hx).below hB; clear hB))
    | (go_at_call 14; ((refine (GC.out _ _ hMd).mono ?_); rintro e w14 ⟨c, rfl, hcd, hcl, hMC, hMe, hB⟩; clear hMd; have hg5 := (hB.block _ (heap_lt hg4)).trans hg4; have hgc := Nat.ne_of_lt (Nat.lt_of_lt_of_le (heap_lt hg4) hcl); clear hg4; have hlc := Nat.ne_of_lt (Nat.lt_of_lt_of_le hlb hcl); have hsc := Nat.ne_of_lt (Nat.lt_of_lt_of_le hsb hcl); replace hl0 := (hB.cell (p := ⟨lb, lo, none⟩) hlb).trans hl0; replace hlb := Nat.lt_of_lt_of_le hlb hB.size; replace hs1 := (hB.cell (p := ⟨sb, so + 1, none⟩) hsb).trans hs1; replace hsb := Nat.lt_of_lt_of_le hsb hB.size; replace hlr := hlr.below hB; replace hGh := fun x hx => (hGh x hx).below hB; clear hB; clear hcl))
    | (go_at_call 19; ((refine (GD5.out _ _ hMC).mono ?_); rintro e w15 ⟨rfl, hMC2, hF⟩; have hMf := hMe.other hMC hcd hF; replace hGh := fun x hx => k7has (hGh x hx) hMC hF; replace hlr := k7rows hlr hlc hF; clear hMe; clear hMC; have hg6 := hF.get hg5 hgc; clear hg5; replace hl0 := hF.cell hl0 hlc; replace hs1 := hF.cell hs1 hsc; have g6 := cell_of_row _ _ 6 _ _ _ hg6; clear hF))
    | (go_at_call 28; ((refine (GM1.out _ _ _ hMC2 hMf).mono ?_); rintro e w16 ⟨rfl, hB⟩; have hMg := hMf.below hB; clear hMf; clear hMC2; clear hl0; clear hs1; clear g6; clear hg6; replace hlr := hlr.below hB; replace hGh := fun x hx => (hGh x hx).below hB; clear hB))
    | (go_at_call 14; ((refine (GC.out _ _ hMg).mono ?_); rintro e w17 ⟨c17, rfl, -, -, hMC3, hMh, hB⟩; clear hMg; replace hlr := hlr.below hB; replace hGh := fun x hx => (hGh x hx).below hB; clear hB))
    | (go_at_call 28; ((refine (GM2.out _ _ _ hMh hMC3).mono ?_); rintro e w18 ⟨rfl, hB⟩; have hMi := hMh.below hB; clear hMh; clear hMC3; replace hlr := hlr.below hB; replace hGh := fun x hx => (hGh x hx).below hB; clear hB))
    | (go_at_call 21; ((with_reducible refine (GA5.out _).mono ?_); rintro e w19 ⟨a19, c19, rfl, hE5, hB, -⟩; have hMj := hMi.below hB; clear hMi; replace hlr := hlr.below hB; replace hGh := fun x hx => (hGh x hx).below hB; clear hB))
    | (go_at_call 18; ((refine (GK.out _ _ _ _ hMj hE5).mono ?_); rintro e w20 ⟨rfl, hB⟩; have hMk := hMj.below hB; clear hMj; clear hE5; replace hlr := hlr.below hB; replace hGh := fun x hx => (hGh x hx).below hB; clear hB))
    | (go_at_call 12; ((refine (GO.out _ _ _ _ _ _ hMk hlr hGs hGh).mono ?_); rintro e w21 ⟨d21, rfl, hMl⟩; clear hMk; clear hlr; clear hGh))
    | (go_at_call 25; ((refine (GL.out _ _ hMl).mono ?_); rintro e w22 ⟨b22, o22, c22, G22, rfl, -, -, -, -, -, hB⟩; have hMm := hMl.below hB; clear hMl; clear hB)))
  go_ret
  exact ⟨rfl, hMm.bel⟩

end Go.Proofs.YtmmhghoapejaeaaGreat
