/- Lists of one part each, laid by hand: what they make, where they lie; a row of such lists that grows. -/
import Derived.Test.YthedmemkckclpaaGreatCutA
import Derived.Test.YthedmemkckclpaaGreatCutF
namespace Go.Proofs.YthedmemkckclpaaGreat
open Go.RowKit Go.Shelf
set_option linter.unusedVariables false

/-- A part without entries, without anything but its kind. -/
def bareP (g k : Int) : PartC := ⟨g, k, none, 0, 0, 0, 0, 0, 0, 0, false, false⟩
theorem hasP_bare (W : World) (g k : Int) : HasP (W.alloc (.cells #[.int .i64 g, .int .i64 k, .slice none 0 0, .int .i64 0, .int .i64 0, .int .i64 0, .int .i64 0, .int .i64 0, .bool false, .bool false] 30)) (some ⟨W.heap.size, 0, none⟩) 1 [(bareP g k, [])] := by
  refine ⟨rfl, by decide, rowV_new W 30 _ 1 10 rfl (by decide), fun x hx => ?_⟩
  rw [List.mem_singleton.1 hx]
  exact hasE_nil rfl rfl
def lcOf (b : Nat) (g k : Int) : LC := ⟨some ⟨b, 0, none⟩, 1, 1, [(bareP g k, [])]⟩
/-- A list that stands in a block: nothing else is in it that may be grown. -/
def LcOk (C : Nat) (v : Value) (W : World) (x : LC) : Prop := HasP W x.a x.len x.L ∧ x.len ≤ 6 ∧ (∀ y ∈ x.L, -9223372036854775808 ≤ y.1.g ∧ y.1.g < 9223372036854775808) ∧ (∀ y ∈ x.L, y.1.len = 0) ∧ ∀ k, inBlkE x.a x.len k → C ≤ k ∧ some k ≠ v.ownBlock
theorem hasP_frame0 {T : Nat → Prop} {W W' : World} {a : Option Addr} {len : Nat} {L : List PL} (h : HasP W a len L) (h0 : ∀ y ∈ L, y.1.len = 0) (hF : FrameT T W W') (hT : ∀ k, inBlkE a len k → ¬ T k) : HasP W' a len L :=
  ⟨h.1, h.2.1, rowV_frame h.2.2.1 hF hT, fun y hy => ⟨(h.2.2.2 y hy).1, (h.2.2.2 y hy).2.1, rowV_frame (h.2.2.2 y hy).2.2 hF (fun k hk => by obtain ⟨_, _, _, h1, _⟩ := hk; rw [h0 y hy] at h1; omega)⟩⟩
/-- A row of lists that grows from C on. -/
def lsI (C : Nat) (v : Value) (pre : List LC) (W : World) : Prop := W.ownsRow C 31 1 v pre.length (lcCells pre) ∧ ∀ x ∈ pre, LcOk C v W x
theorem lsI_nil (C : Nat) (W : World) : lsI C (.slice none 0 0) [] W := ⟨World.ownsRow_nil _ _ _ _, fun x hx => by cases hx⟩
theorem lsI.below {C : Nat} {v : Value} {pre : List LC} {W W' : World} (h : lsI C v pre W) (hB : Below W.heap.size W W') : lsI C v pre W' :=
  ⟨own_frameM h.1 (FrameT.below hB) (fun _ _ => id), fun x hx => ⟨(h.2 x hx).1.below hB, (h.2 x hx).2⟩⟩
theorem lcCells_app (A B : List LC) : lcCells (A ++ B) = lcCells A ++ lcCells B := by simp [lcCells]
theorem lsI_append {C : Nat} {v v' : Value} {pre : List LC} {xs : List LC} {W w2 : World} (h : lsI C v pre W)
    (hx : ∀ x ∈ xs, LcOk C v W x) (hown : w2.ownsRow C 31 1 v' (pre.length + xs.length) (lcCells pre ++ lcCells xs)) (hg : W.grownBy w2 v.ownBlock) (hn : v'.ownBlock = v.ownBlock ∨ v'.ownBlock = some W.heap.size) :
    lsI C v' (pre ++ xs) w2 ∧ FrameT (fun k => some k = v.ownBlock) W w2 := by
  have hF : FrameT (fun k => some k = v.ownBlock) W w2 := ⟨hg.os, hg.tape, hg.output, hg.size, fun k hk hT => hg.block k hk hT⟩
  refine ⟨⟨by rw [List.length_append, lcCells_app]; exact hown, fun y hy => ?_⟩, hF⟩
  have hE : ∀ y : LC, LcOk C v W y → LcOk C v' w2 y := fun y hy =>
    ⟨hasP_frame0 hy.1 hy.2.2.2.1 hF (fun k hk hT => (hy.2.2.2.2 k hk).2 hT), hy.2.1, hy.2.2.1, hy.2.2.2.1, fun k hk => ⟨(hy.2.2.2.2 k hk).1, fun e => by
      have h3 := inBlkM_lt hy.1.2.2.1 hk
      rcases hn with hn | hn
      · exact (hy.2.2.2.2 k hk).2 (e.trans hn)
      · rw [hn] at e; cases e; omega⟩⟩
  rcases List.mem_append.1 hy with hy | hy
  · exact hE y (h.2 y hy)
  · exact hE y (hx y hy)
theorem lsI.lists {C : Nat} {v : Value} {pre : List LC} {W : World} (h : lsI C v pre W) (hn : pre.length < 1000) : ∃ a cap, v = .slice a pre.length cap ∧ ListsAt W a pre.length pre := by
  obtain ⟨a, cap, rfl, _, hr⟩ := rowV_own h.1
  exact ⟨a, cap, rfl, rfl, hn, hr, fun x hx => ⟨(h.2 x hx).1, (h.2 x hx).2.1, (h.2 x hx).2.2.1⟩⟩
theorem lcOk_bare {C : Nat} {v : Value} {w W : World} {g k : Int} (hg : -9223372036854775808 ≤ g ∧ g < 9223372036854775808) (hB : Below (w.alloc (.cells #[.int .i64 g, .int .i64 k, .slice none 0 0, .int .i64 0, .int .i64 0, .int .i64 0, .int .i64 0, .int .i64 0, .bool false, .bool false] 30)).heap.size (w.alloc (.cells #[.int .i64 g, .int .i64 k, .slice none 0 0, .int .i64 0, .int .i64 0, .int .i64 0, .int .i64 0, .int .i64 0, .bool false, .bool false] 30)) W)
    (hC : C ≤ w.heap.size) (hv : some w.heap.size ≠ v.ownBlock) : LcOk C v W (lcOf w.heap.size g k) :=
  ⟨(hasP_bare w g k).below hB, by show 1 ≤ 6; decide, fun y hy => by rw [List.mem_singleton.1 hy]; exact hg, fun y hy => by rw [List.mem_singleton.1 hy]; rfl, fun q hq => by
    obtain ⟨b, off, e, _, rfl⟩ := hq
    cases e
    exact ⟨hC, hv⟩⟩

/-! ### What such lists make. -/
def patC (r : Nat) : List PL := if r = 0 then [(bareP 3 2, [])] else if r = 1 then [(bareP 4 5, [])] else [(bareP 3 5, [])]
def cuTr (r : Nat) : List GM := if r = 0 then [] else [newG 3]
theorem pat_0 : manDo (cuTr 0) (patC 0) = cuTr 1 := by kernel_rfl
theorem pat_1 : manDo (cuTr 1) (patC 1) = cuTr 2 := by kernel_rfl
theorem pat_2 : manDo (cuTr 2) (patC 2) = cuTr 0 := by kernel_rfl
theorem pat_step (r : Nat) : manDo (cuTr (r % 3)) (patC (r % 3)) = cuTr ((r + 1) % 3) := by
  have h : r % 3 = 0 ∨ r % 3 = 1 ∨ r % 3 = 2 := by omega
  rcases h with h | h | h
  · rw [h, show (r + 1) % 3 = 1 by omega]; exact pat_0
  · rw [h, show (r + 1) % 3 = 2 by omega]; exact pat_1
  · rw [h, show (r + 1) % 3 = 0 by omega]; exact pat_2
theorem cut_pat {M : List (List PL)} (h : ∀ i (hi : i < M.length), M[i] = patC (i % 3)) : ∀ j, j ≤ M.length → cutL [] M j = cuTr (j % 3)
  | 0, _ => rfl
  | j + 1, hj => by
    rw [cutL_succ [] (show j < M.length by omega), cut_pat h j (by omega), h j (by omega)]
    exact pat_step j
theorem newG_ne (g : Int) : ([newG g] : List GM) ≠ [] := fun h => by cases h
theorem fit_zero {M : List (List PL)} {n : Int} {b : Bool} (h : fitP [] [] M n b) : n = 0 ∧ b = true := by
  rcases h with ⟨rfl, k, rfl, hk, he, hl⟩ | ⟨rfl, rfl, hl⟩
  · have : k = 0 := by
      rcases Nat.eq_zero_or_pos k with h | h
      · exact h
      · exact absurd rfl (hl 0 h)
    subst this
    exact ⟨rfl, rfl⟩
  · exact absurd rfl (hl 0 (Nat.zero_le _))
theorem fit_one {M : List (List PL)} {g : Int} {n : Int} {b : Bool} (h1 : 1 ≤ M.length) (hc : cutL [] M 1 = [newG g]) (h : fitP [] [newG g] M n b) : n = 1 ∧ b = true := by
  rcases h with ⟨rfl, k, rfl, hk, he, hl⟩ | ⟨rfl, rfl, hl⟩
  · have : k = 1 := by
      have h0 : k ≠ 0 := fun e => by rw [e] at he; exact newG_ne g he.symm
      have h2 : ¬ 1 < k := fun h => hl 1 h hc
      omega
    subst this
    exact ⟨rfl, rfl⟩
  · exact absurd hc (hl 1 h1)
theorem newG_ok (g : Int) (hg : 0 ≤ g ∧ g ≤ 999) : manOK 1 [newG g] := by
  refine ⟨List.pairwise_singleton _ _, fun x hx => ?_⟩
  rw [List.mem_singleton.1 hx]
  exact ⟨newG_is hg, Nat.zero_le _⟩
/-- All groups, where there are none, where there is one. -/
theorem cut_all {w W : World} {d : Nat} {T : List GM} (h : MS w d T W) (hT : manOK 1 T) (hT2 : ofL T = T) (hlen : T.length ≤ 1) : Calls Tryz.prog 8 #[.pointer (some ⟨d, 0, none⟩)] W fun e w' => ∃ ga gc Gl, e = .returned (.slice ga T.length gc) ∧ Gl.length = T.length ∧ RowV w' ga T.length 7 (gvCells Gl) ∧ (∀ x ∈ Gl, HasG w' x.a x.g ∧ in64 x.g.id) ∧ ofL (Gl.map GV.g) = T ∧ (∀ x ∈ Gl, getZ GM.id T x.g.id = some x.g) ∧ Below W.heap.size W w' := by
  refine (ms_all h hT).mono ?_
  rintro e w' ⟨v, Gs, rfl, hg, ho, hh, hB⟩
  obtain ⟨ga, gc, rfl, -, hr⟩ := rowV_own ho
  have hl : Gs.length = T.length := by rw [← hg, List.length_map]
  refine ⟨ga, gc, Gs, rfl, hl, hr, fun x hx => ⟨(hh x hx).1, ?_⟩, by rw [hg]; exact hT2, fun x hx => ?_, hB⟩
  · have h1 := isG_id (hT.2 x.g (by rw [← hg]; exact List.mem_map.2 ⟨x, hx, rfl⟩)).1
    unfold in64
    omega
  · exact risZ_get hT.1 (by rw [← hg]; exact List.mem_map.2 ⟨x, hx, rfl⟩)

end Go.Proofs.YthedmemkckclpaaGreat
