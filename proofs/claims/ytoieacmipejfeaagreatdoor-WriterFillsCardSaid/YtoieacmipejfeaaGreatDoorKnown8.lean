/- What the eighth layer's laws hold by themselves: the examples. Two disks in one world. -/
import Derived.Test.YtoieacmipejfeaaGreatDoorDskX
import Derived.Test.YtoieacmipejfeaaGreatDoorBytes
import Derived.Test.YtoieacmipejfeaaGreatDoorRowV
namespace Go.Proofs.YtoieacmipejfeaaGreatDoor
open Go.RowKit Go.Shelf
set_option linter.unusedVariables false
attribute [local go_sem] Oper.semAt_some wide_fn wide_round_fn

/-! ### Two disks -/
def Two (w : World) (d : Nat) (D : PD) (c : Nat) (C : PD) (W : World) : Prop := ∃ T U B1 B2, w.heap.size ≤ B1 ∧ w.heap.size ≤ B2 ∧ DkT W B1 d D T ∧ DkT W B2 c C U ∧ (∀ k, T k → ¬ U k) ∧ Below w.heap.size w W
theorem Two.below {w W W' : World} {d c : Nat} {D C : PD} (h : Two w d D c C W) (hB : Below W.heap.size W W') : Two w d D c C W' := by
  obtain ⟨T, U, B1, B2, b1, b2, h1, h2, hd, hB0⟩ := h
  exact ⟨T, U, B1, B2, b1, b2, h1.below hB, h2.below hB, hd, bel2 hB0 hB⟩
theorem Two.op {w W W' : World} {d c B1 B2 : Nat} {D D' C : PD} {T U : Nat → Prop} (b1 : w.heap.size ≤ B1) (b2 : w.heap.size ≤ B2) (h1 : DkT W B1 d D T) (h2 : DkT W B2 c C U) (hd : ∀ k, T k → ¬ U k) (hB : Below w.heap.size w W) (ho : OpT W B1 d T D' W') : Two w d D' c C W' := by
  obtain ⟨T', g1, g2, g3⟩ := ho
  refine ⟨T', U, B1, B2, b1, b2, g1, h2.frame g2 (fun k hk ht => hd k ht hk), fun k hk hu => ?_, hB.trans (g2.toBelow hB.size fun k hk => Nat.le_trans b1 (h1.ge hk))⟩
  rcases g3 k hk with h | h
  · exact hd k h hu
  · exact absurd (h2.lt hu) (by omega)
theorem Two.copy {w W W' : World} {d : Nat} {D : PD} (h : One w d D W) (hB : Below W.heap.size W W') (hc : ∃ T', DkT W' W.heap.size W.heap.size D T') : Two w d D W.heap.size D W' := by
  obtain ⟨T, h, hB0⟩ := h
  obtain ⟨U, hc⟩ := hc
  exact ⟨T, U, _, _, Nat.le_refl _, hB0.size, h.below hB, hc, fun k hk hu => by have := h.lt hk; have := hc.ge hu; omega, bel2 hB0 hB⟩
theorem createTw {w W : World} {d c n : Nat} {D C : PD} (h : Two w d D c C W) (hf : Fit D n) (hn : n ≤ 1000000) (s : ByteArray) (hs : s.size ≤ maxLen) :
    Calls Tryz.prog 29 #[.pointer (some ⟨d, 0, none⟩), .string s] W fun e w' => e = .returned (.int .i64 (createE D s)) ∧ Two w d (createD D s) c C w' := by
  obtain ⟨T, U, B1, B2, b1, b2, h1, h2, hd, hB⟩ := h
  refine (createT h1 hf hn s hs).mono ?_
  rintro e w' ⟨he, ho⟩; exact ⟨he, .op b1 b2 h1 h2 hd hB ho⟩
theorem appendTw {w W : World} {d c n : Nat} {D C : PD} (h : Two w d D c C W) (hf : Fit D n) (hn : n ≤ 1000000) (s b : ByteArray) (hs : s.size ≤ maxLen) (hb : b.size ≤ 1000000) :
    Calls Tryz.prog 30 #[.pointer (some ⟨d, 0, none⟩), .string s, .string b] W fun e w' => e = .returned (.int .i64 (appendE D s b)) ∧ Two w d (appendD D s b) c C w' := by
  obtain ⟨T, U, B1, B2, b1, b2, h1, h2, hd, hB⟩ := h
  refine (appendT h1 hf hn s b hs hb).mono ?_
  rintro e w' ⟨he, ho⟩; exact ⟨he, .op b1 b2 h1 h2 hd hB ho⟩
theorem renameTw {w W : World} {d c n : Nat} {D C : PD} (h : Two w d D c C W) (hf : Fit D n) (hn : n ≤ 1000000) (s t : ByteArray) (hs : s.size ≤ maxLen) (ht : t.size ≤ maxLen) :
    Calls Tryz.prog 60 #[.pointer (some ⟨d, 0, none⟩), .string s, .string t] W fun e w' => e = .returned (.int .i64 (askE D s)) ∧ Two w d (renameD D s t) c C w' := by
  obtain ⟨T, U, B1, B2, b1, b2, h1, h2, hd, hB⟩ := h
  refine (renameT h1 hf hn s t hs ht).mono ?_
  rintro e w' ⟨he, ho⟩; exact ⟨he, .op b1 b2 h1 h2 hd hB ho⟩
theorem limitTw {w W : World} {d c : Nat} {D C : PD} (h : Two w d D c C W) (k : Int) :
    Calls Tryz.prog 23 #[.pointer (some ⟨d, 0, none⟩), .int .i64 k] W fun e w' => (∃ v, e = .returned v) ∧ Two w d (limitD D k) c C w' := by
  obtain ⟨T, U, B1, B2, b1, b2, h1, h2, hd, hB⟩ := h
  refine (limitT h1 k).mono ?_
  rintro e w' ⟨he, ho⟩; exact ⟨he, .op b1 b2 h1 h2 hd hB ho⟩
theorem crashTw {w W : World} {d c n : Nat} {D C : PD} (h : Two w d D c C W) (hf : Fit D n) (keep : Nat) (hk : keep < 18446744073709551616) :
    Calls Tryz.prog 24 #[.pointer (some ⟨d, 0, none⟩), .int .u64 keep] W fun e w' => (∃ v, e = .returned v) ∧ Two w d (crashD D keep) c C w' := by
  obtain ⟨T, U, B1, B2, b1, b2, h1, h2, hd, hB⟩ := h
  refine (crashT h1 hf keep hk).mono ?_
  rintro e w' ⟨he, ho⟩; exact ⟨he, .op b1 b2 h1 h2 hd hB ho⟩
theorem dreadTw {w W : World} {d c : Nat} {D C : PD} (h : Two w d D c C W) (s : ByteArray) (hs : s.size ≤ maxLen) :
    Calls Tryz.prog 25 #[.pointer (some ⟨d, 0, none⟩), .string s] W fun e w' => e = .returned (.tuple #[.string (readB D s), .int .i64 (askE D s)]) ∧ w' = W := by
  obtain ⟨T, U, B1, B2, b1, b2, h1, h2, hd, hB⟩ := h
  exact dreadT h1 s hs
/-- Two disks, and a row that lies elsewhere. -/
def Two3 (w : World) (d : Nat) (D : PD) (c : Nat) (C : PD) (g : Nat) (W : World) : Prop := ∃ T U B1 B2, w.heap.size ≤ B1 ∧ w.heap.size ≤ B2 ∧ DkT W B1 d D T ∧ DkT W B2 c C U ∧ (∀ k, T k → ¬ U k) ∧ Below w.heap.size w W ∧ ¬ T g ∧ ¬ U g ∧ g < W.heap.size
theorem Two3.below {w W W' : World} {d c g : Nat} {D C : PD} (h : Two3 w d D c C g W) (hB : Below W.heap.size W W') : Two3 w d D c C g W' := by
  obtain ⟨T, U, B1, B2, b1, b2, h1, h2, hd, hB0, hT, hU, hg⟩ := h
  exact ⟨T, U, B1, B2, b1, b2, h1.below hB, h2.below hB, hd, bel2 hB0 hB, hT, hU, Nat.lt_of_lt_of_le hg hB.size⟩
theorem Two3.of {w W W' : World} {d c g : Nat} {D C : PD} (h : Two w d D c C W) (hB : Below W.heap.size W W') (hg : W.heap.size ≤ g) (hl : g < W'.heap.size) : Two3 w d D c C g W' := by
  obtain ⟨T, U, B1, B2, b1, b2, h1, h2, hd, hB0⟩ := h
  exact ⟨T, U, B1, B2, b1, b2, h1.below hB, h2.below hB, hd, bel2 hB0 hB, fun ht => absurd (h1.lt ht) (by omega), fun ht => absurd (h2.lt ht) (by omega), hl⟩
theorem remove3 {w W : World} {d c g n : Nat} {D C : PD} (h : Two3 w d D c C g W) (hf : Fit C n) (hn : n ≤ 1000000) (s : ByteArray) (hs : s.size ≤ maxLen) :
    Calls Tryz.prog 43 #[.pointer (some ⟨c, 0, none⟩), .string s] W fun e w' => e = .returned (.int .i64 (askE C s)) ∧ (∀ k, k < W.heap.size → k = g → w'.heap[k]? = W.heap[k]?) ∧ W.heap.size ≤ w'.heap.size ∧ Below w.heap.size w w' := by
  obtain ⟨T, U, B1, B2, b1, b2, h1, h2, hd, hB, hT, hU, hg⟩ := h
  refine (removeT h2 hf hn s hs).mono ?_
  rintro e w' ⟨he, T', g1, g2, g3⟩
  exact ⟨he, fun k hk hkg => g2.block k hk (by rw [hkg]; exact hU), g2.size, hB.trans (g2.toBelow hB.size fun k hk => Nat.le_trans b2 (h2.ge hk))⟩
theorem allTw {w W : World} {d c n : Nat} {D C : PD} (h : Two w d D c C W) (hf : Fit C n) :
    Calls Tryz.prog 47 #[.pointer (some ⟨c, 0, none⟩)] W fun e w' => ∃ v, e = .returned v ∧ w'.ownsRow W.heap.size 90 3 v C.L.length (pfCells C.L) ∧ Below W.heap.size W w' := by
  obtain ⟨T, U, B1, B2, b1, b2, h1, h2, hd, hB⟩ := h
  exact allT h2 hf
theorem used3 {w W : World} {d c g n : Nat} {D C : PD} (h : Two3 w d D c C g W) (hf : Fit C n) : Calls Tryz.prog 28 #[.pointer (some ⟨c, 0, none⟩)] W fun e w' => e = .returned (.int .i64 (usedL C.L)) ∧ Below W.heap.size W w' := by
  obtain ⟨T, U, B1, B2, b1, b2, h1, h2, hd, hB, hT, hU, hg⟩ := h
  exact usedT h2 hf
theorem fits {D : PD} {n : Nat} (h1 : D.room ≤ 1000000) (h2 : usedL D.L ≤ 2000000) (h3 : D.L.length ≤ 1000) (h4 : D.steps ≤ n) (h5 : D.left < 9223372036854775808) : Fit D n := ⟨h1, h2, h3, h4, h5⟩

theorem heap_lt8 {w : World} {k : Nat} {o : Obj} (h : w.heap[k]? = some o) : k < w.heap.size := (Array.getElem?_eq_some_iff.1 h).1
theorem row1 {w : World} {base : Nat} {v : Value} {xs : List Value} (h : w.ownsRow base 90 3 v 1 xs) : ∃ g cap cur, v = .slice (some ⟨g, 0, none⟩) 1 cap ∧ base ≤ g ∧ w.heap[g]? = some (.cells cur 90 (0, 0)) ∧ cur.toList.take 3 = xs := by
  rcases h.2 with ⟨_, h⟩ | ⟨g, cap, cur, hv, hb, hg, h1, h3, h4, h5⟩
  · cases h
  · exact ⟨g, cap, cur, hv, hb, hg, h5⟩
theorem infoU8d : (Tryz.prog.info? 5).map (fun i => (i.zero, i.size, i.bytes)) = some (some (.int .u8 0), 1, 1) := by kernel_rfl
/-! ### The example's disks -/
def dK0 : PD := ⟨[], 100, 0, false, 0⟩
def dK1 : PD := ⟨[⟨⟨#[97]⟩, [], 0⟩], 100, 1, false, 0⟩
def dK2 : PD := ⟨[⟨⟨#[97]⟩, [97, 98, 99, 100], 0⟩], 100, 2, false, 0⟩
def dK3 : PD := ⟨[⟨⟨#[97]⟩, [97, 98, 99, 100], 4⟩], 100, 3, false, 0⟩
def dK4 : PD := ⟨[⟨⟨#[97]⟩, [97, 98, 99, 100, 101, 102, 103, 104], 4⟩], 100, 4, false, 0⟩
def dK5 : PD := ⟨[⟨⟨#[97]⟩, [97, 98, 99, 100, 101], 5⟩], 100, 4, false, 0⟩
def dK6 : PD := ⟨[⟨⟨#[98]⟩, [97, 98, 99, 100, 101], 5⟩], 100, 5, false, 0⟩
def dK7 : PD := ⟨[⟨⟨#[98]⟩, [97, 98, 99], 3⟩], 100, 6, false, 0⟩
def dK8 : PD := ⟨[⟨⟨#[98]⟩, [97, 98, 99], 3⟩], 100, 6, true, 0⟩
def dK9 : PD := ⟨[], 100, 5, false, 0⟩
theorem fK0 : Fit dK0 6 := fits (by decide) (by decide) (by decide) (by decide) (by decide)
theorem fK1 : Fit dK1 6 := fits (by decide) (by decide) (by decide) (by decide) (by decide)
theorem fK2 : Fit dK2 6 := fits (by decide) (by decide) (by decide) (by decide) (by decide)
theorem fK3 : Fit dK3 6 := fits (by decide) (by decide) (by decide) (by decide) (by decide)
theorem fK4 : Fit dK4 6 := fits (by decide) (by decide) (by decide) (by decide) (by decide)
theorem fK5 : Fit dK5 6 := fits (by decide) (by decide) (by decide) (by decide) (by decide)
theorem fK6 : Fit dK6 6 := fits (by decide) (by decide) (by decide) (by decide) (by decide)
theorem fK7 : Fit dK7 6 := fits (by decide) (by decide) (by decide) (by decide) (by decide)
theorem fK8 : Fit dK8 6 := fits (by decide) (by decide) (by decide) (by decide) (by decide)
theorem fK9 : Fit dK9 6 := fits (by decide) (by decide) (by decide) (by decide) (by decide)
theorem kA0 : appendE dK0 ⟨#[97]⟩ ⟨#[120]⟩ = 19 ∧ appendD dK0 ⟨#[97]⟩ ⟨#[120]⟩ = dK0 := ⟨by kernel_rfl, by kernel_rfl⟩
theorem kC0 : createE dK0 ⟨#[97]⟩ = 0 ∧ createD dK0 ⟨#[97]⟩ = dK1 := ⟨by kernel_rfl, by kernel_rfl⟩
theorem kC1 : createE dK1 ⟨#[97]⟩ = 20 ∧ createD dK1 ⟨#[97]⟩ = dK1 := ⟨by kernel_rfl, by kernel_rfl⟩
theorem kA1 : appendE dK1 ⟨#[97]⟩ ⟨#[97, 98, 99, 100]⟩ = 0 ∧ appendD dK1 ⟨#[97]⟩ ⟨#[97, 98, 99, 100]⟩ = dK2 := ⟨by kernel_rfl, by kernel_rfl⟩
theorem kS2 : askE dK2 ⟨#[97]⟩ = 0 ∧ syncD dK2 ⟨#[97]⟩ = dK3 := ⟨by kernel_rfl, by kernel_rfl⟩
theorem kA3 : appendE dK3 ⟨#[97]⟩ ⟨#[101, 102, 103, 104]⟩ = 0 ∧ appendD dK3 ⟨#[97]⟩ ⟨#[101, 102, 103, 104]⟩ = dK4 := ⟨by kernel_rfl, by kernel_rfl⟩
theorem kX4 : crashD dK4 127 = dK5 := by kernel_rfl
theorem kR5 : readB dK5 ⟨#[97]⟩ = ⟨#[97, 98, 99, 100, 101]⟩ ∧ askE dK5 ⟨#[97]⟩ = 0 ∧ renameD dK5 ⟨#[97]⟩ ⟨#[98]⟩ = dK6 := ⟨by kernel_rfl, by kernel_rfl, by kernel_rfl⟩
theorem kT6 : askE dK6 ⟨#[98]⟩ = 0 ∧ cutD dK6 ⟨#[98]⟩ 3 = dK7 := ⟨by kernel_rfl, by kernel_rfl⟩
theorem kR7 : readB dK7 ⟨#[98]⟩ = ⟨#[97, 98, 99]⟩ ∧ askE dK7 ⟨#[98]⟩ = 0 ∧ limitD dK7 0 = dK8 ∧ usedL dK7.L = 3 := ⟨by kernel_rfl, by kernel_rfl, by kernel_rfl, by kernel_rfl⟩
theorem kA7 (Z : ByteArray) (hZ : Z.size = 98) : appendE dK7 ⟨#[98]⟩ Z = 17 ∧ appendD dK7 ⟨#[98]⟩ Z = dK7 := by
  have h : appendE dK7 ⟨#[98]⟩ Z = 17 := by
    unfold appendE
    rw [kR7.2.1, kR7.2.2.2, hZ]; rfl
  exact ⟨h, by unfold appendD; rw [h]; rfl⟩
theorem kR8 : readB dK8 ⟨#[98]⟩ = ⟨#[]⟩ ∧ askE dK8 ⟨#[98]⟩ = 18 := ⟨by kernel_rfl, by kernel_rfl⟩
theorem kL4 : pfCells dK4.L = [.string ⟨#[97]⟩, .string ⟨#[97, 98, 99, 100, 101, 102, 103, 104]⟩, .int .i64 4] ∧ dK4.L.length = 1 ∧ usedL dK4.L = 8 ∧ askE dK4 ⟨#[97]⟩ = 0 ∧ dK8.steps = 6 := ⟨by kernel_rfl, rfl, by kernel_rfl, by kernel_rfl, rfl⟩
def lOf : List IFile := [⟨⟨#[97]⟩, ⟨#[97, 98, 99, 100, 101, 102, 103, 104]⟩, 4⟩]
theorem kOf : usedL (ofD 9 lOf).L = 8 := by kernel_rfl
theorem fOf : Fit (ofD 9 lOf) 6 := fits (by decide) (by rw [kOf]; decide) (by decide) (by decide) (by decide)
theorem at_lOf {W : World} {g : Nat} {cur : Array Value} (h : W.heap[g]? = some (.cells cur 90 (0, 0))) (ht : cur.toList.take 3 = pfCells dK4.L) : FilesAt W (some ⟨g, 0, none⟩) lOf ∧ W.cell? ⟨g, 1, none⟩ = some (.string ⟨#[97, 98, 99, 100, 101, 102, 103, 104]⟩) ∧ W.cell? ⟨g, 2, none⟩ = some (.int .i64 4) := by
  rw [kL4.1] at ht
  have hc : ∀ i v, i < 3 → (cur.toList.take 3)[i]? = some v → W.cell? ⟨g, i, none⟩ = some v := fun i v hi hv => by
    refine (cell_of_row _ _ i _ _ _ h).trans ?_
    rw [List.getElem?_take_of_lt hi] at hv
    simpa using hv
  have c0 := hc 0 _ (by omega) (by rw [ht]; rfl)
  have c1 := hc 1 _ (by omega) (by rw [ht]; rfl)
  have c2 := hc 2 _ (by omega) (by rw [ht]; rfl)
  refine ⟨fun i hi => ?_, c1, c2⟩
  obtain rfl : i = 0 := by have : i < 1 := hi; omega
  exact ⟨g, 0, rfl, (Array.getElem?_eq_some_iff.1 h).1, c0, c1, c2⟩

end Go.Proofs.YtoieacmipejfeaaGreatDoor
