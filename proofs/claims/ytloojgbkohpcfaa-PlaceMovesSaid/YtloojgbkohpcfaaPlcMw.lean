/- The states of law PlaceMoves in memory: the log, the part that was appended, in its box. -/
import Derived.Test.YtloojgbkohpcfaaPlcMv
import Derived.Test.YtloojgbkohpcfaaBoxE
namespace Go.Proofs.Ytloojgbkohpcfaa
open Go.RowKit Go.Shelf
set_option linter.unusedVariables false

abbrev mvP (id : Int) (va : Option Addr) (k vc : Nat) : Array Value := #[.int .i64 id, .int .i64 1, .slice va k vc, .int .i64 0, .int .i64 0, .int .i64 0, .int .i64 0, .int .i64 0, .bool false, .bool false]
def mvS (w : World) (id : Int) (d q X k : Nat) (va : Option Addr) (vc : Nat) (L : LG) (W : World) : Prop :=
  LgK w d q L W ∧ W.heap[X]? = some (.cells (mvP id va k vc) 39 (0, 0)) ∧ RowV W va k 3 (entryCells (mvE k)) ∧ d < X ∧ q < X ∧ (∀ j, inBlkE va k j → X < j) ∧ k ≤ vc
theorem mvS.below {w W W' : World} {id : Int} {d q X k : Nat} {va : Option Addr} {vc : Nat} {L : LG} (h : mvS w id d q X k va vc L W) (hB : Below W.heap.size W W') : mvS w id d q X k va vc L W' :=
  ⟨h.1.below hB, (hB.block _ (heap_lt h.2.1)).trans h.2.1, h.2.2.1.below hB, h.2.2.2⟩
theorem mvS.turn {w W W' : World} {id : Int} {d q X k : Nat} {va : Option Addr} {vc : Nat} {L L' : LG} (h : mvS w id d q X k va vc L W) (hK : LgK w d q L' W') (hF : FrameT (fun j => j = d ∨ j = q) W W') : mvS w id d q X k va vc L' W' := by
  obtain ⟨h1, h2, h3, h4, h5, h6, h7⟩ := h
  refine ⟨hK, hF.get h2 (by omega), rowV_frame h3 hF (fun j hj hT => ?_), h4, h5, h6, h7⟩
  have := h6 j hj
  omega
theorem mvS_of {w w2 W : World} {id : Int} {d q k : Nat} {v : Value} {L : LG} (hK : LgK w d q L w2) (hq : q < d) (hd : d < w2.heap.size) (h : boxE w2 w2.heap.size [.int .i64 id, .int .i64 1] [.int .i64 0, .int .i64 0, .int .i64 0, .int .i64 0, .int .i64 0, .bool false, .bool false] v (mvE k) W) : ∃ va vc, v = .slice va k vc ∧ mvS w id d q w2.heap.size k va vc L W := by
  have hB : Below w2.heap.size w2 W := h.1
  have hP := h.2.1
  obtain ⟨va, vc, e, hc, hr⟩ := rowV_own h.2.2.1
  rw [mvE_len] at e hc hr
  subst e
  refine ⟨va, vc, rfl, hK.below hB, hP, hr, hd, by omega, fun j hj => ?_, hc⟩
  obtain ⟨b, off, e, h0, rfl⟩ := hj
  have := (ownBlock_ltE h.2.2.1 (j := j) (by rw [e]; rfl)).1
  omega
theorem mvDo {w W : World} {id : Int} {d q X k N : Nat} {va : Option Addr} {vc : Nat} {L : LG} (h : mvS w id d q X k va vc L W) (hok : okLG N L) (hN : N ≤ 100000) (p : PartC) (pl : List EntryC) (hpe : HasE W p pl) (hpc : pl.length ≤ p.cap) (hpl : pl.length < 100000) (s t : Int) :
    Calls Try.prog 13 #[.pointer (some ⟨d, 0, none⟩), p.val, .agg #[.int .i64 s, .int .i64 t]] W fun e w' => (∃ v, e = .returned v) ∧ mvS w id d q X k va vc (doLG L p pl s t) w' ∧ FrameT (fun k => k = d ∨ k = q) W w' := by
  refine (pdoK_any h.1 hok hN p pl hpe hpc hpl s t).mono ?_
  rintro e w' ⟨h1, h2, h3⟩
  exact ⟨h1, h.turn h2 h3, h3⟩
theorem mvOk {id : Int} (h : 0 ≤ id ∧ id ≤ 999) {k : Nat} (hk : k ≤ 6) : okLG 10 ⟨⟨id, 4, 1, 0, 0, 0, []⟩, [⟨0, 1, 16⟩]⟩ ∧ okLG 10 ⟨⟨id, 4, 1, 5, 0, 0, []⟩, [⟨-1, 1, 40⟩, ⟨0, 1, 16⟩]⟩ ∧ okLG 10 ⟨mvG id k, mvF k⟩ := by
  refine ⟨⟨spr_new h ⟨by decide, by decide⟩ ⟨by decide, by decide⟩, by simp, by simp⟩, ⟨isSp_iff.2 ⟨⟨h, ⟨by show (1 : Int) ≤ 4; omega, by show (4 : Int) ≤ _; omega⟩, ⟨by show (0 : Int) ≤ 1; omega, by show (1 : Int) ≤ _; omega⟩⟩, by kernel_rfl, rfl⟩, by simp, by simp⟩, mvG_isSp h hk, by show (mvE k).length ≤ 10; rw [mvE_len]; omega, ?_⟩
  have := putAll_len 1 60 ((mvE k).map EntryC.i) [⟨-1, 1, 40⟩, ⟨0, 1, 16⟩]
  rw [List.length_map, mvE_len] at this
  show (putAll 1 60 _ _).length ≤ 10
  simp only [List.length_cons, List.length_nil] at this
  omega
theorem mvD1 {w W : World} {id : Int} {d q X k : Nat} {va : Option Addr} {vc : Nat} (hid : 0 ≤ id ∧ id ≤ 999) (hk : k ≤ 6) (h : mvS w id d q X k va vc ⟨newP id, []⟩ W) :
    Calls Try.prog 13 #[.pointer (some ⟨d, 0, none⟩), .agg #[.int .i64 id, .int .i64 4, .slice none 0 0, .int .i64 0, .int .i64 0, .int .i64 0, .int .i64 3, .int .i64 1, .bool false, .bool false], .agg #[.int .i64 1, .int .i64 16]] W fun e w' => (∃ v, e = .returned v) ∧ mvS w id d q X k va vc ⟨⟨id, 4, 1, 0, 0, 0, []⟩, [⟨0, 1, 16⟩]⟩ w' := by
  have := mvDo h (newP_ok hid) (by decide) ⟨id, 4, none, 0, 0, 0, 0, 0, 3, 1, false, false⟩ [] (hasE_nil rfl rfl) (by simp) (by simp) 1 16
  rw [mv1 hid] at this
  exact this.mono (fun e w' h => ⟨h.1, h.2.1⟩)
theorem mvD2 {w W : World} {id : Int} {d q X k : Nat} {va : Option Addr} {vc : Nat} (hid : 0 ≤ id ∧ id ≤ 999) (hk : k ≤ 6) (h : mvS w id d q X k va vc ⟨⟨id, 4, 1, 0, 0, 0, []⟩, [⟨0, 1, 16⟩]⟩ W) :
    Calls Try.prog 13 #[.pointer (some ⟨d, 0, none⟩), .agg #[.int .i64 id, .int .i64 2, .slice none 0 0, .int .i64 5, .int .i64 0, .int .i64 0, .int .i64 0, .int .i64 0, .bool false, .bool false], .agg #[.int .i64 1, .int .i64 40]] W fun e w' => (∃ v, e = .returned v) ∧ mvS w id d q X k va vc ⟨⟨id, 4, 1, 5, 0, 0, []⟩, [⟨-1, 1, 40⟩, ⟨0, 1, 16⟩]⟩ w' := by
  have := mvDo h (mvOk hid hk).1 (by decide) ⟨id, 2, none, 0, 0, 5, 0, 0, 0, 0, false, false⟩ [] (hasE_nil rfl rfl) (by simp) (by simp) 1 40
  rw [mv2 hid] at this
  exact this.mono (fun e w' h => ⟨h.1, h.2.1⟩)
theorem mvD3 {w W : World} {id : Int} {d q X k : Nat} {va : Option Addr} {vc : Nat} (hid : 0 ≤ id ∧ id ≤ 999) (h1 : 1 ≤ k) (hk : k ≤ 6) (h : mvS w id d q X k va vc ⟨⟨id, 4, 1, 5, 0, 0, []⟩, [⟨-1, 1, 40⟩, ⟨0, 1, 16⟩]⟩ W) :
    Calls Try.prog 13 #[.pointer (some ⟨d, 0, none⟩), .agg (mvP id va k vc), .agg #[.int .i64 1, .int .i64 60]] W fun e w' => (∃ v, e = .returned v) ∧ mvS w id d q X k va vc ⟨mvG id k, mvF k⟩ w' := by
  have := mvDo h (mvOk hid hk).2.1 (by decide) ⟨id, 1, va, k, vc, 0, 0, 0, 0, 0, false, false⟩ (mvE k) ⟨mvE_len k, (show k < 1000000 by omega), h.2.2.1⟩ (by rw [mvE_len]; exact h.2.2.2.2.2.2) (by rw [mvE_len]; omega) 1 60
  rw [mv3 hid h1 hk] at this
  exact this.mono (fun e w' h => ⟨h.1, h.2.1⟩)
theorem mvD4 {w W : World} {id : Int} {d q X k : Nat} {va : Option Addr} {vc : Nat} (hid : 0 ≤ id ∧ id ≤ 999) (hk : k ≤ 6) (b : Nat → Bool) (mark head : Bool) (fa : Option Addr) (fc : Nat) (h : mvS w id d q X k va vc ⟨mvG id k, mvF k⟩ W) (hr : RowV W fa (mvM b k).length 3 (entryCells (mvM b k))) (hfc : (mvM b k).length ≤ fc) :
    Calls Try.prog 13 #[.pointer (some ⟨d, 0, none⟩), .agg #[.int .i64 id, .int .i64 6, .slice fa (mvM b k).length fc, .int .i64 (if head = true then 5 else 0), .int .i64 0, .int .i64 0, .int .i64 (if mark = true then 3 else 0), .int .i64 (if mark = true then 1 else 0), .bool mark, .bool head], .agg #[.int .i64 9, .int .i64 99]] W fun e w' => (∃ v, e = .returned v) ∧ (∃ F, LgK w d q ⟨mvG id k, F⟩ w' ∧ F.length ≤ 30 ∧ MvS (spotsL (mvG id k) F) id b mark head k) ∧ FrameT (fun k => k = d ∨ k = q) W w' := by
  have hl := mvM_len b k
  have := mvDo h (mvOk hid hk).2.2 (by decide) ⟨id, 6, fa, (mvM b k).length, fc, if head = true then 5 else 0, 0, 0, if mark = true then 3 else 0, if mark = true then 1 else 0, mark, head⟩ (mvM b k) ⟨rfl, (show (mvM b k).length < 1000000 by omega), hr⟩ hfc (by omega) 9 99
  have h9 := doLG_ok (mvOk hid hk).2.2 ⟨id, 6, fa, (mvM b k).length, fc, if head = true then 5 else 0, 0, 0, if mark = true then 3 else 0, if mark = true then 1 else 0, mark, head⟩ (mvM b k) 9 99
  rw [mv4 hid hk] at this h9
  exact this.mono (fun e w' h => ⟨h.1, ⟨_, h.2.1.1, by have := h9.2.2; dsimp only at this ⊢; omega, mvX_of⟩, h.2.2⟩)

end Go.Proofs.Ytloojgbkohpcfaa
