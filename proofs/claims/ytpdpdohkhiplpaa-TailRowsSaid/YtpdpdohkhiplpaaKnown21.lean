/- What the twenty-first layer's laws hold by themselves: the examples. -/
import Derived.Test.YtpdpdohkhiplpaaTail
namespace Go.Proofs.Ytpdpdohkhiplpaa
open Go.RowKit Go.Shelf
set_option linter.unusedVariables false

theorem judge_at (last : Bool) (at_ c a b : Int) (h : judgeB last at_ c = (a, b)) (w : World) : Gives Try.prog 26 #[.bool last, .int .i64 at_, .int .i64 c] w (.tuple #[.int .i64 a, .int .i64 b]) := by
  have := judge_any last at_ c w
  rwa [h] at this
theorem seqs_lit (l : List FoundC) (from_ : Int) (r : Bool) (h0 : -1000000000000000000 < from_) (h1 : from_ < 1000000000000000000) (hs : ∀ f ∈ l, -1000000000000000000 < f.seq ∧ f.seq < 1000000000000000000) (n cap : Nat) (hl : l.length = n) (hm : n < 1000000000)
    (e : TypeId) (cs : Array Value) (hcs : cs.toList = foundCells l) (hr : seqsB l from_ = r) (W : World) : Gives Try.prog 25 #[.slice (some ⟨W.heap.size, 0, none⟩) n cap, .int .i64 from_] (W.alloc (.cells cs e)) (.bool r) := by
  have hsz : cs.size = n * 4 := by
    have := congrArg List.length hcs
    rw [foundCells, flat_len FoundC.cells 4 FoundC.len, hl] at this
    simpa using this
  have := seqs_any l from_ h0 h1 hs (some ⟨W.heap.size, 0, none⟩) n cap hl hm (W.alloc (.cells cs e)) (by rw [← hcs]; exact rowV_new W e cs n 4 hsz (by unfold maxLen; omega))
  rwa [hr] at this

set_option maxRecDepth 100000 in
set_option maxHeartbeats 2000000 in
theorem tail_known (w : World) : Gives Try.prog 24 #[] w (.bool true) := by
  have J1 := Lib.hid (judge_at true 40 3 40 0 (by decide))
  have J2 := Lib.hid (judge_at false 40 3 0 21 (by decide))
  have J3 := Lib.hid (judge_at true 0 3 0 21 (by decide))
  have J4 := Lib.hid (judge_at false 40 2 40 0 (by decide))
  have S1 := Lib.hid (seqs_lit [⟨4, none, 0, 0, 0, 0⟩, ⟨5, none, 0, 0, 0, 0⟩] 4 true (by decide) (by decide) (by simp) 2 2 rfl (by decide) 53 #[.int .i64 4, .slice none 0 0, .int .i64 0, .int .i64 0, .int .i64 5, .slice none 0 0, .int .i64 0, .int .i64 0] rfl (by decide))
  have S2 := Lib.hid (seqs_lit [⟨4, none, 0, 0, 0, 0⟩] 3 false (by decide) (by decide) (by simp) 1 1 rfl (by decide) 53 #[.int .i64 4, .slice none 0 0, .int .i64 0, .int .i64 0] rfl (by decide))
  have S3 := Lib.hid (show ∀ W, Gives Try.prog 25 #[.slice none 0 0, .int .i64 7] W (.bool true) from fun W => seqs_any [] 7 (by decide) (by decide) (by simp) none 0 0 rfl (by decide) W (RowV.nil _ _ _))
  unfold Gives
  go_enter Try.func24, Try.ntmps24
  go_wp2_with (first
    | (go_at_call 26; ((with_reducible refine (J1.out _).mono ?_); rintro e w1 ⟨rfl, hB1⟩))
    | (go_at_call 26; ((with_reducible refine (J2.out _).mono ?_); rintro e w2 ⟨rfl, hB2⟩))
    | (go_at_call 26; ((with_reducible refine (J3.out _).mono ?_); rintro e w3 ⟨rfl, hB3⟩))
    | (go_at_call 26; ((with_reducible refine (J4.out _).mono ?_); rintro e w4 ⟨rfl, hB4⟩))
    | (go_at_call 25; ((with_reducible refine (S1.out _).mono ?_); rintro e w5 ⟨rfl, hB5⟩))
    | (go_at_call 25; ((with_reducible refine (S2.out _).mono ?_); rintro e w6 ⟨rfl, hB6⟩))
    | (go_at_call 25; ((with_reducible refine (S3.out _).mono ?_); rintro e w7 ⟨rfl, hB7⟩)))
  go_ret
  exact ⟨rfl, bel2 (bel2 (bel2 (bel_alloc (bel2 (bel_alloc (bel2 (bel2 (bel2 hB1 hB2) hB3) hB4) _) (by simpa using hB5)) _) hB6) hB7) (Below.refl _ _)⟩

end Go.Proofs.Ytpdpdohkhiplpaa
