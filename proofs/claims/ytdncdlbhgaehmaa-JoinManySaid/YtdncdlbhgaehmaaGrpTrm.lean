/- The contracts of package group's Same, Term, Entries. -/
import Derived.Test.YtdncdlbhgaehmaaGrp
import Derived.Test.YtdncdlbhgaehmaaPartSame
namespace Go.Proofs.Ytdncdlbhgaehmaa
open Go.RowKit Go.Shelf
set_option linter.unusedVariables false
attribute [local go_sem] Oper.semAt_some wide_fn wide_round_fn

theorem eqlHard (a b c d e f : Int) (w : World) : (binOp .eql 39 (.agg #[.int .i64 a, .int .i64 b, .int .i64 c]) (.agg #[.int .i64 d, .int .i64 e, .int .i64 f])).run Try.prog w = .ok (.bool (decide (a = d ∧ b = e ∧ c = f))) w := by
  rw [run_eql_struct, eqHard]; rfl
def sameG (g h : GM) : Bool := decide (g = h)
theorem sameG_iff {g h : GM} : sameG g h = true ↔ ((g.id = h.id ∧ g.fi = h.fi ∧ g.te = h.te) ∧ (g.ht = h.ht ∧ g.hv = h.hv ∧ g.hc = h.hc)) ∧ g.l = h.l := by
  obtain ⟨_, _, _, _, _, _, _⟩ := g; obtain ⟨_, _, _, _, _, _, _⟩ := h
  simp only [sameG, decide_eq_true_eq, GM.mk.injEq]; grind

set_option maxRecDepth 100000 in
set_option maxHeartbeats 4000000 in
theorem grpSame_any (id fi te ht hv hc : Int) (l : List EntryC) (a : Option Addr) (cap : Nat) (id2 fi2 te2 ht2 hv2 hc2 : Int) (l2 : List EntryC) (a2 : Option Addr) (cap2 : Nat) (w : World) (hg : HasG w a ⟨id, fi, te, ht, hv, hc, l⟩) (hh : HasG w a2 ⟨id2, fi2, te2, ht2, hv2, hc2, l2⟩) : Gives Try.prog 42 #[.agg #[.int .i64 id, .int .i64 fi, .int .i64 te, .int .i64 ht, .int .i64 hv, .int .i64 hc, .slice a l.length cap], .agg #[.int .i64 id2, .int .i64 fi2, .int .i64 te2, .int .i64 ht2, .int .i64 hv2, .int .i64 hc2, .slice a2 l2.length cap2]] w (.bool (sameG ⟨id, fi, te, ht, hv, hc, l⟩ ⟨id2, fi2, te2, ht2, hv2, hc2, l2⟩)) := by
  have GE := Lib.hid (fun W (hB : Below w.heap.size w W) => equal_any a a2 l.length l2.length cap cap2 l l2 rfl rfl hg.1 hh.1 W (hg.2.below hB) (hh.2.below hB))
  have HE := Lib.hid (eqlHard ht hv hc ht2 hv2 hc2)
  have HA := Lib.hid (show Below w.heap.size w ((w.alloc (.cells #[.int .i64 id, .int .i64 fi, .int .i64 te, .int .i64 ht, .int .i64 hv, .int .i64 hc, .slice a l.length cap] 65)).alloc (.cells #[.int .i64 id2, .int .i64 fi2, .int .i64 te2, .int .i64 ht2, .int .i64 hv2, .int .i64 hc2, .slice a2 l2.length cap2] 65)) from bel_alloc (bel_alloc (Below.refl _ _) _) _)
  have HV := Lib.hid (sameG_iff (g := ⟨id, fi, te, ht, hv, hc, l⟩) (h := ⟨id2, fi2, te2, ht2, hv2, hc2, l2⟩))
  have hYES : id = id2 → fi = fi2 → te = te2 → (ht = ht2 ∧ hv = hv2 ∧ hc = hc2) → sameG ⟨id, fi, te, ht, hv, hc, l⟩ ⟨id2, fi2, te2, ht2, hv2, hc2, l2⟩ = decide (l = l2) := fun h1 h2 h3 h4 => by
    rw [Bool.eq_iff_iff, HV.out, decide_eq_true_iff]; exact ⟨fun h => h.2, fun h => ⟨⟨⟨h1, h2, h3⟩, h4⟩, h⟩⟩
  have HY := Lib.hid hYES
  have hNO : ¬ (id = id2 ∧ fi = fi2 ∧ te = te2 ∧ (ht = ht2 ∧ hv = hv2 ∧ hc = hc2)) → sameG ⟨id, fi, te, ht, hv, hc, l⟩ ⟨id2, fi2, te2, ht2, hv2, hc2, l2⟩ = false := fun hn => by
    rw [Bool.eq_false_iff, Ne, HV.out]; intro h; exact hn ⟨h.1.1.1, h.1.1.2.1, h.1.1.2.2, h.1.2⟩
  have HN := Lib.hid hNO
  clear hg hh HV hYES hNO
  unfold Gives
  by_cases h1 : id = id2
  · have t1 : (id == id2) = true := by rw [beq_iff_eq]; exact h1
    by_cases h2 : fi = fi2
    · have t2 : (fi == fi2) = true := by rw [beq_iff_eq]; exact h2
      by_cases h3 : te = te2
      · have t3 : (te == te2) = true := by rw [beq_iff_eq]; exact h3
        by_cases h4 : ht = ht2 ∧ hv = hv2 ∧ hc = hc2
        · have t4 := fun W => (HE.out W).trans (by rw [decide_eq_true h4])
          rw [HY.out h1 h2 h3 h4]
          generalize decide (l = l2) = bl at *
          clear h1 h2 h3 h4
          go_enter Try.func42, Try.ntmps42
          go_wp2_with (go_at_call 61; ((with_reducible refine (GE.out _ HA.out).mono ?_); rintro e w1 ⟨rfl, hB1⟩))
          go_ret
          exact ⟨by simp, bel2 HA.out hB1⟩
        · have t4 := fun W => (HE.out W).trans (by rw [decide_eq_false h4])
          rw [HN.out (fun h => h4 h.2.2.2)]
          clear h1 h2 h3 h4
          go_enter Try.func42, Try.ntmps42
          go_wp2
          go_ret
          exact ⟨by simp, HA.out⟩
      · have t3 : (te == te2) = false := by rw [beq_eq_false_iff_ne]; exact h3
        have t4 := HE.out
        rw [HN.out (fun h => h3 h.2.2.1)]
        clear h1 h2 h3
        go_enter Try.func42, Try.ntmps42
        go_wp2
        go_ret
        exact ⟨by simp, HA.out⟩
    · have t2 : (fi == fi2) = false := by rw [beq_eq_false_iff_ne]; exact h2
      have t4 := HE.out
      rw [HN.out (fun h => h2 h.2.1)]
      clear h1 h2
      go_enter Try.func42, Try.ntmps42
      go_wp2
      go_ret
      exact ⟨by simp, HA.out⟩
  · have t1 : (id == id2) = false := by rw [beq_eq_false_iff_ne]; exact h1
    have t4 := HE.out
    rw [HN.out (fun h => h1 h.1)]
    clear h1
    go_enter Try.func42, Try.ntmps42
    go_wp2
    go_ret
    exact ⟨by simp, HA.out⟩

/-- The term of an index, or why there is none. -/
def termG (g : GM) (i : Int) : Int × Int := if i < g.fi - 1 then (0, 15) else if i = g.fi - 1 ∧ g.te = 0 then (0, 15) else if i = g.fi - 1 then (g.te, 0) else if lastG g < i then (0, 16) else (entT g.l i, 0)
theorem iterK_of {P : Program} {g : Nat} {lb : Array Value} {α : Type} {encs : α → Array Value} {xs : List α} {S T : Nat → Prop} {w : World} (h : Iter P g lb encs xs S (fun _ => False) w) : IterK P g lb encs xs S T (fun _ => True) w := by
  intro l J Jx W hW hJ hJx hY h0
  refine (h l J Jx W hW (fun s => (hJ s).noT) (fun s => (hJx s).noT) hY h0).mono ?_
  rintro e W' ⟨hv, h1 | h1⟩
  · exact ⟨hv, .inl ⟨h1, trivial⟩⟩
  · exact ⟨hv, .inr h1⟩
/-- Which entries, or why none. -/
def entsG (g : GM) (lo hi : Int) : List EntryC × Int := if hi < lo then ([], 11) else if lo < g.fi then ([], 15) else if lastG g + 1 < hi then ([], 16) else if lo = hi then ([], 0) else (btw g.l lo (hi - 1), 0)
def RowPost (w : World) (xs : List EntryC) (c : Int) (e : Ending) (w' : World) : Prop := ∃ a cap, e = .returned (.tuple #[.slice a xs.length cap, .int .i64 c]) ∧ RowV w' a xs.length 3 (entryCells xs) ∧ Below w.heap.size w w'

end Go.Proofs.Ytdncdlbhgaehmaa
