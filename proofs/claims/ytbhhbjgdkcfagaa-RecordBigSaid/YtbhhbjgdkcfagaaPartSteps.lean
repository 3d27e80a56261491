/- The contracts of package part's steps and areEntries. -/
import Derived.Test.YtbhhbjgdkcfagaaPart
import Derived.RegionIn
namespace Go.Proofs.Ytbhhbjgdkcfagaa
open Go.RowKit Go.Shelf
set_option linter.unusedVariables false
attribute [local go_sem] Oper.semAt_some wide_fn wide_round_fn

def stepsOf : Option Int → List EntryC → List (EntryC × Int)
  | _, [] => []
  | p, e :: r => (e, match p with | none => 1 | some q => wrap64 (e.i - q)) :: stepsOf (some e.i) r
def prevOf (es : List EntryC) : Nat → Option Int
  | 0 => none
  | k + 1 => (es[k]?).map (·.i)
def stepEnc (p : EntryC × Int) : Array Value := #[.agg #[.int .i64 p.1.i, .int .i64 p.1.t, .string p.1.d], .int .i64 p.2]
/-- The blocks that a slice lies in. -/
def inBlkE (a : Option Addr) (len : Nat) (k : Nat) : Prop := ∃ b off, a = some ⟨b, off, none⟩ ∧ 0 < len ∧ k = b

set_option maxRecDepth 100000 in
set_option maxHeartbeats 1000000 in
theorem steps_iter (Bl : Nat) (a : Option Addr) (len cap : Nat) (l : List EntryC) (hl : l.length = len) (hm : len < 1000000) (S : Nat → Prop) (hS : S Bl) (hSb : ∀ k, inBlkE a len k → S k) (w0 : World)
    (hBl : w0.cell? ⟨Bl, 0, none⟩ = some (.slice a len cap)) (hrow : RowV w0 a len 3 (entryCells l)) :
    Iter Try.prog 60 #[.pointer (some ⟨Bl, 0, none⟩)] stepEnc (stepsOf none l) S (fun _ => False) w0 := by
  intro L J Jx W hW hJs _ hY h0
  have hcl0 := hW.cell hBl hS
  obtain ⟨hlen, hml, hcs⟩ := hrow
  refine callsIn_of_wp Try.func60 rfl trivial ?_ rfl
  simp only [Try.ntmps60, List.size_toArray, List.length_cons, List.length_nil, Nat.reduceAdd, Nat.reduceSub, Array.replicate_succ, Array.replicate_zero, List.push_toArray, List.append_toArray, List.nil_append, List.cons_append]
  gi_wp2
  gi_loopw [8] (fun q wr => ∃ (k : Nat) (pre : List (EntryC × Int)), k ≤ len ∧ q = .int .i64 k ∧ stepsOf none l = pre ++ stepsOf (prevOf l k) (l.drop k) ∧ J pre wr ∧ Rd W.heap.size S W wr) (fun q _ => len - (intOf q).toNat)
  case atStart => exact ⟨0, [], by omega, rfl, rfl, h0, Rd.refl _ _ _⟩
  case round =>
    obtain ⟨k, pre, hk, rfl, hX, hJ, hR⟩ := hrel
    have HX0 := Lib.hid hX
    clear hX
    by_cases hlt : k < len
    · obtain ⟨b, off, rfl, hb, hc⟩ := hcs (by omega)
      have hSbb := hSb b ⟨b, off, rfl, by omega, rfl⟩
      have hkl : k < l.length := by omega
      have cell : ∀ (W2 : World), Rd W.heap.size S W W2 → ∀ m (hm : m < l.length) i v, i < 3 → (l[m].cells)[i]? = some v → W2.cell? ⟨b, off + (m * 3 + i), none⟩ = some v := fun W2 h2 m hm i v hi hv =>
        h2.cell (hW.cell (RowV.at_ (len := len) (sz := 3) hc (by rw [entryCells, flat_at EntryC.cells 3 EntryC.len l m i hm hi]; exact hv)) hSbb) hSbb
      have c0 : wr.cell? ⟨b, off + k * 3, none⟩ = some (.int .i64 l[k].i) := cell wr hR k hkl 0 _ (by decide) rfl
      have c1 : wr.cell? ⟨b, off + k * 3 + 1, none⟩ = some (.int .i64 l[k].t) := cell wr hR k hkl 1 _ (by decide) rfl
      have c2 : wr.cell? ⟨b, off + k * 3 + 2, none⟩ = some (.string l[k].d) := cell wr hR k hkl 2 _ (by decide) rfl
      have HD := Lib.hid (List.drop_eq_getElem_cons hkl)
      have HPN := Lib.hid (show prevOf l (k + 1) = some l[k].i by simp [prevOf, List.getElem?_eq_getElem hkl])
      by_cases hz : k = 0
      · subst hz
        simp only [Nat.zero_mul, Nat.add_zero] at c0 c1 c2
        have HX := Lib.hid (show stepsOf none l = pre ++ ((l[0], 1) :: stepsOf (prevOf l 1) (l.drop 1)) by rw [HX0.out, HD.out, HPN.out]; rfl)
        clear cell hc
        generalize l[0] = x at *
        have hy0 := hY _ _ _ (wr.alloc (.cells #[.int .i64 x.i, .int .i64 x.t, .string x.d] 37)) HX.out (hJs _ _ _ hJ (Moves.alloc _ _))
        obtain ⟨fn, tmps, assign, body, hy, hR1⟩ := hy0
        dsimp only [stepEnc] at hy
        gi_wp2
        refine (roundIn_wide_n hR1).mono ?_
        rintro e W3 (⟨rfl, hJ3, hk3⟩ | ⟨rfl, hJx3⟩)
        · gi_wp2
          go_roundw
          case rel => exact ⟨1, _, by omega, rfl, by rw [HX.out]; simp, hJ3, (hR.alloc _).trans hk3⟩
          case measure => simp [intOf]; omega
        · gi_wp2
          refine bodyPost_ret (results_none rfl _ _ _) rfl ?_
          exact ⟨⟨_, rfl⟩, .inr ⟨_, _, _, HX.out, hJx3⟩⟩
      · obtain ⟨j, rfl⟩ : ∃ j, k = j + 1 := ⟨k - 1, by omega⟩
        have hjl : j < l.length := by omega
        have HX := Lib.hid (show stepsOf none l = pre ++ ((l[j + 1], wrap64 (l[j + 1].i - l[j].i)) :: stepsOf (prevOf l (j + 1 + 1)) (l.drop (j + 1 + 1))) by
          rw [HX0.out, HD.out, HPN.out]
          simp [stepsOf, prevOf, List.getElem?_eq_getElem hjl])
        have p0 : (wr.alloc (.cells #[.int .i64 l[j + 1].i, .int .i64 l[j + 1].t, .string l[j + 1].d] 37)).cell? ⟨b, off + j * 3, none⟩ = some (.int .i64 l[j].i) := cell _ (hR.alloc _) j hjl 0 _ (by decide) rfl
        have pL := (hR.alloc (.cells #[.int .i64 l[j + 1].i, .int .i64 l[j + 1].t, .string l[j + 1].d] 37)).cell hcl0 hS
        clear cell hc
        generalize l[j + 1] = x at *
        generalize l[j] = y at *
        have hy0 := hY _ _ _ ((wr.alloc (.cells #[.int .i64 x.i, .int .i64 x.t, .string x.d] 37)).drew) HX.out (hJs _ _ _ hJ (Moves.below ((bel_alloc (Below.refl _ _) _).drew)))
        obtain ⟨fn, tmps, assign, body, hy, hR1⟩ := hy0
        dsimp only [stepEnc] at hy
        gi_wp2
        gi_region
        all_goals
          gi_wp2
          refine (roundIn_wide_n hR1).mono ?_
          rintro e W3 (⟨rfl, hJ3, hk3⟩ | ⟨rfl, hJx3⟩)
          · gi_wp2
            go_roundw
            case rel => exact ⟨j + 1 + 1, _, by omega, rfl, by rw [HX.out]; simp, hJ3, (((hR.alloc _).drew)).trans hk3⟩
            case measure => simp [intOf]; omega
          · gi_wp2
            refine bodyPost_ret (results_none rfl _ _ _) rfl ?_
            exact ⟨⟨_, rfl⟩, .inr ⟨_, _, _, HX.out, hJx3⟩⟩
    · obtain rfl : k = len := by omega
      have HX := Lib.hid (show stepsOf none l = pre by rw [HX0.out, List.drop_of_length_le (by omega)]; cases (prevOf l k) <;> simp [stepsOf])
      gi_wp2
      refine bodyPost_end (results_none rfl _ _ _) rfl ?_
      exact ⟨⟨_, rfl⟩, .inl (by rw [HX.out]; exact hJ)⟩

end Go.Proofs.Ytbhhbjgdkcfagaa
