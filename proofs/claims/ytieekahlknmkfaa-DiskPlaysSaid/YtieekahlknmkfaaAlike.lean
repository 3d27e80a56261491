/- Both disks tell the same: ladelaw8.alike; ladelaw8.does at every step. -/
import Derived.Test.YtieekahlknmkfaaDoes
namespace Go.Proofs.Ytieekahlknmkfaa
open Go.ChangeShapes Go.WideShapes Go.ChangeAt Go.RowKit Go.Shelf
set_option linter.unusedVariables false
attribute [local go_sem] Oper.semAt_some wide_fn wide_round_fn

theorem eqFile (n b : ByteArray) (k : Int) (w : World) : (Op.equalIn 10000 26 (.agg #[.string n, .string b, .int .i64 k]) (.agg #[.string n, .string b, .int .i64 k])).run Try.prog w = .ok true w := by
  have hS : Try.prog.underlying 26 = some (.struct (Try.prog.fieldsOf 26)) := by kernel_rfl
  rw [show (10000 : Nat) = 9999 + 1 from rfl, run_equalIn_agg w 9999 26 _ _ hS (by kernel_rfl)]
  simp only [Program.fieldsOf, Try.underlying26]
  go_simp
theorem neqFile (n b : ByteArray) (k : Int) (w : World) : (binOp .neq 26 (.agg #[.string n, .string b, .int .i64 k]) (.agg #[.string n, .string b, .int .i64 k])).run Try.prog w = .ok (.bool false) w := by
  rw [run_neq_struct, eqFile]; rfl
theorem below_undrew8 {W W' : World} (h : Below W.drew.heap.size W.drew W') : Below W.heap.size W W' := ⟨h.os, h.tape, h.output, h.size, h.block⟩
theorem BoX.head {w W : World} {d r : Nat} {Dd Dr : PD} {P : Nat → Prop} (h : BoX w d r Dd Dr P W) : ∃ a cap, W.cell? ⟨r, 1, none⟩ = some (.slice a Dr.L.length cap) ∧ W.cell? ⟨r, 2, none⟩ = some (.int .i64 Dr.steps) ∧ r < W.heap.size ∧ PFat W a Dr.L := by
  obtain ⟨T, v, B1, B2, b1, b2, h1, h2, hd, hB, hP⟩ := h
  obtain ⟨c0, c1, c2, c3⟩ := cells4 h2.cell
  obtain ⟨a, cap, hv, -, -, hat⟩ := h2.open
  exact ⟨a, cap, by rw [c1, hv], c2, h2.lt (.inl rfl), hat⟩
set_option maxRecDepth 100000 in
set_option maxHeartbeats 4000000 in
theorem alike_any {w W : World} {d r n : Nat} {D : PD} {P : Nat → Prop} (h : BoX w d r D D P W) (hf : Fit D n) :
    Calls Try.prog 23 #[.pointer (some ⟨d, 0, none⟩), .pointer (some ⟨r, 0, none⟩)] W fun e w' => e = .returned (.bool true) ∧ Below W.heap.size W w' := by
  have GA := Lib.hid (allB8 h hf)
  have GU := Lib.hid (fun W' (hB : Below W.heap.size W W') => usedB (h.below hB) hf)
  have GV := Lib.hid (fun W' (hB : Below W.heap.size W W') => usedBR (h.below hB) hf)
  have GS := Lib.hid (fun W' (hB : Below W.heap.size W W') => stepsB (h.below hB))
  obtain ⟨a, cap, hc1, hc2, hr, hat⟩ := h.head
  have hll := hf.len
  have HC := Lib.hid (fun W' (hB : Below W.heap.size W W') => And.intro ((hB.cell (p := ⟨r, 1, none⟩) hr).trans hc1) ((hB.cell (p := ⟨r, 2, none⟩) hr).trans hc2))
  obtain ⟨L, hL⟩ : ∃ L, L = D.L := ⟨_, rfl⟩
  rw [← hL] at hc1 hat hll HC GA
  generalize usedL D.L = u at *
  generalize D.steps = st at *
  clear h hf hc1 hc2 hL
  go_enter Try.func23, Try.ntmps23
  go_wp2_with (go_at_call 29; ((with_reducible refine GA.out.mono ?_); rintro e w1 ⟨v, rfl, hrow, hB1⟩; obtain ⟨la, lc, rfl, -, hlr⟩ := rowV_own hrow; clear hrow))
  obtain ⟨c1, c2⟩ := HC.out w1 hB1
  go_region_held3 (fun W' => W'.cell? ⟨r, 1, none⟩ = some (.slice a L.length cap) ∧ W'.cell? ⟨r, 2, none⟩ = some (.int .i64 st)) (go_keep) (first
    | (go_at_call 28; ((with_reducible refine (GU.out _ ?hh).mono ?_); (case hh => first | exact hB1 | exact hB1.drew); rintro e w2 ⟨rfl, hB2⟩; have hB3 : Below w1.heap.size w1 w2 := (by first | exact hB2 | exact below_undrew8 hB2); have hB4 := bel2 hB1 hB3; obtain ⟨y1, y2⟩ := HC.out w2 hB4))
    | (go_at_call 63; ((with_reducible refine (GV.out _ ?hh).mono ?_); (case hh => first | exact hB4 | exact hB4.drew); rintro e w5 ⟨rfl, rfl⟩))
    | (go_at_call 34; ((with_reducible refine (GS.out _ ?hh).mono ?_); (case hh => first | exact hB4 | exact hB4.drew); rintro e w6 ⟨rfl, rfl⟩)))
  have hB6 : Below W.heap.size W w6 := by first | exact hB4 | exact hB4.drew
  have hB16 : Below w1.heap.size w1 w6 := by first | exact hB3 | exact hB3.drew
  have hl6 := pfat_of (hlr.below hB16) rfl
  have hr6 : PFat w6 a L := fun i hi => by
    obtain ⟨b, off, e, hb, e0, e1, e2⟩ := hat i hi
    exact ⟨b, off, e, Nat.lt_of_lt_of_le hb hB6.size, (hB6.cell (p := ⟨b, off + i * 3, none⟩) hb).trans e0, (hB6.cell (p := ⟨b, off + i * 3 + 1, none⟩) hb).trans e1, (hB6.cell (p := ⟨b, off + i * 3 + 2, none⟩) hb).trans e2⟩
  have hr6l : r < w6.heap.size := Nat.lt_of_lt_of_le hr hB6.size
  obtain ⟨q1, q2⟩ := HC.out w6 hB6
  clear c1 c2 y1 y2 hB4 hB3 hB2 hat hlr hB16 q2 HC GA GU GV GS
  go_wp2
  go_loopw [6] (fun si wr => ∃ k : Nat, k ≤ L.length ∧ si = .int .i64 k ∧ Below w6.heap.size w6 wr) (fun si _ => L.length - (intOf si).toNat)
  case atStart => exact ⟨0, by omega, rfl, Below.refl _ _⟩
  case round =>
    obtain ⟨k, hk, rfl, hB⟩ := hrel
    by_cases hlt : k < L.length
    · obtain ⟨b, off, rfl, hb, e0, e1, e2⟩ := hl6 k hlt
      obtain ⟨b', off', rfl, hb', e0', e1', e2'⟩ := hr6 k hlt
      have hki : (k : Int) < (L.length : Int) := by omega
      have d0 := (hB.cell (p := ⟨b, off + k * 3, none⟩) hb).trans e0
      have d1 := (hB.cell (p := ⟨b, off + k * 3 + 1, none⟩) hb).trans e1
      have d2 := (hB.cell (p := ⟨b, off + k * 3 + 2, none⟩) hb).trans e2
      have d0' := (hB.cell (p := ⟨b', off' + k * 3, none⟩) hb').trans e0'
      have d1' := (hB.cell (p := ⟨b', off' + k * 3 + 1, none⟩) hb').trans e1'
      have d2' := (hB.cell (p := ⟨b', off' + k * 3 + 2, none⟩) hb').trans e2'
      have q := (hB.cell (p := ⟨r, 1, none⟩) hr6l).trans q1
      have hne := fun w => neqFile L[k].n ⟨L[k].b.toArray⟩ L[k].k w
      generalize L[k].n = xn at *
      generalize L[k].k = xk at *
      generalize (⟨L[k].b.toArray⟩ : ByteArray) = xb at *
      clear hl6 hr6 e0 e1 e2 e0' e1' e2' q1
      go_wp2
      go_quiet (fail)
      go_wp2
      exact ⟨⟨k + 1, by omega, by go_num, below_drewN8 hB _⟩, by simp [intOf]; omega⟩
    · obtain rfl : k = L.length := by omega
      clear hl6 hr6 hlt hk
      go_wp2
      go_ret
      exact ⟨rfl, bel2 hB6 hB⟩
theorem Fit.step {D : PD} {n : Nat} (h : Fit D n) (hp : D.L.Pairwise fun f g => f.n ≠ g.n) (s : StepC) (hs : s.n < 9223372036854775808) : Fit (stD D s) (n + 1) := by
  unfold stD
  split
  · exact h.create _
  split
  · exact h.append hp _ _
  split
  · exact h.sync _
  split
  · exact h.rename _ _
  split
  · exact h.remove _
  split
  · exact h.cut _ _
  split
  · exact (h.limit hs).up (Nat.le_succ _)
  · exact (h.crash _).up (Nat.le_succ _)
theorem does_any {w W : World} {d r n : Nat} {D : PD} {P : Nat → Prop} (h : BoX w d r D D P W) (hf : Fit D n) (hn : n ≤ 1000000) (s : StepC) (h1 : s.name.size ≤ maxLen) (h2 : s.to.size ≤ maxLen) (h3 : s.b.size ≤ 1000000) (h4 : s.keep < 18446744073709551616) :
    Calls Try.prog 18 #[.pointer (some ⟨d, 0, none⟩), .pointer (some ⟨r, 0, none⟩), .agg #[.int .i64 s.what, .int .i64 s.n, .string s.name, .string s.to, .string s.b, .int .u64 s.keep]] W fun e w' => e = .returned (.tuple #[.int .i64 (stE D s), .int .i64 (stE D s)]) ∧ BoX w d r (stD D s) (stD D s) P w' ∧ Kept w P W w' := by
  obtain ⟨what, k, nm, to, b, keep⟩ := s
  dsimp only at *
  unfold stE stD
  dsimp only
  by_cases e1 : what ≤ 0
  · rw [if_pos e1, if_pos e1]; exact does_create h hf hn what k nm to b keep h1 h2 h3 h4 e1
  rw [if_neg e1, if_neg e1]
  by_cases e2 : what ≤ 3
  · rw [if_pos e2, if_pos e2]; exact does_append h hf hn what k nm to b keep h1 h2 h3 h4 ⟨by omega, e2⟩
  rw [if_neg e2, if_neg e2]
  by_cases e3 : what ≤ 5
  · rw [if_pos e3, if_pos (by omega)]; exact does_sync h hf hn what k nm to b keep h1 h2 h3 h4 ⟨by omega, e3⟩
  rw [if_neg e3]
  by_cases e4 : what = 6
  · rw [if_pos e4, if_pos (by omega), e4]; exact does_rename h hf hn k nm to b keep h1 h2 h3 h4
  rw [if_neg e4]
  by_cases e5 : what = 7
  · rw [if_pos e5, if_pos (by omega), e5]; exact does_remove h hf hn k nm to b keep h1 h2 h3 h4
  rw [if_neg e5]
  by_cases e6 : what = 8
  · rw [if_pos e6, if_pos (by omega), e6]; exact does_cut h hf hn k nm to b keep h1 h2 h3 h4
  rw [if_neg e6, if_neg (by omega)]
  by_cases e7 : what = 9
  · rw [if_pos e7, e7]; exact does_limit h hf hn k nm to b keep h1 h2 h3 h4
  · rw [if_neg e7]; exact does_crash h hf hn what k nm to b keep h1 h2 h3 h4 (by omega)

end Go.Proofs.Ytieekahlknmkfaa
