/- Both disks, a copy of the code's that goes its own way, and a block that stays. -/
import Derived.Test.YtieekahlknmkfaaOpenDsk
namespace Go.Proofs.Ytieekahlknmkfaa
open Go.RowKit Go.Shelf
set_option linter.unusedVariables false

def CpX (w : World) (d r : Nat) (Dd Dr : PD) (X c : Nat) (C : PD) (W : World) : Prop := ∃ T B, DkT W B c C T ∧ BoX w d r Dd Dr (fun k => k = X ∨ T k) W ∧ ¬ T X
theorem BoX.inP {w W : World} {d r : Nat} {Dd Dr : PD} {P : Nat → Prop} (h : BoX w d r Dd Dr P W) {k : Nat} (hk : P k) : w.heap.size ≤ k ∧ k < W.heap.size := by
  obtain ⟨T, v, B1, B2, b1, b2, h1, h2, hd, hB, hP⟩ := h
  exact ⟨(hP k hk).1, (hP k hk).2.1⟩
theorem CpX.box {w W : World} {d r X c : Nat} {Dd Dr C : PD} (h : CpX w d r Dd Dr X c C W) : BoX w d r Dd Dr (fun k => k = X) W := by
  obtain ⟨T, B, h1, h2, h3⟩ := h
  exact h2.sub fun k hk => .inl hk
theorem cp_copy {w W : World} {d r X n : Nat} {D : PD} (h : BoX w d r D D (fun k => k = X) W) (hf : Fit D n) :
    Calls Try.prog 17 #[.pointer (some ⟨d, 0, none⟩)] W fun e w' => e = .returned (.pointer (some ⟨W.heap.size, 0, none⟩)) ∧ CpX w d r D D X W.heap.size D w' ∧ Below W.heap.size W w' := by
  have h' := h
  obtain ⟨T, v, B1, B2, b1, b2, h1, h2, hd, hB, hP⟩ := h'
  refine (copyT h1 hf).mono ?_
  rintro e w' ⟨rfl, ⟨T', hT'⟩, hBw⟩
  have hX := h.inP (k := X) rfl
  refine ⟨rfl, ⟨T', _, hT', h.other (Q := fun _ => False) (FrameT.below hBw) (fun _ h => h.elim) (fun k hk => ?_), fun ht => by have := hT'.ge ht; omega⟩, hBw⟩
  rcases hk with rfl | hk
  · exact ⟨.inl rfl, Nat.lt_of_lt_of_le hX.2 hBw.size⟩
  · exact ⟨.inr (hT'.ge hk), hT'.lt hk⟩
theorem cp_does {w W : World} {d r X c n : Nat} {D C : PD} (h : CpX w d r D D X c C W) (hf : Fit D n) (hn : n ≤ 1000000) (s : StepC) (h1 : s.name.size ≤ maxLen) (h2 : s.to.size ≤ maxLen) (h3 : s.b.size ≤ 1000000) (h4 : s.keep < 18446744073709551616) :
    Calls Try.prog 18 #[.pointer (some ⟨d, 0, none⟩), .pointer (some ⟨r, 0, none⟩), .agg #[.int .i64 s.what, .int .i64 s.n, .string s.name, .string s.to, .string s.b, .int .u64 s.keep]] W fun e w' => e = .returned (.tuple #[.int .i64 (stE D s), .int .i64 (stE D s)]) ∧ CpX w d r (stD D s) (stD D s) X c C w' ∧ ∀ o, W.heap[X]? = some o → w'.heap[X]? = some o := by
  obtain ⟨T, B, g1, g2, g3⟩ := h
  refine (does_any g2 hf hn s h1 h2 h3 h4).mono ?_
  rintro e w' ⟨rfl, hb, hk⟩
  exact ⟨rfl, ⟨T, B, g1.frame hk (fun k ht hh => hh.2 (.inr ht)), hb, g3⟩, fun o ho => hk.get ho (.inl rfl)⟩
theorem CpX.op {w W W' : World} {d r X c B : Nat} {Dd Dr C C' : PD} {T : Nat → Prop} (g1 : DkT W B c C T) (g2 : BoX w d r Dd Dr (fun k => k = X ∨ T k) W) (g3 : ¬ T X) (ho : OpT W B c T C' W') : CpX w d r Dd Dr X c C' W' ∧ ∀ o, W.heap[X]? = some o → W'.heap[X]? = some o := by
  obtain ⟨T', h1, h2, h3⟩ := ho
  have hX := g2.inP (k := X) (.inl rfl)
  refine ⟨⟨T', B, h1, g2.other h2 (fun k hk => .inr hk) (fun k hk => ?_), fun ht => (h3 X ht).elim g3 (fun h => by omega)⟩, fun o ho => h2.get ho g3⟩
  rcases hk with rfl | hk
  · exact ⟨.inl (.inl rfl), Nat.lt_of_lt_of_le hX.2 h2.size⟩
  · exact ⟨(h3 k hk).imp .inr id, h1.lt hk⟩
theorem cp_create {w W : World} {d r X c n : Nat} {Dd Dr C : PD} (h : CpX w d r Dd Dr X c C W) (hf : Fit C n) (hn : n ≤ 1000000) (s : ByteArray) (hs : s.size ≤ maxLen) :
    Calls Try.prog 19 #[.pointer (some ⟨c, 0, none⟩), .string s] W fun e w' => e = .returned (.int .i64 (createE C s)) ∧ CpX w d r Dd Dr X c (createD C s) w' ∧ ∀ o, W.heap[X]? = some o → w'.heap[X]? = some o := by
  obtain ⟨T, B, g1, g2, g3⟩ := h
  refine (createT g1 hf hn s hs).mono ?_
  rintro e w' ⟨rfl, ho⟩
  exact ⟨rfl, CpX.op g1 g2 g3 ho⟩
theorem cp_crash {w W : World} {d r X c n : Nat} {Dd Dr C : PD} (h : CpX w d r Dd Dr X c C W) (hf : Fit C n) (keep : Nat) (hk : keep < 18446744073709551616) :
    Calls Try.prog 20 #[.pointer (some ⟨c, 0, none⟩), .int .u64 keep] W fun e w' => (∃ x, e = .returned x) ∧ CpX w d r Dd Dr X c (crashD C keep) w' ∧ ∀ o, W.heap[X]? = some o → w'.heap[X]? = some o := by
  obtain ⟨T, B, g1, g2, g3⟩ := h
  refine (crashT g1 hf keep hk).mono ?_
  rintro e w' ⟨he, ho⟩
  exact ⟨he, CpX.op g1 g2 g3 ho⟩
/-- The bounds of a disk that is laid from few files. -/
theorem ofStep_used (L : List PF) (f : IFile) : usedL (ofStep L f) ≤ usedL L + f.b.size := by
  unfold ofStep
  split
  · omega
  · have := used_put ⟨f.n, f.b.data.toList, heldK f.k f.b.size⟩ L
    have h2 : f.b.data.toList.length = f.b.size := len_id8 f.b
    simp only [h2] at this
    exact this
theorem ofL_used : ∀ (l : List IFile) (L : List PF), (∀ f ∈ l, f.b.size ≤ 200) → usedL (ofL L l) ≤ usedL L + 200 * l.length
  | [], L, _ => Nat.le_refl _
  | f :: r, L, h => by
    have h1 := ofL_used r (ofStep L f) (fun g hg => h g (List.mem_cons_of_mem _ hg))
    have h2 := ofStep_used L f
    have h3 := h f (List.mem_cons_self ..)
    show usedL (ofL (ofStep L f) r) ≤ _
    rw [List.length_cons]
    omega
theorem fit_of (room : Int) (l : List IFile) (hl : l.length ≤ 6) (h : ∀ f ∈ l, f.b.size ≤ 200) : Fit (ofD room l) 0 := by
  have h1 := ofL_used l [] h
  have h2 : usedL [] = 0 := rfl
  exact fits (by show (min (max room 0) 1000000).toNat ≤ _; omega) (by show usedL (ofL [] l) ≤ _; omega) (ofL_len l [] (by simp)) (Nat.le_refl 0) (by show (0 : Nat) < _; decide)

end Go.Proofs.Ytieekahlknmkfaa
