/- A disk with the blocks that are its own (DkT); what each operation leaves of it; its bounds (Fit). -/
import Derived.Test.YtieekahlknmkfaaDskW
import Derived.Test.YtieekahlknmkfaaDskK
namespace Go.Proofs.Ytieekahlknmkfaa
open Go.RowKit Go.Shelf
set_option linter.unusedVariables false

/-! ### Bounds -/
structure Fit (D : PD) (n : Nat) : Prop where
  room : D.room ≤ 1000000
  used : usedL D.L ≤ 2000000
  len : D.L.length ≤ 1000
  steps : D.steps ≤ n
  left : D.left < 9223372036854775808
theorem Fit.up {D : PD} {n k : Nat} (h : Fit D n) (hk : n ≤ k) : Fit D k := ⟨h.room, h.used, h.len, Nat.le_trans h.steps hk, h.left⟩
theorem Fit.done {D : PD} {n : Nat} {L : List PF} (h : Fit D n) (hu : usedL L ≤ 2000000) (hl : L.length ≤ 1000) : Fit (doneD { D with L := L }) (n + 1) := by
  refine ⟨h.room, hu, hl, Nat.succ_le_succ h.steps, ?_⟩
  have := h.left
  show (if D.lim then D.left - 1 else D.left) < _
  split <;> omega
theorem Fit.create {D : PD} {n : Nat} (h : Fit D n) (s : ByteArray) : Fit (createD D s) (n + 1) := by
  unfold createD
  by_cases e : createE D s = 0
  · rw [if_pos e]
    have hl : ¬ 1000 ≤ D.L.length := by
      intro hc
      unfold createE at e
      rw [if_pos hc] at e
      split at e
      · cases e
      · split at e <;> cases e
    have h1 := used_put ⟨s, [], 0⟩ D.L
    have h2 := put_len PF.n ⟨s, [], 0⟩ D.L
    have h3 := h.used
    simp only [List.length_nil] at h1
    exact h.done (by omega) (by omega)
  · rw [if_neg e]; exact h.up (by omega)
theorem Fit.append {D : PD} {n : Nat} (h : Fit D n) (hp : D.L.Pairwise fun f g => f.n ≠ g.n) (s b : ByteArray) : Fit (appendD D s b) (n + 1) := by
  unfold appendD
  by_cases e : appendE D s b = 0
  · rw [if_pos e]
    have hr : ¬ D.room < usedL D.L + b.size := by
      intro hc
      unfold appendE at e
      rw [if_pos hc] at e
      split at e
      · exact absurd e (by assumption)
      · cases e
    have h1 := used_app hp s b
    have h2 := h.room
    exact h.done (by omega) (by rw [turn_len]; exact h.len)
  · rw [if_neg e]; exact h.up (by omega)
theorem Fit.turn {D : PD} {n : Nat} (h : Fit D n) {g : PF → PF} (hg : ∀ x, (g x).b.length ≤ x.b.length) (s : ByteArray) : Fit (if askE D s = 0 then doneD { D with L := turnL g D.L s } else D) (n + 1) := by
  split
  · exact h.done (Nat.le_trans (used_turn hg D.L s) h.used) (by rw [turn_len]; exact h.len)
  · exact h.up (by omega)
theorem Fit.sync {D : PD} {n : Nat} (h : Fit D n) (s : ByteArray) : Fit (syncD D s) (n + 1) := h.turn (g := keepP) (fun x => Nat.le_refl _) s
theorem Fit.cut {D : PD} {n : Nat} (h : Fit D n) (s : ByteArray) (k : Int) : Fit (cutD D s k) (n + 1) := h.turn (g := cutP k) (fun x => by show (x.b.take _).length ≤ _; rw [List.length_take]; omega) s
theorem Fit.remove {D : PD} {n : Nat} (h : Fit D n) (s : ByteArray) : Fit (removeD D s) (n + 1) := by
  unfold removeD
  split
  · exact h.done (Nat.le_trans (used_del D.L s) h.used) (Nat.le_trans (del_len _ _ _) h.len)
  · exact h.up (by omega)
theorem used_del_get : ∀ {L : List PF} {s : ByteArray} {f : PF}, getK PF.n L s = some f → usedL (delK PF.n L s) + f.b.length ≤ usedL L ∧ (delK PF.n L s).length + 1 ≤ L.length
  | [], s, f, h => by cases h
  | g :: r, s, f, h => by
    unfold getK at h
    rw [List.find?_cons] at h
    unfold delK
    rw [List.filter_cons, used_cons, List.length_cons]
    by_cases e : g.n = s
    · simp only [e, decide_true] at h
      injection h with h
      subst h
      have h1 := used_del r s
      have h2 := del_len PF.n r s
      unfold delK at h1 h2
      simp only [e, decide_true, Bool.not_true, Bool.false_eq_true, if_false]
      omega
    · simp only [e, decide_false] at h
      have ih := used_del_get (L := r) (s := s) (f := f) h
      unfold delK at ih
      simp only [e, decide_false, Bool.not_false, if_true, used_cons, List.length_cons]
      omega
theorem Fit.rename {D : PD} {n : Nat} (h : Fit D n) (s t : ByteArray) : Fit (renameD D s t) (n + 1) := by
  unfold renameD
  split
  · rename_i e
    unfold renF
    cases hg : getK PF.n D.L s with
    | none => exact h.done h.used h.len
    | some f =>
      dsimp only
      have h1 := used_del_get hg
      have h2 := used_put (namedP f t f.b.length) (delK PF.n D.L s)
      have h3 := put_len PF.n (namedP f t f.b.length) (delK PF.n D.L s)
      have h4 := h.used
      have h5 := h.len
      have h6 : (namedP f t f.b.length).b.length = f.b.length := rfl
      exact h.done (by omega) (by omega)
  · exact h.up (by omega)
def limitD (D : PD) (n : Int) : PD := { D with lim := true, left := (max n 0).toNat }
theorem Fit.limit {D : PD} {n : Nat} (h : Fit D n) {k : Int} (hk : k < 9223372036854775808) : Fit (limitD D k) n := ⟨h.room, h.used, h.len, h.steps, by show (max k 0).toNat < _; omega⟩
def crP (keep i : Nat) (f : PF) : PF := ⟨f.n, f.b.take (f.k + (f.b.length - f.k) * share keep i / 255), f.k + (f.b.length - f.k) * share keep i / 255⟩
def crL (keep : Nat) : Nat → List PF → List PF
  | _, [] => []
  | i, f :: r => crP keep i f :: crL keep (i + 1) r
theorem crF_core (keep : Nat) : ∀ (F : List FileC) (i : Nat), (crF keep i F).map FileC.core = crL keep i (F.map FileC.core)
  | [], _ => rfl
  | f :: r, i => by
    show (cutC1 f _).core :: (crF keep (i + 1) r).map FileC.core = crP keep i f.core :: crL keep (i + 1) (r.map FileC.core)
    rw [crF_core keep r (i + 1)]; rfl
theorem crL_used (keep : Nat) : ∀ (L : List PF) (i : Nat), usedL (crL keep i L) ≤ usedL L ∧ (crL keep i L).length = L.length
  | [], _ => ⟨Nat.le_refl _, rfl⟩
  | f :: r, i => by
    have ih := crL_used keep r (i + 1)
    show usedL (crP keep i f :: crL keep (i + 1) r) ≤ _ ∧ (crP keep i f :: crL keep (i + 1) r).length = _
    rw [used_cons, used_cons, List.length_cons, List.length_cons]
    have : (crP keep i f).b.length ≤ f.b.length := by show (f.b.take _).length ≤ _; rw [List.length_take]; omega
    omega
def crashD (D : PD) (keep : Nat) : PD := { D with L := crL keep 0 D.L, lim := false, left := 0 }
theorem Fit.crash {D : PD} {n : Nat} (h : Fit D n) (keep : Nat) : Fit (crashD D keep) n := by
  have := crL_used keep D.L 0
  exact ⟨h.room, Nat.le_trans this.1 h.used, by show (crL keep 0 D.L).length ≤ _; rw [this.2]; exact h.len, h.steps, by show (0 : Nat) < _; omega⟩

/-! ### A disk and its own blocks -/
def DkT (W : World) (B d : Nat) (D : PD) (T : Nat → Prop) : Prop := ∃ m F, HasDisk W B d m D F ∧ T = ownD F d m
theorem DkT.lt {W : World} {B d : Nat} {D : PD} {T : Nat → Prop} (h : DkT W B d D T) {k : Nat} (hk : T k) : k < W.heap.size := by
  obtain ⟨m, F, h, rfl⟩ := h; exact h.lt hk
theorem DkT.ge {W : World} {B d : Nat} {D : PD} {T : Nat → Prop} (h : DkT W B d D T) {k : Nat} (hk : T k) : B ≤ k := by
  obtain ⟨m, F, h, rfl⟩ := h; exact h.ge hk
theorem DkT.own {W : World} {B d : Nat} {D : PD} {T : Nat → Prop} (h : DkT W B d D T) : T d := by
  obtain ⟨m, F, h, rfl⟩ := h; exact .inl rfl
theorem DkT.base {W : World} {B d : Nat} {D : PD} {T : Nat → Prop} (h : DkT W B d D T) : B ≤ W.heap.size := Nat.le_of_lt (Nat.lt_of_le_of_lt (h.ge h.own) (h.lt h.own))
theorem DkT.frame {T U : Nat → Prop} {W W' : World} {B d : Nat} {D : PD} (h : DkT W B d D T) (hF : FrameT U W W') (hT : ∀ k, T k → ¬ U k) : DkT W' B d D T := by
  obtain ⟨m, F, h, rfl⟩ := h; exact ⟨m, F, h.frame hF hT, rfl⟩
theorem DkT.below {T : Nat → Prop} {W W' : World} {B d : Nat} {D : PD} (h : DkT W B d D T) (hB : Below W.heap.size W W') : DkT W' B d D T := by
  obtain ⟨m, F, h, rfl⟩ := h; exact ⟨m, F, h.below hB, rfl⟩
theorem DkT.names {W : World} {B d : Nat} {D : PD} {T : Nat → Prop} (h : DkT W B d D T) : risN D.L := by
  obtain ⟨m, F, h, rfl⟩ := h; exact h.ris
/-- What an operation on the disk at d leaves. -/
def OpT (W : World) (B d : Nat) (T : Nat → Prop) (D' : PD) (W' : World) : Prop := ∃ T', DkT W' B d D' T' ∧ FrameT T W W' ∧ ∀ k, T' k → T k ∨ W.heap.size ≤ k
theorem OpT.of {W W' : World} {B d m : Nat} {F : List FileC} {D' : PD} (h : OpD W B d m F D' W') : OpT W B d (ownD F d m) D' W' := by
  obtain ⟨F', h1, h2, h3⟩ := h
  exact ⟨_, ⟨m, F', h1, rfl⟩, h2, h3⟩
theorem OpT.same {W W' : World} {B d : Nat} {T : Nat → Prop} {D : PD} (h : DkT W B d D T) (hB : Below W.heap.size W W') : OpT W B d T D W' := ⟨T, h.below hB, FrameT.below hB, fun _ hk => .inl hk⟩
theorem newT (room : Int) (w : World) : Calls Try.prog 24 #[.int .i64 room] w fun e w' => e = .returned (.pointer (some ⟨w.heap.size + 1, 0, none⟩)) ∧ (∃ T, DkT w' w.heap.size (w.heap.size + 1) ⟨[], (min (max room 0) 1000000).toNat, 0, false, 0⟩ T) ∧ Below w.heap.size w w' := by
  refine (dnew_any room w).mono ?_
  rintro e w' ⟨rfl, h, hB⟩
  exact ⟨rfl, ⟨_, _, _, h, rfl⟩, hB⟩
theorem createT {W : World} {B d n : Nat} {D : PD} {T : Nat → Prop} (h : DkT W B d D T) (hf : Fit D n) (hn : n ≤ 1000000) (s : ByteArray) (hs : s.size ≤ maxLen) :
    Calls Try.prog 19 #[.pointer (some ⟨d, 0, none⟩), .string s] W fun e w' => e = .returned (.int .i64 (createE D s)) ∧ OpT W B d T (createD D s) w' := by
  have hb := h.base
  obtain ⟨m, F, h, rfl⟩ := h
  refine (create_any h s hs (by have := hf.steps; omega) hf.left hb).mono ?_
  rintro e w' ⟨rfl, ho⟩; exact ⟨rfl, .of ho⟩
theorem appendT {W : World} {B d n : Nat} {D : PD} {T : Nat → Prop} (h : DkT W B d D T) (hf : Fit D n) (hn : n ≤ 1000000) (s b : ByteArray) (hs : s.size ≤ maxLen) (hb : b.size ≤ 1000000) :
    Calls Try.prog 25 #[.pointer (some ⟨d, 0, none⟩), .string s, .string b] W fun e w' => e = .returned (.int .i64 (appendE D s b)) ∧ OpT W B d T (appendD D s b) w' := by
  have hbs := h.base
  obtain ⟨m, F, h, rfl⟩ := h
  refine (append_any h s b hs hb (by have := hf.used; omega) hf.room (by have := hf.steps; omega) hf.left hbs).mono ?_
  rintro e w' ⟨rfl, ho⟩; exact ⟨rfl, .of ho⟩
theorem syncT {W : World} {B d n : Nat} {D : PD} {T : Nat → Prop} (h : DkT W B d D T) (hf : Fit D n) (hn : n ≤ 1000000) (s : ByteArray) (hs : s.size ≤ maxLen) :
    Calls Try.prog 26 #[.pointer (some ⟨d, 0, none⟩), .string s] W fun e w' => e = .returned (.int .i64 (askE D s)) ∧ OpT W B d T (syncD D s) w' := by
  obtain ⟨m, F, h, rfl⟩ := h
  refine (sync_any h s hs (by have := hf.steps; omega) hf.left).mono ?_
  rintro e w' ⟨rfl, ho⟩; exact ⟨rfl, .of ho⟩
theorem removeT {W : World} {B d n : Nat} {D : PD} {T : Nat → Prop} (h : DkT W B d D T) (hf : Fit D n) (hn : n ≤ 1000000) (s : ByteArray) (hs : s.size ≤ maxLen) :
    Calls Try.prog 33 #[.pointer (some ⟨d, 0, none⟩), .string s] W fun e w' => e = .returned (.int .i64 (askE D s)) ∧ OpT W B d T (removeD D s) w' := by
  obtain ⟨m, F, h, rfl⟩ := h
  refine (remove_any h s hs (by have := hf.steps; omega) hf.left).mono ?_
  rintro e w' ⟨rfl, ho⟩; exact ⟨rfl, .of ho⟩
theorem HasDisk.len {W : World} {B d m : Nat} {D : PD} {F : List FileC} (h : HasDisk W B d m D F) : F.length = D.L.length := by rw [← h.core, List.length_map]
theorem renameT {W : World} {B d n : Nat} {D : PD} {T : Nat → Prop} (h : DkT W B d D T) (hf : Fit D n) (hn : n ≤ 1000000) (s t : ByteArray) (hs : s.size ≤ maxLen) (ht : t.size ≤ maxLen) :
    Calls Try.prog 31 #[.pointer (some ⟨d, 0, none⟩), .string s, .string t] W fun e w' => e = .returned (.int .i64 (askE D s)) ∧ OpT W B d T (renameD D s t) w' := by
  obtain ⟨m, F, h, rfl⟩ := h
  refine (rename_any h s t hs ht (by have := hf.len; rw [h.len]; unfold maxLen; omega) (by have := hf.steps; omega) hf.left).mono ?_
  rintro e w' ⟨rfl, ho⟩; exact ⟨rfl, .of ho⟩
theorem cutT {W : World} {B d n : Nat} {D : PD} {T : Nat → Prop} (h : DkT W B d D T) (hf : Fit D n) (hn : n ≤ 1000000) (s : ByteArray) (k : Int) (hs : s.size ≤ maxLen) :
    Calls Try.prog 32 #[.pointer (some ⟨d, 0, none⟩), .string s, .int .i64 k] W fun e w' => e = .returned (.int .i64 (askE D s)) ∧ OpT W B d T (cutD D s k) w' := by
  obtain ⟨m, F, h, rfl⟩ := h
  refine (cut_any h s k hs (by have := hf.steps; omega) hf.left).mono ?_
  rintro e w' ⟨rfl, ho⟩; exact ⟨rfl, .of ho⟩
theorem dreadT {W : World} {B d : Nat} {D : PD} {T : Nat → Prop} (h : DkT W B d D T) (s : ByteArray) (hs : s.size ≤ maxLen) :
    Calls Try.prog 21 #[.pointer (some ⟨d, 0, none⟩), .string s] W fun e w' => e = .returned (.tuple #[.string (readB D s), .int .i64 (askE D s)]) ∧ w' = W := by
  obtain ⟨m, F, h, rfl⟩ := h
  exact dread_any h s hs
theorem limitT {W : World} {B d : Nat} {D : PD} {T : Nat → Prop} (h : DkT W B d D T) (k : Int) :
    Calls Try.prog 30 #[.pointer (some ⟨d, 0, none⟩), .int .i64 k] W fun e w' => (∃ v, e = .returned v) ∧ OpT W B d T (limitD D k) w' := by
  obtain ⟨m, F, h, rfl⟩ := h
  refine (limit_any h k).mono ?_
  rintro e w' ⟨he, h1, h2⟩
  exact ⟨he, _, ⟨m, F, h1, rfl⟩, h2.mono fun k hk => .inl hk, fun k hk => .inl hk⟩
theorem crF_own (keep : Nat) {d m : Nat} : ∀ {F : List FileC} (i : Nat) {k : Nat}, ownD (crF keep i F) d m k → ownD F d m k
  | [], _, _, h => h
  | f :: r, i, k, h => by
    rcases h with h | h | ⟨x, hx, h⟩
    · exact .inl h
    · exact .inr (.inl h)
    · rcases List.mem_cons.1 (show x ∈ cutC1 f (crK keep i f) :: crF keep (i + 1) r from hx) with rfl | hx
      · refine .inr (.inr ⟨f, List.mem_cons_self .., ?_⟩)
        rcases h with h | h
        · exact .inl h
        · right
          obtain ⟨n, fb, v, b, k'⟩ := f
          cases v with
          | slice a l c => cases a <;> exact h
          | _ => exact h
      · have := crF_own keep (d := d) (m := m) (F := r) (i + 1) (k := k) (.inr (.inr ⟨x, hx, h⟩))
        rcases this with h | h | ⟨y, hy, h⟩
        · exact .inl h
        · exact .inr (.inl h)
        · exact .inr (.inr ⟨y, List.mem_cons_of_mem _ hy, h⟩)
theorem crashT {W : World} {B d n : Nat} {D : PD} {T : Nat → Prop} (h : DkT W B d D T) (hf : Fit D n) (keep : Nat) (hk : keep < 18446744073709551616) :
    Calls Try.prog 20 #[.pointer (some ⟨d, 0, none⟩), .int .u64 keep] W fun e w' => (∃ v, e = .returned v) ∧ OpT W B d T (crashD D keep) w' := by
  obtain ⟨m, F, h, rfl⟩ := h
  refine (crash_any h (by rw [h.len]; exact hf.len) (by have := hf.used; omega) keep hk).mono ?_
  rintro e w' ⟨he, h1, h2⟩
  refine ⟨he, _, ⟨m, _, ?_, rfl⟩, h2, fun k hk => .inl (crF_own keep 0 hk)⟩
  have hc : (crF keep 0 F).map FileC.core = crL keep 0 D.L := by rw [crF_core, h.core]
  rw [hc] at h1
  exact h1
theorem stepsT {W : World} {B d : Nat} {D : PD} {T : Nat → Prop} (h : DkT W B d D T) : Calls Try.prog 34 #[.pointer (some ⟨d, 0, none⟩)] W fun e w' => e = .returned (.int .i64 D.steps) ∧ w' = W := by
  obtain ⟨m, F, h, rfl⟩ := h
  exact steps_any h
theorem usedT {W : World} {B d n : Nat} {D : PD} {T : Nat → Prop} (h : DkT W B d D T) (hf : Fit D n) : Calls Try.prog 28 #[.pointer (some ⟨d, 0, none⟩)] W fun e w' => e = .returned (.int .i64 (usedL D.L)) ∧ Below W.heap.size W w' := by
  obtain ⟨m, F, h, rfl⟩ := h
  exact used_any h (by have := hf.used; omega)
theorem allT {W : World} {B d n : Nat} {D : PD} {T : Nat → Prop} (h : DkT W B d D T) (hf : Fit D n) :
    Calls Try.prog 29 #[.pointer (some ⟨d, 0, none⟩)] W fun e w' => ∃ v, e = .returned v ∧ w'.ownsRow W.heap.size 26 3 v D.L.length (pfCells D.L) ∧ Below W.heap.size W w' := by
  obtain ⟨m, F, h, rfl⟩ := h
  have := all_any h (by rw [h.len]; exact hf.len)
  rw [h.len] at this
  exact this
theorem copyT {W : World} {B d n : Nat} {D : PD} {T : Nat → Prop} (h : DkT W B d D T) (hf : Fit D n) :
    Calls Try.prog 17 #[.pointer (some ⟨d, 0, none⟩)] W fun e w' => e = .returned (.pointer (some ⟨W.heap.size, 0, none⟩)) ∧ (∃ T', DkT w' W.heap.size W.heap.size D T') ∧ Below W.heap.size W w' := by
  obtain ⟨m, F, h, rfl⟩ := h
  refine (copy_any h (by rw [h.len]; exact hf.len) (by have := hf.used; omega)).mono ?_
  rintro e w' ⟨rfl, G, hG, hB⟩
  exact ⟨rfl, ⟨_, _, _, hG, rfl⟩, hB⟩
theorem ofT (room : Int) (a : Option Addr) (cap : Nat) (l : List IFile) (w : World) (hl : l.length ≤ 1000000) (hz : ∀ f ∈ l, f.n.size ≤ maxLen ∧ f.b.size ≤ 1000000) (hat : FilesAt w a l) :
    Calls Try.prog 15 #[.int .i64 room, .slice a l.length cap] w fun e w' => e = .returned (.pointer (some ⟨w.heap.size + 1, 0, none⟩)) ∧ (∃ T, DkT w' w.heap.size (w.heap.size + 1) (ofD room l) T) ∧ Below w.heap.size w w' := by
  refine (dof_any room a cap l w hl hz hat).mono ?_
  rintro e w' ⟨rfl, G, hG, hB⟩
  exact ⟨rfl, ⟨_, _, _, hG, rfl⟩, hB⟩

/-! ### One disk in a world, all of whose blocks are new since w -/
def One (w : World) (d : Nat) (D : PD) (W : World) : Prop := ∃ T, DkT W w.heap.size d D T ∧ Below w.heap.size w W
theorem One.below {w W W' : World} {d : Nat} {D : PD} (h : One w d D W) (hB : Below W.heap.size W W') : One w d D W' := by
  obtain ⟨T, h, hB0⟩ := h
  exact ⟨T, h.below hB, bel2 hB0 hB⟩
theorem One.op {w W W' : World} {d : Nat} {D D' : PD} {T : Nat → Prop} (h : DkT W w.heap.size d D T) (hB : Below w.heap.size w W) (ho : OpT W w.heap.size d T D' W') : One w d D' W' := by
  obtain ⟨T', h1, h2, h3⟩ := ho
  exact ⟨T', h1, hB.trans (h2.toBelow hB.size fun k hk => h.ge hk)⟩
theorem One.bel {w W : World} {d : Nat} {D : PD} (h : One w d D W) : Below w.heap.size w W := h.choose_spec.2
theorem One.ris {w W : World} {d : Nat} {D : PD} (h : One w d D W) : risN D.L := h.choose_spec.1.names
theorem newO (room : Int) (w : World) : Calls Try.prog 24 #[.int .i64 room] w fun e w' => e = .returned (.pointer (some ⟨w.heap.size + 1, 0, none⟩)) ∧ One w (w.heap.size + 1) ⟨[], (min (max room 0) 1000000).toNat, 0, false, 0⟩ w' := by
  refine (newT room w).mono ?_
  rintro e w' ⟨rfl, ⟨T, h⟩, hB⟩; exact ⟨rfl, T, h, hB⟩
theorem createO {w W : World} {d n : Nat} {D : PD} (h : One w d D W) (hf : Fit D n) (hn : n ≤ 1000000) (s : ByteArray) (hs : s.size ≤ maxLen) :
    Calls Try.prog 19 #[.pointer (some ⟨d, 0, none⟩), .string s] W fun e w' => e = .returned (.int .i64 (createE D s)) ∧ One w d (createD D s) w' := by
  obtain ⟨T, h, hB⟩ := h
  refine (createT h hf hn s hs).mono ?_
  rintro e w' ⟨rfl, ho⟩; exact ⟨rfl, .op h hB ho⟩
theorem appendO {w W : World} {d n : Nat} {D : PD} (h : One w d D W) (hf : Fit D n) (hn : n ≤ 1000000) (s b : ByteArray) (hs : s.size ≤ maxLen) (hb : b.size ≤ 1000000) :
    Calls Try.prog 25 #[.pointer (some ⟨d, 0, none⟩), .string s, .string b] W fun e w' => e = .returned (.int .i64 (appendE D s b)) ∧ One w d (appendD D s b) w' := by
  obtain ⟨T, h, hB⟩ := h
  refine (appendT h hf hn s b hs hb).mono ?_
  rintro e w' ⟨rfl, ho⟩; exact ⟨rfl, .op h hB ho⟩
theorem syncO {w W : World} {d n : Nat} {D : PD} (h : One w d D W) (hf : Fit D n) (hn : n ≤ 1000000) (s : ByteArray) (hs : s.size ≤ maxLen) :
    Calls Try.prog 26 #[.pointer (some ⟨d, 0, none⟩), .string s] W fun e w' => e = .returned (.int .i64 (askE D s)) ∧ One w d (syncD D s) w' := by
  obtain ⟨T, h, hB⟩ := h
  refine (syncT h hf hn s hs).mono ?_
  rintro e w' ⟨rfl, ho⟩; exact ⟨rfl, .op h hB ho⟩
theorem removeO {w W : World} {d n : Nat} {D : PD} (h : One w d D W) (hf : Fit D n) (hn : n ≤ 1000000) (s : ByteArray) (hs : s.size ≤ maxLen) :
    Calls Try.prog 33 #[.pointer (some ⟨d, 0, none⟩), .string s] W fun e w' => e = .returned (.int .i64 (askE D s)) ∧ One w d (removeD D s) w' := by
  obtain ⟨T, h, hB⟩ := h
  refine (removeT h hf hn s hs).mono ?_
  rintro e w' ⟨rfl, ho⟩; exact ⟨rfl, .op h hB ho⟩
theorem renameO {w W : World} {d n : Nat} {D : PD} (h : One w d D W) (hf : Fit D n) (hn : n ≤ 1000000) (s t : ByteArray) (hs : s.size ≤ maxLen) (ht : t.size ≤ maxLen) :
    Calls Try.prog 31 #[.pointer (some ⟨d, 0, none⟩), .string s, .string t] W fun e w' => e = .returned (.int .i64 (askE D s)) ∧ One w d (renameD D s t) w' := by
  obtain ⟨T, h, hB⟩ := h
  refine (renameT h hf hn s t hs ht).mono ?_
  rintro e w' ⟨rfl, ho⟩; exact ⟨rfl, .op h hB ho⟩
theorem cutO {w W : World} {d n : Nat} {D : PD} (h : One w d D W) (hf : Fit D n) (hn : n ≤ 1000000) (s : ByteArray) (k : Int) (hs : s.size ≤ maxLen) :
    Calls Try.prog 32 #[.pointer (some ⟨d, 0, none⟩), .string s, .int .i64 k] W fun e w' => e = .returned (.int .i64 (askE D s)) ∧ One w d (cutD D s k) w' := by
  obtain ⟨T, h, hB⟩ := h
  refine (cutT h hf hn s k hs).mono ?_
  rintro e w' ⟨rfl, ho⟩; exact ⟨rfl, .op h hB ho⟩
theorem dreadO {w W : World} {d : Nat} {D : PD} (h : One w d D W) (s : ByteArray) (hs : s.size ≤ maxLen) :
    Calls Try.prog 21 #[.pointer (some ⟨d, 0, none⟩), .string s] W fun e w' => e = .returned (.tuple #[.string (readB D s), .int .i64 (askE D s)]) ∧ w' = W := by
  obtain ⟨T, h, hB⟩ := h
  exact dreadT h s hs
theorem limitO {w W : World} {d : Nat} {D : PD} (h : One w d D W) (k : Int) :
    Calls Try.prog 30 #[.pointer (some ⟨d, 0, none⟩), .int .i64 k] W fun e w' => (∃ v, e = .returned v) ∧ One w d (limitD D k) w' := by
  obtain ⟨T, h, hB⟩ := h
  refine (limitT h k).mono ?_
  rintro e w' ⟨he, ho⟩; exact ⟨he, .op h hB ho⟩
theorem crashO {w W : World} {d n : Nat} {D : PD} (h : One w d D W) (hf : Fit D n) (keep : Nat) (hk : keep < 18446744073709551616) :
    Calls Try.prog 20 #[.pointer (some ⟨d, 0, none⟩), .int .u64 keep] W fun e w' => (∃ v, e = .returned v) ∧ One w d (crashD D keep) w' := by
  obtain ⟨T, h, hB⟩ := h
  refine (crashT h hf keep hk).mono ?_
  rintro e w' ⟨he, ho⟩; exact ⟨he, .op h hB ho⟩
theorem stepsO {w W : World} {d : Nat} {D : PD} (h : One w d D W) : Calls Try.prog 34 #[.pointer (some ⟨d, 0, none⟩)] W fun e w' => e = .returned (.int .i64 D.steps) ∧ w' = W := stepsT h.choose_spec.1
theorem usedO {w W : World} {d n : Nat} {D : PD} (h : One w d D W) (hf : Fit D n) : Calls Try.prog 28 #[.pointer (some ⟨d, 0, none⟩)] W fun e w' => e = .returned (.int .i64 (usedL D.L)) ∧ Below W.heap.size W w' := usedT h.choose_spec.1 hf
theorem allO {w W : World} {d n : Nat} {D : PD} (h : One w d D W) (hf : Fit D n) :
    Calls Try.prog 29 #[.pointer (some ⟨d, 0, none⟩)] W fun e w' => ∃ v, e = .returned v ∧ w'.ownsRow W.heap.size 26 3 v D.L.length (pfCells D.L) ∧ Below W.heap.size W w' := allT h.choose_spec.1 hf

end Go.Proofs.Ytieekahlknmkfaa
