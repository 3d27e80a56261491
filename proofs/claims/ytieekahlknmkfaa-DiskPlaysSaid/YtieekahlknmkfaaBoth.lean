/- The code's disk and the document's in one world, both the same; what a call on either leaves. -/
import Derived.Test.YtieekahlknmkfaaRfG
namespace Go.Proofs.Ytieekahlknmkfaa
open Go.RowKit Go.Shelf
set_option linter.unusedVariables false

theorem DkT.kept {W : World} {B d : Nat} {D : PD} {T : Nat → Prop} (h : DkT W B d D T) : ∀ f ∈ D.L, f.k ≤ f.b.length := by
  obtain ⟨m, F, h, rfl⟩ := h
  intro f hf
  rw [← h.core] at hf
  obtain ⟨x, hx, rfl⟩ := List.mem_map.1 hf
  exact (h.file x hx).2.2
/-- The code's disk at d is Dd, the document's at r is Dr; the blocks of P are others'. -/
def BoX (w : World) (d r : Nat) (Dd Dr : PD) (P : Nat → Prop) (W : World) : Prop :=
  ∃ T v B1 B2, w.heap.size ≤ B1 ∧ w.heap.size ≤ B2 ∧ DkT W B1 d Dd T ∧ HasRef W B2 r Dr v ∧ (∀ k, T k → ¬ ownR r v k) ∧ Below w.heap.size w W ∧ ∀ k, P k → w.heap.size ≤ k ∧ k < W.heap.size ∧ ¬ T k ∧ ¬ ownR r v k
/-- The blocks of P, and all that are elder than w, are as they were. -/
def Kept (w : World) (P : Nat → Prop) (W W' : World) : Prop := FrameT (fun k => w.heap.size ≤ k ∧ ¬ P k) W W'
theorem Kept.trans {w : World} {P : Nat → Prop} {a b c : World} (h : Kept w P a b) (k : Kept w P b c) : Kept w P a c := FrameT.trans h k
theorem Kept.below {w : World} {P : Nat → Prop} {a b : World} (h : Below a.heap.size a b) : Kept w P a b := FrameT.below h
theorem Kept.drew {w : World} {P : Nat → Prop} {a b : World} (h : Kept w P a b) : Kept w P a b.drew := FrameT.drew h
theorem Kept.get {w : World} {P : Nat → Prop} {a b : World} (h : Kept w P a b) {k : Nat} {o : Obj} (hk : a.heap[k]? = some o) (hP : P k) : b.heap[k]? = some o := FrameT.get h hk (fun h => h.2 hP)
theorem Kept.sub {w : World} {P Q : Nat → Prop} {a b : World} (h : Kept w P a b) (hQ : ∀ k, Q k → P k) : Kept w Q a b := FrameT.mono h fun k hk => ⟨hk.1, fun q => hk.2 (hQ k q)⟩
theorem Kept.bel {w : World} {P : Nat → Prop} {a b : World} (h : Kept w P a b) (hs : w.heap.size ≤ a.heap.size) : Below w.heap.size a b := FrameT.toBelow h hs fun k hk => hk.1
theorem BoX.bel {w W : World} {d r : Nat} {Dd Dr : PD} {P : Nat → Prop} (h : BoX w d r Dd Dr P W) : Below w.heap.size w W := by
  obtain ⟨T, v, B1, B2, b1, b2, h1, h2, hd, hB, hP⟩ := h; exact hB
theorem BoX.sub {w W : World} {d r : Nat} {Dd Dr : PD} {P Q : Nat → Prop} (h : BoX w d r Dd Dr P W) (hQ : ∀ k, Q k → P k) : BoX w d r Dd Dr Q W := by
  obtain ⟨T, v, B1, B2, b1, b2, h1, h2, hd, hB, hP⟩ := h
  exact ⟨T, v, B1, B2, b1, b2, h1, h2, hd, hB, fun k hk => hP k (hQ k hk)⟩
/-- What belongs to neither disk has turned, or is new. -/
theorem BoX.other {w W W' : World} {d r : Nat} {Dd Dr : PD} {P Q P' : Nat → Prop} (h : BoX w d r Dd Dr P W) (hF : FrameT Q W W') (hQ : ∀ k, Q k → P k) (hP' : ∀ k, P' k → (P k ∨ W.heap.size ≤ k) ∧ k < W'.heap.size) : BoX w d r Dd Dr P' W' := by
  obtain ⟨T, v, B1, B2, b1, b2, h1, h2, hd, hB, hP⟩ := h
  refine ⟨T, v, B1, B2, b1, b2, h1.frame hF (fun k hk hq => (hP k (hQ k hq)).2.2.1 hk), h2.frame hF (fun k hk hq => (hP k (hQ k hq)).2.2.2 hk), hd, hB.trans (hF.toBelow hB.size fun k hk => (hP k (hQ k hk)).1), fun k hk => ?_⟩
  obtain ⟨h3, h4⟩ := hP' k hk
  rcases h3 with h3 | h3
  · obtain ⟨a1, a2, a3, a4⟩ := hP k h3
    exact ⟨a1, h4, a3, a4⟩
  · exact ⟨Nat.le_trans hB.size h3, h4, fun ht => absurd (h1.lt ht) (by omega), fun ht => absurd (h2.lt ht) (by omega)⟩
theorem BoX.below {w W W' : World} {d r : Nat} {Dd Dr : PD} {P : Nat → Prop} (h : BoX w d r Dd Dr P W) (hB : Below W.heap.size W W') : BoX w d r Dd Dr P W' := by
  have hl : ∀ k, P k → k < W.heap.size := by
    obtain ⟨T, v, B1, B2, b1, b2, h1, h2, hd, hB, hP⟩ := h
    exact fun k hk => (hP k hk).2.1
  exact h.other (Q := fun _ => False) (FrameT.below hB) (fun _ h => h.elim) (fun k hk => ⟨.inl hk, Nat.lt_of_lt_of_le (hl k hk) hB.size⟩)
theorem BoX.drew {w W : World} {d r : Nat} {Dd Dr : PD} {P : Nat → Prop} (h : BoX w d r Dd Dr P W) : BoX w d r Dd Dr P W.drew := h.below (Below.refl _ W).drew
/-- One block more that is neither's. -/
theorem BoX.add {w W W' : World} {d r X : Nat} {Dd Dr : PD} {P : Nat → Prop} (h : BoX w d r Dd Dr P W) (hB : Below W.heap.size W W') (hX : W.heap.size ≤ X) (hl : X < W'.heap.size) : BoX w d r Dd Dr (fun k => P k ∨ k = X) W' := by
  have hl' : ∀ k, P k → k < W.heap.size := by
    obtain ⟨T, v, B1, B2, b1, b2, h1, h2, hd, hB, hP⟩ := h
    exact fun k hk => (hP k hk).2.1
  exact h.other (Q := fun _ => False) (FrameT.below hB) (fun _ h => h.elim) (fun k hk => hk.elim (fun hk => ⟨.inl hk, Nat.lt_of_lt_of_le (hl' k hk) hB.size⟩) (fun e => by subst e; exact ⟨.inr hX, hl⟩))
theorem BoX.names {w W : World} {d r : Nat} {Dd Dr : PD} {P : Nat → Prop} (h : BoX w d r Dd Dr P W) : Dd.L.Pairwise fun f g => f.n ≠ g.n := by
  obtain ⟨T, v, B1, B2, b1, b2, h1, -⟩ := h; exact ris_names h1.names
theorem BoX.opd {w W W' : World} {d r B1 B2 : Nat} {Dd Dd' Dr : PD} {T P : Nat → Prop} {v : Value} (b1 : w.heap.size ≤ B1) (b2 : w.heap.size ≤ B2) (h1 : DkT W B1 d Dd T) (h2 : HasRef W B2 r Dr v) (hd : ∀ k, T k → ¬ ownR r v k) (hB : Below w.heap.size w W) (hP : ∀ k, P k → w.heap.size ≤ k ∧ k < W.heap.size ∧ ¬ T k ∧ ¬ ownR r v k) (ho : OpT W B1 d T Dd' W') : BoX w d r Dd' Dr P W' ∧ Kept w P W W' := by
  obtain ⟨T', g1, g2, g3⟩ := ho
  refine ⟨⟨T', v, B1, B2, b1, b2, g1, h2.frame g2 (fun k hk ht => hd k ht hk), fun k hk hu => ?_, hB.trans (g2.toBelow hB.size fun k hk => Nat.le_trans b1 (h1.ge hk)), fun k hk => ?_⟩, g2.mono fun k hk => ⟨Nat.le_trans b1 (h1.ge hk), fun hp => (hP k hp).2.2.1 hk⟩⟩
  · rcases g3 k hk with h | h
    · exact hd k h hu
    · exact absurd (h2.lt hu) (by omega)
  · obtain ⟨a1, a2, a3, a4⟩ := hP k hk
    exact ⟨a1, Nat.lt_of_lt_of_le a2 g2.size, fun ht => (g3 k ht).elim a3 (fun h => by omega), a4⟩
theorem BoX.opr {w W W' : World} {d r B1 B2 : Nat} {Dd Dr Dr' : PD} {T P : Nat → Prop} {v : Value} (b1 : w.heap.size ≤ B1) (b2 : w.heap.size ≤ B2) (h1 : DkT W B1 d Dd T) (h2 : HasRef W B2 r Dr v) (hd : ∀ k, T k → ¬ ownR r v k) (hB : Below w.heap.size w W) (hP : ∀ k, P k → w.heap.size ≤ k ∧ k < W.heap.size ∧ ¬ T k ∧ ¬ ownR r v k) (ho : OpR W B2 r v Dr' W') : BoX w d r Dd Dr' P W' ∧ Kept w P W W' := by
  obtain ⟨v', g1, g2, g3⟩ := ho
  have g3' : ∀ k, ownR r v' k → ownR r v k ∨ W.heap.size ≤ k := fun k hk => hk.elim (fun e => .inl (.inl e)) (g3 k)
  refine ⟨⟨T, v', B1, B2, b1, b2, h1.frame g2 (fun k hk hr => hd k hk hr), g1, fun k hk hu => ?_, hB.trans (g2.toBelow hB.size fun k hk => Nat.le_trans b2 (h2.ge hk)), fun k hk => ?_⟩, g2.mono fun k hk => ⟨Nat.le_trans b2 (h2.ge hk), fun hp => (hP k hp).2.2.2 hk⟩⟩
  · rcases g3' k hu with h | h
    · exact hd k hk h
    · exact absurd (h1.lt hk) (by omega)
  · obtain ⟨a1, a2, a3, a4⟩ := hP k hk
    exact ⟨a1, Nat.lt_of_lt_of_le a2 g2.size, a3, fun ht => (g3' k ht).elim a4 (fun h => by omega)⟩
theorem createB {w W : World} {d r n : Nat} {Dd Dr : PD} {P : Nat → Prop} (h : BoX w d r Dd Dr P W) (hf : Fit Dd n) (hn : n ≤ 1000000) (s : ByteArray) (hs : s.size ≤ maxLen) :
    Calls Try.prog 19 #[.pointer (some ⟨d, 0, none⟩), .string s] W fun e w' => e = .returned (.int .i64 (createE Dd s)) ∧ BoX w d r (createD Dd s) Dr P w' ∧ Kept w P W w' := by
  obtain ⟨T, v, B1, B2, b1, b2, h1, h2, hd, hB, hP⟩ := h
  refine (createT h1 hf hn s hs).mono ?_
  rintro e w' ⟨he, ho⟩; exact ⟨he, BoX.opd b1 b2 h1 h2 hd hB hP ho⟩
theorem appendB {w W : World} {d r n : Nat} {Dd Dr : PD} {P : Nat → Prop} (h : BoX w d r Dd Dr P W) (hf : Fit Dd n) (hn : n ≤ 1000000) (s b : ByteArray) (hs : s.size ≤ maxLen) (hb : b.size ≤ 1000000) :
    Calls Try.prog 25 #[.pointer (some ⟨d, 0, none⟩), .string s, .string b] W fun e w' => e = .returned (.int .i64 (appendE Dd s b)) ∧ BoX w d r (appendD Dd s b) Dr P w' ∧ Kept w P W w' := by
  obtain ⟨T, v, B1, B2, b1, b2, h1, h2, hd, hB, hP⟩ := h
  refine (appendT h1 hf hn s b hs hb).mono ?_
  rintro e w' ⟨he, ho⟩; exact ⟨he, BoX.opd b1 b2 h1 h2 hd hB hP ho⟩
theorem syncB {w W : World} {d r n : Nat} {Dd Dr : PD} {P : Nat → Prop} (h : BoX w d r Dd Dr P W) (hf : Fit Dd n) (hn : n ≤ 1000000) (s : ByteArray) (hs : s.size ≤ maxLen) :
    Calls Try.prog 26 #[.pointer (some ⟨d, 0, none⟩), .string s] W fun e w' => e = .returned (.int .i64 (askE Dd s)) ∧ BoX w d r (syncD Dd s) Dr P w' ∧ Kept w P W w' := by
  obtain ⟨T, v, B1, B2, b1, b2, h1, h2, hd, hB, hP⟩ := h
  refine (syncT h1 hf hn s hs).mono ?_
  rintro e w' ⟨he, ho⟩; exact ⟨he, BoX.opd b1 b2 h1 h2 hd hB hP ho⟩
theorem removeB {w W : World} {d r n : Nat} {Dd Dr : PD} {P : Nat → Prop} (h : BoX w d r Dd Dr P W) (hf : Fit Dd n) (hn : n ≤ 1000000) (s : ByteArray) (hs : s.size ≤ maxLen) :
    Calls Try.prog 33 #[.pointer (some ⟨d, 0, none⟩), .string s] W fun e w' => e = .returned (.int .i64 (askE Dd s)) ∧ BoX w d r (removeD Dd s) Dr P w' ∧ Kept w P W w' := by
  obtain ⟨T, v, B1, B2, b1, b2, h1, h2, hd, hB, hP⟩ := h
  refine (removeT h1 hf hn s hs).mono ?_
  rintro e w' ⟨he, ho⟩; exact ⟨he, BoX.opd b1 b2 h1 h2 hd hB hP ho⟩
theorem renameB {w W : World} {d r n : Nat} {Dd Dr : PD} {P : Nat → Prop} (h : BoX w d r Dd Dr P W) (hf : Fit Dd n) (hn : n ≤ 1000000) (s t : ByteArray) (hs : s.size ≤ maxLen) (ht : t.size ≤ maxLen) :
    Calls Try.prog 31 #[.pointer (some ⟨d, 0, none⟩), .string s, .string t] W fun e w' => e = .returned (.int .i64 (askE Dd s)) ∧ BoX w d r (renameD Dd s t) Dr P w' ∧ Kept w P W w' := by
  obtain ⟨T, v, B1, B2, b1, b2, h1, h2, hd, hB, hP⟩ := h
  refine (renameT h1 hf hn s t hs ht).mono ?_
  rintro e w' ⟨he, ho⟩; exact ⟨he, BoX.opd b1 b2 h1 h2 hd hB hP ho⟩
theorem cutB {w W : World} {d r n : Nat} {Dd Dr : PD} {P : Nat → Prop} (h : BoX w d r Dd Dr P W) (hf : Fit Dd n) (hn : n ≤ 1000000) (s : ByteArray) (k : Int) (hs : s.size ≤ maxLen) :
    Calls Try.prog 32 #[.pointer (some ⟨d, 0, none⟩), .string s, .int .i64 k] W fun e w' => e = .returned (.int .i64 (askE Dd s)) ∧ BoX w d r (cutD Dd s k) Dr P w' ∧ Kept w P W w' := by
  obtain ⟨T, v, B1, B2, b1, b2, h1, h2, hd, hB, hP⟩ := h
  refine (cutT h1 hf hn s k hs).mono ?_
  rintro e w' ⟨he, ho⟩; exact ⟨he, BoX.opd b1 b2 h1 h2 hd hB hP ho⟩
theorem limitB {w W : World} {d r : Nat} {Dd Dr : PD} {P : Nat → Prop} (h : BoX w d r Dd Dr P W) (k : Int) :
    Calls Try.prog 30 #[.pointer (some ⟨d, 0, none⟩), .int .i64 k] W fun e w' => (∃ x, e = .returned x) ∧ BoX w d r (limitD Dd k) Dr P w' ∧ Kept w P W w' := by
  obtain ⟨T, v, B1, B2, b1, b2, h1, h2, hd, hB, hP⟩ := h
  refine (limitT h1 k).mono ?_
  rintro e w' ⟨he, ho⟩; exact ⟨he, BoX.opd b1 b2 h1 h2 hd hB hP ho⟩
theorem crashB {w W : World} {d r n : Nat} {Dd Dr : PD} {P : Nat → Prop} (h : BoX w d r Dd Dr P W) (hf : Fit Dd n) (keep : Nat) (hk : keep < 18446744073709551616) :
    Calls Try.prog 20 #[.pointer (some ⟨d, 0, none⟩), .int .u64 keep] W fun e w' => (∃ x, e = .returned x) ∧ BoX w d r (crashD Dd keep) Dr P w' ∧ Kept w P W w' := by
  obtain ⟨T, v, B1, B2, b1, b2, h1, h2, hd, hB, hP⟩ := h
  refine (crashT h1 hf keep hk).mono ?_
  rintro e w' ⟨he, ho⟩; exact ⟨he, BoX.opd b1 b2 h1 h2 hd hB hP ho⟩
theorem createBR {w W : World} {d r n : Nat} {Dd Dr : PD} {P : Nat → Prop} (h : BoX w d r Dd Dr P W) (hf : Fit Dr n) (hn : n ≤ 1000000) (s : ByteArray) :
    Calls Try.prog 50 #[.pointer (some ⟨r, 0, none⟩), .string s] W fun e w' => e = .returned (.int .i64 (createE Dr s)) ∧ BoX w d r Dd (createD Dr s) P w' ∧ Kept w P W w' := by
  obtain ⟨T, v, B1, B2, b1, b2, h1, h2, hd, hB, hP⟩ := h
  refine (rfCreate_any h2 hf.len (by have := hf.steps; omega) hf.left s).mono ?_
  rintro e w' ⟨he, ho⟩; exact ⟨he, BoX.opr b1 b2 h1 h2 hd hB hP ho⟩
theorem appendBR {w W : World} {d r n : Nat} {Dd Dr : PD} {P : Nat → Prop} (h : BoX w d r Dd Dr P W) (hp : Dr.L.Pairwise fun f g => f.n ≠ g.n) (hf : Fit Dr n) (hn : n ≤ 1000000) (s b : ByteArray) (hb : b.size ≤ 1000000) :
    Calls Try.prog 51 #[.pointer (some ⟨r, 0, none⟩), .string s, .string b] W fun e w' => e = .returned (.int .i64 (appendE Dr s b)) ∧ BoX w d r Dd (appendD Dr s b) P w' ∧ Kept w P W w' := by
  obtain ⟨T, v, B1, B2, b1, b2, h1, h2, hd, hB, hP⟩ := h
  refine (rfAppend_any h2 hp hf.len (by have := hf.steps; omega) hf.left hf.used hf.room s b hb).mono ?_
  rintro e w' ⟨he, ho⟩; exact ⟨he, BoX.opr b1 b2 h1 h2 hd hB hP ho⟩
theorem syncBR {w W : World} {d r n : Nat} {Dd Dr : PD} {P : Nat → Prop} (h : BoX w d r Dd Dr P W) (hp : Dr.L.Pairwise fun f g => f.n ≠ g.n) (hf : Fit Dr n) (hn : n ≤ 1000000) (s : ByteArray) :
    Calls Try.prog 52 #[.pointer (some ⟨r, 0, none⟩), .string s] W fun e w' => e = .returned (.int .i64 (askE Dr s)) ∧ BoX w d r Dd (syncD Dr s) P w' ∧ Kept w P W w' := by
  obtain ⟨T, v, B1, B2, b1, b2, h1, h2, hd, hB, hP⟩ := h
  refine (rfSync_any h2 hp hf.len (by have := hf.steps; omega) hf.left s).mono ?_
  rintro e w' ⟨he, ho⟩; exact ⟨he, BoX.opr b1 b2 h1 h2 hd hB hP ho⟩
theorem removeBR {w W : World} {d r n : Nat} {Dd Dr : PD} {P : Nat → Prop} (h : BoX w d r Dd Dr P W) (hf : Fit Dr n) (hn : n ≤ 1000000) (s : ByteArray) :
    Calls Try.prog 54 #[.pointer (some ⟨r, 0, none⟩), .string s] W fun e w' => e = .returned (.int .i64 (askE Dr s)) ∧ BoX w d r Dd (removeD Dr s) P w' ∧ Kept w P W w' := by
  obtain ⟨T, v, B1, B2, b1, b2, h1, h2, hd, hB, hP⟩ := h
  refine (rfRemove_any h2 hf.len (by have := hf.steps; omega) hf.left s).mono ?_
  rintro e w' ⟨he, ho⟩; exact ⟨he, BoX.opr b1 b2 h1 h2 hd hB hP ho⟩
theorem renameBR {w W : World} {d r n : Nat} {Dd Dr : PD} {P : Nat → Prop} (h : BoX w d r Dd Dr P W) (hf : Fit Dr n) (hn : n ≤ 1000000) (s t : ByteArray) :
    Calls Try.prog 53 #[.pointer (some ⟨r, 0, none⟩), .string s, .string t] W fun e w' => e = .returned (.int .i64 (askE Dr s)) ∧ BoX w d r Dd (renameD Dr s t) P w' ∧ Kept w P W w' := by
  obtain ⟨T, v, B1, B2, b1, b2, h1, h2, hd, hB, hP⟩ := h
  refine (rfRename_any h2 hf.len (by have := hf.steps; omega) hf.left s t).mono ?_
  rintro e w' ⟨he, ho⟩; exact ⟨he, BoX.opr b1 b2 h1 h2 hd hB hP ho⟩
theorem cutBR {w W : World} {d r n : Nat} {Dd Dr : PD} {P : Nat → Prop} (h : BoX w d r Dd Dr P W) (hp : Dr.L.Pairwise fun f g => f.n ≠ g.n) (hf : Fit Dr n) (hn : n ≤ 1000000) (s : ByteArray) (k : Int) :
    Calls Try.prog 55 #[.pointer (some ⟨r, 0, none⟩), .string s, .int .i64 k] W fun e w' => e = .returned (.int .i64 (askE Dr s)) ∧ BoX w d r Dd (cutD Dr s k) P w' ∧ Kept w P W w' := by
  obtain ⟨T, v, B1, B2, b1, b2, h1, h2, hd, hB, hP⟩ := h
  refine (rfCut_any h2 hp hf.len (by have := hf.steps; omega) hf.left s k).mono ?_
  rintro e w' ⟨he, ho⟩; exact ⟨he, BoX.opr b1 b2 h1 h2 hd hB hP ho⟩
theorem limitBR {w W : World} {d r : Nat} {Dd Dr : PD} {P : Nat → Prop} (h : BoX w d r Dd Dr P W) (k : Int) :
    Calls Try.prog 56 #[.pointer (some ⟨r, 0, none⟩), .int .i64 k] W fun e w' => (∃ x, e = .returned x) ∧ BoX w d r Dd (limitD Dr k) P w' ∧ Kept w P W w' := by
  obtain ⟨T, v, B1, B2, b1, b2, h1, h2, hd, hB, hP⟩ := h
  refine (rfLimit_any h2 k).mono ?_
  rintro e w' ⟨he, ho⟩; exact ⟨he, BoX.opr b1 b2 h1 h2 hd hB hP ho⟩
theorem crashBR {w W : World} {d r n : Nat} {Dd Dr : PD} {P : Nat → Prop} (h : BoX w d r Dd Dr P W) (hf : Fit Dr n) (hkb : ∀ f ∈ Dr.L, f.k ≤ f.b.length) (keep : Nat) (hk : keep < 18446744073709551616) :
    Calls Try.prog 57 #[.pointer (some ⟨r, 0, none⟩), .int .u64 keep] W fun e w' => (∃ x, e = .returned x) ∧ BoX w d r Dd (crashD Dr keep) P w' ∧ Kept w P W w' := by
  obtain ⟨T, v, B1, B2, b1, b2, h1, h2, hd, hB, hP⟩ := h
  refine (rfCrash_any h2 hf.len hf.used hkb keep hk).mono ?_
  rintro e w' ⟨he, ho⟩; exact ⟨he, BoX.opr b1 b2 h1 h2 hd hB hP ho⟩
theorem BoX.kept {w W : World} {d r : Nat} {Dd Dr : PD} {P : Nat → Prop} (h : BoX w d r Dd Dr P W) : ∀ f ∈ Dd.L, f.k ≤ f.b.length := by
  obtain ⟨T, v, B1, B2, b1, b2, h1, -⟩ := h; exact h1.kept
theorem BoX.ris8 {w W : World} {d r : Nat} {Dd Dr : PD} {P : Nat → Prop} (h : BoX w d r Dd Dr P W) : risN Dd.L := by
  obtain ⟨T, v, B1, B2, b1, b2, h1, -⟩ := h; exact h1.names
theorem dreadB {w W : World} {d r : Nat} {Dd Dr : PD} {P : Nat → Prop} (h : BoX w d r Dd Dr P W) (s : ByteArray) (hs : s.size ≤ maxLen) :
    Calls Try.prog 21 #[.pointer (some ⟨d, 0, none⟩), .string s] W fun e w' => e = .returned (.tuple #[.string (readB Dd s), .int .i64 (askE Dd s)]) ∧ w' = W := by
  obtain ⟨T, v, B1, B2, b1, b2, h1, h2, hd, hB, hP⟩ := h
  exact dreadT h1 s hs
theorem dreadBR {w W : World} {d r : Nat} {Dd Dr : PD} {P : Nat → Prop} (h : BoX w d r Dd Dr P W) (s : ByteArray) :
    Calls Try.prog 22 #[.pointer (some ⟨r, 0, none⟩), .string s] W fun e w' => e = .returned (.tuple #[.string (readB Dr s), .int .i64 (askE Dr s)]) ∧ w' = W := by
  obtain ⟨T, v, B1, B2, b1, b2, h1, h2, hd, hB, hP⟩ := h
  exact rfRead_any h2 s
theorem usedB {w W : World} {d r n : Nat} {Dd Dr : PD} {P : Nat → Prop} (h : BoX w d r Dd Dr P W) (hf : Fit Dd n) : Calls Try.prog 28 #[.pointer (some ⟨d, 0, none⟩)] W fun e w' => e = .returned (.int .i64 (usedL Dd.L)) ∧ Below W.heap.size W w' := by
  obtain ⟨T, v, B1, B2, b1, b2, h1, h2, hd, hB, hP⟩ := h
  exact usedT h1 hf
theorem usedBR {w W : World} {d r n : Nat} {Dd Dr : PD} {P : Nat → Prop} (h : BoX w d r Dd Dr P W) (hf : Fit Dr n) : Calls Try.prog 63 #[.pointer (some ⟨r, 0, none⟩)] W fun e w' => e = .returned (.int .i64 (usedL Dr.L)) ∧ w' = W := by
  obtain ⟨T, v, B1, B2, b1, b2, h1, h2, hd, hB, hP⟩ := h
  exact rfUsed_any h2 (by have := hf.used; omega)
theorem stepsB {w W : World} {d r : Nat} {Dd Dr : PD} {P : Nat → Prop} (h : BoX w d r Dd Dr P W) : Calls Try.prog 34 #[.pointer (some ⟨d, 0, none⟩)] W fun e w' => e = .returned (.int .i64 Dd.steps) ∧ w' = W := by
  obtain ⟨T, v, B1, B2, b1, b2, h1, h2, hd, hB, hP⟩ := h
  exact stepsT h1
theorem allB8 {w W : World} {d r n : Nat} {Dd Dr : PD} {P : Nat → Prop} (h : BoX w d r Dd Dr P W) (hf : Fit Dd n) :
    Calls Try.prog 29 #[.pointer (some ⟨d, 0, none⟩)] W fun e w' => ∃ v, e = .returned v ∧ w'.ownsRow W.heap.size 26 3 v Dd.L.length (pfCells Dd.L) ∧ Below W.heap.size W w' := by
  obtain ⟨T, v, B1, B2, b1, b2, h1, h2, hd, hB, hP⟩ := h
  exact allT h1 hf

end Go.Proofs.Ytieekahlknmkfaa
