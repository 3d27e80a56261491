/- The contracts of package record's parts, open. -/
import Derived.Test.YtdncdlbhgaehmaaRec
import Derived.Test.YtdncdlbhgaehmaaIterK
import Derived.Test.YtdncdlbhgaehmaaReadAny
namespace Go.Proofs.Ytdncdlbhgaehmaa
open Go.RowKit Go.Shelf
set_option linter.unusedVariables false
attribute [local go_sem] Oper.semAt_some wide_fn wide_round_fn

theorem infoPart : (Try.prog.info? 41).map (fun i => (i.zero, i.size, i.bytes)) = some (some (.agg #[.int .i64 0, .int .i64 0, .slice none 0 0, .int .i64 0, .int .i64 0, .int .i64 0, .int .i64 0, .int .i64 0, .bool false, .bool false]), 10, 88) := by kernel_rfl
theorem HasE.frame {T : Nat → Prop} {W W' : World} {P : PartC} {l : List EntryC} (h : HasE W P l) (hF : FrameT T W W') (hne : ∀ k, inBlkE P.a P.len k → ¬ T k) : HasE W' P l := by
  refine ⟨h.1, h.2.1, h.2.2.1, h.2.2.2.1, fun h0 => ?_⟩
  obtain ⟨c, off, e, hlt, hc⟩ := h.2.2.2.2 h0
  refine ⟨c, off, e, Nat.lt_of_lt_of_le hlt hF.size, fun j hj => ?_⟩
  exact (World.cell?_of_block (w := W) (hF.block c hlt (hne c ⟨c, off, e, h0, rfl⟩))).trans (hc j hj)
theorem hasE_stab {B : Nat} {P : PartC} {l : List EntryC} : Stab B (fun _ => False) (fun W => HasE W P l) := fun W W' h hm => by
  refine ⟨h.1, h.2.1, h.2.2.1, h.2.2.2.1, fun h0 => ?_⟩
  obtain ⟨c, off, e, hlt, hc⟩ := h.2.2.2.2 h0
  exact ⟨c, off, e, Nat.lt_of_lt_of_le hlt hm.size, fun j hj => Stab.cell (B := B) (T := fun _ => False) id W W' (hc j hj) hm⟩
theorem FrameT.grownRow {w w' : World} {row : Option Nat} (h : w.grownBy w' row) : FrameT (fun k => some k = row) w w' := ⟨h.os, h.tape, h.output, h.size, fun k hk hT => h.block k hk hT⟩
theorem inBlkE_len {W : World} {P : PartC} {l : List EntryC} (h : HasE W P l) {k : Nat} (hk : inBlkE P.a P.len k) : k < W.heap.size := inBlkE_lt h.2.2 hk
theorem wpListIn_append_at {F : Fence} {n : Nat} {P : Program} (w : World) {ops : Array Oper} {rest : List Oper} {o : Oper} {a : Act} {Q : Exit → Act → World → Prop}
    (hg : o.guard = none) (s x : Operand) (t : TypeId) (hop : o.op = Op.call { callee := Callee.builtin Builtin.append, args := #[s, x], argTypes := #[t, t] })
    (base : Nat) (e : TypeId) (i : TypeInfo) (z : Value) (size bytes : Nat) (h1 : P.underlying t = some (.slice e)) (h2 : P.info? e = some i) (h3 : i.zero = some z) (h4 : i.size = size) (h5 : i.bytes = bytes) (h6 : z.cells.size = size) (h7 : 0 < size)
    (v : Value) (k : Nat) (xs : List Value) (hs : a.eval s = v) (hown : w.ownsRow base e size v k xs) (ad : Addr) (m c : Nat) (news : List Value) (hx : a.eval x = .slice (some ad) m c) (hn : news.length = m * size)
    (hc : ∀ j u, news[j]? = some u → w.cell? (ad.add j) = some u) (h1c : ∀ u ∈ news, u.oneCell' = true) (b1 : k + m ≤ maxLen) (b2 : (k + m) * bytes ≤ 140737488355328) (b3 : base ≤ w.heap.size)
    (hK : ∀ v' w', w'.ownsRow base e size v' (k + m) (xs ++ news) → w.grownBy w' v.ownBlock → (v'.ownBlock = v.ownBlock ∨ v'.ownBlock = some w.heap.size) → wpListIn F n P ops Q rest (a.put o.dst v') w') :
    wpListIn F n P ops Q (o :: rest) a w := by
  refine wpListIn_plain hg fun K hK' => ?_
  obtain ⟨v', w', hrun, r1, r2, _, r3⟩ := run_append_own_at (P := P) (w := w) base t o.type e i z size bytes h1 h2 h3 h4 h5 h6 h7 v k xs hown ad m c news hn hc h1c b1 b2 b3
  unfold Oper.wpIn
  refine ⟨?_, ?_⟩
  · simp [Oper.about, hop, resolve, Target.leads, Sem.run_pure]
  · rw [Oper.semAt_plain F _ _ (by rw [hop]; intro c hc'; cases hc')]
    simp [execOp, hop, resolve, invoke, builtin, hs, hx, hrun, Result.andThen]
    exact hK' _ _ (hK v' w' r1 r2 r3)

/-- What parts hands out next: few, in new memory. -/
def nxP (pre : List PL) (x : PL) (W2 W : World) : Prop := pre.length < 4 ∧ HasE W x.1 x.2 ∧ (∀ k, inBlkE x.1.a x.1.len k → W2.heap.size ≤ k) ∧ Below W2.heap.size W2 W

theorem two_boxes (w : World) (A B : Array Value) (T U : TypeId) : ((w.alloc (.cells A T)).alloc (.cells B U)).heap[w.heap.size]? = some (.cells A T (0, 0)) ∧ ((w.alloc (.cells A T)).alloc (.cells B U)).heap[w.heap.size + 1]? = some (.cells B U (0, 0)) :=
  ⟨two_a w A B T U, two_b w A B T U⟩
end Go.Proofs.Ytdncdlbhgaehmaa
