/- A disk in memory; the contracts of its small functions. -/
import Derived.Test.YtieekahlknmkfaaDskM
import Derived.Test.YtieekahlknmkfaaProg
namespace Go.Proofs.Ytieekahlknmkfaa
open Go.RowKit Go.Shelf
set_option linter.unusedVariables false
attribute [local go_sem] Oper.semAt_some wide_fn wide_round_fn

/-- As ownsRow; the row may bear a mark behind its cells, as what []byte(s) lays does. -/
def ownsG (w : World) (base : Nat) (e : TypeId) (size : Nat) (v : Value) (n : Nat) (xs : List Value) : Prop :=
  xs.length = n * size ∧ ((v = .slice none 0 0 ∧ n = 0) ∨
    ∃ g cap cur fz, v = .slice (some ⟨g, 0, none⟩) n cap ∧ base ≤ g ∧ w.heap[g]? = some (.cells cur e fz) ∧ n ≤ cap ∧ cap ≤ maxLen ∧ cur.size = cap * size ∧ cur.toList.take (n * size) = xs ∧ (fz = (0, 0) ∨ cur.size ≤ fz.1))
theorem ownsG_of {w : World} {base : Nat} {e : TypeId} {size n : Nat} {v : Value} {xs : List Value} (h : w.ownsRow base e size v n xs) : ownsG w base e size v n xs := by
  refine ⟨h.1, ?_⟩
  rcases h.2 with h2 | ⟨g, cap, cur, hv, hb, hg, h1, h3, h4, h5⟩
  · exact .inl h2
  · exact .inr ⟨g, cap, cur, (0, 0), hv, hb, hg, h1, h3, h4, h5, .inl rfl⟩
theorem ownsG_lt {w : World} {base : Nat} {e : TypeId} {size n : Nat} {v : Value} {xs : List Value} (h : ownsG w base e size v n xs) : ∀ k, v.ownBlock = some k → base ≤ k ∧ k < w.heap.size := by
  intro k hk
  rcases h.2 with ⟨rfl, _⟩ | ⟨g, cap, cur, fz, rfl, hb, hg, _⟩
  · simp [Value.ownBlock] at hk
  · obtain rfl : g = k := by simpa [Value.ownBlock] using hk
    exact ⟨hb, (Array.getElem?_eq_some_iff.1 hg).1⟩
structure HasDisk (W : World) (B d m : Nat) (D : PD) (F : List FileC) : Prop where
  cell : W.heap[d]? = some (.cells #[.map (some m), .int .i64 D.room, .int .i64 D.steps, .bool D.lim, .int .i64 D.left] 81 (0, 0))
  map : W.ownsMap Try.prog 9 ptrElem m F.length (dmap F)
  file : ∀ f ∈ F, W.heap[f.fb]? = some (.cells #[f.v, .int .i64 f.k] 85 (0, 0)) ∧ ownsG W B 5 1 f.v f.b.length (f.b.map vb) ∧ f.k ≤ f.b.length
  fbs : F.Pairwise fun f g => f.fb ≠ g.fb
  rows : F.Pairwise fun f g => ∀ j, f.v.ownBlock = some j → g.v.ownBlock ≠ some j
  nms : F.Pairwise fun f g => f.n ≠ g.n
  core : F.map FileC.core = D.L
  low : B ≤ d ∧ B ≤ m ∧ ∀ f ∈ F, B ≤ f.fb
/-- The blocks that are the disk's. -/
def ownD (F : List FileC) (d m k : Nat) : Prop := k = d ∨ k = m ∨ ∃ f ∈ F, k = f.fb ∨ f.v.ownBlock = some k
theorem ownsG_frame {T : Nat → Prop} {W W' : World} {B : Nat} {e : TypeId} {sz n : Nat} {v : Value} {xs : List Value} (h : ownsG W B e sz v n xs) (hF : FrameT T W W') (hT : ∀ j, v.ownBlock = some j → ¬ T j) : ownsG W' B e sz v n xs := by
  refine ⟨h.1, ?_⟩
  rcases h.2 with h2 | ⟨g, cap, cur, fz, hv, hb, hg, r⟩
  · exact .inl h2
  · exact .inr ⟨g, cap, cur, fz, hv, hb, hF.get hg (hT g (by rw [hv]; rfl)), r⟩
theorem ownsMap_frame {T : Nat → Prop} {W W' : World} {P : Program} {k : TypeId} {R : Value → Option (DataW Unit × List MemPlace)} {b n : Nat} {D : DataW Unit} (h : W.ownsMap P k R b n D) (hF : FrameT T W W') (hT : ¬ T b) : W'.ownsMap P k R b n D := by
  obtain ⟨es, clock, h1, r⟩ := h
  exact ⟨es, clock, hF.get h1 hT, r⟩
theorem HasDisk.frame {T : Nat → Prop} {W W' : World} {B d m : Nat} {D : PD} {F : List FileC} (h : HasDisk W B d m D F) (hF : FrameT T W W') (hT : ∀ k, ownD F d m k → ¬ T k) : HasDisk W' B d m D F :=
  { cell := hF.get h.cell (hT d (.inl rfl))
    map := ownsMap_frame h.map hF (hT m (.inr (.inl rfl)))
    file := fun f hf => ⟨hF.get (h.file f hf).1 (hT _ (.inr (.inr ⟨f, hf, .inl rfl⟩))), ownsG_frame (h.file f hf).2.1 hF (fun j hj => hT j (.inr (.inr ⟨f, hf, .inr hj⟩))), (h.file f hf).2.2⟩
    fbs := h.fbs, rows := h.rows, nms := h.nms, core := h.core, low := h.low }
theorem HasDisk.below {W W' : World} {B d m : Nat} {D : PD} {F : List FileC} (h : HasDisk W B d m D F) (hB : Below W.heap.size W W') : HasDisk W' B d m D F :=
  h.frame (T := fun _ => False) (FrameT.below hB) (fun _ _ => id)
/-- The disk's own cells have turned, nothing else. -/
theorem HasDisk.own {W W' : World} {B d m : Nat} {D D' : PD} {F : List FileC} (h : HasDisk W B d m D F) (hF : FrameT (fun k => k = d) W W') (hc : W'.heap[d]? = some (.cells #[.map (some m), .int .i64 D'.room, .int .i64 D'.steps, .bool D'.lim, .int .i64 D'.left] 81 (0, 0))) (hL : D'.L = D.L) : HasDisk W' B d m D' F := by
  have hm : m ≠ d := fun e => by
    obtain ⟨es, clock, h1, _⟩ := h.map
    rw [e, h.cell] at h1; cases h1
  have hf : ∀ f ∈ F, f.fb ≠ d ∧ f.v.ownBlock ≠ some d := fun f hf => by
    constructor
    · intro e
      have := (h.file f hf).1
      rw [e, h.cell] at this
      injection this with this; injection this with _ ht; exact absurd ht (by decide)
    · intro e
      rcases (h.file f hf).2.1.2 with ⟨hv, _⟩ | ⟨g, cap, cur, fz, hv, _, hg, _⟩
      · rw [hv] at e; cases e
      · rw [hv] at e
        obtain rfl : g = d := by simpa [Value.ownBlock] using e
        rw [h.cell] at hg
        injection hg with hg; injection hg with _ ht; exact absurd ht (by decide)
  exact
  { cell := hc
    map := ownsMap_frame h.map hF hm
    file := fun f hf' => ⟨hF.get (h.file f hf').1 (hf f hf').1, ownsG_frame (h.file f hf').2.1 hF (fun j hj e => (hf f hf').2 (by rw [← e]; exact hj)), (h.file f hf').2.2⟩
    fbs := h.fbs, rows := h.rows, nms := h.nms, core := by rw [hL]; exact h.core, low := h.low }
theorem cells5 {W : World} {X : Nat} {T : TypeId} {v0 v1 v2 v3 v4 : Value} (h : W.heap[X]? = some (.cells #[v0, v1, v2, v3, v4] T (0, 0))) :
    W.cell? ⟨X, 0, none⟩ = some v0 ∧ W.cell? ⟨X, 1, none⟩ = some v1 ∧ W.cell? ⟨X, 2, none⟩ = some v2 ∧ W.cell? ⟨X, 3, none⟩ = some v3 ∧ W.cell? ⟨X, 4, none⟩ = some v4 :=
  ⟨cell_of_row _ _ 0 _ _ _ h, cell_of_row _ _ 1 _ _ _ h, cell_of_row _ _ 2 _ _ _ h, cell_of_row _ _ 3 _ _ _ h, cell_of_row _ _ 4 _ _ _ h⟩
theorem frozen5 {W : World} {X : Nat} {T : TypeId} {v0 v1 v2 v3 v4 : Value} (h : W.heap[X]? = some (.cells #[v0, v1, v2, v3, v4] T (0, 0))) : W.frozen? ⟨X, 2, none⟩ = false ∧ W.frozen? ⟨X, 3, none⟩ = false ∧ W.frozen? ⟨X, 4, none⟩ = false :=
  ⟨frozen_of_row _ _ 2 _ _ h, frozen_of_row _ _ 3 _ _ h, frozen_of_row _ _ 4 _ _ h⟩

theorem lawStr : Maps.Keyed Try.prog 9 := Maps.string_keyed Try.underlying9
theorem zeroPtr (w : World) : (zeroValue 82).run Try.prog w = .ok (.pointer none) w := by kernel_rfl

def offB (D : PD) : Bool := D.lim && decide (D.left = 0)
theorem off_any {W : World} {B d m : Nat} {D : PD} {F : List FileC} (h : HasDisk W B d m D F) : Calls Try.prog 58 #[.pointer (some ⟨d, 0, none⟩)] W fun e w' => e = .returned (.bool (offB D)) ∧ w' = W := by
  obtain ⟨c0, c1, c2, c3, c4⟩ := cells5 h.cell
  obtain ⟨L, room, steps, lim, left⟩ := D
  dsimp only at *
  unfold offB
  dsimp only
  clear h
  cases lim
  · go_enter Try.func58, Try.ntmps58
    go_wp2
    go_ret
    exact ⟨by simp, rfl⟩
  · go_enter Try.func58, Try.ntmps58
    go_wp2
    go_ret
    refine ⟨?_, rfl⟩
    show Ending.returned (.bool ((left : Int) == 0)) = _
    congr 2
    rw [Bool.eq_iff_iff]; simp
set_option maxRecDepth 100000 in
theorem has_any {W : World} {B d m : Nat} {D : PD} {F : List FileC} (h : HasDisk W B d m D F) (s : ByteArray) (hs : s.size ≤ maxLen) : Calls Try.prog 45 #[.pointer (some ⟨d, 0, none⟩), .string s] W fun e w' => e = .returned (.bool (getK PF.n D.L s).isSome) ∧ w' = W := by
  obtain ⟨c0, c1, c2, c3, c4⟩ := cells5 h.cell
  have hmap := h.map
  have hkey := Go.WideMaps.keyOf_string_mk (s := s) Try.underlying9 hs
  have HH := Lib.hid (show Maps.has (dmap F) (.string s.data.toList) = (getK PF.n D.L s).isSome by rw [dmap_has, ← h.core, ← getK_map (g := FileC.core) (nm := FileC.n) (nb := PF.n) (fun x => rfl)]; simp)
  clear h c1 c2 c3 c4
  go_enter Try.func45, Try.ntmps45
  go_wp2_with (at_lookup; refine wpList_lookup_own_ok _ rfl _ _ 79 rfl 9 82 lawStr Try.underlying79 ptrElem (zeroPtr _) .nil [] rfl m F.length (dmap F) rfl hmap _ _ rfl hkey ?_; intro v ps hv; rw [HH.out])
  go_ret
  exact ⟨rfl, rfl⟩

def askE (D : PD) (s : ByteArray) : Int := if offB D then 18 else if (getK PF.n D.L s).isSome then 0 else 19
set_option maxRecDepth 100000 in
theorem ask_any {W : World} {B d m : Nat} {D : PD} {F : List FileC} (h : HasDisk W B d m D F) (s : ByteArray) (hs : s.size ≤ maxLen) : Calls Try.prog 62 #[.pointer (some ⟨d, 0, none⟩), .string s] W fun e w' => e = .returned (.int .i64 (askE D s)) ∧ w' = W := by
  have GO := Lib.hid (off_any h)
  have GH := Lib.hid (has_any h s hs)
  unfold askE
  generalize offB D = o at *
  generalize (getK PF.n D.L s).isSome = t at *
  clear h
  cases o <;> cases t
  all_goals
    go_enter Try.func62, Try.ntmps62
    go_wp2_with (first
      | (go_at_call 58; ((with_reducible refine GO.out.mono ?_); rintro e w1 ⟨rfl, rfl⟩))
      | (go_at_call 45; ((with_reducible refine GH.out.mono ?_); rintro e w1 ⟨rfl, rfl⟩)))
    go_ret
    exact ⟨rfl, rfl⟩
def doneD (D : PD) : PD := { D with steps := D.steps + 1, left := if D.lim then D.left - 1 else D.left }
theorem done_any {W : World} {B d m : Nat} {D : PD} {F : List FileC} (h : HasDisk W B d m D F) (ho : offB D = false) (hst : D.steps < 4611686018427387904) (hle : D.left < 9223372036854775808) : Calls Try.prog 59 #[.pointer (some ⟨d, 0, none⟩)] W fun e w' => e = .returned (.int .i64 0) ∧ HasDisk w' B d m (doneD D) F ∧ FrameT (fun k => k = d) W w' := by
  obtain ⟨c0, c1, c2, c3, c4⟩ := cells5 h.cell
  obtain ⟨f2, f3, f4⟩ := frozen5 h.cell
  have HD := Lib.hid h
  have hcell := Lib.hid h.cell
  obtain ⟨L, room, steps, lim, left⟩ := D
  dsimp only at *
  unfold doneD
  dsimp only
  clear h
  cases lim
  · have H1 := Lib.hid (heap_setCell_same W d 2 _ _ (.int .i64 ((steps : Int) + 1)) hcell.out)
    have H2 := Lib.hid (FrameT.setCell W d 2 (.int .i64 ((steps : Int) + 1)))
    clear ho
    go_enter Try.func59, Try.ntmps59
    go_wp2
    go_ret
    refine ⟨rfl, HD.out.own H2.out ?_ rfl, H2.out⟩
    rw [H1.out]; simp
  · have hl : left ≠ 0 := by intro e; subst e; simp [offB] at ho
    have H1 := Lib.hid (heap_setCell_same _ d 4 _ _ (.int .i64 ((left : Int) - 1)) (heap_setCell_same W d 2 _ _ (.int .i64 ((steps : Int) + 1)) hcell.out))
    have H2 := Lib.hid ((FrameT.setCell W d 2 (.int .i64 ((steps : Int) + 1))).trans (FrameT.setCell _ d 4 (.int .i64 ((left : Int) - 1))))
    have hl1 : (1 : Int) ≤ (left : Int) := by omega
    have HL := Lib.hid (show (((left - 1 : Nat) : Nat) : Int) = (left : Int) - 1 by omega)
    clear ho hl
    go_enter Try.func59, Try.ntmps59
    go_wp2
    go_ret
    refine ⟨rfl, HD.out.own H2.out ?_ rfl, H2.out⟩
    rw [H1.out]; simp [HL.out]

end Go.Proofs.Ytieekahlknmkfaa
