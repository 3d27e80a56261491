/- The document's disk in memory; its small functions. -/
import Derived.Test.YtieekahlknmkfaaDskZ
namespace Go.Proofs.Ytieekahlknmkfaa
open Go.RowKit Go.Shelf
set_option linter.unusedVariables false
attribute [local go_sem] Oper.semAt_some wide_fn wide_round_fn

def leftZ (D : PD) : Int := if D.lim then (D.left : Int) else -1
structure HasRef (W : World) (B r : Nat) (D : PD) (v : Value) : Prop where
  cell : W.heap[r]? = some (.cells #[.int .i64 D.room, v, .int .i64 D.steps, .int .i64 (leftZ D)] 88 (0, 0))
  row : W.ownsRow B 26 3 v D.L.length (pfCells D.L)
  low : B ≤ r
theorem HasRef.ne {W : World} {B r : Nat} {D : PD} {v : Value} (h : HasRef W B r D v) : v.ownBlock ≠ some r := by
  intro e
  rcases h.row.2 with ⟨hv, _⟩ | ⟨g, cap, cur, hv, _, hg, _⟩
  · rw [hv] at e; cases e
  · rw [hv] at e
    obtain rfl : g = r := by simpa [Value.ownBlock] using e
    rw [h.cell] at hg
    injection hg with hg; injection hg with _ ht; exact absurd ht (by decide)
theorem own_frame8 {T : Nat → Prop} {W W' : World} {B : Nat} {e : TypeId} {sz n : Nat} {v : Value} {xs : List Value} (h : W.ownsRow B e sz v n xs) (hF : FrameT T W W') (hT : ∀ j, v.ownBlock = some j → ¬ T j) : W'.ownsRow B e sz v n xs := by
  refine ⟨h.1, ?_⟩
  rcases h.2 with h2 | ⟨g, cap, cur, hv, hb, hg, r⟩
  · exact .inl h2
  · exact .inr ⟨g, cap, cur, hv, hb, hF.get hg (hT g (by rw [hv]; rfl)), r⟩
theorem HasRef.frame {T : Nat → Prop} {W W' : World} {B r : Nat} {D : PD} {v : Value} (h : HasRef W B r D v) (hF : FrameT T W W') (hT : ∀ k, (k = r ∨ v.ownBlock = some k) → ¬ T k) : HasRef W' B r D v :=
  { cell := hF.get h.cell (hT r (.inl rfl)), row := own_frame8 h.row hF (fun j hj => hT j (.inr hj)), low := h.low }
theorem HasRef.below {W W' : World} {B r : Nat} {D : PD} {v : Value} (h : HasRef W B r D v) (hB : Below W.heap.size W W') : HasRef W' B r D v := h.frame (T := fun _ => False) (FrameT.below hB) (fun _ _ => id)
/-- A row of files, cell by cell. -/
def PFat (W : World) (a : Option Addr) (L : List PF) : Prop := ∀ i (h : i < L.length), ∃ b off, a = some ⟨b, off, none⟩ ∧ b < W.heap.size ∧ W.cell? ⟨b, off + i * 3, none⟩ = some (.string L[i].n) ∧ W.cell? ⟨b, off + i * 3 + 1, none⟩ = some (.string ⟨L[i].b.toArray⟩) ∧ W.cell? ⟨b, off + i * 3 + 2, none⟩ = some (.int .i64 L[i].k)
theorem pfCells_len (L : List PF) : (pfCells L).length = L.length * 3 := by
  induction L with
  | nil => rfl
  | cons f r ih =>
    show (f.cells ++ pfCells r).length = _
    rw [List.length_append, ih, List.length_cons]
    show 3 + _ = _
    omega
theorem pfCells_at : ∀ (L : List PF) (i : Nat) (h : i < L.length), (pfCells L)[i * 3]? = some (.string L[i].n) ∧ (pfCells L)[i * 3 + 1]? = some (.string ⟨L[i].b.toArray⟩) ∧ (pfCells L)[i * 3 + 2]? = some (.int .i64 L[i].k)
  | f :: r, 0, h => ⟨rfl, rfl, rfl⟩
  | f :: r, i + 1, h => by
    have ih := pfCells_at r i (Nat.lt_of_succ_lt_succ h)
    have e : ∀ j, (pfCells (f :: r))[(i + 1) * 3 + j]? = (pfCells r)[i * 3 + j]? := fun j => by
      show (f.cells ++ pfCells r)[_]? = _
      rw [List.getElem?_append_right (by show 3 ≤ _; omega)]
      congr 1
      show (i + 1) * 3 + j - 3 = _
      omega
    exact ⟨(e 0).trans ih.1, (e 1).trans ih.2.1, (e 2).trans ih.2.2⟩
theorem pfat_of {W : World} {a : Option Addr} {n : Nat} {L : List PF} (h : RowV W a n 3 (pfCells L)) (hn : n = L.length) : PFat W a L := fun i hi => by
  obtain ⟨b, off, e, hb, hc⟩ := h.2.2 (by omega)
  obtain ⟨h0, h1, h2⟩ := pfCells_at L i hi
  have hl := pfCells_len L
  refine ⟨b, off, e, hb, ?_, ?_, ?_⟩
  · have := hc (i * 3) (by omega); rw [this]; exact (List.getElem?_eq_getElem (by omega)).symm.trans h0
  · have := hc (i * 3 + 1) (by omega); rw [Nat.add_assoc, this]; exact (List.getElem?_eq_getElem (by omega)).symm.trans h1
  · have := hc (i * 3 + 2) (by omega); rw [Nat.add_assoc, this]; exact (List.getElem?_eq_getElem (by omega)).symm.trans h2
theorem HasRef.open {W : World} {B r : Nat} {D : PD} {v : Value} (h : HasRef W B r D v) : ∃ a cap, v = .slice a D.L.length cap ∧ D.L.length ≤ cap ∧ D.L.length ≤ maxLen ∧ PFat W a D.L := by
  obtain ⟨a, cap, hv, hc, hr⟩ := rowV_own h.row
  exact ⟨a, cap, hv, hc, hr.2.1, pfat_of hr rfl⟩
theorem cells4 {W : World} {X : Nat} {T : TypeId} {v0 v1 v2 v3 : Value} (h : W.heap[X]? = some (.cells #[v0, v1, v2, v3] T (0, 0))) :
    W.cell? ⟨X, 0, none⟩ = some v0 ∧ W.cell? ⟨X, 1, none⟩ = some v1 ∧ W.cell? ⟨X, 2, none⟩ = some v2 ∧ W.cell? ⟨X, 3, none⟩ = some v3 :=
  ⟨cell_of_row _ _ 0 _ _ _ h, cell_of_row _ _ 1 _ _ _ h, cell_of_row _ _ 2 _ _ _ h, cell_of_row _ _ 3 _ _ _ h⟩
theorem frozen4 {W : World} {X : Nat} {T : TypeId} {v0 v1 v2 v3 : Value} (h : W.heap[X]? = some (.cells #[v0, v1, v2, v3] T (0, 0))) : W.frozen? ⟨X, 1, none⟩ = false ∧ W.frozen? ⟨X, 2, none⟩ = false ∧ W.frozen? ⟨X, 3, none⟩ = false :=
  ⟨frozen_of_row _ _ 1 _ _ h, frozen_of_row _ _ 2 _ _ h, frozen_of_row _ _ 3 _ _ h⟩
theorem str_data (s : ByteArray) : s.toList = s.data.toList := ByteArray.toList_eq s
theorem str_eq {a b : ByteArray} : a.toList = b.toList ↔ a = b := by rw [str_data, str_data]; exact ba_eq
/-! ### At -/
def atZ (L : List PF) (s : ByteArray) : Int := if L.findIdx (fun f => decide (f.n = s)) < L.length then (L.findIdx (fun f => decide (f.n = s)) : Nat) else -1
theorem atZ_found {L : List PF} {s : ByteArray} {k : Nat} (hk : k < L.length) (h : L[k].n = s) (hf : ∀ j (hj : j < L.length), j < k → L[j].n ≠ s) : atZ L s = k := by
  have e : L.findIdx (fun f => decide (f.n = s)) = k := (List.findIdx_eq hk).2 ⟨by simp [h], fun j hj => by simpa using hf j (by omega) hj⟩
  unfold atZ; rw [e, if_pos hk]
theorem atZ_no {L : List PF} {s : ByteArray} (hf : ∀ j (hj : j < L.length), j < L.length → L[j].n ≠ s) : atZ L s = -1 := by
  have e : L.findIdx (fun f => decide (f.n = s)) = L.length := List.findIdx_eq_length.2 fun f hm => by
    obtain ⟨j, hj, rfl⟩ := List.mem_iff_getElem.1 hm
    simpa using hf j hj hj
  unfold atZ; rw [e, if_neg (by omega)]
set_option maxRecDepth 100000 in
theorem rfAt_any {W : World} {B r : Nat} {D : PD} {v : Value} (h : HasRef W B r D v) (s : ByteArray) :
    Calls Try.prog 47 #[.pointer (some ⟨r, 0, none⟩), .string s] W fun e w' => e = .returned (.int .i64 (atZ D.L s)) ∧ w' = W := by
  obtain ⟨c0, c1, c2, c3⟩ := cells4 h.cell
  obtain ⟨a, cap, rfl, hcap, hml, hat⟩ := h.open
  unfold maxLen at hml
  generalize D.L = L at *
  clear c0 c2 c3 h
  go_enter Try.func47, Try.ntmps47
  go_wp2
  go_loopw [5] (fun si wr => ∃ k : Nat, k ≤ L.length ∧ si = .int .i64 k ∧ (∀ j (hj : j < L.length), j < k → L[j].n ≠ s) ∧ wr = W) (fun si _ => L.length - (intOf si).toNat)
  case atStart => exact ⟨0, by omega, rfl, fun j _ hj => by omega, rfl⟩
  case round =>
    obtain ⟨k, hk, rfl, hf, rfl⟩ := hrel
    by_cases hlt : k < L.length
    · obtain ⟨b, off, rfl, hb, e0, e1, e2⟩ := hat k hlt
      have hki : (k : Int) < (L.length : Int) := by omega
      by_cases hn : L[k].n = s
      · have HZ := Lib.hid (atZ_found hlt hn hf)
        rw [hn] at e0
        clear hat hf hn e1 e2
        go_wp2
        go_ret
        exact ⟨by rw [HZ.out]; rfl, rfl⟩
      · have HF := Lib.hid (show ∀ j (hj : j < L.length), j < k + 1 → L[j].n ≠ s from fun j hj h1 => by
          rcases (by omega : j < k ∨ j = k) with h2 | rfl
          · exact hf j hj h2
          · exact hn)
        have hne : (L[k].n.toList == s.toList) = false := by rw [beq_eq_false_iff_ne]; exact fun e => hn (str_eq.1 e)
        generalize L[k].n = x at *
        clear hat hf e1 e2 hn
        go_wp2
        exact ⟨⟨k + 1, by omega, by go_num, HF.out, trivial⟩, by simp [intOf]; omega⟩
    · obtain rfl : k = L.length := by omega
      have HZ := Lib.hid (atZ_no hf)
      clear hat hf hlt hk
      go_wp2
      go_ret
      exact ⟨by rw [HZ.out]; rfl, rfl⟩

/-! ### Used, step, New -/
theorem usedL_append (A C : List PF) : usedL (A ++ C) = usedL A + usedL C := by simp [usedL]
set_option maxRecDepth 100000 in
theorem rfUsed_any {W : World} {B r : Nat} {D : PD} {v : Value} (h : HasRef W B r D v) (hu : usedL D.L < 4611686018427387904) :
    Calls Try.prog 63 #[.pointer (some ⟨r, 0, none⟩)] W fun e w' => e = .returned (.int .i64 (usedL D.L)) ∧ w' = W := by
  obtain ⟨c0, c1, c2, c3⟩ := cells4 h.cell
  obtain ⟨a, cap, rfl, hcap, hml, hat⟩ := h.open
  unfold maxLen at hml
  generalize D.L = L at *
  clear c0 c2 c3 h
  go_enter Try.func63, Try.ntmps63
  go_wp2
  go_loopw [3, 4] (fun sn si wr => ∃ k m : Nat, k ≤ L.length ∧ si = .int .i64 k ∧ m = usedL (L.take k) ∧ m ≤ usedL L ∧ sn = .int .i64 m ∧ wr = W) (fun _ si _ => L.length - (intOf si).toNat)
  case atStart => exact ⟨0, 0, by omega, rfl, rfl, by omega, rfl, rfl⟩
  case round =>
    obtain ⟨k, m, hk, rfl, hm, hmu, rfl, rfl⟩ := hrel
    by_cases hlt : k < L.length
    · obtain ⟨b, off, rfl, hb, e0, e1, e2⟩ := hat k hlt
      have hki : (k : Int) < (L.length : Int) := by omega
      have hz : (⟨L[k].b.toArray⟩ : ByteArray).size = L[k].b.length := by show L[k].b.toArray.size = _; simp
      have HM := Lib.hid (show m + (⟨L[k].b.toArray⟩ : ByteArray).size = usedL (L.take (k + 1)) ∧ m + (⟨L[k].b.toArray⟩ : ByteArray).size ≤ usedL L by
        have e1 : usedL (L.take (k + 1)) = usedL (L.take k) + L[k].b.length := by rw [List.take_succ_eq_append_getElem hlt, usedL_append]; simp [usedL]
        have e2 : usedL (L.take (k + 1)) ≤ usedL L := by
          have : usedL L = usedL (L.take (k + 1)) + usedL (L.drop (k + 1)) := by
            conv => lhs; rw [← List.take_append_drop (k + 1) L]
            rw [usedL_append]
          omega
        omega)
      generalize (⟨L[k].b.toArray⟩ : ByteArray) = x at *
      have hs := HM.out.2
      clear hat e0 e2 hm hz
      go_wp2
      exact ⟨⟨k + 1, m + x.size, by omega, by go_num, HM.out.1, HM.out.2, by go_num, trivial⟩, by simp [intOf]; omega⟩
    · obtain rfl : k = L.length := by omega
      rw [List.take_length] at hm
      clear hat hlt hk
      go_wp2
      go_ret
      exact ⟨by rw [hm]; rfl, rfl⟩
theorem rfNew_any (room : Int) (w : World) : Calls Try.prog 27 #[.int .i64 room] w fun e w' => e = .returned (.pointer (some ⟨w.heap.size, 0, none⟩)) ∧ HasRef w' w.heap.size w.heap.size ⟨[], (min (max room 0) 1000000).toNat, 0, false, 0⟩ (.slice none 0 0) ∧ Below w.heap.size w w' := by
  obtain ⟨z, hz⟩ : ∃ z : Int, z = ((((min (max room 0) 1000000).toNat : Nat)) : Int) := ⟨_, rfl⟩
  have hend : ∀ w' : World, w' = w.alloc (.cells #[.int .i64 z, .slice none 0 0, .int .i64 0, .int .i64 (-1)] 88) → HasRef w' w.heap.size w.heap.size ⟨[], (min (max room 0) 1000000).toNat, 0, false, 0⟩ (.slice none 0 0) ∧ Below w.heap.size w w' := fun w' e => by
    subst e
    refine ⟨{ cell := ?_, row := World.ownsRow_nil _ _ _ _, low := Nat.le_refl _ }, bel_alloc (Below.refl _ _) _⟩
    rw [World.alloc_heap_new, hz]; rfl
  rcases (by omega : room < 0 ∨ room = 0 ∨ (0 < room ∧ room ≤ 1000000) ∨ 1000000 < room) with h | h | h | h
  · have h1 : min room 1000000 = room := by omega
    have h2 : max 0 room = 0 := by omega
    have HE := Lib.hid hend
    have HZ := Lib.hid (show z = 0 by omega)
    clear hend hz
    go_enter Try.func27, Try.ntmps27
    go_wp2
    exact bodyPost_ret (results_tmp rfl _ _ _) rfl ⟨rfl, HE.out _ (by rw [HZ.out])⟩
  · subst h
    have HE := Lib.hid hend
    have h1 : min (0 : Int) 1000000 = 0 := by omega
    have h2 : max (0 : Int) 0 = 0 := by omega
    have HZ := Lib.hid (show z = 0 by omega)
    clear hend hz
    go_enter Try.func27, Try.ntmps27
    go_wp2
    exact bodyPost_ret (results_tmp rfl _ _ _) rfl ⟨rfl, HE.out _ (by rw [HZ.out])⟩
  · have h1 : min room 1000000 = room := by omega
    have h2 : max 0 room = room := by omega
    have HE := Lib.hid hend
    have HZ := Lib.hid (show z = room by omega)
    clear hend hz
    go_enter Try.func27, Try.ntmps27
    go_wp2
    exact bodyPost_ret (results_tmp rfl _ _ _) rfl ⟨rfl, HE.out _ (by rw [HZ.out])⟩
  · have h1 : min room 1000000 = 1000000 := by omega
    have h2 : max 0 (1000000 : Int) = 1000000 := by omega
    have HE := Lib.hid hend
    have HZ := Lib.hid (show z = 1000000 by omega)
    clear hend hz
    go_enter Try.func27, Try.ntmps27
    go_wp2
    exact bodyPost_ret (results_tmp rfl _ _ _) rfl ⟨rfl, HE.out _ (by rw [HZ.out])⟩

end Go.Proofs.Ytieekahlknmkfaa
