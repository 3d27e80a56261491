/- The contracts of a disk's functions: New, Limit, Steps, Create, Remove, Sync, Rename, Read. -/
import Derived.Test.YtieekahlknmkfaaDskO
namespace Go.Proofs.Ytieekahlknmkfaa
open Go.RowKit Go.Shelf
set_option linter.unusedVariables false
attribute [local go_sem] Oper.semAt_some wide_fn wide_round_fn

theorem own_slice {W : World} {B : Nat} {e : TypeId} {sz n : Nat} {v : Value} {xs : List Value} (h : W.ownsRow B e sz v n xs) : ∃ a cap, v = .slice a n cap := by
  rcases h.2 with ⟨rfl, rfl⟩ | ⟨g, cap, _, rfl, _⟩
  · exact ⟨none, 0, rfl⟩
  · exact ⟨_, cap, rfl⟩
theorem own_sliceG {W : World} {B : Nat} {e : TypeId} {sz n : Nat} {v : Value} {xs : List Value} (h : ownsG W B e sz v n xs) : ∃ a cap, v = .slice a n cap := by
  rcases h.2 with ⟨rfl, rfl⟩ | ⟨g, cap, _, _, rfl, _⟩
  · exact ⟨none, 0, rfl⟩
  · exact ⟨_, cap, rfl⟩
theorem ownsG_cells {W : World} {B : Nat} {e : TypeId} {n : Nat} {v : Value} {xs : List Value} (h : ownsG W B e 1 v n xs) {g : Nat} (hg : v.ownBlock = some g) : ∀ j u, xs[j]? = some u → W.cell? ((⟨g, 0, none⟩ : Addr).add j) = some u := by
  intro j u hu
  rcases h.2 with ⟨rfl, _⟩ | ⟨g', cap, cur, fz, rfl, hb, hg', _, _, _, ht, _⟩
  · simp [Value.ownBlock] at hg
  · obtain rfl : g' = g := by simpa [Value.ownBlock] using hg
    rw [Addr.add_lit, Lib.cell_of_heap hg']
    rw [← ht, List.getElem?_take] at hu
    split at hu
    · simpa [Array.getElem?_toList] using hu
    · cases hu
theorem run_string_G {P : Program} {W : World} {src dst e : TypeId} (hs : P.underlying src = some (.slice e)) (he : P.underlying e = some (.int .u8)) (hd : P.underlying dst = some .string)
    {base n : Nat} {v : Value} {l : List UInt8} (h : ownsG W base e 1 v n (l.map vb)) : (convert src dst v).run P W = .ok (.string ⟨l.toArray⟩) W := by
  have hl : l.length = n := by have := h.1; simpa using this
  subst hl
  rcases h.2 with ⟨rfl, h0⟩ | ⟨g, cap, cur, fz, rfl, _, hg, _, _, _, ht, _⟩
  · obtain rfl : l = [] := List.eq_nil_of_length_eq_zero h0
    exact Lib.run_convert_nil_bytes W src dst e 0 hs he hd
  · refine run_convert_bytes_back W src dst e _ cap l hs he hd fun j hj => ?_
    exact ownsG_cells h (g := g) rfl j (vb l[j]) (by simp [hj])
theorem ptr_some (b : Nat) : ptrElem (.pointer (some ⟨b, 0, none⟩)) = some (.lit (.int .i64 b), []) := rfl
theorem look_run {W : World} {B d m : Nat} {D : PD} {F : List FileC} (h : HasDisk W B d m D F) {s : ByteArray} (hs : s.size ≤ maxLen) {f : FileC} (hf : getK FileC.n F s = some f) :
    (Instr.lookup 79 (.map (some m)) (.string s) false).run Try.prog W = .ok (.pointer (some ⟨f.fb, 0, none⟩)) W := by
  obtain ⟨v, ps, hrun, hv⟩ := h.map.lookup lawStr Try.underlying79 (zeroPtr W) (zd := .nil) (zp := []) rfl (Go.WideMaps.keyOf_string_mk Try.underlying9 hs)
  rw [dmap_at, hf] at hv
  rw [ptrElem_some hv] at hrun
  exact hrun
theorem cells2 {W : World} {X : Nat} {T : TypeId} {v0 v1 : Value} (h : W.heap[X]? = some (.cells #[v0, v1] T (0, 0))) : W.cell? ⟨X, 0, none⟩ = some v0 ∧ W.cell? ⟨X, 1, none⟩ = some v1 ∧ W.frozen? ⟨X, 0, none⟩ = false ∧ W.frozen? ⟨X, 1, none⟩ = false :=
  ⟨cell_of_row _ _ 0 _ _ _ h, cell_of_row _ _ 1 _ _ _ h, frozen_of_row _ _ 0 _ _ h, frozen_of_row _ _ 1 _ _ h⟩
theorem dheld_any (n most : Int) (w : World) : Calls Try.prog 46 #[.int .i64 n, .int .i64 most] w fun e w' => e = .returned (.int .i64 (min (max n 0) most)) ∧ w' = w := by
  go_enter Try.func46, Try.ntmps46
  go_wp2
  all_goals
    go_ret
    refine ⟨?_, rfl⟩
    show Ending.returned (.int .i64 _) = .returned (.int .i64 _)
    congr 2
    omega
theorem keep_any {W : World} {fb : Nat} {a : Option Addr} {len cap k : Nat} (h : W.heap[fb]? = some (.cells #[.slice a len cap, .int .i64 k] 85 (0, 0))) : Calls Try.prog 61 #[.pointer (some ⟨fb, 0, none⟩)] W fun e w' => (∃ v, e = .returned v) ∧ w' = W.setCell ⟨fb, 1, none⟩ (.int .i64 len) := by
  obtain ⟨c0, c1, f0, f1⟩ := cells2 h
  clear h
  go_enter Try.func61, Try.ntmps61
  go_wp2
  refine bodyPost_end (results_none rfl _ _ _) rfl ?_
  exact ⟨⟨_, rfl⟩, rfl⟩
theorem dnew_any (room : Int) (w : World) : Calls Try.prog 24 #[.int .i64 room] w fun e w' => e = .returned (.pointer (some ⟨w.heap.size + 1, 0, none⟩)) ∧ HasDisk w' w.heap.size (w.heap.size + 1) w.heap.size ⟨[], (min (max room 0) 1000000).toNat, 0, false, 0⟩ [] ∧ Below w.heap.size w w' := by
  have GH := Lib.hid (dheld_any room 1000000)
  have hr : ((((min (max room 0) 1000000).toNat : Nat)) : Int) = min (max room 0) 1000000 := by omega
  have HR := Lib.hid hr
  have hmm := @run_makeMap Try.prog
  generalize min (max room 0) 1000000 = r at *
  clear hr
  go_enter Try.func24, Try.ntmps24
  go_wp2_with (go_at_call 46; ((with_reducible refine (GH.out _).mono ?_); rintro e w1 ⟨rfl, rfl⟩))
  exact bodyPost_ret (results_tmp rfl _ _ _) rfl ⟨rfl,
    { cell := by have := World.alloc_heap_new (w.alloc (.map #[] 0)) (.cells #[.map (some w.heap.size), .int .i64 r, .int .i64 0, .bool false, .int .i64 0] 81); rw [World.size_alloc] at this; rw [this, HR.out]; rfl
      map := (World.ownsMap_made _ _ _ _).alloc _
      file := fun f hf => by cases hf
      fbs := List.Pairwise.nil, rows := List.Pairwise.nil, nms := List.Pairwise.nil, core := rfl
      low := ⟨by omega, by omega, fun f hf => by cases hf⟩ }, bel_alloc (bel_alloc (Below.refl _ _) _) _⟩
theorem limit_any {W : World} {B d m : Nat} {D : PD} {F : List FileC} (h : HasDisk W B d m D F) (n : Int) : Calls Try.prog 30 #[.pointer (some ⟨d, 0, none⟩), .int .i64 n] W fun e w' => (∃ v, e = .returned v) ∧ HasDisk w' B d m { D with lim := true, left := (max n 0).toNat } F ∧ FrameT (fun k => k = d) W w' := by
  obtain ⟨c0, c1, c2, c3, c4⟩ := cells5 h.cell
  obtain ⟨f2, f3, f4⟩ := frozen5 h.cell
  have HD := Lib.hid h
  have hcell := Lib.hid h.cell
  obtain ⟨L, room, steps, lim, left⟩ := D
  dsimp only at *
  clear h
  rcases (by omega : n < 0 ∨ n = 0 ∨ 0 < n) with hn | rfl | hn
  · have HN := Lib.hid (show max n 0 = 0 by omega)
    have H1 := Lib.hid (heap_setCell_same _ d 4 _ _ (.int .i64 0) (heap_setCell_same W d 3 _ _ (.bool true) hcell.out))
    have H2 := Lib.hid ((FrameT.setCell W d 3 (.bool true)).trans (FrameT.setCell _ d 4 (.int .i64 0)))
    go_enter Try.func30, Try.ntmps30
    go_wp2
    refine bodyPost_end (results_none rfl _ _ _) rfl ?_
    refine ⟨⟨_, rfl⟩, HD.out.own H2.out ?_ rfl, H2.out⟩
    rw [H1.out]; simp [HN.out]
  · have HN := Lib.hid (show max 0 0 = 0 by omega)
    have H1 := Lib.hid (heap_setCell_same _ d 4 _ _ (.int .i64 0) (heap_setCell_same W d 3 _ _ (.bool true) hcell.out))
    have H2 := Lib.hid ((FrameT.setCell W d 3 (.bool true)).trans (FrameT.setCell _ d 4 (.int .i64 0)))
    go_enter Try.func30, Try.ntmps30
    go_wp2
    refine bodyPost_end (results_none rfl _ _ _) rfl ?_
    refine ⟨⟨_, rfl⟩, HD.out.own H2.out ?_ rfl, H2.out⟩
    rw [H1.out]; simp
  · have HN := Lib.hid (show max n 0 = n by omega)
    have H1 := Lib.hid (heap_setCell_same _ d 4 _ _ (.int .i64 n) (heap_setCell_same W d 3 _ _ (.bool true) hcell.out))
    have H2 := Lib.hid ((FrameT.setCell W d 3 (.bool true)).trans (FrameT.setCell _ d 4 (.int .i64 n)))
    go_enter Try.func30, Try.ntmps30
    go_wp2
    refine bodyPost_end (results_none rfl _ _ _) rfl ?_
    refine ⟨⟨_, rfl⟩, HD.out.own H2.out ?_ rfl, H2.out⟩
    rw [H1.out]; simp [HN.out]
theorem steps_any {W : World} {B d m : Nat} {D : PD} {F : List FileC} (h : HasDisk W B d m D F) : Calls Try.prog 34 #[.pointer (some ⟨d, 0, none⟩)] W fun e w' => e = .returned (.int .i64 D.steps) ∧ w' = W := by
  obtain ⟨c0, c1, c2, c3, c4⟩ := cells5 h.cell
  clear h
  go_enter Try.func34, Try.ntmps34
  go_wp2
  go_ret
  exact ⟨rfl, rfl⟩

end Go.Proofs.Ytieekahlknmkfaa
