/- The contracts of a disk's functions: Create, Remove, Sync, Rename, Read. -/
import Derived.Test.YtieekahlknmkfaaDskF
namespace Go.Proofs.Ytieekahlknmkfaa
open Go.RowKit Go.Shelf
set_option linter.unusedVariables false
attribute [local go_sem] Oper.semAt_some wide_fn wide_round_fn

def createE (D : PD) (s : ByteArray) : Int := if offB D then 18 else if (getK PF.n D.L s).isSome then 20 else if 1000 ≤ D.L.length then 17 else 0
def createD (D : PD) (s : ByteArray) : PD := if createE D s = 0 then doneD { D with L := putK PF.n ⟨s, [], 0⟩ D.L } else D
theorem createD_no {W : World} {B d m : Nat} {D : PD} {F : List FileC} (h : HasDisk W B d m D F) {s : ByteArray} {n : Int} (e : createE D s = n) (hn : n ≠ 0) : Ending.returned (.int .i64 n) = Ending.returned (.int .i64 (createE D s)) ∧ OpD W B d m F (createD D s) W := by
  unfold createD
  rw [e, if_neg hn]
  exact ⟨rfl, OpD.refl h⟩
theorem putC_new {W w1 : World} {B d m n' : Nat} {D : PD} {F : List FileC} (h : HasDisk W B d m D F) {s : ByteArray} (hg : w1.heap[W.heap.size]? = some (.cells #[.slice none 0 0, .int .i64 0] 85 (0, 0))) (hm : w1.ownsMap Try.prog 9 ptrElem m n' ((dmap F).put (.string s.data.toList) (.lit (.int .i64 W.heap.size)))) (hF : FrameT (fun k => k = m) (W.alloc (.cells #[.slice none 0 0, .int .i64 0] 85)) w1) (hB : B ≤ W.heap.size) :
    HasDisk w1 B d m { D with L := putK PF.n ⟨s, [], 0⟩ D.L } (putK FileC.n ⟨s, W.heap.size, .slice none 0 0, [], 0⟩ F) := by
  have h2 : HasDisk (W.alloc (.cells #[.slice none 0 0, .int .i64 0] 85)) B d m D F := h.below (bel_alloc (Below.refl _ _) _)
  refine h2.put ⟨s, W.heap.size, .slice none 0 0, [], 0⟩ (fun g hg' _ => ⟨fun e => ?_, fun j hj => by simp [Value.ownBlock]⟩) ⟨hg, ownsG_of (World.ownsRow_nil _ _ _ _), Nat.le_refl _⟩ hm hF hB
  have := h.lt (k := g.fb) (.inr (.inr ⟨g, hg', .inl rfl⟩))
  have e' : g.fb = W.heap.size := e
  omega
theorem putC_grown {W w1 : World} {B d m n' : Nat} {D : PD} {F : List FileC} (h : HasDisk W B d m D F) {s : ByteArray} (hm : w1.ownsMap Try.prog 9 ptrElem m n' ((dmap F).put (.string s.data.toList) (.lit (.int .i64 W.heap.size)))) (hG : (W.alloc (.cells #[.slice none 0 0, .int .i64 0] 85)).grownBy w1 (some m)) (hB : B ≤ W.heap.size) :
    HasDisk w1 B d m { D with L := putK PF.n ⟨s, [], 0⟩ D.L } (putK FileC.n ⟨s, W.heap.size, .slice none 0 0, [], 0⟩ F) := by
  have hlt := h.map.lt
  refine putC_new h ?_ hm (frame_map hG) hB
  rw [hG.block _ (by rw [World.size_alloc]; omega) (by intro e; injection e with e; omega), World.alloc_heap_new]
theorem opD_put {W w1 w2 : World} {B d m : Nat} {D : PD} {F : List FileC} (h : HasDisk W B d m D F) {x : FileC} (hx : W.heap.size ≤ x.fb ∧ ∀ j, x.v.ownBlock = some j → W.heap.size ≤ j) (hF : FrameT (fun k => k = m) W w1) (hG : FrameT (fun k => k = d) w1 w2) (D' : PD) (hD : HasDisk w2 B d m D' (putK FileC.n x F)) : OpD W B d m F D' w2 := by
  refine ⟨_, hD, (hF.mono fun k hk => .inr (.inl hk)).trans (hG.mono fun k hk => .inl hk), fun k hk => ?_⟩
  rcases hk with hk | hk | ⟨f, hf, hk⟩
  · exact .inl (.inl hk)
  · exact .inl (.inr (.inl hk))
  · rcases mem_putK.1 hf with rfl | ⟨hf, _⟩
    · rcases hk with rfl | hk
      · exact .inr hx.1
      · exact .inr (hx.2 k hk)
    · exact .inl (.inr (.inr ⟨f, hf, hk⟩))
set_option maxRecDepth 100000 in
set_option maxHeartbeats 1000000 in
theorem create_any {W : World} {B d m : Nat} {D : PD} {F : List FileC} (h : HasDisk W B d m D F) (s : ByteArray) (hs : s.size ≤ maxLen) (hst : D.steps < 4611686018427387904) (hle : D.left < 9223372036854775808) (hBW : B ≤ W.heap.size) :
    Calls Try.prog 19 #[.pointer (some ⟨d, 0, none⟩), .string s] W fun e w' => e = .returned (.int .i64 (createE D s)) ∧ OpD W B d m F (createD D s) w' := by
  have GO := Lib.hid (off_any h)
  have GH := Lib.hid (has_any h s hs)
  obtain ⟨c0, c1, c2, c3, c4⟩ := cells5 h.cell
  have hmap := h.map
  have hkey := Go.WideMaps.keyOf_string_mk (s := s) Try.underlying9 hs
  have HL : F.length = D.L.length := by rw [← h.core, List.length_map]
  have HD := Lib.hid h
  have HG := Lib.hid (h.get s)
  cases ho : offB D
  · cases hg : (getK PF.n D.L s).isSome
    · by_cases hc : 1000 ≤ D.L.length
      · have HE := Lib.hid (show createE D s = 17 by unfold createE; rw [ho, hg, if_pos hc]; rfl)
        have hci : (1000 : Int) ≤ (F.length : Int) := by omega
        rw [ho] at GO
        rw [hg] at GH
        clear h ho hg hc HL
        go_enter Try.func19, Try.ntmps19
        go_wp2_with (first
          | (go_at_call 58; ((with_reducible refine GO.out.mono ?_); rintro e w1 ⟨rfl, rfl⟩))
          | (go_at_call 45; ((with_reducible refine GH.out.mono ?_); rintro e w1 ⟨rfl, rfl⟩))
          | (at_len; refine wpList_len_own _ rfl _ 79 rfl 9 82 Try.underlying79 ptrElem m F.length (dmap F) rfl hmap ?_; rw [dmap_size]))
        go_ret
        exact createD_no HD.out HE.out (by decide)
      · have HE := Lib.hid (show createE D s = 0 by unfold createE; rw [ho, hg, if_neg hc]; rfl)
        have hci : (F.length : Int) < 1000 := by omega
        have hcm : F.length < maxLen := by unfold maxLen; omega
        have hn : getK FileC.n F s = none := by
          rw [h.get s] at hg
          cases e : getK FileC.n F s with
          | none => rfl
          | some x => rw [e] at hg; cases hg
        have HN := Lib.hid hn
        have GD := Lib.hid (fun (w1 : World) (hH : HasDisk w1 B d m { D with L := putK PF.n ⟨s, [], 0⟩ D.L } (putK FileC.n ⟨s, W.heap.size, .slice none 0 0, [], 0⟩ F)) => done_any hH (show offB { D with L := putK PF.n ⟨s, [], 0⟩ D.L } = false from ho) hst hle)
        rw [ho] at GO
        rw [hg] at GH
        clear h ho hg hc HL hn
        go_enter Try.func19, Try.ntmps19
        go_wp2_with (first
          | (go_at_call 58; ((with_reducible refine GO.out.mono ?_); rintro e w1 ⟨rfl, rfl⟩))
          | (go_at_call 45; ((with_reducible refine GH.out.mono ?_); rintro e w1 ⟨rfl, rfl⟩))
          | (at_len; refine wpList_len_own _ rfl _ 79 rfl 9 82 Try.underlying79 ptrElem m F.length (dmap F) rfl hmap ?_; rw [dmap_size])
          | (at_mapUpdate; refine wpList_mapUpdate_own _ rfl _ _ _ 79 rfl 9 82 lawStr Try.underlying79 ptrElem m F.length (dmap F) rfl (hmap.alloc _) hcm _ _ _ rfl rfl hkey _ [] (ptr_some _) ?_; intro w1 hown1 hgrow1; have hH1 := Lib.hid (putC_grown HD.out hown1 hgrow1 hBW); have hF1 := Lib.hid (frame_map hgrow1))
          | (go_at_call 59; ((with_reducible refine (GD.out _ hH1.out).mono ?_); rintro e w2 ⟨rfl, hD2, hF2⟩)))
        go_ret
        have hcd : createD D s = doneD { D with L := putK PF.n ⟨s, [], 0⟩ D.L } := by unfold createD; rw [HE.out]; rfl
        rw [HE.out, hcd]
        exact ⟨rfl, opD_put HD.out ⟨Nat.le_refl _, fun j hj => by simp [Value.ownBlock] at hj⟩ ((FrameT.below (bel_alloc (Below.refl _ _) _)).trans hF1.out) hF2 _ hD2⟩
    · have HE := Lib.hid (show createE D s = 20 by unfold createE; rw [ho, hg]; rfl)
      rw [ho] at GO
      rw [hg] at GH
      clear h ho hg HL
      go_enter Try.func19, Try.ntmps19
      go_wp2_with (first
        | (go_at_call 58; ((with_reducible refine GO.out.mono ?_); rintro e w1 ⟨rfl, rfl⟩))
        | (go_at_call 45; ((with_reducible refine GH.out.mono ?_); rintro e w1 ⟨rfl, rfl⟩)))
      go_ret
      exact createD_no HD.out HE.out (by decide)
  · have HE := Lib.hid (show createE D s = 18 by unfold createE; rw [ho]; rfl)
    rw [ho] at GO
    clear h ho HL
    go_enter Try.func19, Try.ntmps19
    go_wp2_with (go_at_call 58; ((with_reducible refine GO.out.mono ?_); rintro e w1 ⟨rfl, rfl⟩))
    go_ret
    exact createD_no HD.out HE.out (by decide)

end Go.Proofs.Ytieekahlknmkfaa
