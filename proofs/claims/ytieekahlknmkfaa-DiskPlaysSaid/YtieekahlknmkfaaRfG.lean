/- The document's disk: Of. -/
import Derived.Test.YtieekahlknmkfaaRfF
namespace Go.Proofs.Ytieekahlknmkfaa
open Go.RowKit Go.Shelf
set_option linter.unusedVariables false
attribute [local go_sem] Oper.semAt_some wide_fn wide_round_fn

theorem ba_id8 (a : ByteArray) : (⟨a.data.toList.toArray⟩ : ByteArray) = a := by simp
theorem ofStep_len (L : List PF) (f : IFile) (h : L.length ≤ 1000) : (ofStep L f).length ≤ 1000 := by
  unfold ofStep
  split
  · exact h
  · rename_i hn
    have := put_len PF.n ⟨f.n, f.b.data.toList, heldK f.k f.b.size⟩ L
    have : ¬ 1000 ≤ L.length := fun h => hn (.inr h)
    omega
theorem ofL_len : ∀ (l : List IFile) (L : List PF), L.length ≤ 1000 → (ofL L l).length ≤ 1000
  | [], L, h => h
  | f :: r, L, h => ofL_len r (ofStep L f) (ofStep_len L f h)
set_option maxRecDepth 100000 in
set_option maxHeartbeats 2000000 in
theorem rfOf_any (room : Int) (a : Option Addr) (cap : Nat) (l : List IFile) (w : World) (hl : l.length ≤ 1000000) (hz : ∀ f ∈ l, f.n.size ≤ maxLen ∧ f.b.size ≤ 1000000) (hat : FilesAt w a l) :
    Calls Try.prog 16 #[.int .i64 room, .slice a l.length cap] w fun e w' => e = .returned (.pointer (some ⟨w.heap.size, 0, none⟩)) ∧ (∃ v, HasRef w' w.heap.size w.heap.size (ofD room l) v) ∧ Below w.heap.size w w' := by
  have GN := Lib.hid (rfNew_any room w)
  have HZ := Lib.hid hz
  clear hz
  generalize hrm : (min (max room 0) 1000000).toNat = rm at *
  have HRM := Lib.hid hrm
  clear hrm
  go_enter Try.func16, Try.ntmps16
  go_wp2_with (go_at_call 27; ((with_reducible refine GN.out.mono ?_); rintro e w1 ⟨rfl, hR1, hB1⟩))
  go_loopw [6] (fun si wr => ∃ (k : Nat) (v : Value), k ≤ l.length ∧ si = .int .i64 k ∧ HasRef wr w.heap.size w.heap.size ⟨ofL [] (l.take k), rm, 0, false, 0⟩ v ∧ Below w.heap.size w wr) (fun si _ => l.length - (intOf si).toNat)
  case atStart => exact ⟨0, _, by omega, rfl, hR1, hB1⟩
  case round =>
    obtain ⟨k, v, hk, rfl, hR, hB⟩ := hrel
    by_cases hlt : k < l.length
    · obtain ⟨b, off, rfl, hb, e0, e1, e2⟩ := hat k hlt
      have hki : (k : Int) < (l.length : Int) := by omega
      have d0 := (hB.cell (p := ⟨b, off + k * 3, none⟩) hb).trans e0
      have d1 := (hB.cell (p := ⟨b, off + k * 3 + 1, none⟩) hb).trans e1
      have d2 := (hB.cell (p := ⟨b, off + k * 3 + 2, none⟩) hb).trans e2
      have HTk := Lib.hid (ofL_take [] l hlt)
      have hLl := ofL_len (l.take k) [] (by simp)
      obtain ⟨hzn, hzb⟩ := HZ.out l[k] (List.getElem_mem hlt)
      generalize ofL [] (l.take k) = L at *
      generalize l[k] = f at *
      obtain ⟨fn, fb, fk⟩ := f
      dsimp only at d0 d1 d2 hzn hzb HTk
      have HR := Lib.hid hR
      obtain ⟨c0, c1, c2, c3⟩ := cells4 hR.cell
      obtain ⟨ra, rcap, hv, -, -, -⟩ := hR.open
      dsimp only at hv c1
      rw [hv] at c1
      have GA := Lib.hid (rfAt_any hR fn)
      dsimp only at GA
      rcases at_get L fn with ⟨i, hi, ha, hn, hg⟩ | ⟨ha, hg⟩
      · have HS := Lib.hid (show ofStep L ⟨fn, fb, fk⟩ = L by unfold ofStep; rw [if_pos (.inl (by rw [hg]; rfl))])
        rw [ha] at GA
        have hi0 : (0 : Int) ≤ (i : Int) := by omega
        clear hat e0 e1 e2 hR ha hn hg hv c0 c1 c2 c3
        go_wp2_with (go_at_call 47; ((with_reducible refine GA.out.mono ?_); rintro e w2 ⟨rfl, hw2⟩; (have hw3 := hw2.symm); clear hw2; subst hw3))
        go_roundw
        case rel => exact ⟨k + 1, v, by omega, by go_num, by rw [HTk.out, HS.out]; exact HR.out, hB⟩
        case measure => simp [intOf]; omega
      · by_cases hc : 1000 ≤ L.length
        · have HS := Lib.hid (show ofStep L ⟨fn, fb, fk⟩ = L by unfold ofStep; rw [if_pos (.inr hc)])
          rw [ha] at GA
          have hci : (1000 : Int) ≤ (L.length : Int) := by omega
          clear hat e0 e1 e2 hR ha hg hv c0 c2 c3
          go_wp2_with (go_at_call 47; ((with_reducible refine GA.out.mono ?_); rintro e w2 ⟨rfl, hw2⟩; (have hw3 := hw2.symm); clear hw2; subst hw3))
          go_roundw
          case rel => exact ⟨k + 1, v, by omega, by go_num, by rw [HTk.out, HS.out]; exact HR.out, hB⟩
          case measure => simp [intOf]; omega
        · obtain ⟨m, hm⟩ : ∃ m, m = heldK fk fb.size := ⟨_, rfl⟩
          have HS := Lib.hid (show ofStep L ⟨fn, fb, fk⟩ = insK PF.n ⟨fn, fb.data.toList, m⟩ L by
            unfold ofStep
            rw [if_neg (by rintro (h | h); · rw [hg] at h; cases h
                           · exact hc h)]
            unfold putK
            rw [hm, delK_none hg])
          rw [ha] at GA
          have hci : (L.length : Int) < 1000 := by omega
          obtain ⟨x, hx⟩ : ∃ x, min fk (fb.size : Int) = x := ⟨_, rfl⟩
          have hxm : max 0 x = (m : Int) := by rw [← hx, hm]; unfold heldK; omega
          have GD := Lib.hid (fun W2 (hB2 : Below wr.heap.size wr W2) => (show Calls Try.prog 48 #[.pointer (some ⟨w.heap.size, 0, none⟩), .agg #[.string fn, .string fb, .int .i64 m]] W2 fun e w' => (∃ x, e = .returned x) ∧ (∃ v', HasRef w' w.heap.size w.heap.size ⟨insK PF.n ⟨fn, fb.data.toList, m⟩ L, rm, 0, false, 0⟩ v') ∧ Below w.heap.size wr w' from by
            have h := rfAdd_any (hR.below hB2) hLl ⟨fn, fb.data.toList, m⟩
            dsimp only at h
            rw [ba_id8] at h
            refine h.mono ?_
            rintro e w' ⟨he, v', g1, g2, g3⟩
            exact ⟨he, ⟨v', g1⟩, (hB2.mono hB.size).trans (g2.toBelow (Nat.le_trans hB.size hB2.size) fun k hk => hR.ge hk)⟩))
          clear hat e0 e1 e2 hR ha hg hv c0 c2 c3 hm hc
          go_wp2_with (first
            | (go_at_call 47; ((with_reducible refine GA.out.mono ?_); rintro e w2 ⟨rfl, hw2⟩; (have hw3 := hw2.symm); clear hw2; subst hw3))
            | (go_at_call 48; ((with_reducible refine (GD.out _ (bel_alloc (Below.refl _ _) _)).mono ?_); rintro e w3 ⟨⟨x3, rfl⟩, hv3, hB3⟩)))
          go_roundw
          case rel =>
            obtain ⟨v', hv'⟩ := hv3
            exact ⟨k + 1, v', by omega, by go_num, by rw [HTk.out, HS.out]; exact hv', hB.trans hB3⟩
          case measure => simp [intOf]; omega
    · obtain rfl : k = l.length := by omega
      rw [List.take_length] at hR
      have HR := Lib.hid (show HasRef wr w.heap.size w.heap.size (ofD room l) v by unfold ofD; rw [HRM.out]; exact hR)
      clear hat hR hlt hk
      go_wp2
      go_ret
      exact ⟨rfl, ⟨v, HR.out⟩, hB⟩

end Go.Proofs.Ytieekahlknmkfaa
