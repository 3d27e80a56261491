/- The contract of disk.Of. -/
import Derived.Test.YtieekahlknmkfaaDskT
import Derived.Deep.RegionHeld3
import Derived.Deep.RegionHeld
namespace Go.Proofs.Ytieekahlknmkfaa
open Go.RowKit Go.Shelf
set_option linter.unusedVariables false
attribute [local go_sem] Oper.semAt_some wide_fn wide_round_fn

/-- A file as it comes in. -/
structure IFile where
  n : ByteArray
  b : ByteArray
  k : Int
def FilesAt (W : World) (a : Option Addr) (l : List IFile) : Prop := ∀ i (h : i < l.length), ∃ b off, a = some ⟨b, off, none⟩ ∧ b < W.heap.size ∧ W.cell? ⟨b, off + i * 3, none⟩ = some (.string l[i].n) ∧ W.cell? ⟨b, off + i * 3 + 1, none⟩ = some (.string l[i].b) ∧ W.cell? ⟨b, off + i * 3 + 2, none⟩ = some (.int .i64 l[i].k)
def heldK (k : Int) (n : Nat) : Nat := (min (max k 0) n).toNat
def ofStep (L : List PF) (f : IFile) : List PF := if (getK PF.n L f.n).isSome = true ∨ 1000 ≤ L.length then L else putK PF.n ⟨f.n, f.b.data.toList, heldK f.k f.b.size⟩ L
def ofL (L : List PF) (l : List IFile) : List PF := l.foldl ofStep L
def ofD (room : Int) (l : List IFile) : PD := ⟨ofL [] l, (min (max room 0) 1000000).toNat, 0, false, 0⟩
theorem of_step {w1 w4 w5 : World} {B2 d2 m2 n' : Nat} {D' : PD} {G : List FileC} {s : ByteArray} {b : List UInt8} {k : Nat} {v' : Value} (h : HasDisk w1 B2 d2 m2 D' G) (hB4 : Below w1.heap.size w1 w4) (hown4 : ownsG w4 w1.heap.size 5 1 v' b.length (b.map vb)) (hfk : k ≤ b.length) (hB2 : B2 ≤ w1.heap.size)
    (hm : w5.ownsMap Try.prog 9 ptrElem m2 n' ((dmap G).put (keyL s) (.lit (.int .i64 w4.heap.size)))) (hT : (w4.alloc (.cells #[v', .int .i64 k] 85)).mapTurned w5 m2) :
    HasDisk w5 B2 d2 m2 { D' with L := putK PF.n ⟨s, b, k⟩ D'.L } (putK FileC.n ⟨s, w4.heap.size, v', b, k⟩ G) := by
  have h4 := hB4.size
  have h2 := h.below (bel_alloc hB4 (.cells #[v', .int .i64 k] 85))
  have hF := frame_map hT.grown
  have hml := h.lt (k := m2) (.inr (.inl rfl))
  have hb : ownsG w4 B2 5 1 v' b.length (b.map vb) := by
    refine ⟨hown4.1, ?_⟩
    rcases hown4.2 with h3 | ⟨g, cap, cur, fz, hv, hb, r⟩
    · exact .inl h3
    · exact .inr ⟨g, cap, cur, fz, hv, Nat.le_trans hB2 hb, r⟩
  refine h2.put ⟨s, w4.heap.size, v', b, k⟩ (fun g hg _ => ⟨fun e => ?_, fun j hj e => ?_⟩) ⟨hF.get (World.alloc_heap_new _ _) (show ¬ w4.heap.size = m2 by omega), ?_, hfk⟩ hm hF (show B2 ≤ w4.heap.size by omega)
  · have e : g.fb = w4.heap.size := e
    have := h.lt (k := g.fb) (.inr (.inr ⟨g, hg, .inl rfl⟩))
    omega
  · have e : v'.ownBlock = some j := e
    have h5 := (ownsG_lt hown4 j e).1
    have := h.lt (k := j) (.inr (.inr ⟨g, hg, .inr hj⟩))
    omega
  · have hF2 : FrameT (fun k => k = m2) w4 w5 := ((FrameT.below (T := fun _ => False) (bel_alloc (Below.refl w4.heap.size w4) (.cells #[v', .int .i64 k] 85))).mono (fun _ h => False.elim h)).trans hF
    refine ownsG_frame hb hF2 (fun j hj e => ?_)
    have e : j = m2 := e
    have := (ownsG_lt hown4 j hj).1
    omega
theorem FilesAt.below {w W : World} {a : Option Addr} {l : List IFile} (h : FilesAt w a l) (hB : Below w.heap.size w W) : FilesAt W a l := fun i hi => by
  obtain ⟨b, off, e, hb, h0, h1, h2⟩ := h i hi
  exact ⟨b, off, e, Nat.lt_of_lt_of_le hb hB.size, (hB.cell hb).trans h0, (hB.cell hb).trans h1, (hB.cell hb).trans h2⟩
theorem ofL_take (L : List PF) (l : List IFile) {k : Nat} (h : k < l.length) : ofL L (l.take (k + 1)) = ofStep (ofL L (l.take k)) l[k] := by
  unfold ofL
  rw [List.take_succ_eq_append_getElem h, List.foldl_append]; rfl

set_option maxRecDepth 100000 in
set_option maxHeartbeats 1000000 in
theorem dof_any (room : Int) (a : Option Addr) (cap : Nat) (l : List IFile) (w : World) (hl : l.length ≤ 1000000) (hz : ∀ f ∈ l, f.n.size ≤ maxLen ∧ f.b.size ≤ 1000000) (hat : FilesAt w a l) :
    Calls Try.prog 15 #[.int .i64 room, .slice a l.length cap] w fun e w' => e = .returned (.pointer (some ⟨w.heap.size + 1, 0, none⟩)) ∧ ∃ G, HasDisk w' w.heap.size (w.heap.size + 1) w.heap.size (ofD room l) G ∧ Below w.heap.size w w' := by
  have GN := Lib.hid (dnew_any room w)
  have HAt := Lib.hid hat
  have HZ := Lib.hid hz
  clear hat hz
  go_enter Try.func15, Try.ntmps15
  go_wp2_with (go_at_call 24; ((with_reducible refine (GN.out).mono ?_); rintro e w1 ⟨rfl, hD1, hB1⟩))
  have HD1 := Lib.hid hD1
  have HB1 := Lib.hid hB1
  clear hD1 hB1
  go_loopw [12] (fun q wr => ∃ (k : Nat) (G : List FileC), k ≤ l.length ∧ q = .int .i64 k ∧ HasDisk wr w.heap.size (w.heap.size + 1) w.heap.size (ofD room (l.take k)) G ∧ Below w.heap.size w wr) (fun q _ => l.length - (intOf q).toNat)
  case atStart => exact ⟨0, [], by omega, rfl, HD1.out, HB1.out⟩
  case round =>
    obtain ⟨k, G, hk, rfl, hG, hB⟩ := hrel
    by_cases hlt : k < l.length
    · obtain ⟨b, off, rfl, hb, x0, x1, x2⟩ := (HAt.out.below HB1.out) k hlt |> fun _ => (HAt.out.below hB) k hlt
      have HT := Lib.hid (ofL_take [] l hlt)
      obtain ⟨z1, z2⟩ := HZ.out l[k] (List.getElem_mem hlt)
      have hlti : (k : Int) < (l.length : Int) := by omega
      generalize l[k] = f at *
      have hBA := bel_alloc (Below.refl wr.heap.size wr) (.cells #[.string f.n, .string f.b, .int .i64 f.k] 26)
      have hG2 := hG.below hBA
      have GH := Lib.hid (has_any hG2 f.n z1)
      obtain ⟨c0, -, -, -, -⟩ := cells5 hG2.cell
      have hm2 := hG2.map
      have hlen := hm2.len Try.underlying79 3
      rw [dmap_size] at hlen
      have HG := Lib.hid hG
      have HG2 := Lib.hid hG2
      have HB := Lib.hid hB
      have HBA := Lib.hid hBA
      have hGL : G.length = (ofL [] (l.take k)).length := by rw [← List.length_map (f := FileC.core), hG.core]; rfl
      clear hG hG2 hB hBA
      cases hh : (getK PF.n (ofD room (l.take k)).L f.n).isSome
      · by_cases hc : 1000 ≤ (ofL [] (l.take k)).length
        · have HST := Lib.hid (show ofStep (ofL [] (l.take k)) f = ofL [] (l.take k) by unfold ofStep; rw [if_pos (.inr hc)])
          have hci : (1000 : Int) ≤ (G.length : Int) := by omega
          rw [hh] at GH
          clear hh hc hm2
          go_wp2_with (go_at_call 45; ((with_reducible refine GH.out.mono ?_); rintro e w3 ⟨rfl, rfl⟩))
          exact ⟨⟨k + 1, G, by omega, by go_num, by unfold ofD; rw [HT.out, HST.out]; exact HG2.out, bel2 HB.out HBA.out⟩, by simp [intOf]; omega⟩
        · have HST := Lib.hid (show ofStep (ofL [] (l.take k)) f = putK PF.n ⟨f.n, f.b.data.toList, heldK f.k f.b.size⟩ (ofL [] (l.take k)) by unfold ofStep; rw [if_neg (fun h => h.elim (fun h => by have hh' : (getK PF.n (ofL [] (l.take k)) f.n).isSome = false := hh; rw [hh'] at h; cases h) (fun h => hc h))])
          have hci : (G.length : Int) < 1000 := by omega
          have hGm : G.length < maxLen := by unfold maxLen; omega
          obtain ⟨cap4, w4, hcv, hb4, hown4⟩ := bytes_G (wr.alloc (.cells #[.string f.n, .string f.b, .int .i64 f.k] 26)).drew f.b (by unfold maxLen; omega)
          have e1 : (wr.alloc (.cells #[.string f.n, .string f.b, .int .i64 f.k] 26)).drew.heap.size = wr.heap.size + 1 := by show (wr.alloc _).heap.size = _; simp
          have e2 : (wr.alloc (.cells #[.string f.n, .string f.b, .int .i64 f.k] 26)).heap.size = wr.heap.size + 1 := by simp
          have hb4' : Below (wr.alloc (.cells #[.string f.n, .string f.b, .int .i64 f.k] 26)).heap.size (wr.alloc (.cells #[.string f.n, .string f.b, .int .i64 f.k] 26)) w4 := (Below.refl _ _).drew.trans hb4
          rw [e1] at hcv hown4
          obtain ⟨w5, hrun5, hown5, hturn5, hcell5⟩ := copy_arm HG2.out hb4' z1 hGm (.slice (some ⟨wr.heap.size + 1, 0, none⟩) f.b.size cap4) (heldK f.k f.b.size)
          have hmw := HG2.out.lt (k := w.heap.size) (.inr (.inl rfl))
          have hdw := HG2.out.lt (k := w.heap.size + 1) (.inl rfl)
          have hmr := HG.out.lt (k := w.heap.size) (.inr (.inl rfl))
          have d0 : (wr.alloc (.cells #[.string f.n, .string f.b, .int .i64 f.k] 26)).cell? ⟨wr.heap.size, 0, none⟩ = some (.string f.n) := cell_of_row _ _ 0 _ _ _ (World.alloc_heap_new _ _)
          have d1 : (wr.alloc (.cells #[.string f.n, .string f.b, .int .i64 f.k] 26)).cell? ⟨wr.heap.size, 1, none⟩ = some (.string f.b) := cell_of_row _ _ 1 _ _ _ (World.alloc_heap_new _ _)
          have d2 : (wr.alloc (.cells #[.string f.n, .string f.b, .int .i64 f.k] 26)).cell? ⟨wr.heap.size, 2, none⟩ = some (.int .i64 f.k) := cell_of_row _ _ 2 _ _ _ (World.alloc_heap_new _ _)
          obtain ⟨t0, u0⟩ := hcell5 ⟨w.heap.size + 1, 0, none⟩ hdw (fun e => by have e : w.heap.size + 1 = w.heap.size := e; omega) _ c0
          obtain ⟨t1, u1⟩ := hcell5 ⟨wr.heap.size, 0, none⟩ (by rw [e2]; exact Nat.lt_succ_self _) (fun e => by have e : wr.heap.size = w.heap.size := e; omega) _ d0
          obtain ⟨t2, u2⟩ := hcell5 ⟨wr.heap.size, 1, none⟩ (by rw [e2]; exact Nat.lt_succ_self _) (fun e => by have e : wr.heap.size = w.heap.size := e; omega) _ d1
          obtain ⟨t3, u3⟩ := hcell5 ⟨wr.heap.size, 2, none⟩ (by rw [e2]; exact Nat.lt_succ_self _) (fun e => by have e : wr.heap.size = w.heap.size := e; omega) _ d2
          have hs4 := hb4'.size
          rw [e2] at hs4
          have GK := Lib.hid (fun w => show Calls Try.prog 46 #[.int .i64 f.k, .int .i64 f.b.size] w fun e w' => e = .returned (.int .i64 (heldK f.k f.b.size)) ∧ w' = w from by
            have := dheld_any f.k f.b.size w
            rwa [show (min (max f.k 0) (f.b.size : Int)) = (heldK f.k f.b.size : Int) by unfold heldK; omega] at this)
          have hbl : f.b.data.toList.length = f.b.size := by rw [Array.length_toList]; rfl
          have H5 := Lib.hid (of_step (b := f.b.data.toList) HG2.out hb4' (by rw [hbl, e2]; exact hown4) (by rw [hbl]; unfold heldK; omega) (show w.heap.size ≤ _ by omega) hown5 hturn5)
          have HB5 := Lib.hid ((bel_alloc (bel2 (bel2 HB.out HBA.out) hb4') (.cells #[.slice (some ⟨wr.heap.size + 1, 0, none⟩) f.b.size cap4, .int .i64 (heldK f.k f.b.size)] 85)).grown hturn5.grown (by have := hb4'.size; have := HB.out.size; simp at *; omega) (fun j hj => by have := Option.some.inj hj; omega))
          rw [hh] at GH
          clear hh hc hm2 hown4 hb4 hb4' hown5 hturn5 hcell5 e1 e2
          go_wp2_with (go_at_call 45; ((with_reducible refine GH.out.mono ?_); rintro e w3 ⟨rfl, rfl⟩))
          go_region_held (fun W' => W'.cell? ⟨w.heap.size + 1, 0, none⟩ = some (.map (some w.heap.size)) ∧ W'.cell? ⟨wr.heap.size, 0, none⟩ = some (.string f.n) ∧ W'.cell? ⟨wr.heap.size, 1, none⟩ = some (.string f.b) ∧ W'.cell? ⟨wr.heap.size, 2, none⟩ = some (.int .i64 f.k)) (go_keep) (first
            | (go_at_call 46; (with_reducible refine (GK.out _).mono ?_); rintro e w6 ⟨rfl, rfl⟩))
          all_goals
            go_wp2
            exact ⟨⟨k + 1, _, by omega, by go_num, by unfold ofD; rw [HT.out, HST.out]; exact H5.out, HB5.out⟩, by simp [intOf]; omega⟩
      · have HST := Lib.hid (show ofStep (ofL [] (l.take k)) f = ofL [] (l.take k) by unfold ofStep; rw [if_pos (.inl hh)])
        rw [hh] at GH
        clear hh hm2
        go_wp2_with (go_at_call 45; ((with_reducible refine GH.out.mono ?_); rintro e w3 ⟨rfl, rfl⟩))
        exact ⟨⟨k + 1, G, by omega, by go_num, by unfold ofD; rw [HT.out, HST.out]; exact HG2.out, bel2 HB.out HBA.out⟩, by simp [intOf]; omega⟩
    · obtain rfl : k = l.length := by omega
      rw [List.take_of_length_le (Nat.le_refl _)] at hG
      have HG := Lib.hid hG
      have HB := Lib.hid hB
      clear hG hB
      go_wp2
      go_ret
      exact ⟨rfl, G, HG.out, HB.out⟩

end Go.Proofs.Ytieekahlknmkfaa
