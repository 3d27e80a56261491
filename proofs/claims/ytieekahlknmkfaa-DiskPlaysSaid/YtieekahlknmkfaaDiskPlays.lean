/- Law DiskPlays: for every input the call answers true; its arguments read as they did. No condition. -/
import Derived.Test.YtieekahlknmkfaaLaw
import Derived.Test.YtieekahlknmkfaaCpX
namespace Go.Proofs.Ytieekahlknmkfaa.diskPlays
open Go.ChangeShapes Go.WideShapes Go.ChangeAt Go.RowKit Go.Shelf
open Go.ChangeMaps (open_string shut_string)
set_option linter.unusedVariables false
attribute [local go_sem] Oper.semAt_some wide_fn wide_round_fn

set_option maxRecDepth 100000 in
set_option maxHeartbeats 4000000 in
theorem plays_loop (w : World) (room : Int) (a1 : Option Addr) (len1 cap1 : Nat) (fs : List IFile) (hl1 : fs.length = len1) (hrow1 : RowV w a1 len1 3 (ifCells fs)) (hg1 : ∀ f ∈ fs, goodFile f) (a2 : Option Addr) (len2 cap2 : Nat) (l : List StepC) (hl : l.length = len2) (hrow : RowV w a2 len2 6 (stCells l)) (hg : ∀ s ∈ l, goodStep s) (h60 : len2 ≤ 60) (h6 : len1 ≤ 6) : Calls Try.prog 3 #[.int .i64 room, .slice a1 len1 cap1, .slice a2 len2 cap2] w fun e w' => e = .returned (.bool true) ∧ Below w.heap.size w w' := by
  have GK := Lib.hid disk_known
  have hle1 : (len1 : Int) ≤ 6 := by omega
  have hle2 : (len2 : Int) ≤ 60 := by omega
  have hFA := files_at hrow1 hl1
  have HFA := Lib.hid hFA
  have HS := Lib.hid (fun i (hi : i < l.length) => steps_at hrow hl hi)
  have HG := Lib.hid hg
  have HG1 := Lib.hid hg1
  have HL1 := Lib.hid hl1
  have HL := Lib.hid hl
  clear hrow hg hrow1 hg1 hl1 hl
  go_enter Try.func3, Try.ntmps3
  go_wp2_with (first
    | (go_at_call 14; ((with_reducible refine (GK.out _).mono ?_); rintro e w1 ⟨rfl, hB1⟩)))
  go_loopw [7] (fun si wr => ∃ k : Nat, k ≤ len1 ∧ si = .int .i64 k ∧ wr = w1 ∧ ∀ i (h : i < fs.length), i < k → fs[i].b.size ≤ 200 ∧ fs[i].n.size ≤ 20) (fun si _ => len1 - (intOf si).toNat)
  case atStart => exact ⟨0, by omega, rfl, rfl, fun i _ hi => by omega⟩
  case round =>
    obtain ⟨k, hk, rfl, rfl, hfs⟩ := hrel
    by_cases hlt : k < len1
    · have hkl : k < fs.length := by rw [HL1.out]; exact hlt
      obtain ⟨b, off, rfl, hb, e0, e1, e2⟩ := hFA k hkl
      have hki : (k : Int) < (len1 : Int) := by omega
      have d0 := (hB1.cell (p := ⟨b, off + k * 3, none⟩) hb).trans e0
      have d1 := (hB1.cell (p := ⟨b, off + k * 3 + 1, none⟩) hb).trans e1
      have HN := Lib.hid (fun (h1 : fs[k].b.size ≤ 200) (h2 : fs[k].n.size ≤ 20) => (show ∀ i (h : i < fs.length), i < k + 1 → fs[i].b.size ≤ 200 ∧ fs[i].n.size ≤ 20 from fun i h hi => by
        rcases (by omega : i < k ∨ i = k) with h3 | rfl
        · exact hfs i h h3
        · exact ⟨h1, h2⟩))
      generalize fs[k].b = xb at *
      generalize fs[k].n = xn at *
      clear hFA e0 e1 e2 hfs
      by_cases hb1 : xb.size ≤ 200
      · by_cases hn1 : xn.size ≤ 20
        · have hb2 : ((xb.size : Nat) : Int) ≤ 200 := by omega
          have hn2 : ((xn.size : Nat) : Int) ≤ 20 := by omega
          have HN2 := Lib.hid (HN.out hb1 hn1)
          clear hb1 hn1
          go_wp2
          exact ⟨⟨k + 1, by omega, by go_num, trivial, HN2.out⟩, by simp [intOf]; omega⟩
        · have hb2 : ((xb.size : Nat) : Int) ≤ 200 := by omega
          have hn2 : (20 : Int) < ((xn.size : Nat) : Int) := by omega
          clear hb1 hn1
          go_wp2
          go_ret
          exact ⟨by simp, hB1⟩
      · have hb2 : (200 : Int) < ((xb.size : Nat) : Int) := by omega
        clear hb1
        go_wp2
        go_ret
        exact ⟨by simp, hB1⟩
    · obtain rfl : k = len1 := by omega
      obtain ⟨wo, hwo⟩ : ∃ wo : World, wo = wr := ⟨_, rfl⟩
      have hsm : ∀ f ∈ fs, f.b.size ≤ 200 := fun f hf => by
        obtain ⟨i, hi, rfl⟩ := List.mem_iff_getElem.1 hf
        exact (hfs i hi (by rw [HL1.out] at hi; exact hi)).1
      have hFA0 := HFA.out.below hB1
      have GO := Lib.hid (show Calls Try.prog 15 #[.int .i64 room, .slice a1 k cap1] wr fun e w' => e = .returned (.pointer (some ⟨wr.heap.size + 1, 0, none⟩)) ∧ (∃ T, DkT w' wr.heap.size (wr.heap.size + 1) (ofD room fs) T) ∧ Below wr.heap.size wr w' from by
        have := ofT room a1 cap1 fs wr (by rw [HL1.out]; omega) (fun f hf => ⟨(HG1.out f hf).1, by have := hsm f hf; omega⟩) hFA0
        rwa [HL1.out] at this)
      have GR := Lib.hid (fun w2 (hB : Below wr.heap.size wr w2) => (show Calls Try.prog 16 #[.int .i64 room, .slice a1 k cap1] w2 fun e w' => e = .returned (.pointer (some ⟨w2.heap.size, 0, none⟩)) ∧ (∃ v, HasRef w' w2.heap.size w2.heap.size (ofD room fs) v) ∧ Below w2.heap.size w2 w' from by
        have := rfOf_any room a1 cap1 fs w2 (by rw [HL1.out]; omega) (fun f hf => ⟨(HG1.out f hf).1, by have := hsm f hf; omega⟩) (hFA0.below hB)
        rwa [HL1.out] at this))
      have HFit := Lib.hid (fit_of room fs (by rw [HL1.out]; exact h6) hsm)
      clear hFA hFA0 hfs hsm hlt hk hwo
      go_wp2_with (first
        | (go_at_call 15; ((with_reducible refine GO.out.mono ?_); rintro e w2 ⟨rfl, hT, hB2⟩))
        | (go_at_call 16; ((with_reducible refine (GR.out _ hB2).mono ?_); rintro e w3 ⟨rfl, hR, hB3⟩)))
      obtain ⟨T, hT⟩ := hT
      obtain ⟨v, hR⟩ := hR
      have HBo := Lib.hid (show BoX wr (wr.heap.size + 1) w2.heap.size (ofD room fs) (ofD room fs) (fun _ => False) w3 from
        ⟨T, _, _, _, Nat.le_refl _, hB2.size, hT.below hB3, hR, fun k hk hr => by have h1 := hT.lt hk; have h2 := hR.ge hr; omega, bel2 hB2 hB3, fun k hk => hk.elim⟩)
      clear hT hR hB2 hB3 GO GR
      obtain ⟨w1, rfl⟩ : ∃ w1 : World, w1 = wr := ⟨_, rfl⟩
      generalize w2.heap.size = rr at *
      generalize hdd : (w1.heap.size + 1) = dd at *
      generalize ofD room fs = D0 at *
      clear hdd
      go_loopw [10] (fun si wr => ∃ (k : Nat) (D : PD), k ≤ len2 ∧ si = .int .i64 k ∧ BoX w1 dd rr D D (fun _ => False) wr ∧ Fit D k) (fun si _ => len2 - (intOf si).toNat)
      case atStart => exact ⟨0, D0, by omega, rfl, HBo.out, HFit.out⟩
      case round =>
        obtain ⟨j, D, hj, rfl, hBo, hF⟩ := hrel
        have hBw := bel2 hB1 hBo.bel
        by_cases hlt : j < len2
        · have hjl : j < l.length := by rw [HL.out]; exact hlt
          obtain ⟨b, off, rfl, hb, e0, e1, e2, e3, e4, e5⟩ := HS.out j hjl
          have hji : (j : Int) < (len2 : Int) := by omega
          have d0 := (hBw.cell (p := ⟨b, off + j * 6, none⟩) hb).trans e0
          have d1 := (hBw.cell (p := ⟨b, off + j * 6 + 1, none⟩) hb).trans e1
          have d2 := (hBw.cell (p := ⟨b, off + j * 6 + 2, none⟩) hb).trans e2
          have d3 := (hBw.cell (p := ⟨b, off + j * 6 + 3, none⟩) hb).trans e3
          have d4 := (hBw.cell (p := ⟨b, off + j * 6 + 4, none⟩) hb).trans e4
          have d5 := (hBw.cell (p := ⟨b, off + j * 6 + 5, none⟩) hb).trans e5
          obtain ⟨g1, g2, g3, g4, g5⟩ := HG.out l[j] (List.getElem_mem hjl)
          generalize l[j] = s at *
          clear e0 e1 e2 e3 e4 e5
          by_cases hs : s.name.size ≤ 20 ∧ s.to.size ≤ 20 ∧ s.b.size ≤ 200
          · have hs1 : ((s.name.size : Nat) : Int) ≤ 20 := by omega
            have hs2 : ((s.to.size : Nat) : Int) ≤ 20 := by omega
            have hs3 : ((s.b.size : Nat) : Int) ≤ 200 := by omega
            have hx0 := World.alloc_heap_new wr (.cells #[.int .i64 s.what, .int .i64 s.n, .string s.name, .string s.to, .string s.b, .int .u64 s.keep] 33)
            have hBx := bel_alloc (Below.refl wr.heap.size wr) (.cells #[.int .i64 s.what, .int .i64 s.n, .string s.name, .string s.to, .string s.b, .int .u64 s.keep] 33)
            have hb0 := (hBo.add hBx (Nat.le_refl _) (Array.getElem?_eq_some_iff.1 hx0).1).sub (Q := fun k => k = wr.heap.size) (fun k hk => .inr hk)
            have GC := Lib.hid (cp_copy hb0 hF)
            have HX0 := Lib.hid hx0
            have GD := Lib.hid (fun W c (h : CpX w1 dd rr D D wr.heap.size c D W) => cp_does h hF (by omega) s g2 g3 (by omega) g5)
            have hF2 := hF.step hBo.names s g1
            obtain ⟨E, hE⟩ : ∃ E, E = stE D s := ⟨_, rfl⟩
            obtain ⟨D2, hD2⟩ : ∃ D2, D2 = stD D s := ⟨_, rfl⟩
            rw [← hE] at GD
            rw [← hD2] at GD hF2
            have GN := Lib.hid (fun W c (h : CpX w1 dd rr D2 D2 wr.heap.size c D W) => cp_create h hF (by omega) ⟨#[99, 111, 112, 121]⟩ (by decide))
            have GX := Lib.hid (fun W c (h : CpX w1 dd rr D2 D2 wr.heap.size c (createD D ⟨#[99, 111, 112, 121]⟩) W) => (show Calls Try.prog 20 #[.pointer (some ⟨c, 0, none⟩), .int .u64 1] W fun e w' => (∃ x, e = .returned x) ∧ CpX w1 dd rr D2 D2 wr.heap.size c (crashD (createD D ⟨#[99, 111, 112, 121]⟩) 1) w' ∧ ∀ o, W.heap[wr.heap.size]? = some o → w'.heap[wr.heap.size]? = some o from cp_crash h (hF.create _) 1 (by decide)))
            have GQ := Lib.hid (fun W (h : BoX w1 dd rr D2 D2 (fun k => k = wr.heap.size) W) => dreadB h s.name g2)
            have GQR := Lib.hid (fun W (h : BoX w1 dd rr D2 D2 (fun k => k = wr.heap.size) W) => dreadBR h s.name)
            have GAl := Lib.hid (fun W (h : BoX w1 dd rr D2 D2 (fun k => k = wr.heap.size) W) => alike_any h hF2)
            have HF2 := Lib.hid hF2
            generalize readB D2 s.name = rb at *
            generalize askE D2 s.name = ra at *
            generalize createD D ⟨#[99, 111, 112, 121]⟩ = C1 at *
            generalize crashD C1 1 = C2 at *
            generalize createE D ⟨#[99, 111, 112, 121]⟩ = ce at *
            clear hE hD2 hs hBo hb0 hF hF2 hx0 g1 g2 g3 g4 g5 hBx
            go_wp2_with (first
              | (go_at_call 17; ((with_reducible refine GC.out.mono ?_); rintro e w4 ⟨rfl, hC4, hB4⟩; rw [World.size_alloc] at hC4; have hx4 := (hB4.block _ (heap_lt8 HX0.out)).trans HX0.out; obtain ⟨x0, x1, x2, x3, x4, x5⟩ := step_cells6 hx4))
              | (go_at_call 18; ((with_reducible refine (GD.out _ _ hC4).mono ?_); rintro e w5 ⟨rfl, hC5, hk5⟩; have hx5 := hk5 _ hx4; clear x0 x1 x2 x3 x4 x5 hC4 hx4))
              | (go_at_call 19; ((with_reducible refine (GN.out _ _ hC5).mono ?_); rintro e w6 ⟨rfl, hC6, hk6⟩; have hx6 := hk6 _ hx5; clear hC5 hx5))
              | (go_at_call 20; ((with_reducible refine (GX.out _ _ hC6).mono ?_); rintro e w7 ⟨⟨x7, rfl⟩, hC7, hk7⟩; have hx7 := hk7 _ hx6; clear hC6 hx6; obtain ⟨x0, x1, x2, x3, x4, x5⟩ := step_cells6 hx7; have hb7 := hC7.box))
              | (go_at_call 21; ((with_reducible refine (GQ.out _ hb7).mono ?_); rintro e w8 ⟨rfl, hw8⟩; (have hw8' := hw8.symm); clear hw8; subst hw8'))
              | (go_at_call 22; ((with_reducible refine (GQR.out _ hb7).mono ?_); rintro e w9 ⟨rfl, hw9⟩; (have hw9' := hw9.symm); clear hw9; subst hw9'))
              | (go_at_call 23; ((with_reducible refine (GAl.out _ hb7).mono ?_); rintro e w10 ⟨rfl, hB10⟩)))
            go_roundw
            case rel => exact ⟨j + 1, D2, by omega, by go_num, (hb7.below hB10).sub (fun k hk => hk.elim), HF2.out⟩
            case measure => simp [intOf]; omega
          · have hcases : (20 : Int) < ((s.name.size : Nat) : Int) ∨ ((s.name.size : Nat) : Int) ≤ 20 ∧ (20 : Int) < ((s.to.size : Nat) : Int) ∨ ((s.name.size : Nat) : Int) ≤ 20 ∧ ((s.to.size : Nat) : Int) ≤ 20 ∧ (200 : Int) < ((s.b.size : Nat) : Int) := by omega
            clear hs hBo hF g1 g2 g3 g4 g5
            rcases hcases with h1 | ⟨h1, h2⟩ | ⟨h1, h2, h3⟩
            all_goals
              go_wp2
              go_ret
              exact ⟨by simp, bel2 hBw (bel_alloc (Below.refl _ _) _)⟩
        · obtain rfl : j = len2 := by omega
          have GAl := Lib.hid (alike_any hBo hF)
          clear hlt hj hBo hF
          go_wp2_with (go_at_call 23; ((with_reducible refine GAl.out.mono ?_); rintro e w10 ⟨rfl, hB10⟩))
          go_ret
          exact ⟨by simp, bel2 hBw hB10⟩

set_option maxRecDepth 100000 in
set_option maxHeartbeats 4000000 in
theorem plays_l (w : World) (room : Int) (a1 : Option Addr) (len1 cap1 : Nat) (a2 : Option Addr) (len2 cap2 : Nat) (h : 60 < len2) : Calls Try.prog 3 #[.int .i64 room, .slice a1 len1 cap1, .slice a2 len2 cap2] w fun e w' => e = .returned (.bool true) ∧ Below w.heap.size w w' := by
  have GK := Lib.hid disk_known
  have hli : (60 : Int) < (len2 : Int) := by omega
  clear h
  go_enter Try.func3, Try.ntmps3
  go_wp2_with (first
    | (go_at_call 14; ((with_reducible refine (GK.out _).mono ?_); rintro e w1 ⟨rfl, hB1⟩)))
  go_ret
  exact ⟨by simp, hB1⟩
set_option maxRecDepth 100000 in
set_option maxHeartbeats 4000000 in
theorem plays_f (w : World) (room : Int) (a1 : Option Addr) (len1 cap1 : Nat) (a2 : Option Addr) (len2 cap2 : Nat) (h2 : len2 ≤ 60) (h : 6 < len1) : Calls Try.prog 3 #[.int .i64 room, .slice a1 len1 cap1, .slice a2 len2 cap2] w fun e w' => e = .returned (.bool true) ∧ Below w.heap.size w w' := by
  have GK := Lib.hid disk_known
  have hli : (len2 : Int) ≤ 60 := by omega
  have hlf : (6 : Int) < (len1 : Int) := by omega
  clear h2
  clear h
  go_enter Try.func3, Try.ntmps3
  go_wp2_with (first
    | (go_at_call 14; ((with_reducible refine (GK.out _).mono ?_); rintro e w1 ⟨rfl, hB1⟩)))
  go_ret
  exact ⟨by simp, hB1⟩
theorem walk (w : World) (room : Int) (hroom : -9223372036854775808 ≤ room ∧ room < 9223372036854775808) (a1 : Option Addr) (len1 cap1 : Nat) (fs : List IFile) (hl1 : fs.length = len1) (hcap1 : len1 ≤ cap1) (hrow1 : RowV w a1 len1 3 (ifCells fs)) (hg1 : ∀ f ∈ fs, goodFile f) (a2 : Option Addr) (len2 cap2 : Nat) (l : List StepC) (hl : l.length = len2) (hcap : len2 ≤ cap2) (hrow : RowV w a2 len2 6 (stCells l)) (hg : ∀ s ∈ l, goodStep s) : Calls Try.prog 3 #[.int .i64 room, .slice a1 len1 cap1, .slice a2 len2 cap2] w fun e w' => e = .returned (.bool true) ∧ Below w.heap.size w w' := by
  by_cases h : 60 < len2
  · exact plays_l w room a1 len1 cap1 a2 len2 cap2 h
  by_cases h6 : 6 < len1
  · exact plays_f w room a1 len1 cap1 a2 len2 cap2 (by omega) h6
  exact plays_loop w room a1 len1 cap1 fs hl1 hrow1 hg1 a2 len2 cap2 l hl hrow hg (by omega) (by omega)

set_option maxRecDepth 100000 in
theorem lifted (os : Os) (started : os.Started) (H : Type) (enc : TypeId × Value → H) :
    ReturnsInHanded {} Try.checked os 3 .any (Rows.diskPlaysSpec.pre6 enc Try.prog Try.f3 Rows.diskPlaysRow.domain false) (Rows.diskPlaysSpec.post enc Try.prog Try.f3 false true false false) := by
  refine returnsInHanded_of_change (C := Try.checked) Try.own started (by kernel_rfl) Try.func3
    (ChangeSpec.witness6 (enc := enc) (C := Try.checked) false ⟨#[], #[.int .i64 0, .slice none 0 0, .slice none 0 0], []⟩ 8 (by kernel_rfl) (by kernel_rfl) (by kernel_rfl) (by kernel_rfl)) ?_
  intro W base args ds gs before hval hW _ _
  refine law_contract (T := 4) (n := 3) Try.laid Try.underlying4 rfl rfl ⟨rfl, fun H ds h => by match ds, h with | [_, _, _], _ => rfl⟩ (of_all (by kernel_rfl)) hW ?_
  intro ps hA
  rw [Try.params3] at hA hval
  obtain ⟨v0, vs0, d0, ds0, p0, q0, hargs, rfl, rfl, h0, r0⟩ := trodAll_cons hA
  obtain ⟨v1, vs1, d1, ds1, p1, q1, rfl, rfl, rfl, h1, r1⟩ := trodAll_cons r0
  obtain ⟨v2, vs2, d2, ds2, p2, q2, rfl, rfl, rfl, h2, r2⟩ := trodAll_cons r1
  obtain ⟨rfl, rfl, rfl⟩ := trodAll_nil r2
  obtain rfl : args = #[v0, v1, v2] := by cases args; simp_all
  obtain ⟨a0, rfl, rfl, rfl, w0⟩ := open_int Try.underlying3 (hval 0 3 v0 rfl rfl) h0
  obtain ⟨s1, l1, c1, rfl⟩ := okWide_slice Try.underlying22 (hval 1 22 v1 rfl rfl)
  obtain ⟨zs1, e1, g1, w1, b1⟩ := open_files h1
  obtain ⟨s2, l2, c2, rfl⟩ := okWide_slice Try.underlying23 (hval 2 23 v2 rfl rfl)
  obtain ⟨zs2, e2, g2, w2, b2⟩ := open_steps h2
  exact walk W a0 (bounds_i64 w0) s1 l1 c1 zs1 e1 g1 w1 b1 s2 l2 c2 zs2 e2 g2 w2 b2

theorem holds : Rows.DiskPlaysSaid :=
  OpenClaim.holds_of_wide 3 Try.f3 rfl rfl rfl rfl rfl rfl rfl ⟨rfl, rfl, rfl, rfl, rfl⟩ rfl rfl rfl rfl rfl (by kernel_rfl) Try.func3 (by kernel_rfl)
    (of_decide_eq_true (by kernel_rfl)) (by unfold Func.isWrapper; first | (rw [if_pos (by decide +kernel)]; kernel_rfl) | (rw [if_neg (by decide +kernel)]; exact ⟨rfl, rfl⟩))
    (fun os started H enc _ => lifted os started H enc)
end Go.Proofs.Ytieekahlknmkfaa.diskPlays
