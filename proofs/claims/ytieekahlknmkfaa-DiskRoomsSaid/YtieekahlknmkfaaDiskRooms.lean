/- Law DiskRooms: for every input the call answers true; its arguments read as they did. No condition. -/
import Derived.Test.YtieekahlknmkfaaLaw
import Derived.Test.YtieekahlknmkfaaOpenDsk
namespace Go.Proofs.Ytieekahlknmkfaa.diskRooms
open Go.ChangeShapes Go.WideShapes Go.ChangeAt Go.RowKit Go.Shelf
open Go.ChangeMaps (open_string shut_string)
set_option linter.unusedVariables false
attribute [local go_sem] Oper.semAt_some wide_fn wide_round_fn

theorem used_step {D : PD} (hp : D.L.Pairwise fun f g => f.n ≠ g.n) (hu : usedL D.L ≤ D.room) (s : StepC) : usedL (stD D s).L ≤ D.room ∧ (stD D s).room = D.room := by
  have hT : ∀ g : PF → PF, (∀ x, (g x).b.length ≤ x.b.length) → ∀ t, usedL (if askE D t = 0 then doneD { D with L := turnL g D.L t } else D).L ≤ D.room ∧ (if askE D t = 0 then doneD { D with L := turnL g D.L t } else D).room = D.room := fun g hg t => by
    split
    · exact ⟨Nat.le_trans (used_turn hg D.L t) hu, rfl⟩
    · exact ⟨hu, rfl⟩
  unfold stD
  split
  · unfold createD
    split
    · have := used_put ⟨s.name, [], 0⟩ D.L
      simp only [List.length_nil] at this
      exact ⟨by show usedL (putK PF.n _ D.L) ≤ _; omega, rfl⟩
    · exact ⟨hu, rfl⟩
  split
  · unfold appendD
    split
    · rename_i e
      refine ⟨?_, rfl⟩
      have h1 := used_app hp s.name s.b
      have h2 : ¬ D.room < usedL D.L + s.b.size := by
        intro hc
        unfold appendE at e
        rw [if_pos hc] at e
        split at e
        · exact absurd e (by assumption)
        · cases e
      show usedL (turnL (appP s.b) D.L s.name) ≤ _
      omega
    · exact ⟨hu, rfl⟩
  split
  · exact hT keepP (fun x => Nat.le_refl _) s.name
  split
  · unfold renameD
    split
    · unfold renF
      cases hg : getK PF.n D.L s.name with
      | none => exact ⟨hu, rfl⟩
      | some f =>
        dsimp only
        have h1 := used_del_get hg
        have h2 := used_put (namedP f s.to f.b.length) (delK PF.n D.L s.name)
        have h6 : (namedP f s.to f.b.length).b.length = f.b.length := rfl
        exact ⟨by show usedL (putK PF.n _ _) ≤ _; omega, rfl⟩
    · exact ⟨hu, rfl⟩
  split
  · unfold removeD
    split
    · exact ⟨Nat.le_trans (used_del D.L s.name) hu, rfl⟩
    · exact ⟨hu, rfl⟩
  split
  · exact hT (cutP s.n) (fun x => by show (x.b.take _).length ≤ _; rw [List.length_take]; omega) s.name
  split
  · exact ⟨hu, rfl⟩
  · exact ⟨Nat.le_trans (crL_used s.keep D.L 0).1 hu, rfl⟩
theorem full_same {D : PD} (s : StepC) (h : stE D s = 17) : stD D s = D := by
  unfold stE at h
  unfold stD
  have ha : ∀ t, askE D t ≠ 17 := fun t e => by unfold askE at e; split at e; cases e; split at e <;> cases e
  split
  · rename_i e; rw [if_pos e] at h; unfold createD; rw [h]; rfl
  rename_i e; rw [if_neg e] at h
  split
  · rename_i e; rw [if_pos e] at h; unfold appendD; rw [h]; rfl
  rename_i e; rw [if_neg e] at h
  split at h
  · exact absurd h (ha _)
  · cases h
theorem ris_at {L : List PF} (h : risN L) {k : Nat} (hk : k + 1 < L.length) : (!Op.bytesLess L[k].n.toList L[k + 1].n.toList) = false := by
  have := (List.pairwise_iff_getElem.1 h) k (k + 1) (by omega) hk (by omega)
  rw [less_bef, str_data, str_data, this]; rfl

set_option maxRecDepth 100000 in
set_option maxHeartbeats 4000000 in
theorem rooms_loop (w : World) (room : Nat) (hroom : room < 65536) (a : Option Addr) (len cap : Nat) (l : List StepC) (hl : l.length = len) (hrow : RowV w a len 6 (stCells l)) (hg : ∀ s ∈ l, goodStep s) (h60 : len ≤ 60) : Calls Try.prog 5 #[.int .u16 room, .slice a len cap] w fun e w' => e = .returned (.bool true) ∧ Below w.heap.size w w' := by
  have GK := Lib.hid disk_known
  have GN := Lib.hid (fun w1 => newT room w1)
  have GR := Lib.hid (fun w2 => rfNew_any room w2)
  have hrm : (min (max (room : Int) 0) 1000000).toNat = room := by omega
  rw [hrm] at GN GR
  clear hrm
  have hle : (len : Int) ≤ 60 := by omega
  have HS := Lib.hid (fun i (hi : i < l.length) => steps_at hrow hl hi)
  have HG := Lib.hid hg
  clear hrow hg
  go_enter Try.func5, Try.ntmps5
  go_wp2_with (first
    | (go_at_call 14; ((with_reducible refine (GK.out _).mono ?_); rintro e w1 ⟨rfl, hB1⟩))
    | (go_at_call 24; ((with_reducible refine (GN.out _).mono ?_); rintro e w2 ⟨rfl, hT, hB2⟩))
    | (go_at_call 27; ((with_reducible refine (GR.out _).mono ?_); rintro e w3 ⟨rfl, hR, hB3⟩)))
  obtain ⟨T, hT⟩ := hT
  have hBo : BoX w1 (w1.heap.size + 1) w2.heap.size ⟨[], room, 0, false, 0⟩ ⟨[], room, 0, false, 0⟩ (fun _ => False) w3 :=
    ⟨T, _, _, _, Nat.le_refl _, hB2.size, hT.below hB3, hR, fun k hk hr => by have h1 := hT.lt hk; have h2 := hR.ge hr; omega, bel2 hB2 hB3, fun k hk => hk.elim⟩
  have HBo := Lib.hid hBo
  clear hT hR hB2 hB3 hBo
  generalize w2.heap.size = rr at *
  generalize hdd : (w1.heap.size + 1) = dd at *
  clear hdd
  go_loopw [7] (fun si wr => ∃ (k : Nat) (D : PD), k ≤ len ∧ si = .int .i64 k ∧ BoX w1 dd rr D D (fun _ => False) wr ∧ Fit D k ∧ usedL D.L ≤ D.room ∧ D.room = room) (fun si _ => len - (intOf si).toNat)
  case atStart => exact ⟨0, _, by omega, rfl, HBo.out, fits (by show room ≤ _; omega) (by show 0 ≤ _; omega) (by show 0 ≤ _; omega) (Nat.le_refl 0) (by show (0 : Nat) < _; decide), Nat.zero_le _, rfl⟩
  case round =>
    obtain ⟨k, D, hk, rfl, hBo, hF, hu, hDr⟩ := hrel
    have hBw := bel2 hB1 hBo.bel
    by_cases hlt : k < len
    · obtain ⟨b, off, rfl, hb, e0, e1, e2, e3, e4, e5⟩ := HS.out k (by omega)
      have hki : (k : Int) < (len : Int) := by omega
      have HC := Lib.hid (fun W (hB : Below w.heap.size w W) => And.intro ((hB.cell (p := ⟨b, off + k * 6, none⟩) hb).trans e0) (And.intro ((hB.cell (p := ⟨b, off + k * 6 + 1, none⟩) hb).trans e1) (And.intro ((hB.cell (p := ⟨b, off + k * 6 + 2, none⟩) hb).trans e2) (And.intro ((hB.cell (p := ⟨b, off + k * 6 + 3, none⟩) hb).trans e3) (And.intro ((hB.cell (p := ⟨b, off + k * 6 + 4, none⟩) hb).trans e4) ((hB.cell (p := ⟨b, off + k * 6 + 5, none⟩) hb).trans e5))))))
      obtain ⟨g1, g2, g3, g4, g5⟩ := HG.out l[k] (List.getElem_mem _)
      obtain ⟨d0, d1, d2, d3, d4, d5⟩ := HC.out wr hBw
      generalize l[k] = s at *
      clear e0 e1 e2 e3 e4 e5
      by_cases hs : s.b.size ≤ 200
      · have hsi : ((s.b.size : Nat) : Int) ≤ 200 := by omega
        have GU := Lib.hid (usedB hBo hF)
        have GD := Lib.hid (fun W (hB : Below wr.heap.size wr W) => does_any (hBo.below hB) hF (by omega) s g2 g3 (by omega) g5)
        have hF2 := hF.step hBo.names s g1
        obtain ⟨hu2, hr2⟩ := used_step hBo.names hu s
        have HFull := Lib.hid (fun h => congrArg (fun D : PD => usedL D.L) (full_same (D := D) s h))
        obtain ⟨E, hE⟩ : ∃ E, E = stE D s := ⟨_, rfl⟩
        obtain ⟨D2, hD2⟩ : ∃ D2, D2 = stD D s := ⟨_, rfl⟩
        rw [← hE] at GD HFull
        rw [← hD2] at GD hF2 hu2 hr2
        have HFull2 := Lib.hid (fun h => show usedL D2.L = usedL D.L by rw [hD2]; exact HFull.out h)
        rw [hDr] at hu2 hr2
        generalize usedL D.L = u at *
        have GA := Lib.hid (fun W (h : BoX w1 dd rr D2 D2 (fun _ => False) W) => allB8 h hF2)
        have GU2 := Lib.hid (fun W (h : BoX w1 dd rr D2 D2 (fun _ => False) W) => usedB h hF2)
        have HF2 := Lib.hid hF2
        have HUR := Lib.hid (show usedL D2.L ≤ D2.room ∧ D2.room = room from ⟨by omega, hr2⟩)
        clear hE hD2 hDr hu hF hF2 hr2 hs g1 g2 g3 g4 g5 HFull
        go_wp2_with (first
          | (go_at_call 28; ((with_reducible refine GU.out.mono ?_); rintro e w4 ⟨rfl, hB4⟩; clear d0 d1 d2 d3 d4 d5; obtain ⟨d0, d1, d2, d3, d4, d5⟩ := HC.out w4 (bel2 hBw hB4)))
          | (go_at_call 18; ((with_reducible refine (GD.out _ hB4).mono ?_); rintro e w5 ⟨rfl, hBo5, -⟩; clear d0 d1 d2 d3 d4 d5))
          | (go_at_call 29; ((with_reducible refine (GA.out _ hBo5).mono ?_); rintro e w6 ⟨v, rfl, hrow, hB6⟩; obtain ⟨la, lc, rfl, -, hlr⟩ := rowV_own hrow; clear hrow)))
        have hBo6 := hBo5.below hB6
        have hll := HF2.out.len
        have hkp := hBo6.kept
        have hris := hBo6.ris8
        have hl6 := pfat_of hlr rfl
        have HBo6 := Lib.hid hBo6
        obtain ⟨M, hM⟩ : ∃ M, M = D2.L := ⟨_, rfl⟩
        rw [← hM] at hll hkp hris hl6 hu2 GU2 HFull2
        rw [← hM]
        clear hlr hBo5 hBo6 hM GU GD GA HBo
        obtain ⟨wo, rfl⟩ : ∃ wo : World, wo = wr := ⟨_, rfl⟩
        go_loopw [11, 13] (fun sn sj wr => ∃ (j : Nat), j ≤ M.length ∧ sj = .int .i64 j ∧ sn = .int .i64 (usedL (M.take j)) ∧ Below w6.heap.size w6 wr) (fun _ sj _ => M.length - (intOf sj).toNat)
        case atStart => exact ⟨0, by omega, rfl, rfl, Below.refl _ _⟩
        case round =>
          obtain ⟨j, hj, rfl, rfl, hB⟩ := hrel
          by_cases hlj : j < M.length
          · cases j with
            | zero =>
              obtain ⟨lb, loff, rfl, hlb, p0, p1, p2⟩ := hl6 0 hlj
              have hji : (0 : Int) < (M.length : Int) := by omega
              have q0 := (hB.cell (p := ⟨lb, loff + 0 * 3, none⟩) hlb).trans p0
              have q1 := (hB.cell (p := ⟨lb, loff + 0 * 3 + 1, none⟩) hlb).trans p1
              have q2 := (hB.cell (p := ⟨lb, loff + 0 * 3 + 2, none⟩) hlb).trans p2
              have hkx := hkp M[0] (List.getElem_mem _)
              have hz : (⟨M[0].b.toArray⟩ : ByteArray).size = M[0].b.length := by show M[0].b.toArray.size = _; simp
              have hsum : usedL (M.take (0 + 1)) = usedL (M.take 0) + M[0].b.length := by rw [List.take_succ_eq_append_getElem hlj, usedL_append]; simp [usedL]
              have hsum2 : usedL M = usedL (M.take (0 + 1)) + usedL (M.drop (0 + 1)) := by
                conv => lhs; rw [← List.take_append_drop (0 + 1) M]
                rw [usedL_append]
              generalize usedL (M.take 0) = q at *
              have HSum := Lib.hid (show (usedL (M.take (0 + 1)) : Nat) = q + (⟨M[0].b.toArray⟩ : ByteArray).size by omega)
              have hqb : q + (⟨M[0].b.toArray⟩ : ByteArray).size ≤ 65535 := by omega
              have hd1 : decide (((⟨M[0].b.toArray⟩ : ByteArray).size : Int) < (M[0].k : Int)) = false := decide_eq_false (by omega)
              have hd1n : decide ((⟨M[0].b.toArray⟩ : ByteArray).size < M[0].k) = false := decide_eq_false (by omega)
              have hd2 : decide ((M[0].k : Int) < 0) = false := decide_eq_false (by omega)
              generalize (⟨M[0].b.toArray⟩ : ByteArray) = xb at *
              generalize M[0].k = xk at *
              generalize M[0].n = xn at *
              simp only [Nat.zero_mul, Nat.add_zero] at q0 q1 q2
              clear hl6 p0 p1 p2 hkx hz hsum hsum2 hkp hris HC GU2
              go_wp2
              go_quiet (fail)
              go_wp2
              exact ⟨⟨1, by omega, rfl, by rw [HSum.out]; go_num, below_drewN8 hB _⟩, by simp [intOf]; omega⟩
            | succ j =>
              obtain ⟨lb, loff, hla, hlb, p0, p1, p2⟩ := hl6 (j + 1) hlj
              obtain ⟨lb2, loff2, hla2, hlb2, r0, -, -⟩ := hl6 j (by omega)
              obtain ⟨rfl, rfl⟩ : lb2 = lb ∧ loff2 = loff := by rw [hla] at hla2; injection hla2 with h; injection h with h1 h2; exact ⟨h1.symm, h2.symm⟩
              subst hla
              have q9 := (hB.cell (p := ⟨lb2, loff2 + j * 3, none⟩) hlb).trans r0
              have hrs := ris_at hris hlj
              have hji : (j : Int) + 1 < (M.length : Int) := by omega
              have hji2 : (j : Int) < (M.length : Int) := by omega
              have hjw : IntKind.i64.wrap ((j : Int) + 1 - 1) = (j : Int) := by rw [IntWalk.i64_in _ (by omega)]; omega
              have q0 := (hB.cell (p := ⟨lb2, loff2 + (j + 1) * 3, none⟩) hlb).trans p0
              have q1 := (hB.cell (p := ⟨lb2, loff2 + (j + 1) * 3 + 1, none⟩) hlb).trans p1
              have q2 := (hB.cell (p := ⟨lb2, loff2 + (j + 1) * 3 + 2, none⟩) hlb).trans p2
              have hkx := hkp M[(j + 1)] (List.getElem_mem _)
              have hz : (⟨M[(j + 1)].b.toArray⟩ : ByteArray).size = M[(j + 1)].b.length := by show M[(j + 1)].b.toArray.size = _; simp
              have hsum : usedL (M.take ((j + 1) + 1)) = usedL (M.take (j + 1)) + M[(j + 1)].b.length := by rw [List.take_succ_eq_append_getElem hlj, usedL_append]; simp [usedL]
              have hsum2 : usedL M = usedL (M.take ((j + 1) + 1)) + usedL (M.drop ((j + 1) + 1)) := by
                conv => lhs; rw [← List.take_append_drop ((j + 1) + 1) M]
                rw [usedL_append]
              generalize usedL (M.take (j + 1)) = q at *
              have HSum := Lib.hid (show (usedL (M.take ((j + 1) + 1)) : Nat) = q + (⟨M[(j + 1)].b.toArray⟩ : ByteArray).size by omega)
              have hqb : q + (⟨M[(j + 1)].b.toArray⟩ : ByteArray).size ≤ 65535 := by omega
              have hd1 : decide (((⟨M[(j + 1)].b.toArray⟩ : ByteArray).size : Int) < (M[(j + 1)].k : Int)) = false := decide_eq_false (by omega)
              have hd1n : decide ((⟨M[(j + 1)].b.toArray⟩ : ByteArray).size < M[(j + 1)].k) = false := decide_eq_false (by omega)
              have hd2 : decide ((M[(j + 1)].k : Int) < 0) = false := decide_eq_false (by omega)
              generalize (⟨M[(j + 1)].b.toArray⟩ : ByteArray) = xb at *
              generalize M[(j + 1)].k = xk at *
              generalize M[(j + 1)].n = xn at *
              generalize M[j].n = yn at *
              have hj1 : (0 : Int) < (j : Int) + 1 := by omega
              clear hl6 p0 p1 p2 r0 hkx hz hsum hsum2 hkp hris HC GU2 hla2
              go_wp2
              go_quiet (fail)
              go_wp2
              exact ⟨⟨j + 1 + 1, by omega, by go_num, by rw [HSum.out]; go_num, below_drewN8 hB _⟩, by simp [intOf]; omega⟩
          · obtain rfl : j = M.length := by omega
            rw [List.take_length] at *
            have hBo7 := HBo6.out.below hB
            have GU3 := Lib.hid (GU2.out _ hBo7)
            have HBo7 := Lib.hid hBo7
            have hu3 : (usedL M : Int) ≤ (room : Int) := by omega
            generalize usedL M = z at *
            clear hl6 hkp hris hlj hj HC hBo7
            by_cases h17 : E = 17
            · have HZ := HFull2.out h17
              subst HZ
              subst h17
              clear hu2
              go_wp2_with (first
                | (go_at_call 28; ((with_reducible refine (GU2.out _ hBo8).mono ?_); rintro e w9 ⟨rfl, hB9⟩))
                | (go_at_call 28; ((with_reducible refine GU3.out.mono ?_); rintro e w8 ⟨rfl, hB8⟩; have hBo8 := HBo7.out.below hB8)))
              go_roundw
              case rel => exact ⟨k + 1, D2, by omega, by go_num, hBo8.below hB9, HF2.out, HUR.out.1, HUR.out.2⟩
              case measure => simp [intOf]; omega
            · have h17b : (E == 17) = false := by rw [beq_eq_false_iff_ne]; exact h17
              clear hu2
              go_wp2_with (go_at_call 28; ((with_reducible refine GU3.out.mono ?_); rintro e w8 ⟨rfl, hB8⟩; have hBo8 := HBo7.out.below hB8))
              go_roundw
              case rel => exact ⟨k + 1, D2, by omega, by go_num, hBo8, HF2.out, HUR.out.1, HUR.out.2⟩
              case measure => simp [intOf]; omega
      · have hsi : (200 : Int) < ((s.b.size : Nat) : Int) := by omega
        have hBe := hBo.bel
        clear hs hBo hF hu hDr
        go_wp2
        go_ret
        exact ⟨by simp, hBw⟩
    · obtain rfl : k = len := by omega
      clear hlt hk
      go_wp2
      go_ret
      exact ⟨by simp, hBw⟩

set_option maxRecDepth 100000 in
set_option maxHeartbeats 4000000 in
theorem rooms_many (w : World) (room : Nat) (a : Option Addr) (len cap : Nat) (h60 : 60 < len) : Calls Try.prog 5 #[.int .u16 room, .slice a len cap] w fun e w' => e = .returned (.bool true) ∧ Below w.heap.size w w' := by
  have GK := Lib.hid disk_known
  have hli : (60 : Int) < (len : Int) := by omega
  clear h60
  go_enter Try.func5, Try.ntmps5
  go_wp2_with (first
    | (go_at_call 14; ((with_reducible refine (GK.out _).mono ?_); rintro e w1 ⟨rfl, hB1⟩)))
  go_ret
  exact ⟨by simp, hB1⟩
theorem walk (w : World) (room : Nat) (hroom : room < 65536) (a : Option Addr) (len cap : Nat) (l : List StepC) (hl : l.length = len) (hcap : len ≤ cap) (hrow : RowV w a len 6 (stCells l)) (hg : ∀ s ∈ l, goodStep s) : Calls Try.prog 5 #[.int .u16 room, .slice a len cap] w fun e w' => e = .returned (.bool true) ∧ Below w.heap.size w w' := by
  by_cases h : 60 < len
  · exact rooms_many w room a len cap h
  · exact rooms_loop w room hroom a len cap l hl hrow hg (by omega)

set_option maxRecDepth 100000 in
theorem lifted (os : Os) (started : os.Started) (H : Type) (enc : TypeId × Value → H) :
    ReturnsInHanded {} Try.checked os 5 .any (Rows.diskRoomsSpec.pre6 enc Try.prog Try.f5 Rows.diskRoomsRow.domain false) (Rows.diskRoomsSpec.post enc Try.prog Try.f5 false true false false) := by
  refine returnsInHanded_of_change (C := Try.checked) Try.own started (by kernel_rfl) Try.func5
    (ChangeSpec.witness6 (enc := enc) (C := Try.checked) false ⟨#[], #[.int .u16 0, .slice none 0 0], []⟩ 8 (by kernel_rfl) (by kernel_rfl) (by kernel_rfl) (by kernel_rfl)) ?_
  intro W base args ds gs before hval hW _ _
  refine law_contract (T := 4) (n := 2) Try.laid Try.underlying4 rfl rfl ⟨rfl, fun H ds h => by match ds, h with | [_, _], _ => rfl⟩ (of_all (by kernel_rfl)) hW ?_
  intro ps hA
  rw [Try.params5] at hA hval
  obtain ⟨v0, vs0, d0, ds0, p0, q0, hargs, rfl, rfl, h0, r0⟩ := trodAll_cons hA
  obtain ⟨v1, vs1, d1, ds1, p1, q1, rfl, rfl, rfl, h1, r1⟩ := trodAll_cons r0
  obtain ⟨rfl, rfl, rfl⟩ := trodAll_nil r1
  obtain rfl : args = #[v0, v1] := by cases args; simp_all
  obtain ⟨a0, rfl, rfl, rfl, w0⟩ := open_int Try.underlying50 (hval 0 50 v0 rfl rfl) h0
  obtain ⟨s1, l1, c1, rfl⟩ := okWide_slice Try.underlying23 (hval 1 23 v1 rfl rfl)
  obtain ⟨zs1, e1, g1, w1, b1⟩ := open_steps h1
  obtain ⟨n0, rfl, b0⟩ := nat_of_u16 w0
  exact walk W n0 b0 s1 l1 c1 zs1 e1 g1 w1 b1

theorem holds : Rows.DiskRoomsSaid :=
  OpenClaim.holds_of_wide 5 Try.f5 rfl rfl rfl rfl rfl rfl rfl ⟨rfl, rfl, rfl, rfl, rfl⟩ rfl rfl rfl rfl rfl (by kernel_rfl) Try.func5 (by kernel_rfl)
    (of_decide_eq_true (by kernel_rfl)) (by unfold Func.isWrapper; first | (rw [if_pos (by decide +kernel)]; kernel_rfl) | (rw [if_neg (by decide +kernel)]; exact ⟨rfl, rfl⟩))
    (fun os started H enc _ => lifted os started H enc)
end Go.Proofs.Ytieekahlknmkfaa.diskRooms
