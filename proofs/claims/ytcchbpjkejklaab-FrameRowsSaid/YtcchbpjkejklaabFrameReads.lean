/- The contract of package frame's Read. -/
import Derived.Test.YtcchbpjkejklaabFrameRead
namespace Go.Proofs.Ytcchbpjkejklaab
open Go.RowKit Go.Shelf
set_option linter.unusedVariables false
attribute [local go_sem] Oper.semAt_some wide_fn wide_round_fn

theorem readF_end {s : ByteArray} (h : s.size < 1) : readF s = (⟨#[]⟩, 0, 2) := by unfold readF; rw [if_pos h]
theorem readF_torn {s : ByteArray} (h1 : 1 ≤ s.size) (h : s.size < 8) : readF s = (⟨#[]⟩, 0, 3) := by unfold readF; rw [if_neg (by omega), if_pos h]
theorem readF_bad {s : ByteArray} (h8 : 8 ≤ s.size) (h : badN (wordB s 0) (wordB s 4)) : readF s = (⟨#[]⟩, 0, 4) := by unfold readF; rw [if_neg (by omega), if_neg (by omega), if_pos h]
theorem readF_torn2 {s : ByteArray} (h8 : 8 ≤ s.size) (hb : ¬ badN (wordB s 0) (wordB s 4)) (h : s.size < wordB s 0 + 12) : readF s = (⟨#[]⟩, 0, 3) := by unfold readF; rw [if_neg (by omega), if_neg (by omega), if_neg hb, if_pos h]
theorem readF_bad2 {s : ByteArray} (h8 : 8 ≤ s.size) (hb : ¬ badN (wordB s 0) (wordB s 4)) (h : wordB s 0 + 12 ≤ s.size) (hc : wordB s (8 + wordB s 0) ≠ moreN 0 (s.extract 8 (8 + wordB s 0))) : readF s = (⟨#[]⟩, 0, 4) := by
  unfold readF; rw [if_neg (by omega), if_neg (by omega), if_neg hb, if_neg (by omega), if_pos hc]
theorem readF_whole {s : ByteArray} (h8 : 8 ≤ s.size) (hb : ¬ badN (wordB s 0) (wordB s 4)) (h : wordB s 0 + 12 ≤ s.size) (hc : wordB s (8 + wordB s 0) = moreN 0 (s.extract 8 (8 + wordB s 0))) : readF s = (s.extract 8 (8 + wordB s 0), wordB s 0 + 12, 1) := by
  unfold readF; rw [if_neg (by omega), if_neg (by omega), if_neg hb, if_neg (by omega), if_neg (by simp [hc])]

/-- What has been asked by round k. -/
def asked (s : ByteArray) (k : Nat) : Prop :=
  (k < 1 ∨ 1 ≤ s.size) ∧ (k < 2 ∨ 8 ≤ s.size) ∧ (k < 3 ∨ ¬ badN (wordB s 0) (wordB s 4)) ∧ (k < 4 ∨ wordB s 0 + 12 ≤ s.size) ∧ (k < 5 ∨ wordB s (8 + wordB s 0) = moreN 0 (s.extract 8 (8 + wordB s 0)))

set_option maxRecDepth 100000 in
set_option maxHeartbeats 2000000 in
theorem read_any (s : ByteArray) (hs : s.size < 9223372036854775808) (w : World) : Gives Try.prog 10 #[.string s] w (.tuple #[.string (readF s).1, .int .i64 (readF s).2.1, .int .i64 (readF s).2.2]) := by
  obtain ⟨R, hR⟩ : ∃ R, R = readF s := ⟨_, rfl⟩
  rw [← hR]
  have HR := Lib.hid hR
  clear hR
  unfold Gives
  go_enter Try.func10, Try.ntmps10
  go_wp2
  go_step3
  go_wp2
  go_step3
  go_wp2
  go_loopw [5, 6, 10] (fun cls n q wr => ∃ k : Nat, k ≤ 5 ∧ q = .int .i64 k ∧ cls = .int .i64 1 ∧ n = .int .i64 (if k < 3 then 0 else wordB s 0 : Nat) ∧ asked s k ∧ Below w.heap.size w wr) (fun _ _ q _ => 5 - (intOf q).toNat)
  case atStart => exact ⟨0, by omega, rfl, rfl, rfl, ⟨.inl (by omega), .inl (by omega), .inl (by omega), .inl (by omega), .inl (by omega)⟩, Below.refl _ _⟩
  case round =>
    obtain ⟨k, hk, rfl, rfl, rfl, hask, hB⟩ := hrel
    have hA := wordB_lt s 0
    have hBd := wordB_lt s 4
    have hk6 : k = 0 ∨ k = 1 ∨ k = 2 ∨ k = 3 ∨ k = 4 ∨ k = 5 := by omega
    rcases hk6 with rfl | rfl | rfl | rfl | rfl | rfl
    · by_cases h1 : s.size < 1
      · obtain rfl : s = ⟨#[]⟩ := ByteArray.ext (Array.eq_empty_of_size_eq_zero (by show s.size = 0; omega))
        go_wp2
        ((try rw [Exit.noGoto_ret]); go_ret3)
        exact ⟨by rw [HR.out, readF_end h1]; rfl, hB⟩
      · have hne := notEmpty s (by omega)
        have HA := Lib.hid (show asked s 1 from ⟨.inr (by omega), .inl (by omega), .inl (by omega), .inl (by omega), .inl (by omega)⟩)
        clear hask
        go_wp2
        exact ⟨⟨1, by omega, rfl, rfl, rfl, HA.out, hB⟩, by decide⟩
    · have h1 : 1 ≤ s.size := by have := hask.1; omega
      by_cases h8 : s.size < 8
      · clear hask
        go_wp2
        ((try rw [Exit.noGoto_ret]); go_ret3)
        exact ⟨by rw [HR.out, readF_torn h1 h8]; rfl, hB⟩
      · have HA := Lib.hid (show asked s 2 from ⟨.inr (by omega), .inr (by omega), .inl (by omega), .inl (by omega), .inl (by omega)⟩)
        clear hask
        go_wp2
        exact ⟨⟨2, by omega, rfl, rfl, rfl, HA.out, hB⟩, by decide⟩
    · have h8 : 8 ≤ s.size := by have := hask.2.1; omega
      have h4i : (4 : Int) ≤ (s.size : Int) := by omega
      have G1 := Lib.hid (show ∀ w, Gives Try.prog 15 #[.string s] w (.int .u32 (wordB s 0)) from fun w => number_at s _ (by omega) hs rfl w)
      have G2 := Lib.hid (show ∀ w, Gives Try.prog 15 #[.string (s.extract 4 s.size)] w (.int .u32 (wordB s 4)) from fun w =>
        number_at (s.extract 4 s.size) _ (by rw [ByteArray.size_extract]; omega) (by rw [ByteArray.size_extract]; omega) (by rw [extract_drop]; rfl) w)
      have HBd := Lib.hid (show badN (wordB s 0) (wordB s 4) → readF s = (⟨#[]⟩, 0, 4) from fun h => readF_bad h8 h)
      have HA := Lib.hid (show ¬ badN (wordB s 0) (wordB s 4) → asked s 3 from fun h => ⟨.inr (by omega), .inr (by omega), .inr h, .inl (by omega), .inl (by omega)⟩)
      have HW := Lib.hid (show wordB s 0 = wordB s 0 from rfl)
      clear hask
      generalize hA0 : wordB s 0 = A at *
      generalize wordB s 4 = B at *
      have HA0 := Lib.hid hA0
      clear hA0
      have hcn := comp_nat B hBd
      go_wp2
      go_region_held3 (fun W' => Below wr.heap.size wr W')
        (first | assumption | exact (Below.refl _ _).drew | exact bel2 (by assumption) (by assumption))
        (first
          | (go_at_call 15; ((with_reducible refine (G1.out _).mono ?_); rintro e w4 ⟨rfl, hB4⟩))
          | (go_at_call 15; ((with_reducible refine (G2.out _).mono ?_); rintro e w5 ⟨rfl, hB5⟩)))
      have hS : Below w.heap.size w w5 := bel2 hB (by assumption)
      by_cases e1 : A + B = 4294967295
      · have e3 : A = 4294967295 - B := by omega
        have HE := Lib.hid e3
        have t1 : ((A : Int) != ((4294967295 - B : Nat) : Int)) = false := by rw [bne_eq_false_iff_eq]; omega
        by_cases e2 : A < 1
        · have t2 : (((4294967295 - B : Nat) : Int) == 0) = true := by rw [beq_iff_eq]; omega
          clear e1 e3
          go_wp2
          rotate_left 1
          · exact absurd (show (A : Int) = bits .xor .u32 IntKind.u32.max (B : Int) from by rw [hcn]; exact congrArg _ HE.out) (by assumption)
          ((try rw [Exit.noGoto_ret]); go_ret3)
          exact ⟨by rw [HR.out, HBd.out (.inr (.inl (by omega)))]; rfl, hS⟩
        · have t2 : (((4294967295 - B : Nat) : Int) == 0) = false := by rw [beq_eq_false_iff_ne]; omega
          by_cases t3 : 2000 < 4294967295 - B
          · have e4 : 2000 < A := by omega
            clear e1 e3
            go_wp2
            rotate_left 1
            · exact absurd (show (A : Int) = bits .xor .u32 IntKind.u32.max (B : Int) from by rw [hcn]; exact congrArg _ HE.out) (by assumption)
            ((try rw [Exit.noGoto_ret]); go_ret3)
            exact ⟨by rw [HR.out, HBd.out (.inr (.inr e4))]; rfl, hS⟩
          · have e4 : 1 ≤ A ∧ A ≤ 2000 ∧ A + B = 4294967295 := by omega
            have E4 := Lib.hid e4
            clear e1 e3 e4
            go_wp2
            rotate_left 1
            · exact absurd (show (A : Int) = bits .xor .u32 IntKind.u32.max (B : Int) from by rw [hcn]; exact congrArg _ HE.out) (by assumption)
            exact ⟨⟨3, by omega, rfl, rfl, by rw [← HE.out]; rfl, HA.out (by have := E4.out; unfold badN; omega), hS⟩, by decide⟩
      · have t1 : ((A : Int) != ((4294967295 - B : Nat) : Int)) = true := by rw [bne_iff_ne]; omega
        go_wp2
        ((try rw [Exit.noGoto_ret]); go_ret3)
        exact ⟨by rw [HR.out, HBd.out (.inl e1)]; rfl, hS⟩
    · have h8 : 8 ≤ s.size := by have := hask.2.1; omega
      have hnb : ¬ badN (wordB s 0) (wordB s 4) := by have := hask.2.2.1; exact this.resolve_left (by omega)
      have hA1 : wordB s 0 ≤ 2000 := by unfold badN at hnb; omega
      have GS := Lib.hid (show ∀ w, Gives Try.prog 11 #[.int .i64 (wordB s 0)] w (.int .i64 ((wordB s 0 : Int) + 12)) from size_at _ (by omega) (by omega))
      have HT := Lib.hid (show s.size < wordB s 0 + 12 → readF s = (⟨#[]⟩, 0, 3) from fun h => readF_torn2 h8 hnb h)
      have HA := Lib.hid (show wordB s 0 + 12 ≤ s.size → asked s 4 from fun h => ⟨.inr (by omega), .inr (by omega), .inr hnb, .inr h, .inl (by omega)⟩)
      clear hask hnb
      generalize hA0 : wordB s 0 = A at *
      have HA0 := Lib.hid hA0
      clear hA0
      by_cases hsz : s.size < A + 12
      · go_wp2_with (go_at_call 11; ((with_reducible refine (GS.out _).mono ?_); rintro e w4 ⟨rfl, hB4⟩))
        ((try rw [Exit.noGoto_ret]); go_ret3)
        exact ⟨by rw [HR.out, HT.out hsz]; rfl, bel2 hB hB4⟩
      · go_wp2_with (go_at_call 11; ((with_reducible refine (GS.out _).mono ?_); rintro e w4 ⟨rfl, hB4⟩))
        exact ⟨⟨4, by omega, rfl, rfl, rfl, HA.out (by omega), bel2 hB hB4⟩, by decide⟩
    · have h8 : 8 ≤ s.size := by have := hask.2.1; omega
      have hnb : ¬ badN (wordB s 0) (wordB s 4) := by have := hask.2.2.1; exact this.resolve_left (by omega)
      have hA1 : wordB s 0 ≤ 2000 := by unfold badN at hnb; omega
      have hsz : wordB s 0 + 12 ≤ s.size := by have := hask.2.2.2.1; omega
      have g3 : ∀ w, Gives Try.prog 15 #[.string (s.extract (8 + wordB s 0) s.size)] w (.int .u32 (wordB s (8 + wordB s 0))) := fun w =>
        number_at (s.extract (8 + wordB s 0) s.size) _ (by rw [ByteArray.size_extract]; omega) (by rw [ByteArray.size_extract]; omega) (by rw [extract_drop]; rfl) w
      have g4 : ∀ w, Gives Try.prog 14 #[.string (s.extract 8 (8 + wordB s 0))] w (.int .u32 (moreN 0 (s.extract 8 (8 + wordB s 0)))) := of_at _ (by rw [ByteArray.size_extract]; omega)
      have HT := Lib.hid (show wordB s (8 + wordB s 0) ≠ moreN 0 (s.extract 8 (8 + wordB s 0)) → readF s = (⟨#[]⟩, 0, 4) from fun h => readF_bad2 h8 hnb hsz h)
      have HA := Lib.hid (show wordB s (8 + wordB s 0) = moreN 0 (s.extract 8 (8 + wordB s 0)) → asked s 5 from fun h => ⟨.inr (by omega), .inr (by omega), .inr hnb, .inr hsz, .inr h⟩)
      clear hask hnb
      have G3 := Lib.hid g3; have G4 := Lib.hid g4
      clear g3 g4
      generalize wordB s (8 + wordB s 0) = C at *
      generalize moreN 0 (s.extract 8 (8 + wordB s 0)) = D at *
      generalize hA0 : wordB s 0 = A at *
      have HA0 := Lib.hid hA0
      clear hA0
      have hw1 : IntKind.i64.wrap (8 + (A : Int)) = 8 + (A : Int) := IntWalk.i64_in _ (by omega)
      have hw0 : wrap64 (8 + (A : Int)) = 8 + (A : Int) := IntWalk.wrap64_in _ (by omega)
      have hw2 : (8 : Int) ≤ 8 + (A : Int) := by omega
      have hw3 : 8 + (A : Int) ≤ (s.size : Int) := by omega
      have hw4 : (8 + (A : Int)).toNat = 8 + A := by omega
      have hw5 : (0 : Int) ≤ 8 + (A : Int) := by omega
      go_wp2
      go_region_held3 (fun W' => Below wr.heap.size wr W')
        (first | assumption | exact (Below.refl _ _).drew | exact bel2 (by assumption) (by assumption))
        (first
          | (go_at_call 15; ((with_reducible refine (G3.out _).mono ?_); rintro e w4 ⟨rfl, hB4⟩))
          | (go_at_call 14; ((with_reducible refine (G4.out _).mono ?_); rintro e w5 ⟨rfl, hB5⟩)))
      have hS : Below w.heap.size w w5 := bel2 hB (by assumption)
      by_cases e1 : C = D
      · have E1 := Lib.hid e1
        subst e1
        go_wp2
        exact ⟨⟨5, by omega, rfl, rfl, rfl, HA.out rfl, hS⟩, by decide⟩
      · have t1 : ((C : Int) != (D : Int)) = true := by rw [bne_iff_ne]; omega
        go_wp2
        ((try rw [Exit.noGoto_ret]); go_ret3)
        exact ⟨by rw [HR.out, HT.out e1]; rfl, hS⟩
    · have h8 : 8 ≤ s.size := by have := hask.2.1; omega
      have hnb : ¬ badN (wordB s 0) (wordB s 4) := by have := hask.2.2.1; exact this.resolve_left (by omega)
      have hA1 : wordB s 0 ≤ 2000 := by unfold badN at hnb; omega
      have hsz : wordB s 0 + 12 ≤ s.size := by have := hask.2.2.2.1; omega
      have GS := Lib.hid (show ∀ w, Gives Try.prog 11 #[.int .i64 (wordB s 0)] w (.int .i64 ((wordB s 0 : Int) + 12)) from size_at _ (by omega) (by omega))
      have HT := Lib.hid (readF_whole h8 hnb hsz (by have := hask.2.2.2.2; omega))
      clear hask hnb
      generalize hA0 : wordB s 0 = A at *
      have HA0 := Lib.hid hA0
      clear hA0
      have hw1 : IntKind.i64.wrap (8 + (A : Int)) = 8 + (A : Int) := IntWalk.i64_in _ (by omega)
      have hw0 : wrap64 (8 + (A : Int)) = 8 + (A : Int) := IntWalk.wrap64_in _ (by omega)
      have hw2 : (8 : Int) ≤ 8 + (A : Int) := by omega
      have hw3 : 8 + (A : Int) ≤ (s.size : Int) := by omega
      have hw4 : (8 + (A : Int)).toNat = 8 + A := by omega
      have hw5 : (0 : Int) ≤ 8 + (A : Int) := by omega
      go_wp2
      go_region_held3 (fun W' => Below wr.heap.size wr W')
        (first | assumption | exact (Below.refl _ _).drew | exact bel2 (by assumption) (by assumption))
        (first
          | (go_at_call 11; ((with_reducible refine (GS.out _).mono ?_); rintro e w5 ⟨rfl, hB5⟩)))
      have hS : Below w.heap.size w w5 := bel2 hB (by assumption)
      go_wp2
      ((try rw [Exit.noGoto_ret]); go_ret3)
      exact ⟨by rw [HR.out, HT.out]; rfl, hS⟩

end Go.Proofs.Ytcchbpjkejklaab
