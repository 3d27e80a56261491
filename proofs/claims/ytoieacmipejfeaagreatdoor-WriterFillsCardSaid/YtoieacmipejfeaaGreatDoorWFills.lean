/- The walks of the law WriterFills. -/
import Derived.Test.YtoieacmipejfeaaGreatDoorKnown22
import Derived.Test.YtoieacmipejfeaaGreatDoorWrtI
import Derived.Test.YtoieacmipejfeaaGreatDoorBytes
namespace Go.Proofs.YtoieacmipejfeaaGreatDoor
open Go.RowKit Go.Shelf
set_option linter.unusedVariables false
attribute [local go_sem] Oper.semAt_some wide_fn wide_round_fn

set_option maxRecDepth 100000 in
set_option maxHeartbeats 4000000 in
theorem fills_many (w : World) (l0 : Nat) (hl0 : l0 < 65536) (a : Option Addr) (len cap : Nat) (zs : List Int) (hz : RowI .u16 w a len zs) (h : 30 < len) : Calls Tryz.prog 6 #[.int .u16 l0, .slice a len cap] w fun e w' => e = .returned (.bool true) ∧ Below w.heap.size w w' := by
  have GK := Lib.hid known22_any
  have h1 : (30 : Int) < (len : Int) := by omega
  clear h hz
  unfold Gives at GK
  go_enter Tryz.func6, Tryz.ntmps6
  go_wp2_with (go_at_call 8; ((with_reducible refine (GK.out _).mono ?_); rintro e w1 ⟨rfl, hB1⟩))
  go_ret
  exact ⟨rfl, hB1⟩
set_option maxRecDepth 100000 in
set_option maxHeartbeats 16000000 in
theorem fills_few (w : World) (l0 : Nat) (hl0 : l0 < 65536) (a : Option Addr) (len cap : Nat) (zs : List Int) (hz : RowI .u16 w a len zs) (h30 : len ≤ 30) : Calls Tryz.prog 6 #[.int .u16 l0, .slice a len cap] w fun e w' => e = .returned (.bool true) ∧ Below w.heap.size w w' := by
  obtain ⟨i0, hi, hz0, hz1, hz2⟩ := info_parts infoU8d
  obtain ⟨D1, hm1, hF1⟩ := FI.make (l0 : Int)
  have hlim : limW (l0 : Int) = max 2100 (l0 : Int) := by unfold limW; omega
  have hmax : max 2100 (l0 : Int) = limW (l0 : Int) := hlim.symm
  have hmb : 2100 ≤ limW (l0 : Int) ∧ limW (l0 : Int) ≤ 100000 := by unfold limW; omega
  have GK := Lib.hid known22_any
  have GN := Lib.hid (fun w1 => (show Calls Tryz.prog 10 #[.int .i64 1000000] w1 fun e w' => e = .returned (.pointer (some ⟨w1.heap.size + 1, 0, none⟩)) ∧ One w1 (w1.heap.size + 1) ⟨[], 1000000, 0, false, 0⟩ w' from newO 1000000 w1))
  have GM := Lib.hid (fun w1 W (h : One w1 (w1.heap.size + 1) ⟨[], 1000000, 0, false, 0⟩ W) => (show Calls Tryz.prog 11 #[.pointer (some ⟨w1.heap.size + 1, 0, none⟩), .int .i64 l0] W fun e w' => ∃ p, e = .returned (.tuple #[.pointer (some ⟨p, 0, none⟩), .int .i64 0]) ∧ WrO w1 (w1.heap.size + 1) p ⟨limW l0, [1], 16⟩ D1 w' from by
    have := wmake_any h (fit_new 1000000 (by omega)) (by omega) (l0 : Int)
    rw [hm1] at this
    exact this))
  have GL := Lib.hid (fun w1 d p (M : WM) D W (h : WrO w1 d p M D W) => (show Calls Tryz.prog 21 #[.pointer (some ⟨p, 0, none⟩)] W fun e w' => e = .returned (.int .i64 M.lim) ∧ Below W.heap.size W w' from wlimit_any h))
  have GS := Lib.hid (fun w1 d p (M : WM) D W (h : WrO w1 d p M D W) => (show Calls Tryz.prog 20 #[.pointer (some ⟨p, 0, none⟩)] W fun e w' => e = .returned (.int .i64 M.size) ∧ Below W.heap.size W w' from wsize_any h))
  have GG := Lib.hid (fun w1 d p (M : WM) D W (h : WrO w1 d p M D W) (hn : M.segs.length < 1000000) => (show Calls Tryz.prog 19 #[.pointer (some ⟨p, 0, none⟩)] W fun e w' => ∃ a c, e = .returned (.slice a M.segs.length c) ∧ Below W.heap.size W w' from by
    refine (wsegs_any h hn).mono ?_
    rintro e w' ⟨v, he, hv, hB⟩
    obtain ⟨a, c, hvv, -, hr⟩ := rowV_own hv
    exact ⟨a, c, by rw [he, hvv], hB⟩))
  have hle : (len : Int) ≤ 30 := by omega
  have HC := Lib.hid (show ∀ k (hk : k < zs.length), ∃ b off, a = some ⟨b, off, none⟩ ∧ b < w.heap.size ∧ w.cell? ⟨b, off + k, none⟩ = some (.int .u16 zs[k]) ∧ 0 ≤ zs[k] ∧ zs[k] < 65536 from fun k hk => by
    obtain ⟨b, off, e, hb, hc⟩ := hz.2.2.2 (by have := hz.1; omega)
    have hw := hz.2.2.1 _ (List.getElem_mem hk)
    simp [Lit.wf, IntKind.min, IntKind.max, IntKind.signed, IntKind.bits] at hw
    exact ⟨b, off, e, hb, hc k hk, by omega, by omega⟩)
  have HZL := Lib.hid hz.1
  have HF1 := Lib.hid hF1
  generalize limW (l0 : Int) = lim at *
  clear hz hm1 hF1 hlim
  unfold Gives at GK
  go_enter Tryz.func6, Tryz.ntmps6
  go_wp2_with (first
    | (go_at_call 8; ((with_reducible refine (GK.out _).mono ?_); rintro e w1 ⟨rfl, hB1⟩))
    | (go_at_call 10; ((with_reducible refine (GN.out _).mono ?_); rintro e w2 ⟨rfl, h2⟩; have H2 := Lib.hid h2; clear h2))
    | (go_at_call 11; ((with_reducible refine (GM.out _ _ H2.out).mono ?_); rintro e w3 ⟨p, rfl, h3⟩; have H3 := Lib.hid h3; clear h3 H2)))
  have HB1 := Lib.hid hB1
  have HB3 := Lib.hid H3.out.one.bel
  clear hmax hB1
  go_loopw [9] (fun si wr => ∃ (k : Nat) (M : WM) (D : PD), k ≤ len ∧ si = .int .i64 k ∧ WrO w1 (w1.heap.size + 1) p M D wr ∧ FI lim k M D) (fun si _ => len - (intOf si).toNat)
  case atStart => exact ⟨0, _, _, by omega, rfl, H3.out, HF1.out⟩
  case round =>
    obtain ⟨k, M, D, hk, rfl, hW, hF⟩ := hrel
    have HW := Lib.hid hW
    by_cases hlt : k < len
    · have hlt' : (k : Int) < (len : Int) := by omega
      have hkz : k < zs.length := by rw [HZL.out]; exact hlt
      obtain ⟨b, off, rfl, hbb, hcc, hz0k, hz1k⟩ := HC.out k hkz
      have hBw : Below w.heap.size w wr := bel2 HB1.out hW.one.bel
      have c := (hBw.cell (p := ⟨b, off + k, none⟩) hbb).trans hcc
      generalize zs[k] = z9 at *
      obtain ⟨z, rfl⟩ : ∃ z : Nat, z9 = (z : Int) := ⟨z9.toNat, by omega⟩
      obtain ⟨m, hm, hm1⟩ : ∃ m : Nat, (z : Int) % 2084 = (m : Int) ∧ m < 2084 := ⟨z % 2084, by omega, by omega⟩
      have hw1 : IntKind.i64.wrap ((m : Int) + 1) = ((m + 1 : Nat) : Int) := (IntWalk.i64_in _ (by omega)).trans (by push_cast; rfl)
      obtain ⟨hs1, hs2, hs3, hs4, hs5⟩ := hF.size
      obtain ⟨hn1, hn2⟩ := hF.lens
      obtain ⟨hwf, hr1, hr2⟩ := hF.wf (by omega)
      have hfit := hF.fit
      obtain ⟨bs, hbs⟩ : ∃ bs : ByteArray, bs = ⟨Array.replicate (m + 1) (0 : UInt8)⟩ := ⟨_, rfl⟩
      have hbsz : bs.size = m + 1 := by rw [hbs]; show (Array.replicate (m + 1) (0 : UInt8)).size = _; simp
      have HWA := Lib.hid (fun W (h : WrO w1 (w1.heap.size + 1) p M D W) => wwrite_any (h.toX W) bs hfit (by omega) ⟨hn1, by omega⟩ hwf ⟨hr1, hr2⟩ ⟨by omega, by omega⟩)
      have HFW := hF.write (by omega) bs (by omega)
      clear hfit hwf hr1 hr2 hcc hbb hz0k hz1k hW hF
      have hk9 : IntKind.i64.wrap ((k : Int) + 1) = ((k + 1 : Nat) : Int) := (IntWalk.i64_in _ (by omega)).trans (by push_cast; rfl)
      rw [hbsz] at HFW
      rcases HFW with ⟨hrb, D', pa, hR, hF'⟩ | ⟨hrb, D', pa, hR, hF'⟩
      · have HR := Lib.hid hR
        have HF' := Lib.hid hF'
        obtain ⟨M', hM'⟩ : ∃ M' : WM, M' = { M with size := M.size + ((m + 1 : Nat) : Int) } := ⟨_, rfl⟩
        rw [← hM'] at HF' HR
        obtain ⟨s, hSM⟩ : ∃ s, M.size = s := ⟨_, rfl⟩
        obtain ⟨L, hLM⟩ : ∃ L, M.segs.length = L := ⟨_, rfl⟩
        obtain ⟨T, hT⟩ : ∃ T, s + ((m + 1 : Nat) : Int) = T := ⟨_, rfl⟩
        have GWT := Lib.hid (fun W (h : WrO w1 (w1.heap.size + 1) p M D W) => (show Calls Tryz.prog 13 #[.pointer (some ⟨p, 0, none⟩), .string ⟨Array.replicate (m + 1) (0 : UInt8)⟩] W fun e w' => e = .returned (.tuple #[.agg #[.int .i64 pa, .int .i64 s], .int .i64 0]) ∧ WrO w1 (w1.heap.size + 1) p M' D' w' from by
          have := HWA.out W h
          rw [HR.out] at this
          dsimp only at this
          rw [← hbs]
          exact this.mono fun e w' h => ⟨hSM ▸ h.1, h.2.toO⟩))
        have e1 : M'.lim = lim := by rw [hM']; exact hs5
        have e2 : M'.size = T := by rw [hM', ← hT]; show M.size + _ = s + _; rw [hSM]
        have e3 : M'.segs.length = L := by rw [hM', ← hLM]
        have hTl : T ≤ lim := by have := HF'.out.size.2.1; rwa [e2] at this
        rw [hSM] at hs1 hs2
        rw [hLM] at hn1 hn2
        unfold rollB at hrb
        rw [hs5, hSM] at hrb
        have hwT : IntKind.i64.wrap (s + ((m + 1 : Nat) : Int)) = T := (IntWalk.i64_in _ (by omega)).trans hT
        have g1 : decide (lim < T) = false := decide_eq_false (by omega)
        obtain ⟨L', hL'⟩ : ∃ L' : Int, (L : Int) + 1 = L' := ⟨_, rfl⟩
        have hwL : IntKind.i64.wrap ((L : Int) + 1) = L' := (IntWalk.i64_in _ (by omega)).trans hL'
        have hLL : ((L : Int) == L') = false := by rw [beq_eq_false_iff_ne]; omega
        have hlb : L < 1000000 := by omega
        clear hT hL'
        clear hM' hR hF' HWA hbs hbsz hrb HR hTl
        generalize hN : m + 1 = N at *
        have hNb : N ≤ 2084 := by omega
        clear hN hm1
        go_wp2_with (first
          | (go_at_call 19; ((with_reducible refine (GG.out _ _ _ _ _ _ HW.out (by omega)).mono ?_); rintro e w9 ⟨ga, gc, rfl, hB9⟩; replace HW := Lib.hid (HW.out.below hB9); have hq9 := (hB9.block _ (heap_lt8 HQ.out)).trans HQ.out; replace HQ := Lib.hid hq9; clear cq; have cq := cell_of_row _ _ 1 _ _ _ hq9; clear hq9 hB9))
          | (go_at_call 19; ((with_reducible refine (GG.out _ _ _ _ _ _ HW.out (by omega)).mono ?_); rintro e w9 ⟨ga, gc, rfl, hB9⟩; obtain ⟨w10, hmk, hB10, hby⟩ := bytes_made (P := Tryz.prog) (t := 55) (e := 5) i0 Tryz.underlying55 hi hz0 hz1 hz2 N (by omega) w9; have hst := string_of (P := Tryz.prog) (src := 55) (dst := 9) Tryz.underlying55 Tryz.underlying5 Tryz.underlying9 hby N N (by simp); replace HW := Lib.hid ((HW.out.below hB9).below hB10); have hfirst : True := trivial; clear hB9 hB10 hby))
          | (go_at_call 20; ((with_reducible refine (GS.out _ _ _ _ _ _ HW.out).mono ?_); rintro e w9 ⟨rfl, hB9⟩; replace HW := Lib.hid (HW.out.below hB9); (try (have hq9 := (hB9.block _ (heap_lt8 HQ.out)).trans HQ.out; replace HQ := Lib.hid hq9; clear cq; have cq := cell_of_row _ _ 1 _ _ _ hq9; clear hq9)); clear hB9))
          | (go_at_call 21; ((with_reducible refine (GL.out _ _ _ _ _ _ HW.out).mono ?_); rintro e w9 ⟨rfl, hB9⟩; replace HW := Lib.hid (HW.out.below hB9); (try (have hq9 := (hB9.block _ (heap_lt8 HQ.out)).trans HQ.out; replace HQ := Lib.hid hq9; clear cq; have cq := cell_of_row _ _ 1 _ _ _ hq9; clear hq9)); clear hB9))
          | (go_at_call 13; ((with_reducible refine (GWT.out _ HW.out).mono ?_); rintro e w11 ⟨rfl, h11⟩; clear HW hmk hst; have HW := Lib.hid (h11.below (bel_alloc (Below.refl _ _) (.cells #[.int .i64 pa, .int .i64 s] 40))); have HQ := Lib.hid (World.alloc_heap_new w11 (.cells #[.int .i64 pa, .int .i64 s] 40)); have cq := cell_of_row _ _ 1 _ _ _ HQ.out; clear h11)))
        go_roundw
        case rel => exact ⟨k + 1, M', D', by omega, by go_num, HW.out, HF'.out⟩
        case measure => simp [intOf]; omega
      · have HR := Lib.hid hR
        have HF' := Lib.hid hF'
        obtain ⟨M', hM'⟩ : ∃ M' : WM, M' = { M with segs := M.segs ++ [lastW M + 1], size := 16 + ((m + 1 : Nat) : Int) } := ⟨_, rfl⟩
        rw [← hM'] at HF' HR
        obtain ⟨s, hSM⟩ : ∃ s, M.size = s := ⟨_, rfl⟩
        obtain ⟨L, hLM⟩ : ∃ L, M.segs.length = L := ⟨_, rfl⟩
        obtain ⟨T, hT⟩ : ∃ T, 16 + ((m + 1 : Nat) : Int) = T := ⟨_, rfl⟩
        have GWT := Lib.hid (fun W (h : WrO w1 (w1.heap.size + 1) p M D W) => (show Calls Tryz.prog 13 #[.pointer (some ⟨p, 0, none⟩), .string ⟨Array.replicate (m + 1) (0 : UInt8)⟩] W fun e w' => e = .returned (.tuple #[.agg #[.int .i64 pa, .int .i64 16], .int .i64 0]) ∧ WrO w1 (w1.heap.size + 1) p M' D' w' from by
          have := HWA.out W h
          rw [HR.out] at this
          dsimp only at this
          rw [← hbs]
          exact this.mono fun e w' h => ⟨h.1, h.2.toO⟩))
        have e1 : M'.lim = lim := by rw [hM']; exact hs5
        have e2 : M'.size = T := by rw [hM', ← hT]
        have e3 : M'.segs.length = L + 1 := by rw [hM', ← hLM]; simp
        have hTl : T ≤ lim := by have := HF'.out.size.2.1; rwa [e2] at this
        rw [hSM] at hs1 hs2
        rw [hLM] at hn1 hn2
        unfold rollB at hrb
        rw [hs5, hSM] at hrb
        have hwT : IntKind.i64.wrap (16 + ((m + 1 : Nat) : Int)) = T := (IntWalk.i64_in _ (by omega)).trans hT
        obtain ⟨g1, g2⟩ : lim < s + ((m + 1 : Nat) : Int) ∧ 16 < s := by simpa using hrb
        obtain ⟨T0, hT0⟩ : ∃ T, s + ((m + 1 : Nat) : Int) = T := ⟨_, rfl⟩
        have hwT0 : IntKind.i64.wrap (s + ((m + 1 : Nat) : Int)) = T0 := (IntWalk.i64_in _ (by omega)).trans hT0
        rw [hT0] at g1
        have hT3 : decide (lim < T) = false := decide_eq_false (by omega)
        replace g1 : decide (lim < T0) = true := decide_eq_true g1
        replace g2 : decide (16 < s) = true := decide_eq_true g2
        have hwL : IntKind.i64.wrap ((L : Int) + 1) = ((L + 1 : Nat) : Int) := (IntWalk.i64_in _ (by omega)).trans (by push_cast; rfl)
        obtain ⟨L', hL'⟩ : ∃ L', L + 1 = L' := ⟨_, rfl⟩
        rw [hL'] at e3 hwL
        have hlb : L' < 1000000 := by omega
        clear hT hT0 hL'
        clear hM' hR hF' HWA hbs hbsz hrb HR hTl
        generalize hN : m + 1 = N at *
        have hNb : N ≤ 2084 := by omega
        clear hN hm1
        go_wp2_with (first
          | (go_at_call 19; ((with_reducible refine (GG.out _ _ _ _ _ _ HW.out (by omega)).mono ?_); rintro e w9 ⟨ga, gc, rfl, hB9⟩; replace HW := Lib.hid (HW.out.below hB9); have hq9 := (hB9.block _ (heap_lt8 HQ.out)).trans HQ.out; replace HQ := Lib.hid hq9; clear cq; have cq := cell_of_row _ _ 1 _ _ _ hq9; clear hq9 hB9))
          | (go_at_call 19; ((with_reducible refine (GG.out _ _ _ _ _ _ HW.out (by omega)).mono ?_); rintro e w9 ⟨ga, gc, rfl, hB9⟩; obtain ⟨w10, hmk, hB10, hby⟩ := bytes_made (P := Tryz.prog) (t := 55) (e := 5) i0 Tryz.underlying55 hi hz0 hz1 hz2 N (by omega) w9; have hst := string_of (P := Tryz.prog) (src := 55) (dst := 9) Tryz.underlying55 Tryz.underlying5 Tryz.underlying9 hby N N (by simp); replace HW := Lib.hid ((HW.out.below hB9).below hB10); have hfirst : True := trivial; clear hB9 hB10 hby))
          | (go_at_call 20; ((with_reducible refine (GS.out _ _ _ _ _ _ HW.out).mono ?_); rintro e w9 ⟨rfl, hB9⟩; replace HW := Lib.hid (HW.out.below hB9); (try (have hq9 := (hB9.block _ (heap_lt8 HQ.out)).trans HQ.out; replace HQ := Lib.hid hq9; clear cq; have cq := cell_of_row _ _ 1 _ _ _ hq9; clear hq9)); clear hB9))
          | (go_at_call 21; ((with_reducible refine (GL.out _ _ _ _ _ _ HW.out).mono ?_); rintro e w9 ⟨rfl, hB9⟩; replace HW := Lib.hid (HW.out.below hB9); (try (have hq9 := (hB9.block _ (heap_lt8 HQ.out)).trans HQ.out; replace HQ := Lib.hid hq9; clear cq; have cq := cell_of_row _ _ 1 _ _ _ hq9; clear hq9)); clear hB9))
          | (go_at_call 13; ((with_reducible refine (GWT.out _ HW.out).mono ?_); rintro e w11 ⟨rfl, h11⟩; clear HW hmk hst; have HW := Lib.hid (h11.below (bel_alloc (Below.refl _ _) (.cells #[.int .i64 pa, .int .i64 16] 40))); have HQ := Lib.hid (World.alloc_heap_new w11 (.cells #[.int .i64 pa, .int .i64 16] 40)); have cq := cell_of_row _ _ 1 _ _ _ HQ.out; clear h11)))
        go_roundw
        case rel => exact ⟨k + 1, M', D', by omega, by go_num, HW.out, HF'.out⟩
        case measure => simp [intOf]; omega
    · have hge : ¬ (k : Int) < (len : Int) := by omega
      go_wp2
      go_ret
      exact ⟨rfl, bel2 HB1.out hW.one.bel⟩

end Go.Proofs.YtoieacmipejfeaaGreatDoor
