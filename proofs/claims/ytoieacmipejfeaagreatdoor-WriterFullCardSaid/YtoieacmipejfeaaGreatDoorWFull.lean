/- The walks of the law WriterFull. -/
import Derived.Test.YtoieacmipejfeaaGreatDoorKnown22
import Derived.Test.YtoieacmipejfeaaGreatDoorWrtR
import Derived.Test.YtoieacmipejfeaaGreatDoorHeadRef
import Derived.Test.YtoieacmipejfeaaGreatDoorBytes
namespace Go.Proofs.YtoieacmipejfeaaGreatDoor
open Go.RowKit Go.Shelf
set_option linter.unusedVariables false
attribute [local go_sem] Oper.semAt_some wide_fn wide_round_fn

theorem txt_take_le (S : List SegC) (j : Nat) : (txtS (S.take j)).length ≤ (txtS S).length := by
  have := congrArg List.length (txt_app (S.take j) (S.drop j))
  rw [List.take_append_drop, List.length_append] at this
  omega
theorem txt_succ (S : List SegC) (j : Nat) (hj : j < S.length) (G : ByteArray) (hG : G.data.toList = txtS (S.take j)) (B : ByteArray) (hB : B = ⟨S[j].2.1.toArray⟩) : (G ++ B.extract 16 B.size).data.toList = txtS (S.take (j + 1)) := by
  rw [List.take_succ_eq_append_getElem hj, txt_app, txt_one, ← hG, hB]
  simp only [ByteArray.data_append, Array.toList_append, ByteArray.data_extract, Array.toList_extract]
  congr 1
  show (S[j].2.1.toArray.toList).extract 16 S[j].2.1.toArray.size = _
  simp [List.extract]
  exact List.take_of_length_le (by simp)
theorem one_byte (w : World) (c : UInt8) : BytesAt (w.alloc (.cells #[.int .u8 (c.toNat : Int)] 5)) w.heap.size [c] := by
  have hb := World.alloc_heap_new w (.cells #[.int .u8 (c.toNat : Int)] 5)
  refine ⟨by simp, fun j hj => ?_, fun j _ => frozen_of_row _ _ j _ _ hb⟩
  have : j = 0 := by simp at hj; omega
  subst this
  exact cell_of_row _ _ 0 _ _ _ hb
set_option maxRecDepth 100000 in
set_option maxHeartbeats 4000000 in
theorem full_many (w : World) (a : Option Addr) (len cap : Nat) (zs : List Int) (hz : RowI .u16 w a len zs) (room : Nat) (hroom : room < 65536) (h : 30 < len) : Calls Tryz.prog 5 #[.slice a len cap, .int .u16 room] w fun e w' => e = .returned (.bool true) ∧ Below w.heap.size w w' := by
  have GK := Lib.hid known22_any
  have h1 : (30 : Int) < (len : Int) := by omega
  clear h hz
  unfold Gives at GK
  go_enter Tryz.func5, Tryz.ntmps5
  go_wp2_with (go_at_call 8; ((with_reducible refine (GK.out _).mono ?_); rintro e w1 ⟨rfl, hB1⟩))
  go_ret
  exact ⟨rfl, hB1⟩
set_option maxRecDepth 100000 in
set_option maxHeartbeats 16000000 in
theorem full_few (w : World) (a : Option Addr) (len cap : Nat) (zs : List Int) (hz : RowI .u16 w a len zs) (room : Nat) (hroom : room < 65536) (h30 : len ≤ 30) : Calls Tryz.prog 5 #[.slice a len cap, .int .u16 room] w fun e w' => e = .returned (.bool true) ∧ Below w.heap.size w w' := by
  obtain ⟨i0, hi, hi0, hi1, hi2⟩ := info_parts infoU8d
  obtain ⟨R, hR, hR1⟩ : ∃ R : Nat, (room : Int) % 9000 + 200 = (R : Int) ∧ 200 ≤ R ∧ R ≤ 9199 := ⟨room % 9000 + 200, by omega, by omega⟩
  obtain ⟨r0, hr0, hr1⟩ : ∃ r0 : Nat, (room : Int) % 9000 = (r0 : Int) ∧ r0 + 200 = R := ⟨room % 9000, by omega, by omega⟩
  have hwR : IntKind.i64.wrap ((r0 : Int) + 200) = ((R : Nat) : Int) := (IntWalk.i64_in _ (by omega)).trans (by omega)
  obtain ⟨D1, hm1, hF1⟩ := FU.make R (by omega)
  have GK := Lib.hid known22_any
  have GN := Lib.hid (fun w1 => (show Calls Tryz.prog 10 #[.int .i64 R] w1 fun e w' => e = .returned (.pointer (some ⟨w1.heap.size + 1, 0, none⟩)) ∧ One w1 (w1.heap.size + 1) ⟨[], R, 0, false, 0⟩ w' from by
    have := newO (R : Int) w1
    rw [show (min (max (R : Int) 0) 1000000).toNat = R by omega] at this
    exact this))
  have GM := Lib.hid (fun w1 W (h : One w1 (w1.heap.size + 1) ⟨[], R, 0, false, 0⟩ W) => (show Calls Tryz.prog 11 #[.pointer (some ⟨w1.heap.size + 1, 0, none⟩), .int .i64 2100] W fun e w' => ∃ p, e = .returned (.tuple #[.pointer (some ⟨p, 0, none⟩), .int .i64 0]) ∧ WrO w1 (w1.heap.size + 1) p ⟨2100, [1], 16⟩ D1 w' from by
    have := wmake_any h (fit_new R (by omega)) (by omega) 2100
    rw [hm1] at this
    exact this))
  have GG := Lib.hid (fun w1 d p (M : WM) D W (h : WrO w1 d p M D W) (zs : List Int) (hs : M.segs = zs) (hn : zs.length < 1000000) (hw : ∀ z ∈ zs, (Lit.int .i64 z).wf = true) => (show Calls Tryz.prog 19 #[.pointer (some ⟨p, 0, none⟩)] W fun e w' => ∃ a c, e = .returned (.slice a zs.length c) ∧ RowI .i64 w' a zs.length zs ∧ Below W.heap.size W w' from by
    subst hs
    refine (wsegs_any h hn).mono ?_
    rintro e w' ⟨v, he, hv, hB⟩
    obtain ⟨a, c, hvv, -, hr⟩ := rowI_own (zs := M.segs) hv hw
    exact ⟨a, c, by rw [he, hvv], hr, hB⟩))
  have GNM := Lib.hid (fun (i : Int) W => (show Calls Tryz.prog 27 #[.int .i64 i] W fun e w' => e = .returned (.string (nmW i)) ∧ Below W.heap.size W w' from refName_any i W))
  have hle : (len : Int) ≤ 30 := by omega
  have HC := Lib.hid (show ∀ k (hk : k < zs.length), ∃ b off, a = some ⟨b, off, none⟩ ∧ b < w.heap.size ∧ w.cell? ⟨b, off + k, none⟩ = some (.int .u16 zs[k]) ∧ 0 ≤ zs[k] ∧ zs[k] < 65536 from fun k hk => by
    obtain ⟨b, off, e, hb, hc⟩ := hz.2.2.2 (by have := hz.1; omega)
    have hw := hz.2.2.1 _ (List.getElem_mem hk)
    simp [Lit.wf, IntKind.min, IntKind.max, IntKind.signed, IntKind.bits] at hw
    exact ⟨b, off, e, hb, hc k hk, by omega, by omega⟩)
  have HZL := Lib.hid hz.1
  have HF1 := Lib.hid hF1
  have HRM := Lib.hid (show (room : Int) % 9000 = (r0 : Int) from hr0)
  have HWR := Lib.hid hwR
  have HRB := Lib.hid hR1
  clear hz hm1 hF1 hR hr1 hR1
  unfold Gives at GK
  go_enter Tryz.func5, Tryz.ntmps5
  go_wp2_with (first
    | (go_at_call 8; ((with_reducible refine (GK.out _).mono ?_); rintro e w1 ⟨rfl, hB1⟩))
    | (go_at_call 10; ((with_reducible refine (GN.out _).mono ?_); rintro e w2 ⟨rfl, h2⟩; have H2 := Lib.hid h2; clear h2))
    | (go_at_call 11; ((with_reducible refine (GM.out _ _ H2.out).mono ?_); rintro e w3 ⟨p, rfl, h3⟩; have H3 := Lib.hid h3; clear h3 H2)))
  have HB1 := Lib.hid hB1
  clear hB1 hr0 hwR
  go_loopw [8, 9] (fun s8 si wr => ∃ (k : Nat) (M : WM) (D : PD) (S : List SegC) (T : ByteArray), k ≤ len ∧ si = .int .i64 k ∧ s8 = .string T ∧ WrO w1 (w1.heap.size + 1) p M D wr ∧ FU R k M D S T.data.toList ∧ T.size ≤ 2000 * k) (fun _ si _ => len - (intOf si).toNat)
  case atStart => exact ⟨0, _, _, _, ⟨#[]⟩, by omega, rfl, rfl, H3.out, HF1.out, by decide⟩
  case round =>
    obtain ⟨k, M, D, S, T, hk, rfl, rfl, hW, hF, hTs⟩ := hrel
    have HW := Lib.hid hW
    by_cases hlt : k < len
    · have hlt' : (k : Int) < (len : Int) := by omega
      have hkz : k < zs.length := by rw [HZL.out]; exact hlt
      obtain ⟨b, off, rfl, hbb, hcc, hz0k, hz1k⟩ := HC.out k hkz
      have hBw : Below w.heap.size w wr := bel2 HB1.out hW.one.bel
      have c := (hBw.cell (p := ⟨b, off + k, none⟩) hbb).trans hcc
      have cd : wr.drew.cell? ⟨b, off + k, none⟩ = _ := c
      generalize zs[k] = z9 at *
      obtain ⟨z, rfl⟩ : ∃ z : Nat, z9 = (z : Int) := ⟨z9.toNat, by omega⟩
      obtain ⟨m, hm, hm1⟩ : ∃ m : Nat, (z : Int) % 1900 = (m : Int) ∧ m < 1900 := ⟨z % 1900, by omega, by omega⟩
      have hbw : b < wr.heap.size := Nat.lt_of_lt_of_le hbb hBw.size
      obtain ⟨q, hq, hq1⟩ : ∃ q : Nat, (k : Int) % 26 = (q : Int) ∧ q < 26 := ⟨k % 26, by omega, by omega⟩
      obtain ⟨cc, hcn⟩ : ∃ cc : UInt8, cc.toNat = 97 + q := ⟨UInt8.ofNat (97 + q), by rw [UInt8.toNat_ofNat']; omega⟩
      have hwq : IntKind.u8.wrap (q : Int) = (q : Int) := by simp [IntKind.wrap, IntKind.bits, IntKind.signed]; omega
      have hwc : IntKind.u8.wrap (97 + (q : Int)) = ((cc.toNat : Nat) : Int) := by rw [hcn]; simp [IntKind.wrap, IntKind.bits, IntKind.signed]; omega
      clear hcn
      have hbA := one_byte wr cc
      have hbAd : BytesAt (wr.alloc (.cells #[.int .u8 (cc.toNat : Int)] 5)).drew wr.heap.size [cc] := hbA.drew
      obtain ⟨wa, hma, hBa, hya⟩ := bytes_made (P := Tryz.prog) (t := 55) (e := 5) i0 Tryz.underlying55 hi hi0 hi1 hi2 m (by omega) wr.drew
      obtain ⟨wb, hmb, hBb, hyb⟩ := bytes_made (P := Tryz.prog) (t := 55) (e := 5) i0 Tryz.underlying55 hi hi0 hi1 hi2 m (by omega) (wr.alloc (.cells #[.int .u8 (cc.toNat : Int)] 5)).drew
      have hbB := hbAd.below hBb
      have hbC := one_byte wa cc
      have hyC := hya.below (bel_alloc (Below.refl wa.heap.size wa) (.cells #[.int .u8 (cc.toNat : Int)] 5))
      have sA := string_of (P := Tryz.prog) (src := 55) (dst := 9) Tryz.underlying55 Tryz.underlying5 Tryz.underlying9 hbAd 1 1 rfl
      have sB := string_of (P := Tryz.prog) (src := 55) (dst := 9) Tryz.underlying55 Tryz.underlying5 Tryz.underlying9 hbB 1 1 rfl
      have sC := string_of (P := Tryz.prog) (src := 55) (dst := 9) Tryz.underlying55 Tryz.underlying5 Tryz.underlying9 hbC 1 1 rfl
      have tA := string_of (P := Tryz.prog) (src := 55) (dst := 9) Tryz.underlying55 Tryz.underlying5 Tryz.underlying9 hya m m (by simp)
      have tB := string_of (P := Tryz.prog) (src := 55) (dst := 9) Tryz.underlying55 Tryz.underlying5 Tryz.underlying9 hyb m m (by simp)
      have tC := string_of (P := Tryz.prog) (src := 55) (dst := 9) Tryz.underlying55 Tryz.underlying5 Tryz.underlying9 hyC m m (by simp)
      have tA : (convert 55 9 (.slice (some ⟨wr.heap.size, 0, none⟩) m m)).run Tryz.prog wa = .ok (.string ⟨(List.replicate m (0 : UInt8)).toArray⟩) wa := tA
      have tC : (convert 55 9 (.slice (some ⟨wr.heap.size, 0, none⟩) m m)).run Tryz.prog (wa.alloc (.cells #[.int .u8 (cc.toNat : Int)] 5)) = .ok (.string ⟨(List.replicate m (0 : UInt8)).toArray⟩) (wa.alloc (.cells #[.int .u8 (cc.toNat : Int)] 5)) := tC
      rw [show (wr.alloc (.cells #[.int .u8 (cc.toNat : Int)] 5)).drew.heap.size = wr.heap.size + 1 from World.size_alloc _ _] at tB hmb
      have cA : (wr.alloc (.cells #[.int .u8 (cc.toNat : Int)] 5)).cell? ⟨b, off + k, none⟩ = some (.int .u16 (z : Int)) := ((bel_alloc (Below.refl wr.heap.size wr) _).cell (p := ⟨b, off + k, none⟩) hbw).trans c
      have cAd : (wr.alloc (.cells #[.int .u8 (cc.toNat : Int)] 5)).drew.cell? ⟨b, off + k, none⟩ = some (.int .u16 (z : Int)) := cA
      have ht : (k : Int).tmod 26 = (q : Int) := by rw [Int.tmod_eq_emod_of_nonneg (by omega)]; exact hq
      have hsz : ¬ 9223372036854775807 < (⟨#[cc]⟩ : ByteArray).size + (⟨Array.replicate m (0 : UInt8)⟩ : ByteArray).size := by show ¬ 9223372036854775807 < 1 + (Array.replicate m (0 : UInt8)).size; simp; omega
      have HX := Lib.hid (show Below wr.heap.size wr wb from ((bel_alloc (Below.refl wr.heap.size wr) _).drew).trans (hBb.mono (by show wr.heap.size ≤ (wr.alloc _).heap.size; simp)))
      have HY := Lib.hid (show Below wr.heap.size wr (wa.alloc (.cells #[.int .u8 (cc.toNat : Int)] 5)) from ((Below.refl wr.heap.size wr).drew.trans hBa).alloc hBa.size _)
      clear hbA hbAd hbB hbC hya hyb hyC hBa hBb hBw hcc hbb hz0k hz1k hW
      go_wp2
      go_region
      all_goals first
        | (change Exit.then _ _ _ _ wb
           have HW4 := Lib.hid (HW.out.below HX.out)
           clear HX HY hma hmb sA sB sC tA tB tC
           generalize wb = w4 at *)
        | (change Exit.then _ _ _ _ (wa.alloc (.cells #[.int .u8 (cc.toNat : Int)] 5))
           have HW4 := Lib.hid (HW.out.below HY.out)
           clear HX HY hma hmb sA sB sC tA tB tC
           generalize wa.alloc (.cells #[.int .u8 (cc.toNat : Int)] 5) = w4 at *)
      all_goals
        clear cA cAd c cd hwq hwc hq ht hm hsz HW hbw hq1
        obtain ⟨bs, hbs⟩ : ∃ bs : ByteArray, bs = (⟨#[cc]⟩ : ByteArray) ++ (⟨Array.replicate m (0 : UInt8)⟩ : ByteArray) := ⟨_, rfl⟩
        rw [← hbs]
        have hbz : 1 ≤ bs.size ∧ bs.size ≤ 1900 := by
          rw [hbs, ByteArray.size_append]
          have h1 : (⟨#[cc]⟩ : ByteArray).size = 1 := rfl
          have h2 : (⟨Array.replicate m (0 : UInt8)⟩ : ByteArray).size = m := by show (Array.replicate m (0 : UInt8)).size = _; simp
          omega
        clear hbs hm1
        have hk9 : IntKind.i64.wrap ((k : Int) + 1) = ((k + 1 : Nat) : Int) := (IntWalk.i64_in _ (by omega)).trans (by push_cast; rfl)
        obtain ⟨h1, h2, h3, h4⟩ := hF.pre (by omega)
        have hfit := hF.fit
        obtain ⟨M', D', S', pa, pb, e9, hR9, hE⟩ := hF.write (by omega) bs (by omega)
        have GWT := Lib.hid (show Calls Tryz.prog 13 #[.pointer (some ⟨p, 0, none⟩), .string bs] w4 fun e w' => e = .returned (.tuple #[.agg #[.int .i64 pa, .int .i64 pb], .int .i64 e9]) ∧ WrO w1 (w1.heap.size + 1) p M' D' w' from by
          have := wwrite_any (HW4.out.toX w4) bs hfit (by omega) h1 h2 h3 h4
          rw [hR9] at this
          exact this.mono fun e w' h => ⟨h.1, h.2.toO⟩)
        clear hR9 hfit hF
        have hts : ¬ 9223372036854775807 < T.size + bs.size := by omega
        obtain ⟨zs2, hzs2⟩ : ∃ zs2, zs2 = S'.map (·.1) := ⟨_, rfl⟩
        have GGS : ∀ T9, FU R (k + 1) M' D' S' T9 → M'.segs = zs2 ∧ zs2.length < 1000000 ∧ ∀ z ∈ zs2, (Lit.int .i64 z).wf = true := fun T9 hf => by
          have x1 := hf.segs
          have x2 := hf.pre (by omega)
          refine ⟨by rw [hzs2]; exact x1, by rw [hzs2, ← x1]; omega, fun z hz => x2.2.1 z (by rw [x1, ← hzs2]; simp [hz])⟩
        have GH := Lib.hid GGS
        clear GGS
        rcases hE with ⟨rfl, hF'⟩ | ⟨rfl, hF'⟩
        · obtain ⟨T', hTT⟩ : ∃ T', T' = T ++ bs := ⟨_, rfl⟩
          rw [show T.data.toList ++ bs.data.toList = T'.data.toList by rw [hTT]; simp [ByteArray.data_append]] at hF'
          have hTs' : T'.size ≤ 2000 * (k + 1) := by rw [hTT, ByteArray.size_append]; omega
          obtain ⟨y1, y2, y3⟩ := GH.out _ hF'
          have HY1 := Lib.hid y1
          have HY3 := Lib.hid y3
          clear y1 y3 GH
          go_wp2_with (first
            | (go_at_call 13; ((with_reducible refine GWT.out.mono ?_); rintro e w5 ⟨rfl, h5⟩; have HW5 := Lib.hid (h5.below (bel_alloc (Below.refl w5.heap.size w5) (.cells #[.int .i64 pa, .int .i64 pb] 40))); clear h5))
            | (go_at_call 19; ((with_reducible refine (GG.out _ _ _ _ _ _ HW5.out zs2 HY1.out y2 HY3.out).mono ?_); rintro e w6 ⟨ga, gc, rfl, hr6, hB6⟩; have HW6 := Lib.hid (HW5.out.below hB6); clear hB6)))
          rw [← hTT]
          clear hTT hts hbz y2 GWT hTs
          clear HW4 h1 h2 h3 h4
          obtain ⟨hN0, hN1⟩ := hF'.len
          have HF' := Lib.hid hF'
          have hu9 := hF'.used
          have hud : decide ((R : Int) < ((usedL D'.L : Nat) : Int)) = false := decide_eq_false (by omega)
          have hud2 : decide (R < usedL D'.L) = false := decide_eq_false (by omega)
          have hud3 : ¬ R < usedL D'.L := by omega
          have hud4 : ¬ (R : Int) < ((usedL D'.L : Nat) : Int) := by omega
          have GU := Lib.hid (fun W (h : WrO w1 (w1.heap.size + 1) p M' D' W) => (show Calls Tryz.prog 28 #[.pointer (some ⟨w1.heap.size + 1, 0, none⟩)] W fun e w' => e = .returned (.int .i64 (usedL D'.L)) ∧ Below W.heap.size W w' from usedO h.one hF'.fit))
          have GR := Lib.hid (fun (j : Nat) (hj : j < S'.length) W (h : WrO w1 (w1.heap.size + 1) p M' D' W) => (show Calls Tryz.prog 25 #[.pointer (some ⟨w1.heap.size + 1, 0, none⟩), .string (nmW S'[j].1)] W fun e w' => e = .returned (.tuple #[.string ⟨S'[j].2.1.toArray⟩, .int .i64 0]) ∧ w' = W from by
            obtain ⟨x1, x2, -⟩ := hF'.at (List.getElem_mem hj)
            have := dreadO h.one (nmW S'[j].1) (nmW_size _)
            rw [x1, x2] at this
            exact this))
          have HSZ := Lib.hid (fun (j : Nat) (hj : j < S'.length) => (hF'.at (List.getElem_mem hj)).2.2)
          have HTX := Lib.hid (show txtS S' = T'.data.toList from by obtain ⟨u, g, -, -, -, -, -, -, ht, -⟩ := hF'; exact ht)
          have hNm : (zs2.length : Nat) = S'.length := by rw [hzs2, List.length_map]
          rw [hNm] at hr6
          have HR6 := Lib.hid hr6
          have HZ2 := Lib.hid hzs2
          clear hF' hr6 hzs2 hu9
          generalize usedL D'.L = ul at *
          obtain ⟨N, hNS9⟩ : ∃ N, N = S'.length := ⟨_, rfl⟩
          rw [← hNS9] at HR6 hN0 hN1 hNm ⊢
          have hNS : S'.length = N := hNS9.symm
          clear hNS9
          have HNS := Lib.hid hNS
          clear hNS hNm
          go_loopw [14, 15] (fun s14 s15 wr2 => ∃ (j : Nat) (G : ByteArray), j ≤ N ∧ s15 = .int .i64 j ∧ s14 = .string G ∧ G.data.toList = txtS (S'.take j) ∧ Below w6.heap.size w6 wr2) (fun _ s15 _ => N - (intOf s15).toNat)
          case atStart => exact ⟨0, ⟨#[]⟩, by omega, rfl, rfl, rfl, Below.refl _ _⟩
          case round =>
            obtain ⟨j, G, hj, rfl, rfl, hG, hB6⟩ := hrel
            have HWj := Lib.hid (HW6.out.below hB6)
            have hGs : G.size ≤ 100000 := by
              have h1 : G.size = G.data.toList.length := rfl
              have h2 := txt_take_le S' j
              rw [← hG, HTX.out] at h2
              have h3 : T'.data.toList.length = T'.size := rfl
              omega
            by_cases hjl : j < N
            · have hjl' : (j : Int) < (N : Int) := by omega
              have hjS : j < S'.length := by rw [HNS.out]; exact hjl
              obtain ⟨gb, goff, rfl, hgb, hgc⟩ := HR6.out.2.2.2 (by omega)
              have hjz : j < zs2.length := by rw [HZ2.out, List.length_map]; exact hjS
              have cj := (hB6.cell (p := ⟨gb, goff + j, none⟩) hgb).trans (hgc j hjz)
              have hze : zs2[j] = S'[j].1 := by simp only [HZ2.out, List.getElem_map]
              rw [hze] at cj
              have GRj := Lib.hid (GR.out j hjS)
              obtain ⟨hs1, hs2⟩ := HSZ.out j hjS
              obtain ⟨B, hB⟩ : ∃ B : ByteArray, B = ⟨S'[j].2.1.toArray⟩ := ⟨_, rfl⟩
              rw [← hB] at GRj
              have hBs : B.size = S'[j].2.1.length := by rw [hB]; show S'[j].2.1.toArray.size = _; simp
              have HG2 := Lib.hid (txt_succ S' j hjS G hG B hB)
              have hb1 : ¬ (B.size : Int) < 16 := by omega
              have hb2 : ¬ (2100 : Int) < (B.size : Int) := by omega
              have hb3 : (16 : Int) ≤ (B.size : Int) := by omega
              have hb4 : B.size ≤ 2100 := by omega
              have hgx : ¬ 9223372036854775807 < G.size + (B.extract 16 B.size).size := by rw [ByteArray.size_extract]; omega
              have hw9 : IntKind.i64.wrap ((j : Int) + 1) = ((j + 1 : Nat) : Int) := (IntWalk.i64_in _ (by omega)).trans (by push_cast; rfl)
              generalize S'[j].1 = idj at *
              clear hgc hgb hze hB hBs hs1 hs2 hjS hjz hG
              go_wp2_with (first
                | (go_at_call 27; ((with_reducible refine (GNM.out _ _).mono ?_); rintro e w8 ⟨rfl, hB8⟩; have HW8 := Lib.hid (HWj.out.below hB8); have HB8 := Lib.hid (bel2 hB6 hB8); clear hB8))
                | (go_at_call 25; ((with_reducible refine (GRj.out _ HW8.out).mono ?_); rintro e w9 ⟨rfl, rfl⟩)))
              go_roundw
              case rel => exact ⟨j + 1, _, by omega, by go_num, rfl, HG2.out, HB8.out⟩
              case measure => simp [intOf]; omega
            · have hjN : j = N := by omega
              have hge : ¬ (j : Int) < (N : Int) := by omega
              have hGT : G = T' := by
                apply ByteArray.ext
                apply Array.toList_inj.1
                rw [hG, List.take_of_length_le (by rw [HNS.out]; omega), HTX.out]
              clear hG hGs
              subst hGT
              have hr0 := HRM.out
              have hwR := HWR.out
              clear hjN
              go_wp2_with (go_at_call 28; ((with_reducible refine (GU.out _ HWj.out).mono ?_); rintro e w9 ⟨rfl, hB9⟩; have HW9 := Lib.hid (HWj.out.below hB9); clear hB9))
              exact ⟨⟨k + 1, M', D', S', _, by omega, by go_num, rfl, HW9.out, HF'.out, by omega⟩, by simp [intOf]; omega⟩
        · obtain ⟨T', hTT⟩ : ∃ T', T' = T := ⟨_, rfl⟩
          rw [← hTT] at hF' hTs hts ⊢
          have hTs' : T'.size ≤ 2000 * (k + 1) := by omega
          obtain ⟨y1, y2, y3⟩ := GH.out _ hF'
          have HY1 := Lib.hid y1
          have HY3 := Lib.hid y3
          clear y1 y3 GH hTT
          go_wp2_with (first
            | (go_at_call 13; ((with_reducible refine GWT.out.mono ?_); rintro e w5 ⟨rfl, h5⟩; have HW5 := Lib.hid (h5.below (bel_alloc (Below.refl w5.heap.size w5) (.cells #[.int .i64 pa, .int .i64 pb] 40))); clear h5))
            | (go_at_call 19; ((with_reducible refine (GG.out _ _ _ _ _ _ HW5.out zs2 HY1.out y2 HY3.out).mono ?_); rintro e w6 ⟨ga, gc, rfl, hr6, hB6⟩; have HW6 := Lib.hid (HW5.out.below hB6); clear hB6)))
          clear hts hbz y2 GWT hTs
          clear HW4 h1 h2 h3 h4
          obtain ⟨hN0, hN1⟩ := hF'.len
          have HF' := Lib.hid hF'
          have hu9 := hF'.used
          have hud : decide ((R : Int) < ((usedL D'.L : Nat) : Int)) = false := decide_eq_false (by omega)
          have hud2 : decide (R < usedL D'.L) = false := decide_eq_false (by omega)
          have hud3 : ¬ R < usedL D'.L := by omega
          have hud4 : ¬ (R : Int) < ((usedL D'.L : Nat) : Int) := by omega
          have GU := Lib.hid (fun W (h : WrO w1 (w1.heap.size + 1) p M' D' W) => (show Calls Tryz.prog 28 #[.pointer (some ⟨w1.heap.size + 1, 0, none⟩)] W fun e w' => e = .returned (.int .i64 (usedL D'.L)) ∧ Below W.heap.size W w' from usedO h.one hF'.fit))
          have GR := Lib.hid (fun (j : Nat) (hj : j < S'.length) W (h : WrO w1 (w1.heap.size + 1) p M' D' W) => (show Calls Tryz.prog 25 #[.pointer (some ⟨w1.heap.size + 1, 0, none⟩), .string (nmW S'[j].1)] W fun e w' => e = .returned (.tuple #[.string ⟨S'[j].2.1.toArray⟩, .int .i64 0]) ∧ w' = W from by
            obtain ⟨x1, x2, -⟩ := hF'.at (List.getElem_mem hj)
            have := dreadO h.one (nmW S'[j].1) (nmW_size _)
            rw [x1, x2] at this
            exact this))
          have HSZ := Lib.hid (fun (j : Nat) (hj : j < S'.length) => (hF'.at (List.getElem_mem hj)).2.2)
          have HTX := Lib.hid (show txtS S' = T'.data.toList from by obtain ⟨u, g, -, -, -, -, -, -, ht, -⟩ := hF'; exact ht)
          have hNm : (zs2.length : Nat) = S'.length := by rw [hzs2, List.length_map]
          rw [hNm] at hr6
          have HR6 := Lib.hid hr6
          have HZ2 := Lib.hid hzs2
          clear hF' hr6 hzs2 hu9
          generalize usedL D'.L = ul at *
          obtain ⟨N, hNS9⟩ : ∃ N, N = S'.length := ⟨_, rfl⟩
          rw [← hNS9] at HR6 hN0 hN1 hNm ⊢
          have hNS : S'.length = N := hNS9.symm
          clear hNS9
          have HNS := Lib.hid hNS
          clear hNS hNm
          go_loopw [14, 15] (fun s14 s15 wr2 => ∃ (j : Nat) (G : ByteArray), j ≤ N ∧ s15 = .int .i64 j ∧ s14 = .string G ∧ G.data.toList = txtS (S'.take j) ∧ Below w6.heap.size w6 wr2) (fun _ s15 _ => N - (intOf s15).toNat)
          case atStart => exact ⟨0, ⟨#[]⟩, by omega, rfl, rfl, rfl, Below.refl _ _⟩
          case round =>
            obtain ⟨j, G, hj, rfl, rfl, hG, hB6⟩ := hrel
            have HWj := Lib.hid (HW6.out.below hB6)
            have hGs : G.size ≤ 100000 := by
              have h1 : G.size = G.data.toList.length := rfl
              have h2 := txt_take_le S' j
              rw [← hG, HTX.out] at h2
              have h3 : T'.data.toList.length = T'.size := rfl
              omega
            by_cases hjl : j < N
            · have hjl' : (j : Int) < (N : Int) := by omega
              have hjS : j < S'.length := by rw [HNS.out]; exact hjl
              obtain ⟨gb, goff, rfl, hgb, hgc⟩ := HR6.out.2.2.2 (by omega)
              have hjz : j < zs2.length := by rw [HZ2.out, List.length_map]; exact hjS
              have cj := (hB6.cell (p := ⟨gb, goff + j, none⟩) hgb).trans (hgc j hjz)
              have hze : zs2[j] = S'[j].1 := by simp only [HZ2.out, List.getElem_map]
              rw [hze] at cj
              have GRj := Lib.hid (GR.out j hjS)
              obtain ⟨hs1, hs2⟩ := HSZ.out j hjS
              obtain ⟨B, hB⟩ : ∃ B : ByteArray, B = ⟨S'[j].2.1.toArray⟩ := ⟨_, rfl⟩
              rw [← hB] at GRj
              have hBs : B.size = S'[j].2.1.length := by rw [hB]; show S'[j].2.1.toArray.size = _; simp
              have HG2 := Lib.hid (txt_succ S' j hjS G hG B hB)
              have hb1 : ¬ (B.size : Int) < 16 := by omega
              have hb2 : ¬ (2100 : Int) < (B.size : Int) := by omega
              have hb3 : (16 : Int) ≤ (B.size : Int) := by omega
              have hb4 : B.size ≤ 2100 := by omega
              have hgx : ¬ 9223372036854775807 < G.size + (B.extract 16 B.size).size := by rw [ByteArray.size_extract]; omega
              have hw9 : IntKind.i64.wrap ((j : Int) + 1) = ((j + 1 : Nat) : Int) := (IntWalk.i64_in _ (by omega)).trans (by push_cast; rfl)
              generalize S'[j].1 = idj at *
              clear hgc hgb hze hB hBs hs1 hs2 hjS hjz hG
              go_wp2_with (first
                | (go_at_call 27; ((with_reducible refine (GNM.out _ _).mono ?_); rintro e w8 ⟨rfl, hB8⟩; have HW8 := Lib.hid (HWj.out.below hB8); have HB8 := Lib.hid (bel2 hB6 hB8); clear hB8))
                | (go_at_call 25; ((with_reducible refine (GRj.out _ HW8.out).mono ?_); rintro e w9 ⟨rfl, rfl⟩)))
              go_roundw
              case rel => exact ⟨j + 1, _, by omega, by go_num, rfl, HG2.out, HB8.out⟩
              case measure => simp [intOf]; omega
            · have hjN : j = N := by omega
              have hge : ¬ (j : Int) < (N : Int) := by omega
              have hGT : G = T' := by
                apply ByteArray.ext
                apply Array.toList_inj.1
                rw [hG, List.take_of_length_le (by rw [HNS.out]; omega), HTX.out]
              clear hG hGs
              subst hGT
              have hr0 := HRM.out
              have hwR := HWR.out
              clear hjN
              go_wp2_with (go_at_call 28; ((with_reducible refine (GU.out _ HWj.out).mono ?_); rintro e w9 ⟨rfl, hB9⟩; have HW9 := Lib.hid (HWj.out.below hB9); clear hB9))
              exact ⟨⟨k + 1, M', D', S', _, by omega, by go_num, rfl, HW9.out, HF'.out, by omega⟩, by simp [intOf]; omega⟩
    · have hge : ¬ (k : Int) < (len : Int) := by omega
      go_wp2
      go_ret
      exact ⟨rfl, bel2 HB1.out hW.one.bel⟩

end Go.Proofs.YtoieacmipejfeaaGreatDoor
