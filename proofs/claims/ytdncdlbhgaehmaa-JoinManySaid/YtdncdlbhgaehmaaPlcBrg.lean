/- The iterator of package place's brought. -/
import Derived.Test.YtdncdlbhgaehmaaPlcFind
import Derived.Test.YtdncdlbhgaehmaaPlcMark
import Derived.Test.YtdncdlbhgaehmaaTailIn
import Derived.Test.YtdncdlbhgaehmaaPartSame
namespace Go.Proofs.Ytdncdlbhgaehmaa
open Go.RowKit Go.Shelf
set_option linter.unusedVariables false
set_option linter.unusedSimpArgs false
attribute [local go_sem] Oper.semAt_some wide_fn wide_round_fn
attribute [local irreducible] wpQuietIn

theorem eqlEntry (x y : EntryC) (w : World) : (binOp .eql 115 (.agg #[.int .i64 x.i, .int .i64 x.t, .string x.d]) (.agg #[.int .i64 y.i, .int .i64 y.t, .string y.d])).run Try.prog w = .ok (.bool (decide (x = y))) w := by
  rw [run_eql_struct]
  have := eqEntry x y w
  dsimp only [EntryC.val] at this
  rw [this]; rfl
theorem hasBp_at {l : List EntryC} {i : Int} (h : hasB l i = true) : ∃ hn : fnd l i < l.length, l[fnd l i].i = i := by
  unfold hasB at h
  by_cases hn : fnd l i < l.length
  · rw [List.getElem?_eq_getElem hn] at h
    exact ⟨hn, by simpa using h⟩
  · rw [List.getElem?_eq_none (by omega)] at h
    simp at h
theorem mem_find {l : List EntryC} (hr : Ris l) {f : EntryC} (hn : fnd l f.i < l.length) (he : l[fnd l f.i].i = f.i) : f ∈ l ↔ l[fnd l f.i] = f := by
  constructor
  · intro hf
    obtain ⟨j, hj, e⟩ := List.mem_iff_getElem.1 hf
    have hjn : j = fnd l f.i := by
      rcases Nat.lt_trichotomy j (fnd l f.i) with h | h | h
      · have := hr _ _ h hn; rw [e] at this; omega
      · exact h
      · have := hr _ _ h hj; rw [e] at this; omega
    subst hjn; exact e
  · intro e; rw [← e]; exact List.getElem_mem hn
theorem inP_pos {l r : List EntryC} {f : EntryC} (h : f ∈ l) : ((f :: r).filter fun e => decide (e ∈ l)).map EntryC.i = f.i :: (r.filter fun e => decide (e ∈ l)).map EntryC.i := by
  rw [List.filter_cons_of_pos (p := fun e => decide (e ∈ l)) (decide_eq_true h)]; rfl
theorem inP_neg {l r : List EntryC} {f : EntryC} (h : f ∉ l) : ((f :: r).filter fun e => decide (e ∈ l)).map EntryC.i = (r.filter fun e => decide (e ∈ l)).map EntryC.i := by
  rw [List.filter_cons_of_neg (p := fun e => decide (e ∈ l)) (by simpa using h)]
theorem find_pack {l : List EntryC} (hr : Ris l) {f : EntryC} (h : hasB l f.i = true) : ∃ (n : Nat) (hn : n < l.length), n = fnd l f.i ∧ (f ∈ l ↔ l[n] = f) := ⟨fnd l f.i, (hasBp_at h).1, rfl, mem_find hr (hasBp_at h).1 (hasBp_at h).2⟩
theorem not_mem_find {l : List EntryC} (hr : Ris l) {f : EntryC} (h : hasB l f.i = false) : f ∉ l := by
  intro hf
  obtain ⟨j, hj, e⟩ := List.mem_iff_getElem.1 hf
  have hn : fnd l f.i ≤ j := by
    rcases Nat.lt_or_ge j (fnd l f.i) with h2 | h2
    · have := fnd_lt (l := l) (i := f.i) h2; rw [e] at this; omega
    · exact h2
  have h3 := fnd_ge hr (i := f.i) (j := fnd l f.i) (by omega) (Nat.le_refl _)
  unfold hasB at h
  rw [List.getElem?_eq_getElem (by omega)] at h
  simp at h
  rcases Nat.lt_or_ge (fnd l f.i) j with h2 | h2
  · have := hr _ _ h2 hj; rw [e] at this; omega
  · have : fnd l f.i = j := by omega
    apply h; simp only [this]; rw [e]
set_option maxRecDepth 100000 in
set_option maxHeartbeats 16000000 in
theorem brg_iter (Bp Bl Bf d m : Nat) (g : GM) (a : Option Addr) (c : Nat) (pg pk : Int) (pa : Option Addr) (plen pcap : Nat) (pht phv phc pi pt : Int) (pm ph : Bool) (pl : List EntryC) (fi0 : Int) (S : Nat → Prop) (hSp : S Bp) (hSl : S Bl) (hSf : S Bf) (hSd : S d) (hS3 : ∀ k, inBlkE a g.l.length k → S k) (hS2 : ∀ k, inBlkE pa pl.length k → S k) (w0 : World)
    (hbp : w0.heap[Bp]? = some (.cells #[.int .i64 pg, .int .i64 pk, .slice pa plen pcap, .int .i64 pht, .int .i64 phv, .int .i64 phc, .int .i64 pi, .int .i64 pt, .bool pm, .bool ph] 41 (0, 0))) (hbl : w0.heap[Bl]? = some (.cells #[.pointer (some ⟨d, 0, none⟩)] 91 (0, 0))) (hbf : w0.heap[Bf]? = some (.cells #[.int .i64 fi0] 3 (0, 0))) (hg : LogG w0 d m g a c) (hris : Ris g.l) (hfi : 1 ≤ g.fi ∧ g.fi ≤ 1099511627777) (hpe : HasE w0 ⟨pg, pk, pa, plen, pcap, pht, phv, phc, pi, pt, pm, ph⟩ pl) :
    Iter Try.prog 97 #[.pointer (some ⟨Bp, 0, none⟩), .pointer (some ⟨Bl, 0, none⟩), .pointer (some ⟨Bf, 0, none⟩)] (fun i : Int => #[.int .i64 i]) (brgL g ⟨pg, pk, pa, plen, pcap, pht, phv, phc, pi, pt, pm, ph⟩ pl fi0) S (fun _ => False) w0 := by
  intro L J Jx W hW hJs _ hY h0
  have HBl := Lib.hid (hW.get hbl hSl)
  have HBf := Lib.hid (hW.get hbf hSf)
  have HSl := Lib.hid hSl
  have HSf := Lib.hid hSf
  have HSd := Lib.hid hSd
  have HS3 := Lib.hid hS3
  have hrow0 : RowV w0 pa pl.length 3 (entryCells pl) := by have h1 := hpe.2.2; rw [show (⟨pg, pk, pa, plen, pcap, pht, phv, phc, pi, pt, pm, ph⟩ : PartC).len = pl.length from hpe.1.symm] at h1; exact h1
  have HPL := Lib.hid (show pl.length = plen ∧ plen < 1000000 ∧ RowV W pa pl.length 3 (entryCells pl) from ⟨hpe.1, hpe.2.1, rowV_rd hrow0 hW hS2⟩)
  have HS2 := Lib.hid hS2
  have HG := Lib.hid (hg.rd hW hSd hS3)
  have HRis := Lib.hid hris
  have HFi := Lib.hid hfi
  have hbpW := hW.get hbp hSp
  have HPp := Lib.hid (fun W' (hR : Rd W.heap.size S W W') => (hR.get hbpW hSp : W'.heap[Bp]? = some (.cells #[.int .i64 pg, .int .i64 pk, .slice pa plen pcap, .int .i64 pht, .int .i64 phv, .int .i64 phc, .int .i64 pi, .int .i64 pt, .bool pm, .bool ph] 41 (0, 0))))
  obtain ⟨p0, p1, p2, p3, p4, p5, p6, p7, p8, p9⟩ := arr10p hbpW
  have hpm : plen < 1000000 := hpe.2.1
  clear hW hbp hbl hbf hSp hSl hSf hSd hS3 hS2 hg hris hfi hpe hbpW hrow0 p0 p3 p4 p5 p6 p7 p8
  refine callsIn_of_wp Try.func97 rfl trivial ?_ rfl
  simp only [Try.ntmps97, List.size_toArray, List.length_cons, List.length_nil, Nat.reduceAdd, Nat.reduceSub, Array.replicate_succ, Array.replicate_zero, List.push_toArray, List.append_toArray, List.nil_append, List.cons_append]
  obtain ⟨hd, hhd⟩ : ∃ hd : Bool, hd = decide (pk = 2 ∨ pk = 6 ∧ ph = true) := ⟨_, rfl⟩
  refine wpIn_seq (wpIn_mono (Q := Exit.then (fun a' w' => w' = W ∧ ∃ u10 u11 u12 u13 u14 u15 u16 u17 u18 u19 u20 u21 : Value, a' = { tmps := #[.func (.yield L) #[] #[], .pointer (some ⟨Bp, 0, none⟩), .pointer (some ⟨Bl, 0, none⟩), .pointer (some ⟨Bf, 0, none⟩), undef, .bool hd, undef, undef, undef, undef, u10, u11, u12, u13, u14, u15, u16, u17, u18, u19, u20, u21, undef, undef, undef, undef, undef, undef, undef, undef, undef, undef, undef, undef, undef, undef, undef, undef, undef, undef, undef, undef, undef, undef, undef, undef, undef, undef, undef, undef, undef, undef, undef, undef, undef, undef, undef, undef, undef, undef, undef, undef, undef, undef, undef, undef, undef, undef, undef, undef, undef, undef], defers := [] }) (fun _ _ _ => False)) ?first ?rest)
  case first =>
    by_cases h2 : pk = 2
    · have h2b : (pk == 2) = true := by rw [beq_iff_eq]; exact h2
      have hh : hd = true := by rw [hhd]; exact decide_eq_true (.inl h2)
      subst hh
      clear hhd h2
      gi_wp2
    · have h2b : (pk == 2) = false := by rw [beq_eq_false_iff_ne]; exact h2
      by_cases h6 : pk = 6
      · have h6b : (pk == 6) = true := by rw [beq_iff_eq]; exact h6
        cases ph
        · have hh : hd = false := by rw [hhd]; exact decide_eq_false (by rintro (h | ⟨_, h⟩); exact h2 h; cases h)
          subst hh
          clear hhd h2 h6
          gi_wp2
        · have hh : hd = true := by rw [hhd]; exact decide_eq_true (.inr ⟨h6, rfl⟩)
          subst hh
          clear hhd h2 h6
          gi_wp2
      · have h6b : (pk == 6) = false := by rw [beq_eq_false_iff_ne]; exact h6
        have hh : hd = false := by rw [hhd]; exact decide_eq_false (by rintro (h | ⟨h, _⟩); exact h2 h; exact h6 h)
        subst hh
        clear hhd h2 h6
        gi_wp2
  case rest =>
    rintro e a' w' hx
    cases e <;> try exact hx.elim
    obtain ⟨hw, u10, u11, u12, u13, u14, u15, u16, u17, u18, u19, u20, u21, rfl⟩ := hx
    obtain rfl : W = w' := hw.symm
    show Code.wpIn _ _ _ _ _ _ _
    clear p1 p2 p9
    cases hd
    · have HHD := Lib.hid (show (if pk = 2 ∨ pk = 6 ∧ ph = true then ([-1] : List Int) else []) = [] from if_neg (of_decide_eq_false hhd.symm))
      have hR := Rd.refl W.heap.size S W
      clear hhd
      have hPw := HPp.out W hR
      obtain ⟨t0, t1, t2, t3, t4, t5, t6, t7, t8, t9⟩ := arr10p hPw
      have klw : (W).cell? ⟨Bl, 0, none⟩ = some (.pointer (some ⟨d, 0, none⟩)) := cell_of_row _ _ 0 _ _ _ (hR.get HBl.out HSl.out)
      have kfw : (W).cell? ⟨Bf, 0, none⟩ = some (.int .i64 fi0) := cell_of_row _ _ 0 _ _ _ (hR.get HBf.out HSf.out)
      have HPw := Lib.hid hPw
      have GM := Lib.hid (pmark_any (HG.out.rd hR HSd.out HS3.out) HFi.out pg pk pa plen pcap pht phv phc pi pt pm ph fi0)
      have HJv := Lib.hid h0
      have HRv := Lib.hid hR
      clear hPw h0 hR
      cases hmk : markB g ⟨pg, pk, pa, plen, pcap, pht, phv, phc, pi, pt, pm, ph⟩ fi0
      · rw [hmk] at GM
        have HXM := Lib.hid (show brgL g ⟨pg, pk, pa, plen, pcap, pht, phv, phc, pi, pt, pm, ph⟩ pl fi0 = ([] : List Int) ++ ((pl.drop 0).filter fun e => decide (e ∈ g.l)).map EntryC.i from by unfold brgL; rw [HHD.out, hmk]; rfl)
        clear hmk
        gi_wp2_with (gi_at_call 98; refine (callsIn_wide.2 GM.out).mono ?_; rintro e1 w2 ⟨rfl, hB2⟩; have t2' : w2.cell? ⟨Bp, 2, none⟩ = some (.slice pa plen pcap) := cell_of_row _ _ 2 _ _ _ ((hB2.block _ (heap_lt HPw.out)).trans HPw.out); have HJm := Lib.hid (hJs _ _ _ HJv.out (Moves.below hB2)); have HRm := Lib.hid (HRv.out.trans (.below hB2)); clear hB2 t0 t1 t2 t3 t4 t5 t6 t7 t8 t9 klw kfw)
        clear t2'
        have HX0 := Lib.hid HXM.out
        have hJ0 := HJm.out
        have hR0 := HRm.out
        gi_loopw [40] (fun qi wr => ∃ (i : Nat) (pre : List Int), i ≤ pl.length ∧ qi = .int .i64 i ∧ brgL g ⟨pg, pk, pa, plen, pcap, pht, phv, phc, pi, pt, pm, ph⟩ pl fi0 = pre ++ ((pl.drop i).filter fun e => decide (e ∈ g.l)).map EntryC.i ∧ J pre wr ∧ Rd W.heap.size S W wr) (fun qi _ => pl.length - (intOf qi).toNat)
        case atStart => exact ⟨0, ([] : List Int), by omega, rfl, HX0.out, hJ0, hR0⟩
        case round =>
          clear hJ0 hR0
          obtain ⟨i, pre, hi, rfl, hM, hJ, hR⟩ := hrel
          have HM := Lib.hid hM
          clear hM
          by_cases hlt : i < pl.length
          · have hlp : pl.length = plen := HPL.out.1
            have hrowp := rowV_rd HPL.out.2.2 hR HS2.out
            obtain ⟨pb, po, hpab, hpb, hpx⟩ := hrowp.2.2 (by omega)
            obtain ⟨c0, c1, c2⟩ := entry_at hpb (Below.refl _ _) hpx hlt
            have hGr := HG.out.rd hR HSd.out HS3.out
            have hbl := hR.get HBl.out HSl.out
            have HM2 := Lib.hid (HM.out.trans (show pre ++ ((pl.drop i).filter fun e => decide (e ∈ g.l)).map EntryC.i = pre ++ ((pl[i] :: pl.drop (i + 1)).filter fun e => decide (e ∈ g.l)).map EntryC.i by rw [List.drop_eq_getElem_cons hlt]))
            have hi0 : (0 : Int) ≤ (i : Int) := by omega
            have hil : (i : Int) < (plen : Int) := by omega
            have kl : wr.cell? ⟨Bl, 0, none⟩ = some (.pointer (some ⟨d, 0, none⟩)) := cell_of_row _ _ 0 _ _ _ hbl
            clear hpx HM hrowp hlp
            generalize pl[i] = f at *
            have hA := bel_alloc (Below.refl wr.heap.size wr) (.cells #[.int .i64 f.i, .int .i64 f.t, .string f.d] 115)
            have hXb := World.alloc_heap_new wr (.cells #[.int .i64 f.i, .int .i64 f.t, .string f.d] 115)
            have GF := Lib.hid (fun W' (hB : Below wr.heap.size wr W') => pfind_any (hGr.below hB) HRis.out f.i)
            have HGr := Lib.hid hGr
            have HXb := Lib.hid hXb
            have HA := Lib.hid hA
            have Hbl := Lib.hid hbl
            have kl2 : (wr.alloc (.cells #[.int .i64 f.i, .int .i64 f.t, .string f.d] 115)).cell? ⟨Bl, 0, none⟩ = some (.pointer (some ⟨d, 0, none⟩)) := cell_of_row _ _ 0 _ _ _ ((hA.block _ (heap_lt hbl)).trans hbl)
            have e0a := cell_of_row _ _ 0 _ _ _ hXb
            simp only [List.getElem?_toArray, List.getElem?_cons_zero] at e0a
            clear hA hXb hGr hbl
            subst hpab
            by_cases hmem : hasB g.l f.i = true
            · obtain ⟨n, hn, hfn, hmm⟩ := find_pack HRis.out hmem
              rw [hmem, ← hfn] at GF
              have HMM := Lib.hid hmm
              clear hmem hfn hmm
              have hn0 : (0 : Int) ≤ (n : Int) := by omega
              have hnl : (n : Int) < (g.l.length : Int) := by omega
              gi_wp2_with (gi_at_call 99; refine (callsIn_wide.2 (GF.out _ HA.out)).mono ?_; rintro e1 w1 ⟨rfl, hB1⟩; have hB1x : Below wr.heap.size wr w1 := bel2 HA.out hB1; have HB1 := Lib.hid hB1x; have HX1 := Lib.hid ((hB1.block _ (heap_lt HXb.out)).trans HXb.out); clear hB1 hB1x c0 c1 c2 kl kl2 e0a)
              obtain ⟨gb, go, hga, hgb, hgx⟩ := (HGr.out.below HB1.out).2.2.2.2 (by omega)
              obtain ⟨x0, x1, x2⟩ := entry_at hgb (Below.refl _ _) hgx hn
              have hdd := (HGr.out.below HB1.out).1
              have hll := (HB1.out.block _ (heap_lt Hbl.out)).trans Hbl.out
              have HSW := Lib.hid (fun W' (hW' : Below w1.heap.size w1 W') => (show W'.cell? ⟨Bl, 0, none⟩ = some (.pointer (some ⟨d, 0, none⟩)) ∧ W'.cell? ⟨d, 6, none⟩ = some (.slice a g.l.length c) ∧ W'.cell? ⟨gb, go + n * 3, none⟩ = some (.int .i64 g.l[n].i) ∧ W'.cell? ⟨gb, go + n * 3 + 1, none⟩ = some (.int .i64 g.l[n].t) ∧ W'.cell? ⟨gb, go + n * 3 + 2, none⟩ = some (.string g.l[n].d) ∧ W'.cell? ⟨wr.heap.size, 0, none⟩ = some (.int .i64 f.i) ∧ W'.cell? ⟨wr.heap.size, 1, none⟩ = some (.int .i64 f.t) ∧ W'.cell? ⟨wr.heap.size, 2, none⟩ = some (.string f.d) from by
                have hx := (hW'.block _ (heap_lt HX1.out)).trans HX1.out
                exact ⟨cell_of_row _ _ 0 _ _ _ ((hW'.block _ (heap_lt hll)).trans hll), cell_of_row _ _ 6 _ _ _ ((hW'.block _ (heap_lt hdd)).trans hdd), (hW'.cell (p := ⟨gb, go + n * 3, none⟩) hgb).trans x0, (hW'.cell (p := ⟨gb, go + n * 3 + 1, none⟩) hgb).trans x1, (hW'.cell (p := ⟨gb, go + n * 3 + 2, none⟩) hgb).trans x2, cell_of_row _ _ 0 _ _ _ hx, cell_of_row _ _ 1 _ _ _ hx, cell_of_row _ _ 2 _ _ _ hx⟩))
              clear hgx x0 x1 x2 hdd hll
              generalize g.l[n] = y at *
              have heq := fun w => eqlEntry y f w
              have HS := Lib.hid (fun W' (hW' : Above w1 W') => HSW.out W' hW')
              have hRw := hR.trans (Rd.below HB1.out)
              have hJw := hJs _ _ _ hJ (Moves.below HB1.out)
              have HRw := Lib.hid hRw
              have HJw := Lib.hid hJw
              clear hR hJ hRw hJw
              obtain ⟨yi, yt, yd⟩ := y
              obtain ⟨fi, ft, fd⟩ := f
              dsimp only at *
              subst hga
              by_cases hyf : (⟨yi, yt, yd⟩ : EntryC) = ⟨fi, ft, fd⟩
              · have hdc : decide ((⟨yi, yt, yd⟩ : EntryC) = ⟨fi, ft, fd⟩) = true := decide_eq_true hyf
                rw [hdc] at heq
                have HX := Lib.hid (HM2.out.trans (show pre ++ (((⟨fi, ft, fd⟩ : EntryC) :: pl.drop (i + 1)).filter fun e => decide (e ∈ g.l)).map EntryC.i = pre ++ fi :: ((pl.drop (i + 1)).filter fun e => decide (e ∈ g.l)).map EntryC.i by rw [inP_pos (HMM.out.2 hyf)]))
                clear hyf hdc
                refine wpIn_region_tail 17 rfl (by kernel_rfl) (by kernel_rfl) (show Above w1 _ from (Below.refl _ _).drew) ?_
                simp only [List.take_succ_cons, List.take_zero, List.drop_succ_cons, List.drop_zero]
                repeat (first
                  | (refine BigFrame.wpQuietIn_skip (by first | quiet_asked_in | exact fun _ _ _ _ => trivial) (by rfl) ?_; (try simp only [Act.put, List.setIfInBounds_toArray, List.set_cons_zero, List.set_cons_succ]))
                  | (refine BigFrame.wpQuietIn_want (by first | quiet_asked_in | exact fun _ _ _ _ => trivial) (by rfl) (fun K hK => ?_); apply Exists.intro; refine ⟨fun W hW => ?_, hK _ ?_⟩; (focus (obtain ⟨s0, s1, s2, s3, s4, s5, s6, s7⟩ := HS.out _ hW; go_simp; (first | done | with_reducible rfl | (rw [if_neg (by omega)]; go_simp; (first | done | with_reducible rfl))))); clear hK K; (try simp only [Act.put, List.setIfInBounds_toArray, List.set_cons_zero, List.set_cons_succ])))
                refine wpQuietIn_nil ?_
                intro w6 hB6
                replace hB6 : Below w1.heap.size w1 w6 := hB6
                obtain ⟨fn, tmps, assign, body, hy, hR1⟩ := hY pre _ _ w6 HX.out (hJs _ _ _ HJw.out (Moves.below hB6))
                (try dsimp only at hy)
                gi_wp2
                refine (roundIn_wide_n hR1).mono ?_
                rintro e W3 (⟨rfl, hJ3, hk3⟩ | ⟨rfl, hJx3⟩)
                · gi_wp2
                  go_roundw
                  case rel => exact ⟨i + 1, pre ++ [fi], by omega, by go_num, by rw [HX.out, List.append_assoc]; rfl, hJ3, (HRw.out.trans (.below hB6)).trans hk3⟩
                  case measure => simp [intOf]; omega
                · gi_wp2
                  refine bodyPost_ret (results_none rfl _ _ _) rfl ?_
                  exact ⟨⟨_, rfl⟩, .inr ⟨_, _, _, HX.out, hJx3⟩⟩
              · have hdc : decide ((⟨yi, yt, yd⟩ : EntryC) = ⟨fi, ft, fd⟩) = false := decide_eq_false hyf
                rw [hdc] at heq
                have HX := Lib.hid (HM2.out.trans (show pre ++ (((⟨fi, ft, fd⟩ : EntryC) :: pl.drop (i + 1)).filter fun e => decide (e ∈ g.l)).map EntryC.i = pre ++ ((pl.drop (i + 1)).filter fun e => decide (e ∈ g.l)).map EntryC.i by rw [inP_neg (fun h => hyf (HMM.out.1 h))]))
                clear hyf hdc
                refine wpIn_region_below rfl (by kernel_rfl) (by kernel_rfl) ?_
                repeat (first
                  | (refine BigFrame.wpQuietIn_skip (by first | quiet_asked_in | exact fun _ _ _ _ => trivial) (by rfl) ?_; (try simp only [Act.put, List.setIfInBounds_toArray, List.set_cons_zero, List.set_cons_succ]))
                  | (refine BigFrame.wpQuietIn_want (by first | quiet_asked_in | exact fun _ _ _ _ => trivial) (by rfl) (fun K hK => ?_); apply Exists.intro; refine ⟨fun W hW => ?_, hK _ ?_⟩; (focus (obtain ⟨s0, s1, s2, s3, s4, s5, s6, s7⟩ := HS.out _ hW; go_simp; (first | done | with_reducible rfl | (rw [if_neg (by omega)]; go_simp; (first | done | with_reducible rfl))))); clear hK K; (try simp only [Act.put, List.setIfInBounds_toArray, List.set_cons_zero, List.set_cons_succ])))
                refine wpQuietIn_nil ?_
                intro w6 hB6
                replace hB6 : Below w1.heap.size w1 w6 := hB6
                gi_wp2
                go_roundw
                case rel => exact ⟨i + 1, pre, by omega, by go_num, HX.out, hJs _ _ _ HJw.out (Moves.below hB6), HRw.out.trans (.below hB6)⟩
                case measure => simp [intOf]; omega
            · have hmf : hasB g.l f.i = false := by simpa using hmem
              rw [hmf] at GF
              have HX := Lib.hid (HM2.out.trans (show pre ++ ((f :: pl.drop (i + 1)).filter fun e => decide (e ∈ g.l)).map EntryC.i = pre ++ ((pl.drop (i + 1)).filter fun e => decide (e ∈ g.l)).map EntryC.i by rw [inP_neg (not_mem_find HRis.out hmf)]))
              clear hmem hmf
              generalize fnd g.l f.i = n at GF
              gi_wp2_with (gi_at_call 99; refine (callsIn_wide.2 (GF.out _ HA.out)).mono ?_; rintro e1 w1 ⟨rfl, hB1⟩; have hB1x : Below wr.heap.size wr w1 := bel2 HA.out hB1; have HB1 := Lib.hid hB1x; have HX1 := Lib.hid ((hB1.block _ (heap_lt HXb.out)).trans HXb.out); clear hB1 hB1x c0 c1 c2 kl kl2 e0a)
              have hRw := hR.trans (Rd.below HB1.out)
              have hJw := hJs _ _ _ hJ (Moves.below HB1.out)
              have HRw := Lib.hid hRw
              have HJw := Lib.hid hJw
              clear hR hJ hRw hJw
              refine wpIn_region_below rfl (by kernel_rfl) (by kernel_rfl) ?_
              repeat (first
                | (refine BigFrame.wpQuietIn_skip (by first | quiet_asked_in | exact fun _ _ _ _ => trivial) (by rfl) ?_; (try simp only [Act.put, List.setIfInBounds_toArray, List.set_cons_zero, List.set_cons_succ]))
                | (refine BigFrame.wpQuietIn_want (by first | quiet_asked_in | exact fun _ _ _ _ => trivial) (by rfl) (fun K hK => ?_); apply Exists.intro; refine ⟨fun W hW => ?_, hK _ ?_⟩; (focus (go_simp; (first | done | with_reducible rfl))); clear hK K; (try simp only [Act.put, List.setIfInBounds_toArray, List.set_cons_zero, List.set_cons_succ])))
              refine wpQuietIn_nil ?_
              intro w6 hB6
              replace hB6 : Below w1.heap.size w1 w6 := hB6
              gi_wp2
              go_roundw
              case rel => exact ⟨i + 1, pre, by omega, by go_num, HX.out, hJs _ _ _ HJw.out (Moves.below hB6), HRw.out.trans (.below hB6)⟩
              case measure => simp [intOf]; omega
          · have hlp : pl.length = plen := HPL.out.1
            obtain rfl : i = pl.length := by omega
            rw [List.drop_length] at HM
            have HE := Lib.hid (show brgL g ⟨pg, pk, pa, plen, pcap, pht, phv, phc, pi, pt, pm, ph⟩ pl fi0 = pre from HM.out.trans (List.append_nil _))
            have hge : ¬ ((pl.length : Int) < (plen : Int)) := by omega
            clear hlp
            gi_wp2
            refine bodyPost_end (results_none rfl _ _ _) rfl ?_
            exact ⟨⟨_, rfl⟩, .inl (by rw [HE.out]; exact hJ)⟩
      · rw [hmk] at GM
        have HXM := Lib.hid (show brgL g ⟨pg, pk, pa, plen, pcap, pht, phv, phc, pi, pt, pm, ph⟩ pl fi0 = ([] : List Int) ++ 0 :: ((pl.drop 0).filter fun e => decide (e ∈ g.l)).map EntryC.i from by unfold brgL; rw [HHD.out, hmk]; rfl)
        clear hmk
        gi_wp2_with (gi_at_call 98; refine (callsIn_wide.2 GM.out).mono ?_; rintro e1 w2 ⟨rfl, hB2⟩; obtain ⟨fn, tmps, assign, body, hy, hR1⟩ := hY (([] : List Int)) _ _ w2 HXM.out (hJs _ _ _ HJv.out (Moves.below hB2)); have HRm := Lib.hid (HRv.out.trans (.below hB2)); clear hB2 t0 t1 t2 t3 t4 t5 t6 t7 t8 t9 klw kfw)
        refine (roundIn_wide_n hR1).mono ?_
        rintro e W4 (⟨rfl, hJ4, hk4⟩ | ⟨rfl, hJx4⟩)
        · have HJm := Lib.hid hJ4
          have HRn := Lib.hid (HRm.out.trans hk4)
          have hP4 := HPp.out W4 HRn.out
          have t2' : W4.cell? ⟨Bp, 2, none⟩ = some (.slice pa plen pcap) := cell_of_row _ _ 2 _ _ _ hP4
          clear hP4 hJ4 hk4 hy hR1
          gi_wp2
          clear t2'
          have HX0 := Lib.hid (show brgL g ⟨pg, pk, pa, plen, pcap, pht, phv, phc, pi, pt, pm, ph⟩ pl fi0 = ((([] : List Int)) ++ [0]) ++ ((pl.drop 0).filter fun e => decide (e ∈ g.l)).map EntryC.i from by rw [HXM.out, List.append_assoc]; rfl)
          have hJ0 := HJm.out
          have hR0 := HRn.out
          gi_loopw [40] (fun qi wr => ∃ (i : Nat) (pre : List Int), i ≤ pl.length ∧ qi = .int .i64 i ∧ brgL g ⟨pg, pk, pa, plen, pcap, pht, phv, phc, pi, pt, pm, ph⟩ pl fi0 = pre ++ ((pl.drop i).filter fun e => decide (e ∈ g.l)).map EntryC.i ∧ J pre wr ∧ Rd W.heap.size S W wr) (fun qi _ => pl.length - (intOf qi).toNat)
          case atStart => exact ⟨0, (([] : List Int)) ++ [0], by omega, rfl, HX0.out, hJ0, hR0⟩
          case round =>
            clear hJ0 hR0
            obtain ⟨i, pre, hi, rfl, hM, hJ, hR⟩ := hrel
            have HM := Lib.hid hM
            clear hM
            by_cases hlt : i < pl.length
            · have hlp : pl.length = plen := HPL.out.1
              have hrowp := rowV_rd HPL.out.2.2 hR HS2.out
              obtain ⟨pb, po, hpab, hpb, hpx⟩ := hrowp.2.2 (by omega)
              obtain ⟨c0, c1, c2⟩ := entry_at hpb (Below.refl _ _) hpx hlt
              have hGr := HG.out.rd hR HSd.out HS3.out
              have hbl := hR.get HBl.out HSl.out
              have HM2 := Lib.hid (HM.out.trans (show pre ++ ((pl.drop i).filter fun e => decide (e ∈ g.l)).map EntryC.i = pre ++ ((pl[i] :: pl.drop (i + 1)).filter fun e => decide (e ∈ g.l)).map EntryC.i by rw [List.drop_eq_getElem_cons hlt]))
              have hi0 : (0 : Int) ≤ (i : Int) := by omega
              have hil : (i : Int) < (plen : Int) := by omega
              have kl : wr.cell? ⟨Bl, 0, none⟩ = some (.pointer (some ⟨d, 0, none⟩)) := cell_of_row _ _ 0 _ _ _ hbl
              clear hpx HM hrowp hlp
              generalize pl[i] = f at *
              have hA := bel_alloc (Below.refl wr.heap.size wr) (.cells #[.int .i64 f.i, .int .i64 f.t, .string f.d] 115)
              have hXb := World.alloc_heap_new wr (.cells #[.int .i64 f.i, .int .i64 f.t, .string f.d] 115)
              have GF := Lib.hid (fun W' (hB : Below wr.heap.size wr W') => pfind_any (hGr.below hB) HRis.out f.i)
              have HGr := Lib.hid hGr
              have HXb := Lib.hid hXb
              have HA := Lib.hid hA
              have Hbl := Lib.hid hbl
              have kl2 : (wr.alloc (.cells #[.int .i64 f.i, .int .i64 f.t, .string f.d] 115)).cell? ⟨Bl, 0, none⟩ = some (.pointer (some ⟨d, 0, none⟩)) := cell_of_row _ _ 0 _ _ _ ((hA.block _ (heap_lt hbl)).trans hbl)
              have e0a := cell_of_row _ _ 0 _ _ _ hXb
              simp only [List.getElem?_toArray, List.getElem?_cons_zero] at e0a
              clear hA hXb hGr hbl
              subst hpab
              by_cases hmem : hasB g.l f.i = true
              · obtain ⟨n, hn, hfn, hmm⟩ := find_pack HRis.out hmem
                rw [hmem, ← hfn] at GF
                have HMM := Lib.hid hmm
                clear hmem hfn hmm
                have hn0 : (0 : Int) ≤ (n : Int) := by omega
                have hnl : (n : Int) < (g.l.length : Int) := by omega
                gi_wp2_with (gi_at_call 99; refine (callsIn_wide.2 (GF.out _ HA.out)).mono ?_; rintro e1 w1 ⟨rfl, hB1⟩; have hB1x : Below wr.heap.size wr w1 := bel2 HA.out hB1; have HB1 := Lib.hid hB1x; have HX1 := Lib.hid ((hB1.block _ (heap_lt HXb.out)).trans HXb.out); clear hB1 hB1x c0 c1 c2 kl kl2 e0a)
                obtain ⟨gb, go, hga, hgb, hgx⟩ := (HGr.out.below HB1.out).2.2.2.2 (by omega)
                obtain ⟨x0, x1, x2⟩ := entry_at hgb (Below.refl _ _) hgx hn
                have hdd := (HGr.out.below HB1.out).1
                have hll := (HB1.out.block _ (heap_lt Hbl.out)).trans Hbl.out
                have HSW := Lib.hid (fun W' (hW' : Below w1.heap.size w1 W') => (show W'.cell? ⟨Bl, 0, none⟩ = some (.pointer (some ⟨d, 0, none⟩)) ∧ W'.cell? ⟨d, 6, none⟩ = some (.slice a g.l.length c) ∧ W'.cell? ⟨gb, go + n * 3, none⟩ = some (.int .i64 g.l[n].i) ∧ W'.cell? ⟨gb, go + n * 3 + 1, none⟩ = some (.int .i64 g.l[n].t) ∧ W'.cell? ⟨gb, go + n * 3 + 2, none⟩ = some (.string g.l[n].d) ∧ W'.cell? ⟨wr.heap.size, 0, none⟩ = some (.int .i64 f.i) ∧ W'.cell? ⟨wr.heap.size, 1, none⟩ = some (.int .i64 f.t) ∧ W'.cell? ⟨wr.heap.size, 2, none⟩ = some (.string f.d) from by
                  have hx := (hW'.block _ (heap_lt HX1.out)).trans HX1.out
                  exact ⟨cell_of_row _ _ 0 _ _ _ ((hW'.block _ (heap_lt hll)).trans hll), cell_of_row _ _ 6 _ _ _ ((hW'.block _ (heap_lt hdd)).trans hdd), (hW'.cell (p := ⟨gb, go + n * 3, none⟩) hgb).trans x0, (hW'.cell (p := ⟨gb, go + n * 3 + 1, none⟩) hgb).trans x1, (hW'.cell (p := ⟨gb, go + n * 3 + 2, none⟩) hgb).trans x2, cell_of_row _ _ 0 _ _ _ hx, cell_of_row _ _ 1 _ _ _ hx, cell_of_row _ _ 2 _ _ _ hx⟩))
                clear hgx x0 x1 x2 hdd hll
                generalize g.l[n] = y at *
                have heq := fun w => eqlEntry y f w
                have HS := Lib.hid (fun W' (hW' : Above w1 W') => HSW.out W' hW')
                have hRw := hR.trans (Rd.below HB1.out)
                have hJw := hJs _ _ _ hJ (Moves.below HB1.out)
                have HRw := Lib.hid hRw
                have HJw := Lib.hid hJw
                clear hR hJ hRw hJw
                obtain ⟨yi, yt, yd⟩ := y
                obtain ⟨fi, ft, fd⟩ := f
                dsimp only at *
                subst hga
                by_cases hyf : (⟨yi, yt, yd⟩ : EntryC) = ⟨fi, ft, fd⟩
                · have hdc : decide ((⟨yi, yt, yd⟩ : EntryC) = ⟨fi, ft, fd⟩) = true := decide_eq_true hyf
                  rw [hdc] at heq
                  have HX := Lib.hid (HM2.out.trans (show pre ++ (((⟨fi, ft, fd⟩ : EntryC) :: pl.drop (i + 1)).filter fun e => decide (e ∈ g.l)).map EntryC.i = pre ++ fi :: ((pl.drop (i + 1)).filter fun e => decide (e ∈ g.l)).map EntryC.i by rw [inP_pos (HMM.out.2 hyf)]))
                  clear hyf hdc
                  refine wpIn_region_tail 17 rfl (by kernel_rfl) (by kernel_rfl) (show Above w1 _ from (Below.refl _ _).drew) ?_
                  simp only [List.take_succ_cons, List.take_zero, List.drop_succ_cons, List.drop_zero]
                  repeat (first
                    | (refine BigFrame.wpQuietIn_skip (by first | quiet_asked_in | exact fun _ _ _ _ => trivial) (by rfl) ?_; (try simp only [Act.put, List.setIfInBounds_toArray, List.set_cons_zero, List.set_cons_succ]))
                    | (refine BigFrame.wpQuietIn_want (by first | quiet_asked_in | exact fun _ _ _ _ => trivial) (by rfl) (fun K hK => ?_); apply Exists.intro; refine ⟨fun W hW => ?_, hK _ ?_⟩; (focus (obtain ⟨s0, s1, s2, s3, s4, s5, s6, s7⟩ := HS.out _ hW; go_simp; (first | done | with_reducible rfl | (rw [if_neg (by omega)]; go_simp; (first | done | with_reducible rfl))))); clear hK K; (try simp only [Act.put, List.setIfInBounds_toArray, List.set_cons_zero, List.set_cons_succ])))
                  refine wpQuietIn_nil ?_
                  intro w6 hB6
                  replace hB6 : Below w1.heap.size w1 w6 := hB6
                  obtain ⟨fn, tmps, assign, body, hy, hR1⟩ := hY pre _ _ w6 HX.out (hJs _ _ _ HJw.out (Moves.below hB6))
                  (try dsimp only at hy)
                  gi_wp2
                  refine (roundIn_wide_n hR1).mono ?_
                  rintro e W3 (⟨rfl, hJ3, hk3⟩ | ⟨rfl, hJx3⟩)
                  · gi_wp2
                    go_roundw
                    case rel => exact ⟨i + 1, pre ++ [fi], by omega, by go_num, by rw [HX.out, List.append_assoc]; rfl, hJ3, (HRw.out.trans (.below hB6)).trans hk3⟩
                    case measure => simp [intOf]; omega
                  · gi_wp2
                    refine bodyPost_ret (results_none rfl _ _ _) rfl ?_
                    exact ⟨⟨_, rfl⟩, .inr ⟨_, _, _, HX.out, hJx3⟩⟩
                · have hdc : decide ((⟨yi, yt, yd⟩ : EntryC) = ⟨fi, ft, fd⟩) = false := decide_eq_false hyf
                  rw [hdc] at heq
                  have HX := Lib.hid (HM2.out.trans (show pre ++ (((⟨fi, ft, fd⟩ : EntryC) :: pl.drop (i + 1)).filter fun e => decide (e ∈ g.l)).map EntryC.i = pre ++ ((pl.drop (i + 1)).filter fun e => decide (e ∈ g.l)).map EntryC.i by rw [inP_neg (fun h => hyf (HMM.out.1 h))]))
                  clear hyf hdc
                  refine wpIn_region_below rfl (by kernel_rfl) (by kernel_rfl) ?_
                  repeat (first
                    | (refine BigFrame.wpQuietIn_skip (by first | quiet_asked_in | exact fun _ _ _ _ => trivial) (by rfl) ?_; (try simp only [Act.put, List.setIfInBounds_toArray, List.set_cons_zero, List.set_cons_succ]))
                    | (refine BigFrame.wpQuietIn_want (by first | quiet_asked_in | exact fun _ _ _ _ => trivial) (by rfl) (fun K hK => ?_); apply Exists.intro; refine ⟨fun W hW => ?_, hK _ ?_⟩; (focus (obtain ⟨s0, s1, s2, s3, s4, s5, s6, s7⟩ := HS.out _ hW; go_simp; (first | done | with_reducible rfl | (rw [if_neg (by omega)]; go_simp; (first | done | with_reducible rfl))))); clear hK K; (try simp only [Act.put, List.setIfInBounds_toArray, List.set_cons_zero, List.set_cons_succ])))
                  refine wpQuietIn_nil ?_
                  intro w6 hB6
                  replace hB6 : Below w1.heap.size w1 w6 := hB6
                  gi_wp2
                  go_roundw
                  case rel => exact ⟨i + 1, pre, by omega, by go_num, HX.out, hJs _ _ _ HJw.out (Moves.below hB6), HRw.out.trans (.below hB6)⟩
                  case measure => simp [intOf]; omega
              · have hmf : hasB g.l f.i = false := by simpa using hmem
                rw [hmf] at GF
                have HX := Lib.hid (HM2.out.trans (show pre ++ ((f :: pl.drop (i + 1)).filter fun e => decide (e ∈ g.l)).map EntryC.i = pre ++ ((pl.drop (i + 1)).filter fun e => decide (e ∈ g.l)).map EntryC.i by rw [inP_neg (not_mem_find HRis.out hmf)]))
                clear hmem hmf
                generalize fnd g.l f.i = n at GF
                gi_wp2_with (gi_at_call 99; refine (callsIn_wide.2 (GF.out _ HA.out)).mono ?_; rintro e1 w1 ⟨rfl, hB1⟩; have hB1x : Below wr.heap.size wr w1 := bel2 HA.out hB1; have HB1 := Lib.hid hB1x; have HX1 := Lib.hid ((hB1.block _ (heap_lt HXb.out)).trans HXb.out); clear hB1 hB1x c0 c1 c2 kl kl2 e0a)
                have hRw := hR.trans (Rd.below HB1.out)
                have hJw := hJs _ _ _ hJ (Moves.below HB1.out)
                have HRw := Lib.hid hRw
                have HJw := Lib.hid hJw
                clear hR hJ hRw hJw
                refine wpIn_region_below rfl (by kernel_rfl) (by kernel_rfl) ?_
                repeat (first
                  | (refine BigFrame.wpQuietIn_skip (by first | quiet_asked_in | exact fun _ _ _ _ => trivial) (by rfl) ?_; (try simp only [Act.put, List.setIfInBounds_toArray, List.set_cons_zero, List.set_cons_succ]))
                  | (refine BigFrame.wpQuietIn_want (by first | quiet_asked_in | exact fun _ _ _ _ => trivial) (by rfl) (fun K hK => ?_); apply Exists.intro; refine ⟨fun W hW => ?_, hK _ ?_⟩; (focus (go_simp; (first | done | with_reducible rfl))); clear hK K; (try simp only [Act.put, List.setIfInBounds_toArray, List.set_cons_zero, List.set_cons_succ])))
                refine wpQuietIn_nil ?_
                intro w6 hB6
                replace hB6 : Below w1.heap.size w1 w6 := hB6
                gi_wp2
                go_roundw
                case rel => exact ⟨i + 1, pre, by omega, by go_num, HX.out, hJs _ _ _ HJw.out (Moves.below hB6), HRw.out.trans (.below hB6)⟩
                case measure => simp [intOf]; omega
            · have hlp : pl.length = plen := HPL.out.1
              obtain rfl : i = pl.length := by omega
              rw [List.drop_length] at HM
              have HE := Lib.hid (show brgL g ⟨pg, pk, pa, plen, pcap, pht, phv, phc, pi, pt, pm, ph⟩ pl fi0 = pre from HM.out.trans (List.append_nil _))
              have hge : ¬ ((pl.length : Int) < (plen : Int)) := by omega
              clear hlp
              gi_wp2
              refine bodyPost_end (results_none rfl _ _ _) rfl ?_
              exact ⟨⟨_, rfl⟩, .inl (by rw [HE.out]; exact hJ)⟩
        · gi_wp2
          refine bodyPost_ret (results_none rfl _ _ _) rfl ?_
          exact ⟨⟨_, rfl⟩, .inr ⟨_, _, _, HXM.out, hJx4⟩⟩
    · have HHD := Lib.hid (show (if pk = 2 ∨ pk = 6 ∧ ph = true then ([-1] : List Int) else []) = [-1] from if_pos (of_decide_eq_true hhd.symm))
      clear hhd
      obtain ⟨suf, hsuf⟩ : ∃ suf, brgL g ⟨pg, pk, pa, plen, pcap, pht, phv, phc, pi, pt, pm, ph⟩ pl fi0 = ([] : List Int) ++ (-1) :: suf := ⟨_, by unfold brgL; rw [HHD.out]; rfl⟩
      obtain ⟨fn, tmps, assign, body, hy, hR1⟩ := hY [] (-1) suf W hsuf h0
      have HSUF := Lib.hid hsuf
      clear hsuf h0
      (try dsimp only at hy)
      gi_wp2
      refine (roundIn_wide_n hR1).mono ?_
      rintro e W3 (⟨rfl, hJ3, hk3⟩ | ⟨rfl, hJx3⟩)
      · clear hy hR1
        have hPw := HPp.out W3 hk3
        obtain ⟨t0, t1, t2, t3, t4, t5, t6, t7, t8, t9⟩ := arr10p hPw
        have klw : (W3).cell? ⟨Bl, 0, none⟩ = some (.pointer (some ⟨d, 0, none⟩)) := cell_of_row _ _ 0 _ _ _ (hk3.get HBl.out HSl.out)
        have kfw : (W3).cell? ⟨Bf, 0, none⟩ = some (.int .i64 fi0) := cell_of_row _ _ 0 _ _ _ (hk3.get HBf.out HSf.out)
        have HPw := Lib.hid hPw
        have GM := Lib.hid (pmark_any (HG.out.rd hk3 HSd.out HS3.out) HFi.out pg pk pa plen pcap pht phv phc pi pt pm ph fi0)
        have HJv := Lib.hid hJ3
        have HRv := Lib.hid hk3
        clear hPw hJ3 hk3
        cases hmk : markB g ⟨pg, pk, pa, plen, pcap, pht, phv, phc, pi, pt, pm, ph⟩ fi0
        · rw [hmk] at GM
          have HXM := Lib.hid (show brgL g ⟨pg, pk, pa, plen, pcap, pht, phv, phc, pi, pt, pm, ph⟩ pl fi0 = ([-1] : List Int) ++ ((pl.drop 0).filter fun e => decide (e ∈ g.l)).map EntryC.i from by unfold brgL; rw [HHD.out, hmk]; rfl)
          clear hmk
          gi_wp2_with (gi_at_call 98; refine (callsIn_wide.2 GM.out).mono ?_; rintro e1 w2 ⟨rfl, hB2⟩; have t2' : w2.cell? ⟨Bp, 2, none⟩ = some (.slice pa plen pcap) := cell_of_row _ _ 2 _ _ _ ((hB2.block _ (heap_lt HPw.out)).trans HPw.out); have HJm := Lib.hid (hJs _ _ _ HJv.out (Moves.below hB2)); have HRm := Lib.hid (HRv.out.trans (.below hB2)); clear hB2 t0 t1 t2 t3 t4 t5 t6 t7 t8 t9 klw kfw)
          clear t2'
          have HX0 := Lib.hid HXM.out
          have hJ0 := HJm.out
          have hR0 := HRm.out
          gi_loopw [40] (fun qi wr => ∃ (i : Nat) (pre : List Int), i ≤ pl.length ∧ qi = .int .i64 i ∧ brgL g ⟨pg, pk, pa, plen, pcap, pht, phv, phc, pi, pt, pm, ph⟩ pl fi0 = pre ++ ((pl.drop i).filter fun e => decide (e ∈ g.l)).map EntryC.i ∧ J pre wr ∧ Rd W.heap.size S W wr) (fun qi _ => pl.length - (intOf qi).toNat)
          case atStart => exact ⟨0, ([-1] : List Int), by omega, rfl, HX0.out, hJ0, hR0⟩
          case round =>
            clear hJ0 hR0
            obtain ⟨i, pre, hi, rfl, hM, hJ, hR⟩ := hrel
            have HM := Lib.hid hM
            clear hM
            by_cases hlt : i < pl.length
            · have hlp : pl.length = plen := HPL.out.1
              have hrowp := rowV_rd HPL.out.2.2 hR HS2.out
              obtain ⟨pb, po, hpab, hpb, hpx⟩ := hrowp.2.2 (by omega)
              obtain ⟨c0, c1, c2⟩ := entry_at hpb (Below.refl _ _) hpx hlt
              have hGr := HG.out.rd hR HSd.out HS3.out
              have hbl := hR.get HBl.out HSl.out
              have HM2 := Lib.hid (HM.out.trans (show pre ++ ((pl.drop i).filter fun e => decide (e ∈ g.l)).map EntryC.i = pre ++ ((pl[i] :: pl.drop (i + 1)).filter fun e => decide (e ∈ g.l)).map EntryC.i by rw [List.drop_eq_getElem_cons hlt]))
              have hi0 : (0 : Int) ≤ (i : Int) := by omega
              have hil : (i : Int) < (plen : Int) := by omega
              have kl : wr.cell? ⟨Bl, 0, none⟩ = some (.pointer (some ⟨d, 0, none⟩)) := cell_of_row _ _ 0 _ _ _ hbl
              clear hpx HM hrowp hlp
              generalize pl[i] = f at *
              have hA := bel_alloc (Below.refl wr.heap.size wr) (.cells #[.int .i64 f.i, .int .i64 f.t, .string f.d] 115)
              have hXb := World.alloc_heap_new wr (.cells #[.int .i64 f.i, .int .i64 f.t, .string f.d] 115)
              have GF := Lib.hid (fun W' (hB : Below wr.heap.size wr W') => pfind_any (hGr.below hB) HRis.out f.i)
              have HGr := Lib.hid hGr
              have HXb := Lib.hid hXb
              have HA := Lib.hid hA
              have Hbl := Lib.hid hbl
              have kl2 : (wr.alloc (.cells #[.int .i64 f.i, .int .i64 f.t, .string f.d] 115)).cell? ⟨Bl, 0, none⟩ = some (.pointer (some ⟨d, 0, none⟩)) := cell_of_row _ _ 0 _ _ _ ((hA.block _ (heap_lt hbl)).trans hbl)
              have e0a := cell_of_row _ _ 0 _ _ _ hXb
              simp only [List.getElem?_toArray, List.getElem?_cons_zero] at e0a
              clear hA hXb hGr hbl
              subst hpab
              by_cases hmem : hasB g.l f.i = true
              · obtain ⟨n, hn, hfn, hmm⟩ := find_pack HRis.out hmem
                rw [hmem, ← hfn] at GF
                have HMM := Lib.hid hmm
                clear hmem hfn hmm
                have hn0 : (0 : Int) ≤ (n : Int) := by omega
                have hnl : (n : Int) < (g.l.length : Int) := by omega
                gi_wp2_with (gi_at_call 99; refine (callsIn_wide.2 (GF.out _ HA.out)).mono ?_; rintro e1 w1 ⟨rfl, hB1⟩; have hB1x : Below wr.heap.size wr w1 := bel2 HA.out hB1; have HB1 := Lib.hid hB1x; have HX1 := Lib.hid ((hB1.block _ (heap_lt HXb.out)).trans HXb.out); clear hB1 hB1x c0 c1 c2 kl kl2 e0a)
                obtain ⟨gb, go, hga, hgb, hgx⟩ := (HGr.out.below HB1.out).2.2.2.2 (by omega)
                obtain ⟨x0, x1, x2⟩ := entry_at hgb (Below.refl _ _) hgx hn
                have hdd := (HGr.out.below HB1.out).1
                have hll := (HB1.out.block _ (heap_lt Hbl.out)).trans Hbl.out
                have HSW := Lib.hid (fun W' (hW' : Below w1.heap.size w1 W') => (show W'.cell? ⟨Bl, 0, none⟩ = some (.pointer (some ⟨d, 0, none⟩)) ∧ W'.cell? ⟨d, 6, none⟩ = some (.slice a g.l.length c) ∧ W'.cell? ⟨gb, go + n * 3, none⟩ = some (.int .i64 g.l[n].i) ∧ W'.cell? ⟨gb, go + n * 3 + 1, none⟩ = some (.int .i64 g.l[n].t) ∧ W'.cell? ⟨gb, go + n * 3 + 2, none⟩ = some (.string g.l[n].d) ∧ W'.cell? ⟨wr.heap.size, 0, none⟩ = some (.int .i64 f.i) ∧ W'.cell? ⟨wr.heap.size, 1, none⟩ = some (.int .i64 f.t) ∧ W'.cell? ⟨wr.heap.size, 2, none⟩ = some (.string f.d) from by
                  have hx := (hW'.block _ (heap_lt HX1.out)).trans HX1.out
                  exact ⟨cell_of_row _ _ 0 _ _ _ ((hW'.block _ (heap_lt hll)).trans hll), cell_of_row _ _ 6 _ _ _ ((hW'.block _ (heap_lt hdd)).trans hdd), (hW'.cell (p := ⟨gb, go + n * 3, none⟩) hgb).trans x0, (hW'.cell (p := ⟨gb, go + n * 3 + 1, none⟩) hgb).trans x1, (hW'.cell (p := ⟨gb, go + n * 3 + 2, none⟩) hgb).trans x2, cell_of_row _ _ 0 _ _ _ hx, cell_of_row _ _ 1 _ _ _ hx, cell_of_row _ _ 2 _ _ _ hx⟩))
                clear hgx x0 x1 x2 hdd hll
                generalize g.l[n] = y at *
                have heq := fun w => eqlEntry y f w
                have HS := Lib.hid (fun W' (hW' : Above w1 W') => HSW.out W' hW')
                have hRw := hR.trans (Rd.below HB1.out)
                have hJw := hJs _ _ _ hJ (Moves.below HB1.out)
                have HRw := Lib.hid hRw
                have HJw := Lib.hid hJw
                clear hR hJ hRw hJw
                obtain ⟨yi, yt, yd⟩ := y
                obtain ⟨fi, ft, fd⟩ := f
                dsimp only at *
                subst hga
                by_cases hyf : (⟨yi, yt, yd⟩ : EntryC) = ⟨fi, ft, fd⟩
                · have hdc : decide ((⟨yi, yt, yd⟩ : EntryC) = ⟨fi, ft, fd⟩) = true := decide_eq_true hyf
                  rw [hdc] at heq
                  have HX := Lib.hid (HM2.out.trans (show pre ++ (((⟨fi, ft, fd⟩ : EntryC) :: pl.drop (i + 1)).filter fun e => decide (e ∈ g.l)).map EntryC.i = pre ++ fi :: ((pl.drop (i + 1)).filter fun e => decide (e ∈ g.l)).map EntryC.i by rw [inP_pos (HMM.out.2 hyf)]))
                  clear hyf hdc
                  refine wpIn_region_tail 17 rfl (by kernel_rfl) (by kernel_rfl) (show Above w1 _ from (Below.refl _ _).drew) ?_
                  simp only [List.take_succ_cons, List.take_zero, List.drop_succ_cons, List.drop_zero]
                  repeat (first
                    | (refine BigFrame.wpQuietIn_skip (by first | quiet_asked_in | exact fun _ _ _ _ => trivial) (by rfl) ?_; (try simp only [Act.put, List.setIfInBounds_toArray, List.set_cons_zero, List.set_cons_succ]))
                    | (refine BigFrame.wpQuietIn_want (by first | quiet_asked_in | exact fun _ _ _ _ => trivial) (by rfl) (fun K hK => ?_); apply Exists.intro; refine ⟨fun W hW => ?_, hK _ ?_⟩; (focus (obtain ⟨s0, s1, s2, s3, s4, s5, s6, s7⟩ := HS.out _ hW; go_simp; (first | done | with_reducible rfl | (rw [if_neg (by omega)]; go_simp; (first | done | with_reducible rfl))))); clear hK K; (try simp only [Act.put, List.setIfInBounds_toArray, List.set_cons_zero, List.set_cons_succ])))
                  refine wpQuietIn_nil ?_
                  intro w6 hB6
                  replace hB6 : Below w1.heap.size w1 w6 := hB6
                  obtain ⟨fn, tmps, assign, body, hy, hR1⟩ := hY pre _ _ w6 HX.out (hJs _ _ _ HJw.out (Moves.below hB6))
                  (try dsimp only at hy)
                  gi_wp2
                  refine (roundIn_wide_n hR1).mono ?_
                  rintro e W3 (⟨rfl, hJ3, hk3⟩ | ⟨rfl, hJx3⟩)
                  · gi_wp2
                    go_roundw
                    case rel => exact ⟨i + 1, pre ++ [fi], by omega, by go_num, by rw [HX.out, List.append_assoc]; rfl, hJ3, (HRw.out.trans (.below hB6)).trans hk3⟩
                    case measure => simp [intOf]; omega
                  · gi_wp2
                    refine bodyPost_ret (results_none rfl _ _ _) rfl ?_
                    exact ⟨⟨_, rfl⟩, .inr ⟨_, _, _, HX.out, hJx3⟩⟩
                · have hdc : decide ((⟨yi, yt, yd⟩ : EntryC) = ⟨fi, ft, fd⟩) = false := decide_eq_false hyf
                  rw [hdc] at heq
                  have HX := Lib.hid (HM2.out.trans (show pre ++ (((⟨fi, ft, fd⟩ : EntryC) :: pl.drop (i + 1)).filter fun e => decide (e ∈ g.l)).map EntryC.i = pre ++ ((pl.drop (i + 1)).filter fun e => decide (e ∈ g.l)).map EntryC.i by rw [inP_neg (fun h => hyf (HMM.out.1 h))]))
                  clear hyf hdc
                  refine wpIn_region_below rfl (by kernel_rfl) (by kernel_rfl) ?_
                  repeat (first
                    | (refine BigFrame.wpQuietIn_skip (by first | quiet_asked_in | exact fun _ _ _ _ => trivial) (by rfl) ?_; (try simp only [Act.put, List.setIfInBounds_toArray, List.set_cons_zero, List.set_cons_succ]))
                    | (refine BigFrame.wpQuietIn_want (by first | quiet_asked_in | exact fun _ _ _ _ => trivial) (by rfl) (fun K hK => ?_); apply Exists.intro; refine ⟨fun W hW => ?_, hK _ ?_⟩; (focus (obtain ⟨s0, s1, s2, s3, s4, s5, s6, s7⟩ := HS.out _ hW; go_simp; (first | done | with_reducible rfl | (rw [if_neg (by omega)]; go_simp; (first | done | with_reducible rfl))))); clear hK K; (try simp only [Act.put, List.setIfInBounds_toArray, List.set_cons_zero, List.set_cons_succ])))
                  refine wpQuietIn_nil ?_
                  intro w6 hB6
                  replace hB6 : Below w1.heap.size w1 w6 := hB6
                  gi_wp2
                  go_roundw
                  case rel => exact ⟨i + 1, pre, by omega, by go_num, HX.out, hJs _ _ _ HJw.out (Moves.below hB6), HRw.out.trans (.below hB6)⟩
                  case measure => simp [intOf]; omega
              · have hmf : hasB g.l f.i = false := by simpa using hmem
                rw [hmf] at GF
                have HX := Lib.hid (HM2.out.trans (show pre ++ ((f :: pl.drop (i + 1)).filter fun e => decide (e ∈ g.l)).map EntryC.i = pre ++ ((pl.drop (i + 1)).filter fun e => decide (e ∈ g.l)).map EntryC.i by rw [inP_neg (not_mem_find HRis.out hmf)]))
                clear hmem hmf
                generalize fnd g.l f.i = n at GF
                gi_wp2_with (gi_at_call 99; refine (callsIn_wide.2 (GF.out _ HA.out)).mono ?_; rintro e1 w1 ⟨rfl, hB1⟩; have hB1x : Below wr.heap.size wr w1 := bel2 HA.out hB1; have HB1 := Lib.hid hB1x; have HX1 := Lib.hid ((hB1.block _ (heap_lt HXb.out)).trans HXb.out); clear hB1 hB1x c0 c1 c2 kl kl2 e0a)
                have hRw := hR.trans (Rd.below HB1.out)
                have hJw := hJs _ _ _ hJ (Moves.below HB1.out)
                have HRw := Lib.hid hRw
                have HJw := Lib.hid hJw
                clear hR hJ hRw hJw
                refine wpIn_region_below rfl (by kernel_rfl) (by kernel_rfl) ?_
                repeat (first
                  | (refine BigFrame.wpQuietIn_skip (by first | quiet_asked_in | exact fun _ _ _ _ => trivial) (by rfl) ?_; (try simp only [Act.put, List.setIfInBounds_toArray, List.set_cons_zero, List.set_cons_succ]))
                  | (refine BigFrame.wpQuietIn_want (by first | quiet_asked_in | exact fun _ _ _ _ => trivial) (by rfl) (fun K hK => ?_); apply Exists.intro; refine ⟨fun W hW => ?_, hK _ ?_⟩; (focus (go_simp; (first | done | with_reducible rfl))); clear hK K; (try simp only [Act.put, List.setIfInBounds_toArray, List.set_cons_zero, List.set_cons_succ])))
                refine wpQuietIn_nil ?_
                intro w6 hB6
                replace hB6 : Below w1.heap.size w1 w6 := hB6
                gi_wp2
                go_roundw
                case rel => exact ⟨i + 1, pre, by omega, by go_num, HX.out, hJs _ _ _ HJw.out (Moves.below hB6), HRw.out.trans (.below hB6)⟩
                case measure => simp [intOf]; omega
            · have hlp : pl.length = plen := HPL.out.1
              obtain rfl : i = pl.length := by omega
              rw [List.drop_length] at HM
              have HE := Lib.hid (show brgL g ⟨pg, pk, pa, plen, pcap, pht, phv, phc, pi, pt, pm, ph⟩ pl fi0 = pre from HM.out.trans (List.append_nil _))
              have hge : ¬ ((pl.length : Int) < (plen : Int)) := by omega
              clear hlp
              gi_wp2
              refine bodyPost_end (results_none rfl _ _ _) rfl ?_
              exact ⟨⟨_, rfl⟩, .inl (by rw [HE.out]; exact hJ)⟩
        · rw [hmk] at GM
          have HXM := Lib.hid (show brgL g ⟨pg, pk, pa, plen, pcap, pht, phv, phc, pi, pt, pm, ph⟩ pl fi0 = ([-1] : List Int) ++ 0 :: ((pl.drop 0).filter fun e => decide (e ∈ g.l)).map EntryC.i from by unfold brgL; rw [HHD.out, hmk]; rfl)
          clear hmk
          gi_wp2_with (gi_at_call 98; refine (callsIn_wide.2 GM.out).mono ?_; rintro e1 w2 ⟨rfl, hB2⟩; obtain ⟨fn, tmps, assign, body, hy, hR1⟩ := hY (([-1] : List Int)) _ _ w2 HXM.out (hJs _ _ _ HJv.out (Moves.below hB2)); have HRm := Lib.hid (HRv.out.trans (.below hB2)); clear hB2 t0 t1 t2 t3 t4 t5 t6 t7 t8 t9 klw kfw)
          refine (roundIn_wide_n hR1).mono ?_
          rintro e W4 (⟨rfl, hJ4, hk4⟩ | ⟨rfl, hJx4⟩)
          · have HJm := Lib.hid hJ4
            have HRn := Lib.hid (HRm.out.trans hk4)
            have hP4 := HPp.out W4 HRn.out
            have t2' : W4.cell? ⟨Bp, 2, none⟩ = some (.slice pa plen pcap) := cell_of_row _ _ 2 _ _ _ hP4
            clear hP4 hJ4 hk4 hy hR1
            gi_wp2
            clear t2'
            have HX0 := Lib.hid (show brgL g ⟨pg, pk, pa, plen, pcap, pht, phv, phc, pi, pt, pm, ph⟩ pl fi0 = ((([-1] : List Int)) ++ [0]) ++ ((pl.drop 0).filter fun e => decide (e ∈ g.l)).map EntryC.i from by rw [HXM.out, List.append_assoc]; rfl)
            have hJ0 := HJm.out
            have hR0 := HRn.out
            gi_loopw [40] (fun qi wr => ∃ (i : Nat) (pre : List Int), i ≤ pl.length ∧ qi = .int .i64 i ∧ brgL g ⟨pg, pk, pa, plen, pcap, pht, phv, phc, pi, pt, pm, ph⟩ pl fi0 = pre ++ ((pl.drop i).filter fun e => decide (e ∈ g.l)).map EntryC.i ∧ J pre wr ∧ Rd W.heap.size S W wr) (fun qi _ => pl.length - (intOf qi).toNat)
            case atStart => exact ⟨0, (([-1] : List Int)) ++ [0], by omega, rfl, HX0.out, hJ0, hR0⟩
            case round =>
              clear hJ0 hR0
              obtain ⟨i, pre, hi, rfl, hM, hJ, hR⟩ := hrel
              have HM := Lib.hid hM
              clear hM
              by_cases hlt : i < pl.length
              · have hlp : pl.length = plen := HPL.out.1
                have hrowp := rowV_rd HPL.out.2.2 hR HS2.out
                obtain ⟨pb, po, hpab, hpb, hpx⟩ := hrowp.2.2 (by omega)
                obtain ⟨c0, c1, c2⟩ := entry_at hpb (Below.refl _ _) hpx hlt
                have hGr := HG.out.rd hR HSd.out HS3.out
                have hbl := hR.get HBl.out HSl.out
                have HM2 := Lib.hid (HM.out.trans (show pre ++ ((pl.drop i).filter fun e => decide (e ∈ g.l)).map EntryC.i = pre ++ ((pl[i] :: pl.drop (i + 1)).filter fun e => decide (e ∈ g.l)).map EntryC.i by rw [List.drop_eq_getElem_cons hlt]))
                have hi0 : (0 : Int) ≤ (i : Int) := by omega
                have hil : (i : Int) < (plen : Int) := by omega
                have kl : wr.cell? ⟨Bl, 0, none⟩ = some (.pointer (some ⟨d, 0, none⟩)) := cell_of_row _ _ 0 _ _ _ hbl
                clear hpx HM hrowp hlp
                generalize pl[i] = f at *
                have hA := bel_alloc (Below.refl wr.heap.size wr) (.cells #[.int .i64 f.i, .int .i64 f.t, .string f.d] 115)
                have hXb := World.alloc_heap_new wr (.cells #[.int .i64 f.i, .int .i64 f.t, .string f.d] 115)
                have GF := Lib.hid (fun W' (hB : Below wr.heap.size wr W') => pfind_any (hGr.below hB) HRis.out f.i)
                have HGr := Lib.hid hGr
                have HXb := Lib.hid hXb
                have HA := Lib.hid hA
                have Hbl := Lib.hid hbl
                have kl2 : (wr.alloc (.cells #[.int .i64 f.i, .int .i64 f.t, .string f.d] 115)).cell? ⟨Bl, 0, none⟩ = some (.pointer (some ⟨d, 0, none⟩)) := cell_of_row _ _ 0 _ _ _ ((hA.block _ (heap_lt hbl)).trans hbl)
                have e0a := cell_of_row _ _ 0 _ _ _ hXb
                simp only [List.getElem?_toArray, List.getElem?_cons_zero] at e0a
                clear hA hXb hGr hbl
                subst hpab
                by_cases hmem : hasB g.l f.i = true
                · obtain ⟨n, hn, hfn, hmm⟩ := find_pack HRis.out hmem
                  rw [hmem, ← hfn] at GF
                  have HMM := Lib.hid hmm
                  clear hmem hfn hmm
                  have hn0 : (0 : Int) ≤ (n : Int) := by omega
                  have hnl : (n : Int) < (g.l.length : Int) := by omega
                  gi_wp2_with (gi_at_call 99; refine (callsIn_wide.2 (GF.out _ HA.out)).mono ?_; rintro e1 w1 ⟨rfl, hB1⟩; have hB1x : Below wr.heap.size wr w1 := bel2 HA.out hB1; have HB1 := Lib.hid hB1x; have HX1 := Lib.hid ((hB1.block _ (heap_lt HXb.out)).trans HXb.out); clear hB1 hB1x c0 c1 c2 kl kl2 e0a)
                  obtain ⟨gb, go, hga, hgb, hgx⟩ := (HGr.out.below HB1.out).2.2.2.2 (by omega)
                  obtain ⟨x0, x1, x2⟩ := entry_at hgb (Below.refl _ _) hgx hn
                  have hdd := (HGr.out.below HB1.out).1
                  have hll := (HB1.out.block _ (heap_lt Hbl.out)).trans Hbl.out
                  have HSW := Lib.hid (fun W' (hW' : Below w1.heap.size w1 W') => (show W'.cell? ⟨Bl, 0, none⟩ = some (.pointer (some ⟨d, 0, none⟩)) ∧ W'.cell? ⟨d, 6, none⟩ = some (.slice a g.l.length c) ∧ W'.cell? ⟨gb, go + n * 3, none⟩ = some (.int .i64 g.l[n].i) ∧ W'.cell? ⟨gb, go + n * 3 + 1, none⟩ = some (.int .i64 g.l[n].t) ∧ W'.cell? ⟨gb, go + n * 3 + 2, none⟩ = some (.string g.l[n].d) ∧ W'.cell? ⟨wr.heap.size, 0, none⟩ = some (.int .i64 f.i) ∧ W'.cell? ⟨wr.heap.size, 1, none⟩ = some (.int .i64 f.t) ∧ W'.cell? ⟨wr.heap.size, 2, none⟩ = some (.string f.d) from by
                    have hx := (hW'.block _ (heap_lt HX1.out)).trans HX1.out
                    exact ⟨cell_of_row _ _ 0 _ _ _ ((hW'.block _ (heap_lt hll)).trans hll), cell_of_row _ _ 6 _ _ _ ((hW'.block _ (heap_lt hdd)).trans hdd), (hW'.cell (p := ⟨gb, go + n * 3, none⟩) hgb).trans x0, (hW'.cell (p := ⟨gb, go + n * 3 + 1, none⟩) hgb).trans x1, (hW'.cell (p := ⟨gb, go + n * 3 + 2, none⟩) hgb).trans x2, cell_of_row _ _ 0 _ _ _ hx, cell_of_row _ _ 1 _ _ _ hx, cell_of_row _ _ 2 _ _ _ hx⟩))
                  clear hgx x0 x1 x2 hdd hll
                  generalize g.l[n] = y at *
                  have heq := fun w => eqlEntry y f w
                  have HS := Lib.hid (fun W' (hW' : Above w1 W') => HSW.out W' hW')
                  have hRw := hR.trans (Rd.below HB1.out)
                  have hJw := hJs _ _ _ hJ (Moves.below HB1.out)
                  have HRw := Lib.hid hRw
                  have HJw := Lib.hid hJw
                  clear hR hJ hRw hJw
                  obtain ⟨yi, yt, yd⟩ := y
                  obtain ⟨fi, ft, fd⟩ := f
                  dsimp only at *
                  subst hga
                  by_cases hyf : (⟨yi, yt, yd⟩ : EntryC) = ⟨fi, ft, fd⟩
                  · have hdc : decide ((⟨yi, yt, yd⟩ : EntryC) = ⟨fi, ft, fd⟩) = true := decide_eq_true hyf
                    rw [hdc] at heq
                    have HX := Lib.hid (HM2.out.trans (show pre ++ (((⟨fi, ft, fd⟩ : EntryC) :: pl.drop (i + 1)).filter fun e => decide (e ∈ g.l)).map EntryC.i = pre ++ fi :: ((pl.drop (i + 1)).filter fun e => decide (e ∈ g.l)).map EntryC.i by rw [inP_pos (HMM.out.2 hyf)]))
                    clear hyf hdc
                    refine wpIn_region_tail 17 rfl (by kernel_rfl) (by kernel_rfl) (show Above w1 _ from (Below.refl _ _).drew) ?_
                    simp only [List.take_succ_cons, List.take_zero, List.drop_succ_cons, List.drop_zero]
                    repeat (first
                      | (refine BigFrame.wpQuietIn_skip (by first | quiet_asked_in | exact fun _ _ _ _ => trivial) (by rfl) ?_; (try simp only [Act.put, List.setIfInBounds_toArray, List.set_cons_zero, List.set_cons_succ]))
                      | (refine BigFrame.wpQuietIn_want (by first | quiet_asked_in | exact fun _ _ _ _ => trivial) (by rfl) (fun K hK => ?_); apply Exists.intro; refine ⟨fun W hW => ?_, hK _ ?_⟩; (focus (obtain ⟨s0, s1, s2, s3, s4, s5, s6, s7⟩ := HS.out _ hW; go_simp; (first | done | with_reducible rfl | (rw [if_neg (by omega)]; go_simp; (first | done | with_reducible rfl))))); clear hK K; (try simp only [Act.put, List.setIfInBounds_toArray, List.set_cons_zero, List.set_cons_succ])))
                    refine wpQuietIn_nil ?_
                    intro w6 hB6
                    replace hB6 : Below w1.heap.size w1 w6 := hB6
                    obtain ⟨fn, tmps, assign, body, hy, hR1⟩ := hY pre _ _ w6 HX.out (hJs _ _ _ HJw.out (Moves.below hB6))
                    (try dsimp only at hy)
                    gi_wp2
                    refine (roundIn_wide_n hR1).mono ?_
                    rintro e W3 (⟨rfl, hJ3, hk3⟩ | ⟨rfl, hJx3⟩)
                    · gi_wp2
                      go_roundw
                      case rel => exact ⟨i + 1, pre ++ [fi], by omega, by go_num, by rw [HX.out, List.append_assoc]; rfl, hJ3, (HRw.out.trans (.below hB6)).trans hk3⟩
                      case measure => simp [intOf]; omega
                    · gi_wp2
                      refine bodyPost_ret (results_none rfl _ _ _) rfl ?_
                      exact ⟨⟨_, rfl⟩, .inr ⟨_, _, _, HX.out, hJx3⟩⟩
                  · have hdc : decide ((⟨yi, yt, yd⟩ : EntryC) = ⟨fi, ft, fd⟩) = false := decide_eq_false hyf
                    rw [hdc] at heq
                    have HX := Lib.hid (HM2.out.trans (show pre ++ (((⟨fi, ft, fd⟩ : EntryC) :: pl.drop (i + 1)).filter fun e => decide (e ∈ g.l)).map EntryC.i = pre ++ ((pl.drop (i + 1)).filter fun e => decide (e ∈ g.l)).map EntryC.i by rw [inP_neg (fun h => hyf (HMM.out.1 h))]))
                    clear hyf hdc
                    refine wpIn_region_below rfl (by kernel_rfl) (by kernel_rfl) ?_
                    repeat (first
                      | (refine BigFrame.wpQuietIn_skip (by first | quiet_asked_in | exact fun _ _ _ _ => trivial) (by rfl) ?_; (try simp only [Act.put, List.setIfInBounds_toArray, List.set_cons_zero, List.set_cons_succ]))
                      | (refine BigFrame.wpQuietIn_want (by first | quiet_asked_in | exact fun _ _ _ _ => trivial) (by rfl) (fun K hK => ?_); apply Exists.intro; refine ⟨fun W hW => ?_, hK _ ?_⟩; (focus (obtain ⟨s0, s1, s2, s3, s4, s5, s6, s7⟩ := HS.out _ hW; go_simp; (first | done | with_reducible rfl | (rw [if_neg (by omega)]; go_simp; (first | done | with_reducible rfl))))); clear hK K; (try simp only [Act.put, List.setIfInBounds_toArray, List.set_cons_zero, List.set_cons_succ])))
                    refine wpQuietIn_nil ?_
                    intro w6 hB6
                    replace hB6 : Below w1.heap.size w1 w6 := hB6
                    gi_wp2
                    go_roundw
                    case rel => exact ⟨i + 1, pre, by omega, by go_num, HX.out, hJs _ _ _ HJw.out (Moves.below hB6), HRw.out.trans (.below hB6)⟩
                    case measure => simp [intOf]; omega
                · have hmf : hasB g.l f.i = false := by simpa using hmem
                  rw [hmf] at GF
                  have HX := Lib.hid (HM2.out.trans (show pre ++ ((f :: pl.drop (i + 1)).filter fun e => decide (e ∈ g.l)).map EntryC.i = pre ++ ((pl.drop (i + 1)).filter fun e => decide (e ∈ g.l)).map EntryC.i by rw [inP_neg (not_mem_find HRis.out hmf)]))
                  clear hmem hmf
                  generalize fnd g.l f.i = n at GF
                  gi_wp2_with (gi_at_call 99; refine (callsIn_wide.2 (GF.out _ HA.out)).mono ?_; rintro e1 w1 ⟨rfl, hB1⟩; have hB1x : Below wr.heap.size wr w1 := bel2 HA.out hB1; have HB1 := Lib.hid hB1x; have HX1 := Lib.hid ((hB1.block _ (heap_lt HXb.out)).trans HXb.out); clear hB1 hB1x c0 c1 c2 kl kl2 e0a)
                  have hRw := hR.trans (Rd.below HB1.out)
                  have hJw := hJs _ _ _ hJ (Moves.below HB1.out)
                  have HRw := Lib.hid hRw
                  have HJw := Lib.hid hJw
                  clear hR hJ hRw hJw
                  refine wpIn_region_below rfl (by kernel_rfl) (by kernel_rfl) ?_
                  repeat (first
                    | (refine BigFrame.wpQuietIn_skip (by first | quiet_asked_in | exact fun _ _ _ _ => trivial) (by rfl) ?_; (try simp only [Act.put, List.setIfInBounds_toArray, List.set_cons_zero, List.set_cons_succ]))
                    | (refine BigFrame.wpQuietIn_want (by first | quiet_asked_in | exact fun _ _ _ _ => trivial) (by rfl) (fun K hK => ?_); apply Exists.intro; refine ⟨fun W hW => ?_, hK _ ?_⟩; (focus (go_simp; (first | done | with_reducible rfl))); clear hK K; (try simp only [Act.put, List.setIfInBounds_toArray, List.set_cons_zero, List.set_cons_succ])))
                  refine wpQuietIn_nil ?_
                  intro w6 hB6
                  replace hB6 : Below w1.heap.size w1 w6 := hB6
                  gi_wp2
                  go_roundw
                  case rel => exact ⟨i + 1, pre, by omega, by go_num, HX.out, hJs _ _ _ HJw.out (Moves.below hB6), HRw.out.trans (.below hB6)⟩
                  case measure => simp [intOf]; omega
              · have hlp : pl.length = plen := HPL.out.1
                obtain rfl : i = pl.length := by omega
                rw [List.drop_length] at HM
                have HE := Lib.hid (show brgL g ⟨pg, pk, pa, plen, pcap, pht, phv, phc, pi, pt, pm, ph⟩ pl fi0 = pre from HM.out.trans (List.append_nil _))
                have hge : ¬ ((pl.length : Int) < (plen : Int)) := by omega
                clear hlp
                gi_wp2
                refine bodyPost_end (results_none rfl _ _ _) rfl ?_
                exact ⟨⟨_, rfl⟩, .inl (by rw [HE.out]; exact hJ)⟩
          · gi_wp2
            refine bodyPost_ret (results_none rfl _ _ _) rfl ?_
            exact ⟨⟨_, rfl⟩, .inr ⟨_, _, _, HXM.out, hJx4⟩⟩
      · gi_wp2
        refine bodyPost_ret (results_none rfl _ _ _) rfl ?_
        exact ⟨⟨_, rfl⟩, .inr ⟨_, _, _, HSUF.out, hJx3⟩⟩

end Go.Proofs.Ytdncdlbhgaehmaa
