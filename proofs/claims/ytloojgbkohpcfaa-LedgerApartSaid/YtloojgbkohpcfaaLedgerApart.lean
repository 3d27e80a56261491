/- Law LedgerApart: for every input the call answers true; its arguments read as they did. No condition. -/
import Derived.Test.YtloojgbkohpcfaaLaw
import Derived.Test.YtloojgbkohpcfaaKnown14
import Derived.Test.YtloojgbkohpcfaaLgAp
import Derived.Test.YtloojgbkohpcfaaRefSS
import Derived.Test.YtloojgbkohpcfaaRef6a
namespace Go.Proofs.Ytloojgbkohpcfaa.ledgerApart
open Go.ChangeShapes Go.WideShapes Go.ChangeAt Go.RowKit Go.Shelf
open Go.ChangeMaps (open_string shut_string)
set_option linter.unusedVariables false
attribute [local go_sem] Oper.semAt_some wide_fn wide_round_fn

theorem infoPartA : (Try.prog.info? 39).map (fun i => (i.zero, i.size, i.bytes)) = some (some (.agg #[.int .i64 0, .int .i64 0, .slice none 0 0, .int .i64 0, .int .i64 0, .int .i64 0, .int .i64 0, .int .i64 0, .bool false, .bool false]), 10, 88) := by kernel_rfl
theorem flA_len {N : Nat} : ∀ {A : List LG}, okA N A → (flA A).length ≤ A.length * (N + 2)
  | [], _ => by simp [flA]
  | L :: r, h => by
    have h1 := flA_len (A := r) (fun X hX => h X (List.mem_cons_of_mem _ hX))
    have h2 := (h L (by simp)).2.1
    have h3 := spots_lenL L.g L.F
    show (spotsL L.g L.F ++ flA r).length ≤ _
    rw [List.length_append, List.length_cons, Nat.succ_mul]
    omega
set_option maxRecDepth 100000 in
set_option maxHeartbeats 4000000 in
theorem walk (w : World) (a : Option Addr) (len cap : Nat) (S : List S14) (hS : S.length = len) (hcap : len ≤ cap) (hrow : RowV w a len 3 (s14Cells S)) (hG : ∀ x ∈ S, GoodS w x) (id : Nat) (hid : id < 256) : Calls Try.prog 6 #[.slice a len cap, .int .u8 id] w fun e w' => e = .returned (.bool true) ∧ Below w.heap.size w w' := by
  obtain ⟨i0, hi, hz0, hz1, hz2⟩ := info_parts infoPartA
  obtain ⟨j0, hj, hy0, hy1, hy2⟩ := info_parts infoSpotP
  have GK := Lib.hid known14_any
  have GF := Lib.hid (fun W (hB : Below w.heap.size w W) => fewSs_any a len cap S W hS (hrow.below hB) (fun x hx => (hG x hx).below hB))
  have HG := Lib.hid hG
  have HS := Lib.hid hS
  have hml := hrow.2.1
  unfold maxLen at hml
  have hcs := hrow.2.2
  clear hG hS hrow
  unfold Gives at GF
  cases hf : fewSs S
  · rw [hf] at GF
    clear hf hcs
    go_enter Try.func6, Try.ntmps6
    go_wp2_with (first
      | (go_at_call 21; ((with_reducible refine (GK.out _).mono ?_); rintro r w1 ⟨rfl, hB1⟩))
      | (go_at_call 22; ((with_reducible refine (GF.out _ hB1).mono ?_); rintro r w2 ⟨rfl, hB2⟩)))
    go_ret
    exact ⟨rfl, bel2 hB1 hB2⟩
  · rw [hf] at GF
    have hf2 : S.length ≤ 40 ∧ ∀ x ∈ S, few14P x.L = true := by
      simp only [fewSs, Bool.and_eq_true, decide_eq_true_eq, List.all_eq_true] at hf
      exact ⟨hf.2, hf.1⟩
    have HAS := Lib.hid (fun x (hx : x ∈ S) => (HG.out x hx).has (hf2.2 x hx))
    have hl40 : len ≤ 40 := by have := HS.out; omega
    clear hf hf2
    obtain ⟨k, hk, hk8⟩ : ∃ k : Nat, (k : Int) = (id : Int) % 8 ∧ k < 8 := ⟨id % 8, by omega, by omega⟩
    have GN1 := Lib.hid (fun W (hB : Below w.heap.size w W) => gNew1 hB)
    have GN2 := Lib.hid (fun W => gNew1 (Below.refl W.heap.size W))
    go_enter Try.func6, Try.ntmps6
    go_wp2_with (first
      | (go_at_call 21; ((with_reducible refine (GK.out _).mono ?_); rintro r w1 ⟨rfl, hB1⟩))
      | (go_at_call 22; ((with_reducible refine (GF.out _ hB1).mono ?_); rintro r w2 ⟨rfl, hB2⟩; have HB2 := Lib.hid (bel2 hB1 hB2); clear hB1 hB2))
      | (go_at_call 23; ((with_reducible refine (GN2.out w3).mono ?_); rintro r w4 ⟨e2, rfl, hK2, -, -⟩; have H4 := Lib.hid (H3.out.two hK2); clear hK2 H3))
      | (go_at_call 23; ((with_reducible refine (GN1.out _ HB2.out).mono ?_); rintro r w3 ⟨e, rfl, hK, -, -⟩; have H3 := Lib.hid hK; clear hK HB2)))
    rw [← hk]
    clear GK GF GN1 GN2 hk
    go_loopw [8] (fun s8 wr => ∃ (i : Nat) (A B : List LG), i ≤ len ∧ s8 = .int .i64 i ∧ ApI (k : Int) i A B ∧ LG2 w e A e2 B wr) (fun s8 _ => len - (intOf s8).toNat)
    case atStart => exact ⟨0, [], [], by omega, rfl, apI_new _, H4.out⟩
    case round =>
      obtain ⟨i, A, B, hil, rfl, hAp, hLG⟩ := hrel
      have HAp := Lib.hid hAp
      have HLG := Lib.hid hLG
      clear hAp hLG H4
      by_cases hlt : i < len
      · obtain ⟨b, off, rfl, hb, hx⟩ := hcs (by omega)
        have hiS : i < S.length := by have := HS.out; omega
        have KC := Lib.hid (fun W (hB : Below w.heap.size w W) => s14_at hb hB hx hiS)
        obtain ⟨hp, hc8, hl6⟩ := HAS.out S[i] (List.getElem_mem hiS)
        have hii : (i : Int) < (len : Int) := by omega
        have hi0 : (0 : Int) ≤ (i : Int) := by omega
        clear hx hcs hb
        generalize S[i] = y at *
        clear hiS
        obtain ⟨ya, ylen, ycap, yL, ys, yt⟩ := y
        dsimp only at *
        have KD := Lib.hid (fun W (hB : Below w.heap.size w W) => (show W.cell? ⟨b, off + i * 3, none⟩ = some (.slice ya ylen ycap) ∧ W.cell? ⟨b, off + i * 3 + 1, none⟩ = some (.int .i64 ys) ∧ W.cell? ⟨b, off + i * 3 + 1 + 1, none⟩ = some (.int .i64 yt) from KC.out W hB))
        have HPw := Lib.hid hp
        have HC8 := Lib.hid hc8
        have HYL := Lib.hid hp.1
        clear KC hp hc8
        have GDg := Lib.hid (fun W (h : LG2 w e A e2 B W) => gDo2 (N := 60 * i) (c := 8) h HAp.out.fa ya ylen ycap yL (HPw.out.below h.bel) HC8.out (by omega) (by have := HAp.out.lenA; omega) ys yt)
        obtain ⟨c0, c1, c2⟩ := KD.out wr HLG.out.bel
        go_wp2
        go_region_held3 (fun W' => W'.cell? ⟨b, off + i * 3, none⟩ = some (.slice ya ylen ycap) ∧ W'.cell? ⟨b, off + i * 3 + 1, none⟩ = some (.int .i64 ys) ∧ W'.cell? ⟨b, off + i * 3 + 1 + 1, none⟩ = some (.int .i64 yt)) (go_keep) (first
          | (go_at_call 24; ((with_reducible refine (GDg.out _ ?hk).mono ?_); (case hk => first | exact HLG.out | exact HLG.out.below (Below.refl _ _).drew); rintro r w4 ⟨⟨v4, rfl⟩, hK4⟩; obtain ⟨d0, d1, d2⟩ := KD.out w4 hK4.bel)))
        all_goals
          have HK4 := Lib.hid hK4
          clear hK4 c0 c1 c2 d0 d1 d2 GDg HLG
          go_wp2
          go_loopw [9, 10] (fun s9 s10 wr => ∃ (j : Nat) (v : Value), j ≤ ylen ∧ s10 = .int .i64 j ∧ s9 = v ∧ wr.ownsRow w4.heap.size 39 10 v (kParts (k : Int) (yL.take j)).length (partCells (kParts (k : Int) (yL.take j))) ∧ Below w4.heap.size w4 wr) (fun _ s10 _ => ylen - (intOf s10).toNat)
          case atStart => exact ⟨0, _, by omega, rfl, rfl, World.ownsRow_nil _ _ _ _, Below.refl _ _⟩
          case round =>
            obtain ⟨j, v, hjl, rfl, rfl, hown, hB⟩ := hrel
            obtain ⟨c0, c1, c2⟩ := KD.out wr (bel2 HK4.out.bel hB)
            by_cases hltj : j < ylen
            · have hjy : j < yL.length := by have := HYL.out; omega
              obtain ⟨pb, poff, rfl, hpb, hpx⟩ := HPw.out.2.2.1.2.2 (by omega)
              obtain ⟨p0, p1, p2, p3, p4, p5, p6, p7, p8, p9⟩ := part_at10 hpb (bel2 HK4.out.bel hB) hpx hjy
              have HKT := Lib.hid (kParts_take (k := (k : Int)) hjy)
              have hjj : (j : Int) < (ylen : Int) := by omega
              have hj0 : (0 : Int) ≤ (j : Int) := by omega
              have hlk : (kParts (k : Int) (yL.take j)).length ≤ 6 := by
                have h1 := List.length_filter_le (fun x : PL => decide (x.1.g = (k : Int))) (yL.take j)
                rw [List.length_take] at h1
                unfold kParts; omega
              have HROW := Lib.hid hown
              have HB := Lib.hid hB
              clear hpb hpx
              generalize yL[j] = z at *
              obtain ⟨⟨pg, pk, pa, plen, pcap, pht, phv, phc, pi, pt, pm, ph⟩, zl⟩ := z
              dsimp only at *
              by_cases hgk : pg = (k : Int)
              · have HKT2 := Lib.hid (show kParts (k : Int) (yL.take (j + 1)) = _ from HKT.out.trans (if_pos hgk))
                have hgb : (pg == (k : Int)) = true := by rw [beq_iff_eq]; exact hgk
                clear hgk HKT hjy
                generalize kParts (k : Int) (yL.take j) = Kj at *
                have hws := hB.size
                clear hB
                go_wp2_with (at_builtin; (refine wpList_append_own _ rfl _ _ 67 rfl w4.heap.size 39 i0 (.agg #[.int .i64 0, .int .i64 0, .slice none 0 0, .int .i64 0, .int .i64 0, .int .i64 0, .int .i64 0, .int .i64 0, .bool false, .bool false]) 10 88 Try.underlying67 hi hz0 hz1 hz2 rfl (by decide) _ _ _ rfl (hown.alloc _) ⟨wr.heap.size, 0, none⟩ 1 1 [.int .i64 pg, .int .i64 pk, .slice pa plen pcap, .int .i64 pht, .int .i64 phv, .int .i64 phc, .int .i64 pi, .int .i64 pt, .bool pm, .bool ph] rfl rfl (news_new _ _ _) (by simp [Value.oneCell']) (by unfold maxLen; omega) (by omega) (by simp; omega) ?_); intro v' w5 hown5 hgrow _; have hB5 := ((HB.out.trans ((bel_alloc (Below.refl wr.heap.size wr) (.cells #[.int .i64 pg, .int .i64 pk, .slice pa plen pcap, .int .i64 pht, .int .i64 phv, .int .i64 phc, .int .i64 pi, .int .i64 pt, .bool pm, .bool ph] 39)).mono HB.out.size)).grown hgrow (by simp; omega) (fun k hk => ownBlock_ge HROW.out hk)))
                exact ⟨⟨j + 1, _, by omega, by go_num, rfl, by rw [HKT2.out, List.length_append, partCells_snoc]; exact hown5, hB5⟩, by simp [intOf]; omega⟩
              · have HKT2 := Lib.hid (show kParts (k : Int) (yL.take (j + 1)) = _ from HKT.out.trans (if_neg hgk))
                have hgb : (pg == (k : Int)) = false := by rw [beq_eq_false_iff_ne]; exact hgk
                clear hgk HKT hown hB
                go_wp2
                exact ⟨⟨j + 1, _, by omega, by go_num, rfl, by rw [HKT2.out]; exact HROW.out, HB.out⟩, by simp [intOf]; omega⟩
            · obtain rfl : j = ylen := by omega
              have hty : yL.take j = yL := List.take_of_length_le (by have := HYL.out; omega)
              rw [hty] at hown
              obtain ⟨sa, sc, rfl, hsc, hsr⟩ := rowV_own hown
              have HPk := Lib.hid (show HasP wr sa (kParts (k : Int) yL).length (kParts (k : Int) yL) from ⟨rfl, by
                have h1 := List.length_filter_le (fun x : PL => decide (x.1.g = (k : Int))) yL
                have := HYL.out
                unfold kParts; omega, hsr, fun x hx => ((HPw.out.below (bel2 HK4.out.bel hB)).2.2.2 x (List.mem_filter.1 hx).1)⟩)
              have GDh := Lib.hid (fun W (h : LG2 w e2 B e (ldo A yL ys yt) W) (hp : HasP W sa (kParts (k : Int) yL).length (kParts (k : Int) yL)) => gDo2 (N := 60 * i) (c := 8) h HAp.out.fb sa (kParts (k : Int) yL).length sc (kParts (k : Int) yL) hp (fun x hx => HC8.out x (List.mem_filter.1 hx).1) (by
                have h1 := hp.1
                have h2 := List.length_filter_le (fun x : PL => decide (x.1.g = (k : Int))) yL
                have := HYL.out
                unfold kParts at *; omega) (by
                have h2 := List.length_filter_le (fun x : PL => decide (x.1.g = (k : Int))) yL
                have := HYL.out
                have := HAp.out.lenB
                unfold kParts at *; omega) ys yt)
              have HL2 := Lib.hid (HK4.out.below hB).swap
              clear hown hsr hsc hty hB HK4
              go_wp2_with (go_at_call 24; ((with_reducible refine (GDh.out _ HL2.out HPk.out).mono ?_); rintro r w6 ⟨⟨v6, rfl⟩, hK6⟩))
              exact ⟨⟨i + 1, _, _, by omega, by go_num, HAp.out.step (by have := HYL.out; omega) (fun x hx => (HC8.out x hx).1), hK6.swap⟩, by simp [intOf]; omega⟩
      · obtain rfl : i = len := by omega
        have hris := HLG.out.one.ris
        have hris2 := HLG.out.swap.one.ris
        have hY := (flA_only hris2.1 HAp.out.only).trans ((congrArg spO HAp.out.get.symm).trans (flA_filter (k := (k : Int)) hris.1).symm)
        have HOKA := Lib.hid (show okA 2400 A from fun X hX => okLG_mono (HAp.out.fa X hX) (by omega))
        have HOKB := Lib.hid (show okA 2400 B from fun X hX => okLG_mono (HAp.out.fb X hX) (by omega))
        have HLA := Lib.hid (show A.length ≤ 240 ∧ B.length ≤ 240 from ⟨by have := HAp.out.lenA; omega, by have := HAp.out.lenB; omega⟩)
        have hXl := flA_len HOKA.out
        have hXm : (flA A).length ≤ 600000 := by
          have h1 : A.length * (2400 + 2) ≤ 240 * (2400 + 2) := Nat.mul_le_mul_right _ HLA.out.1
          omega
        have GGa := Lib.hid (fun W (h : LG2 w e A e2 B W) => tGetO h.one.choose_spec.1 (k : Int) ⟨by omega, by omega⟩)
        have GGb := Lib.hid (fun W (h : LG2 w e A e2 B W) => tGetO h.swap.one.choose_spec.1 (k : Int) ⟨by omega, by omega⟩)
        rw [← HAp.out.get] at GGb
        have GSa := Lib.hid (fun W (h : LG2 w e A e2 B W) => tSpots (N := 2400) h.one.choose_spec.1 (by have := HLA.out.1; omega) HOKA.out (by decide))
        have GSb := Lib.hid (fun W (h : LG2 w e A e2 B W) => tSpots (N := 2400) h.swap.one.choose_spec.1 (by have := HLA.out.2; omega) HOKB.out (by decide))
        rw [hY] at GSb
        clear hY hris hris2 hXl HAp HOKA HOKB HLA hlt hil
        generalize flA A = X at *
        generalize optG (getZ LG.n A (k : Int)) = g0 at *
        generalize (getZ LG.n A (k : Int)).isSome = bo at *
        obtain ⟨gid, gfi, gte, ght, ghv, ghc, gl⟩ := g0
        dsimp only [GM.val] at *
        have HXM := Lib.hid hXm
        go_wp2_with (first
          | (go_at_call 25; ((with_reducible refine (GGb.out _ H5.out).mono ?_); rintro r w6 ⟨vb, vd, rfl, hgb, hB⟩; have hA6 := bel_alloc (Below.refl w6.heap.size w6) (.cells #[.int .i64 gid, .int .i64 gfi, .int .i64 gte, .int .i64 ght, .int .i64 ghv, .int .i64 ghc, .slice vb gl.length vd] 31); have H6 := Lib.hid (H5.out.below (bel2 hB hA6)); have HGB := Lib.hid (show HasG (w6.alloc (.cells #[.int .i64 gid, .int .i64 gfi, .int .i64 gte, .int .i64 ght, .int .i64 ghv, .int .i64 ghc, .slice vb gl.length vd] 31)) vb ⟨gid, gfi, gte, ght, ghv, ghc, gl⟩ from ⟨hgb.1, hgb.2.below hA6⟩); have HGA6 := Lib.hid (show HasG (w6.alloc (.cells #[.int .i64 gid, .int .i64 gfi, .int .i64 gte, .int .i64 ght, .int .i64 ghv, .int .i64 ghc, .slice vb gl.length vd] 31)) va ⟨gid, gfi, gte, ght, ghv, ghc, gl⟩ from ⟨HGA.out.1, HGA.out.2.below (bel2 hB hA6)⟩); have HQA6 := Lib.hid (((bel2 hB hA6).block _ (heap_lt HQA.out)).trans HQA.out); have HQB := Lib.hid (World.alloc_heap_new w6 (.cells #[.int .i64 gid, .int .i64 gfi, .int .i64 gte, .int .i64 ght, .int .i64 ghv, .int .i64 ghc, .slice vb gl.length vd] 31)); clear hgb hB hA6 HGA HQA H5))
          | (go_at_call 25; ((with_reducible refine (GGa.out _ HLG.out).mono ?_); rintro r w5 ⟨va, vc, rfl, hga, hB⟩; have hA5 := bel_alloc (Below.refl w5.heap.size w5) (.cells #[.int .i64 gid, .int .i64 gfi, .int .i64 gte, .int .i64 ght, .int .i64 ghv, .int .i64 ghc, .slice va gl.length vc] 31); have H5 := Lib.hid (HLG.out.below (bel2 hB hA5)); have HGA := Lib.hid (show HasG (w5.alloc (.cells #[.int .i64 gid, .int .i64 gfi, .int .i64 gte, .int .i64 ght, .int .i64 ghv, .int .i64 ghc, .slice va gl.length vc] 31)) va ⟨gid, gfi, gte, ght, ghv, ghc, gl⟩ from ⟨hga.1, hga.2.below hA5⟩); have HQA := Lib.hid (World.alloc_heap_new w5 (.cells #[.int .i64 gid, .int .i64 gfi, .int .i64 gte, .int .i64 ght, .int .i64 ghv, .int .i64 ghc, .slice va gl.length vc] 31)); clear hga hB hA5 HLG))
          | (go_at_call 26; ((with_reducible refine (GSa.out _ H6.out).mono ?_); rintro r w7 ⟨xa, xc, rfl, hR, hB⟩; have H7 := Lib.hid (H6.out.below hB); have HGA7 := Lib.hid (show HasG w7 va ⟨gid, gfi, gte, ght, ghv, ghc, gl⟩ from ⟨HGA6.out.1, HGA6.out.2.below hB⟩); have HGB7 := Lib.hid (show HasG w7 vb ⟨gid, gfi, gte, ght, ghv, ghc, gl⟩ from ⟨HGB.out.1, HGB.out.2.below hB⟩); have HQA7 := Lib.hid ((hB.block _ (heap_lt HQA6.out)).trans HQA6.out); have HQB7 := Lib.hid ((hB.block _ (heap_lt HQB.out)).trans HQB.out); have HR := Lib.hid hR; clear hR hB H6 HGA6 HGB HQA6 HQB)))
        have hxs := HR.out.2.2
        go_loopw [15, 17] (fun s15 s17 wr => ∃ (q : Nat) (v : Value), q ≤ X.length ∧ s17 = .int .i64 q ∧ s15 = v ∧ wr.ownsRow w7.heap.size 49 4 v ((X.take q).filter fun x => decide (x.g = (k : Int))).length (spotCells ((X.take q).filter fun x => decide (x.g = (k : Int)))) ∧ Below w7.heap.size w7 wr) (fun _ s17 _ => X.length - (intOf s17).toNat)
        case atStart => exact ⟨0, _, by omega, rfl, rfl, World.ownsRow_nil _ _ _ _, Below.refl _ _⟩
        case round =>
          obtain ⟨q, v, hql, rfl, rfl, hown, hB⟩ := hrel
          by_cases hltq : q < X.length
          · obtain ⟨xb, xo, rfl, hxb, hxx⟩ := hxs (by omega)
            obtain ⟨c0, c1, c2, c3⟩ := spot_atL hxb hB hxx hltq
            have hqq : (q : Int) < (X.length : Int) := by omega
            have hq0 : (0 : Int) ≤ (q : Int) := by omega
            have HFT := Lib.hid (show (X.take (q + 1)).filter (fun x => decide (x.g = (k : Int))) = if X[q].g = (k : Int) then (X.take q).filter (fun x => decide (x.g = (k : Int))) ++ [X[q]] else (X.take q).filter (fun x => decide (x.g = (k : Int))) by
              rw [List.take_succ_eq_append_getElem hltq, List.filter_append]
              by_cases h : X[q].g = (k : Int)
              · rw [if_pos h, List.filter_cons_of_pos (by simpa using h)]; rfl
              · rw [if_neg h, List.filter_cons_of_neg (by simpa using h)]; simp)
            have hfl : ((X.take q).filter fun x => decide (x.g = (k : Int))).length ≤ 600000 := by
              have h1 := List.length_filter_le (fun x : SpotC => decide (x.g = (k : Int))) (X.take q)
              rw [List.length_take] at h1
              have := HXM.out
              omega
            have HROW := Lib.hid hown
            have HB := Lib.hid hB
            clear hxb hxx
            generalize X[q] = z at *
            generalize (X.take q).filter (fun x => decide (x.g = (k : Int))) = Xq at *
            obtain ⟨zg, zi, zs, zp⟩ := z
            dsimp only at *
            replace c3 : wr.cell? ⟨xb, xo + q * 4 + 2 + 1, none⟩ = _ := c3
            have c3' : wr.cell? ⟨xb, xo + q * 4 + 3, none⟩ = _ := c3
            by_cases hgk : zg = (k : Int)
            · have HFT2 := Lib.hid (show (X.take (q + 1)).filter (fun x => decide (x.g = (k : Int))) = _ from HFT.out.trans (if_pos hgk))
              have hgb : (zg == (k : Int)) = true := by rw [beq_iff_eq]; exact hgk
              clear hgk HFT
              have hws := hB.size
              clear hB
              go_wp2_with (at_builtin; (refine wpList_append_own _ rfl _ _ 34 rfl w7.heap.size 49 j0 (.agg #[.int .i64 0, .int .i64 0, .int .i64 0, .int .i64 0]) 4 32 Try.underlying34 hj hy0 hy1 hy2 rfl (by decide) _ _ _ rfl (hown.alloc _) ⟨wr.heap.size, 0, none⟩ 1 1 [.int .i64 zg, .int .i64 zi, .int .i64 zs, .int .i64 zp] rfl rfl (news_new _ _ _) (by simp [Value.oneCell']) (by unfold maxLen; omega) (by omega) (by simp; omega) ?_); intro v' w8 hown8 hgrow _; have hB8 := ((HB.out.trans ((bel_alloc (Below.refl wr.heap.size wr) (.cells #[.int .i64 zg, .int .i64 zi, .int .i64 zs, .int .i64 zp] 49)).mono HB.out.size)).grown hgrow (by simp; omega) (fun k hk => ownBlock_ge HROW.out hk)))
              exact ⟨⟨q + 1, _, by omega, by go_num, rfl, by rw [HFT2.out, List.length_append, spotCells_snoc]; exact hown8, hB8⟩, by simp [intOf]; omega⟩
            · have HFT2 := Lib.hid (show (X.take (q + 1)).filter (fun x => decide (x.g = (k : Int))) = _ from HFT.out.trans (if_neg hgk))
              have hgb : (zg == (k : Int)) = false := by rw [beq_eq_false_iff_ne]; exact hgk
              clear hgk HFT hown hB
              go_wp2
              exact ⟨⟨q + 1, _, by omega, by go_num, rfl, by rw [HFT2.out]; exact HROW.out, HB.out⟩, by simp [intOf]; omega⟩
          · obtain rfl : q = X.length := by omega
            rw [List.take_of_length_le (Nat.le_refl _)] at hown
            obtain ⟨sa, sc, rfl, hsc, hsr⟩ := rowV_own hown
            have hfl : (X.filter fun x => decide (x.g = (k : Int))).length < 1000000 := by
              have h1 := List.length_filter_le (fun x : SpotC => decide (x.g = (k : Int))) X
              have := HXM.out
              omega
            have HSR := Lib.hid hsr
            have H8 := Lib.hid (H7.out.below hB)
            have GSm := Lib.hid (fun W vx vxc vy vyc (h1 : HasG W vx ⟨gid, gfi, gte, ght, ghv, ghc, gl⟩) (h2 : HasG W vy ⟨gid, gfi, gte, ght, ghv, ghc, gl⟩) => refSame6_any gid gfi gte ght ghv ghc gl vx vxc gid gfi gte ght ghv ghc gl vy vyc W h1 h2)
            have hsg : sameG ⟨gid, gfi, gte, ght, ghv, ghc, gl⟩ ⟨gid, gfi, gte, ght, ghv, ghc, gl⟩ = true := decide_eq_true rfl
            rw [hsg] at GSm
            have HGA8 := Lib.hid (show HasG wr va ⟨gid, gfi, gte, ght, ghv, ghc, gl⟩ from ⟨HGA7.out.1, HGA7.out.2.below hB⟩)
            have HGB8 := Lib.hid (show HasG wr vb ⟨gid, gfi, gte, ght, ghv, ghc, gl⟩ from ⟨HGB7.out.1, HGB7.out.2.below hB⟩)
            generalize (X.filter fun x => decide (x.g = (k : Int))) = Y at *
            have GSS := Lib.hid (fun W a c a2 c2 (h1 : RowV W a Y.length 4 (spotCells Y)) (h2 : RowV W a2 Y.length 4 (spotCells Y)) => sameSpots_any a a2 _ _ c c2 Y Y rfl rfl hfl hfl W h1 h2)
            have hyy : decide (Y = Y) = true := decide_eq_true rfl
            rw [hyy] at GSS
            obtain ⟨x0, x1, x2, x3, x4, x5, x6, -⟩ := cells7 ((hB.block _ (heap_lt HQA7.out)).trans HQA7.out)
            obtain ⟨z0, z1, z2, z3, z4, z5, z6, -⟩ := cells7 ((hB.block _ (heap_lt HQB7.out)).trans HQB7.out)
            clear hsg hyy hown hsr hsc hfl H7 HGA7 HGB7 HQA7 HQB7 hB
            go_wp2_with (first
              | (go_at_call 16; ((with_reducible refine (GSm.out _ _ _ _ _ HGA8.out HGB8.out).mono ?_); rintro r w9 ⟨rfl, hB9⟩; have H9 := Lib.hid (H8.out.below hB9); have HS9 := Lib.hid (HSR.out.below hB9); clear hB9 H8 HSR))
              | (go_at_call 26; ((with_reducible refine (GSb.out _ H9.out).mono ?_); rintro r w10 ⟨ya2, yc2, rfl, hR2, hB⟩; have H10 := Lib.hid (H9.out.below hB); have HR10 := Lib.hid hR2; have HS10 := Lib.hid (HS9.out.below hB); clear hR2 hB H9 HS9))
              | (go_at_call 18; ((with_reducible refine (GSS.out _ _ _ _ _ HS10.out HR10.out).mono ?_); rintro r w11 ⟨rfl, hB11⟩)))
            go_ret
            exact ⟨by cases bo <;> rfl, bel2 H10.out.bel hB11⟩

set_option maxRecDepth 100000 in
theorem lifted (os : Os) (started : os.Started) (H : Type) (enc : TypeId × Value → H) :
    ReturnsInHanded {} Try.checked os 6 .any (Rows.ledgerApartSpec.pre6 enc Try.prog Try.f6 Rows.ledgerApartRow.domain false) (Rows.ledgerApartSpec.post enc Try.prog Try.f6 false true false false) := by
  refine returnsInHanded_of_change (C := Try.checked) Try.own started (by kernel_rfl) Try.func6
    (ChangeSpec.witness6 (enc := enc) (C := Try.checked) false ⟨#[], #[.slice none 0 0, .int .u8 0], []⟩ 8 (by kernel_rfl) (by kernel_rfl) (by kernel_rfl) (by kernel_rfl)) ?_
  intro W base args ds gs before hval hW _ _
  refine law_contract (T := 4) (n := 2) Try.laid Try.underlying4 rfl rfl ⟨rfl, fun H ds h => by match ds, h with | [_, _], _ => rfl⟩ (of_all (by kernel_rfl)) hW ?_
  intro ps hA
  rw [Try.params6] at hA hval
  obtain ⟨v0, vs0, d0, ds0, p0, q0, hargs, rfl, rfl, h0, r0⟩ := trodAll_cons hA
  obtain ⟨v1, vs1, d1, ds1, p1, q1, rfl, rfl, rfl, h1, r1⟩ := trodAll_cons r0
  obtain ⟨rfl, rfl, rfl⟩ := trodAll_nil r1
  obtain rfl : args = #[v0, v1] := by cases args; simp_all
  obtain ⟨s0, l0, c0, rfl⟩ := okWide_slice Try.underlying62 (hval 0 62 v0 rfl rfl)
  obtain ⟨zs0, e0, g0, w0, b0⟩ := open_lsteps h0
  obtain ⟨a1, rfl, rfl, rfl, w1⟩ := open_int Try.underlying5 (hval 1 5 v1 rfl rfl) h1
  obtain ⟨n1, rfl, b1⟩ := nat_of_u8 w1
  exact walk W s0 l0 c0 zs0 e0 g0 w0 b0 n1 b1

theorem holds : Rows.LedgerApartSaid :=
  OpenClaim.holds_of_wide 6 Try.f6 rfl rfl rfl rfl rfl rfl rfl ⟨rfl, rfl, rfl, rfl, rfl⟩ rfl rfl rfl rfl rfl (by kernel_rfl) Try.func6 (by kernel_rfl)
    (of_decide_eq_true (by kernel_rfl)) (by unfold Func.isWrapper; first | (rw [if_pos (by decide +kernel)]; kernel_rfl) | (rw [if_neg (by decide +kernel)]; exact ⟨rfl, rfl⟩))
    (fun os started H enc _ => lifted os started H enc)
end Go.Proofs.Ytloojgbkohpcfaa.ledgerApart
