/- Law ShardWhole: for every input the call answers true; its arguments read as they did. No condition. -/
import Derived.Test.YtdncdlbhgaehmaaLaw
import Derived.Test.YtdncdlbhgaehmaaKnown18
import Derived.Test.YtdncdlbhgaehmaaFew18
import Derived.Test.YtdncdlbhgaehmaaShdM
namespace Go.Proofs.Ytdncdlbhgaehmaa.shardWhole
open Go.ChangeShapes Go.WideShapes Go.ChangeAt Go.RowKit Go.Shelf
open Go.ChangeMaps (open_string shut_string)
set_option linter.unusedVariables false
attribute [local go_sem] Oper.semAt_some wide_fn wide_round_fn

theorem cnt_takeW {l : List FC} {j : Nat} (h : j < l.length) : cntC (l.take (j + 1)) = cntC (l.take j) + l[j].ps.length := by
  unfold cntC
  rw [List.take_succ_eq_append_getElem h, List.map_append, List.sum_append]
  simp
theorem cnt_bdW : ∀ L : List FV, (∀ x ∈ L, x.L.length ≤ 6) → cntC (L.map fcore) ≤ 6 * L.length
  | [], _ => Nat.le_refl _
  | x :: L, h => by
    have ih := cnt_bdW L (fun y hy => h y (List.mem_cons_of_mem _ hy))
    have hx := h x List.mem_cons_self
    unfold cntC at *
    rw [List.map_cons, List.map_cons, List.sum_cons, List.length_cons]
    show (x.L.map core).length + _ ≤ _
    rw [List.length_map]
    omega
/-- What is read of a shard's records and their parts. -/
theorem sh_part {C : Nat} {wE W : World} {n : Int} {fa : Option Addr} {flen : Nat} {L : List FV} {Sh : List SV} (hF : FoundsAt wE fa flen L) (hd : shDone C n (L.map fcore) Sh W) {i : Nat} (hi : i < Sh.length) {j : Nat} (hj : j < Sh[i].L.length) :
    0 < Sh[i].L[j].len ∧ Sh[i].L[j].len < 1000000 ∧ (∀ m, m < Sh[i].L[j].len → ∀ W', Below W.heap.size W W' → ∃ pb po g, Sh[i].L[j].a = some ⟨pb, po, none⟩ ∧ W'.cell? ⟨pb, po + m * 10, none⟩ = some (.int .i64 g) ∧ (-9223372036854775808 ≤ g ∧ g < 9223372036854775808) ∧ shOf g n = (i : Int)) ∧
      cntC ((splitC (i : Int) n (L.map fcore)).take (j + 1)) = cntC ((splitC (i : Int) n (L.map fcore)).take j) + Sh[i].L[j].len := by
  obtain ⟨h1, h2, h3⟩ := hd i hi
  have hlen : (splitC (i : Int) n (L.map fcore)).length = Sh[i].L.length := by rw [← h3, List.length_map]
  have get : (splitC (i : Int) n (L.map fcore))[j]'(by omega) = fcore Sh[i].L[j] := by simp only [← h3, List.getElem_map]
  have hmem : fcore Sh[i].L[j] ∈ splitC (i : Int) n (L.map fcore) := h3 ▸ List.mem_map_of_mem (List.getElem_mem hj)
  obtain ⟨y, hy, _, _, _, e4, e5⟩ := split_mem hmem
  obtain ⟨z, hz, rfl⟩ := List.mem_map.1 hy
  have hp := (h1.2.2.2.2 _ (List.getElem_mem hj)).1
  have e6 : Sh[i].L[j].L.map core = ownC (i : Int) n (z.L.map core) := e4
  have e7 : Sh[i].L[j].L.map core ≠ [] := e5
  have h0 : 0 < Sh[i].L[j].len := by
    rw [← hp.1]
    apply Nat.pos_of_ne_zero
    intro h
    exact e7 (by rw [List.length_eq_zero_iff.1 h]; rfl)
  refine ⟨h0, hp.2.1, fun m hm W' hW => ?_, ?_⟩
  · obtain ⟨pb, po, pa, pl, px⟩ := hp.2.2.1.2.2 h0
    have hmL : m < Sh[i].L[j].L.length := by rw [hp.1]; exact hm
    have hc : core Sh[i].L[j].L[m] ∈ ownC (i : Int) n (z.L.map core) := e6 ▸ List.mem_map_of_mem (List.getElem_mem hmL)
    unfold ownC at hc
    obtain ⟨c1, c2⟩ := List.mem_filter.1 hc
    obtain ⟨u, hu, e⟩ := List.mem_map.1 c1
    have eg : u.1.g = Sh[i].L[j].L[m].1.g := congrArg ReadC.g e
    have hb := (hF.2.2.2 z hz).2 u hu
    rw [eg] at hb
    exact ⟨pb, po, _, pa, (part_at10 pl hW px hmL).1, hb, of_decide_eq_true c2⟩
  · rw [cnt_takeW (by omega), get]
    show _ + (Sh[i].L[j].L.map core).length = _
    rw [List.length_map, hp.1]
set_option maxRecDepth 100000 in
set_option maxHeartbeats 8000000 in
theorem whole_few (w : World) (a : Option Addr) (len cap : Nat) (L : List FV) (hL : L.length = len) (hc : len ≤ cap) (hr : RowV w a len 4 (fvCells L)) (hg : ∀ x ∈ L, GoodF w x) (n : Nat) (hn : n < 256) (hf : fewFs L = true) :
    Calls Try.prog 4 #[.slice a len cap, .int .u8 n] w fun e w' => e = .returned (.bool true) ∧ Below w.heap.size w w' := by
  obtain ⟨hFA, h30⟩ := founds_at hL hr hg hf
  obtain ⟨p, hp, hp1⟩ : ∃ p : Nat, (n : Int) % 64 = (p : Int) ∧ p < 64 := ⟨n % 64, by omega, by omega⟩
  have hhe : heldI ((p : Int) + 1) = ((p + 1 : Nat) : Int) := by unfold heldI; split <;> (try split) <;> omega
  have HHE := Lib.hid hhe
  have GK := Lib.hid known18_any
  have GF := Lib.hid (fun W (hW : Below w.heap.size w W) => (show Gives Try.prog 11 #[.slice a len cap] W (.bool true) from by
    have := fewFs18_any a len cap L W hL (hr.below hW) (fun x hx => ⟨(hg x hx).1, (hg x hx).2.1, (hg x hx).2.2.1, (hg x hx).2.2.2.1.below hW, fun y hy => ⟨((hg x hx).2.2.2.2 y hy).1, ((hg x hx).2.2.2.2 y hy).2.1, ((hg x hx).2.2.2.2 y hy).2.2.1.below hW, ((hg x hx).2.2.2.2 y hy).2.2.2⟩⟩)
    rwa [hf] at this))
  have hf2 := hf
  simp only [fewFs, Bool.and_eq_true, decide_eq_true_eq, List.all_eq_true] at hf2
  have h6 : ∀ x ∈ L, x.L.length ≤ 6 := fun x hx => by
    have := ((hg x hx).has (hf2.1 x hx)).2.2
    rw [(hg x hx).2.1]; exact this
  have HLL := Lib.hid (fun x (hx : x ∈ L) => (hg x hx).2.1)
  have hbd : cntC (L.map fcore) ≤ 180 := Nat.le_trans (cnt_bdW L h6) (by omega)
  have G1 := Lib.hid (fun W (hW : Below w.heap.size w W) => split_any ((p : Int) + 1) a len cap L W (hFA.below hW))
  have HFA := Lib.hid hFA
  have HL := Lib.hid hL
  have HBD := Lib.hid hbd
  have hcs := hr.2.2
  clear hr hg hf hf2 h6 hFA hL hhe hbd
  go_enter Try.func4, Try.ntmps4
  have hbr : True := trivial
  go_wp2_with (first
    | (go_at_call 10; ((with_reducible refine (GK.out _).mono ?_); rintro e w1 ⟨rfl, hB1⟩))
    | (go_at_call 11; ((with_reducible refine (GF.out _ hB1).mono ?_); rintro e w2 ⟨rfl, hB2⟩; have hX2 := bel2 hB1 hB2))
    | (go_at_call 12; ((with_reducible refine (G1.out _ hX2).mono ?_); rintro e ws ⟨R, Sh, rfl, hl, hR, hRb, hd, hB3⟩; have hSp : (Sh.length : Int) = (p : Int) + 1 := (by rw [hl, HHE.out]; push_cast; rfl); have HR := Lib.hid hR; have HD := Lib.hid hd; have HSP := Lib.hid hSp; have hX3 := bel2 hX2 hB3; have HX3 := Lib.hid hX3; clear hl hR hRb hd hB3)))
  have hXs := HX3.out
  go_loopw [7, 9] (fun c i wr => ∃ k t : Nat, k ≤ len ∧ t = cntC ((L.map fcore).take k) ∧ i = .int .i64 k ∧ c = .int .i64 (t : Int) ∧ Below ws.heap.size ws wr) (fun _ i _ => len - (intOf i).toNat)
  case atStart => exact ⟨0, 0, Nat.zero_le _, rfl, rfl, rfl, Below.refl _ _⟩
  case round =>
    obtain ⟨k, t, hk, ht, rfl, rfl, hB⟩ := hrel
    have HT := Lib.hid ht
    clear ht
    by_cases hlt : k < len
    · obtain ⟨b, off, rfl, hb, hx⟩ := hcs (by omega)
      have hkl : k < L.length := by rw [HL.out]; exact hlt
      obtain ⟨d0, d1, d2, d3⟩ := fv_at4 hb (bel2 hXs hB) hx hkl
      have hle := cnt_take_le (L.map fcore) (k + 1)
      have hst := cnt_takeW (l := L.map fcore) (j := k) (by rw [List.length_map]; exact hkl)
      have hxl := HLL.out L[k] (List.getElem_mem hkl)
      have hbd := HBD.out
      have hT := HT.out
      rw [List.getElem_map] at hst
      have hst2 : cntC ((L.map fcore).take (k + 1)) = cntC ((L.map fcore).take k) + L[k].len := by rw [hst, ← hxl]; show _ + (L[k].L.map core).length = _; rw [List.length_map]
      obtain ⟨t', ht'⟩ : ∃ t' : Nat, t' = t + L[k].len := ⟨_, rfl⟩
      have hw : IntKind.i64.wrap ((t : Int) + (L[k].len : Int)) = (t' : Int) := (IntWalk.i64_in _ (by omega)).trans (by omega)
      have HT2 := Lib.hid (show t' = cntC ((L.map fcore).take (k + 1)) by omega)
      clear hst hst2 hxl hbd hT hle ht' hx
      generalize L[k] = x at *
      go_wp2
      exact ⟨⟨k + 1, t', by omega, HT2.out, by go_num, rfl, hB⟩, by simp [intOf]; omega⟩
    · obtain rfl : k = len := by omega
      have HTT := Lib.hid (show t = cntC (L.map fcore) from by have h := HT.out; rwa [List.take_of_length_le (by rw [List.length_map, HL.out]; exact Nat.le_refl _)] at h)
      clear hcs
      obtain ⟨f, hf⟩ : ∃ f : Nat → Nat, f = fun s : Nat => cntC (splitC (s : Int) ((p : Int) + 1) (L.map fcore)) := ⟨_, rfl⟩
      have HTOT := Lib.hid (show shSum f Sh.length = cntC (L.map fcore) from by rw [hf, show Sh.length = p + 1 by have := HSP.out; omega, split_sum HHE.out])
      have HF := Lib.hid (fun i => congrFun hf i)
      have hL64 : Sh.length ≤ 64 := by have := HSP.out; omega
      have HPA := Lib.hid (fun i (hi : i < Sh.length) j (hj : j < Sh[i].L.length) => sh_part HFA.out HD.out hi hj)
      have HCE := Lib.hid (fun i (hi : i < Sh.length) W (hW : Below ws.heap.size ws W) => (hW.cell (p := ⟨R, i, none⟩) (heap_lt HR.out)).trans (shRow_at HR.out hi))
      have HCF := Lib.hid (fun i (hi : i < Sh.length) j (hj : j < Sh[i].L.length) W (hW : Below ws.heap.size ws W) => fnew_at (HD.out i hi).1 hW hj)
      have HLN := Lib.hid (fun i (hi : i < Sh.length) => (show (splitC (i : Int) ((p : Int) + 1) (L.map fcore)).length = Sh[i].L.length ∧ Sh[i].L.length < 1000000 from ⟨by rw [← (HD.out i hi).2.2, List.length_map], (HD.out i hi).1.2.1⟩))
      clear hf hSp
      obtain ⟨wp, rfl⟩ : ∃ wp : World, wp = wr := ⟨_, rfl⟩
      go_wp2
      go_loopw [8, 10] (fun c i wr => ∃ k2 t2 : Nat, k2 ≤ Sh.length ∧ t2 = shSum f k2 ∧ i = .int .i64 k2 ∧ c = .int .i64 (t2 : Int) ∧ Below ws.heap.size ws wr) (fun _ i _ => Sh.length - (intOf i).toNat)
      case atStart => exact ⟨0, 0, Nat.zero_le _, rfl, rfl, rfl, hB⟩
      case round =>
        clear hB
        obtain ⟨q, t2, hq, ht2, rfl, rfl, hB⟩ := hrel
        have HT2 := Lib.hid ht2
        clear ht2
        by_cases hlt2 : q < Sh.length
        · have hlt3 : (q : Int) < (Sh.length : Int) := by omega
          have hlt4 : (q : Int) < (p : Int) + 1 := by have := HSP.out; omega
          have hle : shSum f q + f q ≤ 180 := Nat.le_trans (by rw [← shSum]; exact shSum_le (K := Sh.length) (by omega)) (by rw [HTOT.out]; exact HBD.out)
          obtain ⟨sa, sc, sL, hS, hX, hY, hN⟩ : ∃ (sa : Option Addr) (sc : Nat) (sL : List FV), (∀ W, Below ws.heap.size ws W → W.cell? ⟨R, q, none⟩ = some (.slice sa sL.length sc)) ∧
              (∀ (j : Nat) (hj : j < sL.length), 0 < sL[j].len ∧ sL[j].len < 1000000 ∧ (∀ m, m < sL[j].len → ∀ W', Below ws.heap.size ws W' → ∃ pb po g, sL[j].a = some ⟨pb, po, none⟩ ∧ W'.cell? ⟨pb, po + m * 10, none⟩ = some (.int .i64 g) ∧ (-9223372036854775808 ≤ g ∧ g < 9223372036854775808) ∧ shOf g ((p : Int) + 1) = (q : Int)) ∧
                cntC ((splitC (q : Int) ((p : Int) + 1) (L.map fcore)).take (j + 1)) = cntC ((splitC (q : Int) ((p : Int) + 1) (L.map fcore)).take j) + sL[j].len) ∧
              (∀ (j : Nat) (hj : j < sL.length) (W : World), Below ws.heap.size ws W → ∃ b off, sa = some ⟨b, off, none⟩ ∧ b < ws.heap.size ∧ W.cell? ⟨b, off + j * 4, none⟩ = some (.int .i64 sL[j].q) ∧ W.cell? ⟨b, off + j * 4 + 1, none⟩ = some (.slice sL[j].a sL[j].len sL[j].cap) ∧ W.cell? ⟨b, off + j * 4 + 2, none⟩ = some (.int .i64 sL[j].s) ∧ W.cell? ⟨b, off + j * 4 + 3, none⟩ = some (.int .i64 sL[j].t)) ∧
              ((splitC (q : Int) ((p : Int) + 1) (L.map fcore)).length = sL.length ∧ sL.length < 1000000) := ⟨Sh[q].a, Sh[q].c, Sh[q].L, HCE.out q hlt2, HPA.out q hlt2, HCF.out q hlt2, HLN.out q hlt2⟩
          obtain ⟨G, hG⟩ : ∃ G : Nat → Nat, G = fun j => cntC ((splitC (q : Int) ((p : Int) + 1) (L.map fcore)).take j) := ⟨_, rfl⟩
          have HG0 := Lib.hid (show G 0 = 0 from by rw [hG]; rfl)
          have HGn := Lib.hid (show G sL.length = f q from by rw [hG, HF.out q]; show cntC (List.take _ _) = _; rw [List.take_of_length_le (by rw [hN.1]; exact Nat.le_refl _)])
          have HGl := Lib.hid (fun j => (show G j ≤ f q from by rw [hG, HF.out q]; exact cnt_take_le _ j))
          have HX := Lib.hid (fun j (hj : j < sL.length) => (show 0 < sL[j].len ∧ sL[j].len < 1000000 ∧ (∀ m, m < sL[j].len → ∀ W', Below ws.heap.size ws W' → ∃ pb po g, sL[j].a = some ⟨pb, po, none⟩ ∧ W'.cell? ⟨pb, po + m * 10, none⟩ = some (.int .i64 g) ∧ (-9223372036854775808 ≤ g ∧ g < 9223372036854775808) ∧ shOf g ((p : Int) + 1) = (q : Int)) ∧ G (j + 1) = G j + sL[j].len from by
            obtain ⟨q1, q2, q3, q4⟩ := hX j hj
            exact ⟨q1, q2, q3, by rw [hG]; exact q4⟩))
          have HS := Lib.hid hS
          have HY := Lib.hid hY
          have hsl := hN.2
          have HLE := Lib.hid hle
          clear hG hS hX hY hN hle
          obtain ⟨wo, rfl⟩ : ∃ wo : World, wo = wr := ⟨_, rfl⟩
          go_wp2
          go_loopw [8, 11] (fun c j wr => ∃ m u : Nat, m ≤ sL.length ∧ u = t2 + G m ∧ j = .int .i64 m ∧ c = .int .i64 (u : Int) ∧ Below ws.heap.size ws wr) (fun _ j _ => sL.length - (intOf j).toNat)
          case atStart => exact ⟨0, t2, Nat.zero_le _, by rw [HG0.out]; rfl, rfl, rfl, hB⟩
          case round =>
            clear hB
            obtain ⟨m, u, hm, hu, rfl, rfl, hB⟩ := hrel
            have HU := Lib.hid hu
            clear hu
            have kS := HS.out wr hB
            by_cases hmt : m < sL.length
            · have hmt' : (m : Int) < (sL.length : Int) := by omega
              obtain ⟨q1, q2, q3, q4⟩ := HX.out m hmt
              have hgl := HGl.out (m + 1)
              have hle := HLE.out
              have hT := HT2.out
              have hU := HU.out
              have hub : u + sL[m].len ≤ 180 := by omega
              have HU2 := Lib.hid (show u + sL[m].len = t2 + G (m + 1) by omega)
              have hYm := HY.out m hmt
              have HPP := Lib.hid q3
              clear q3 q4 hgl hle hT hU
              generalize sL[m] = x at *
              obtain ⟨xq, xa, xlen, xcap, xL, xs, xt⟩ := x
              dsimp only at *
              have HYm := Lib.hid hYm
              obtain ⟨b, off, rfl, hb, c0, c1, c2, c3⟩ := hYm wr hB
              have hx0 : ¬ xlen = 0 := by omega
              have hx1 : ¬ (xlen : Int) = 0 := by omega
              clear hYm
              obtain ⟨wq, rfl⟩ : ∃ wq : World, wq = wr := ⟨_, rfl⟩
              go_wp2
              clear kS c0 c1 c2 c3 hx0 hx1
              generalize ((xlen : Int) == 0) = bz
              have HQ1 := Lib.hid q1
              clear q1
              go_loopw [8, 12] (fun c y wr => ∃ z v : Nat, z ≤ xlen ∧ v = u + z ∧ y = .int .i64 z ∧ c = .int .i64 (v : Int) ∧ Below ws.heap.size ws wr) (fun _ y _ => xlen - (intOf y).toNat)
              case atStart => exact ⟨0, u, Nat.zero_le _, rfl, rfl, rfl, hB⟩
              case round =>
                clear hB
                obtain ⟨z, v, hz, hv, rfl, rfl, hB⟩ := hrel
                have HV := Lib.hid hv
                have hv9 : v ≤ 1000 := by omega
                clear hv
                have kS := HS.out wr hB
                obtain ⟨b', off', hsb, _, c0, c1, c2, c3⟩ := HYm.out wr hB
                cases hsb
                by_cases hzt : z < xlen
                · have hzt' : (z : Int) < (xlen : Int) := by omega
                  obtain ⟨pb, po, g, rfl, cg, hgb, hgo⟩ := HPP.out z hzt wr hB
                  have GO := Lib.hid (show Gives Try.prog 15 #[.int .i64 g, .int .i64 ((p : Int) + 1)] wr (.int .i64 (q : Int)) from by
                    have := shOf_any g ((p : Int) + 1) hgb wr
                    rwa [hgo] at this)
                  clear hgo
                  obtain ⟨v', hv'⟩ : ∃ v' : Nat, v' = v + 1 := ⟨_, rfl⟩
                  have hw : IntKind.i64.wrap ((v : Int) + 1) = (v' : Int) := (IntWalk.i64_in _ (by omega)).trans (by omega)
                  have HV2 := Lib.hid (show v' = u + (z + 1) by have := HV.out; omega)
                  clear hv'
                  go_wp2_with (go_at_call 15; ((with_reducible refine GO.out.mono ?_); rintro e w7 ⟨rfl, hB7⟩; have hB8 := bel2 hB hB7))
                  go_roundw
                  case rel => exact ⟨z + 1, v', by omega, HV2.out, by go_num, rfl, hB8⟩
                  case measure => simp [intOf]; omega
                · obtain rfl : z = xlen := by omega
                  have HV3 := Lib.hid (show v = t2 + G (m + 1) by have h1 := HV.out; have h2 := HU2.out; omega)
                  go_wp2
                  exact ⟨⟨m + 1, v, by omega, HV3.out, by go_num, rfl, hB⟩, by simp [intOf]; omega⟩
            · obtain rfl : m = sL.length := by omega
              have HV := Lib.hid (show u = shSum f (q + 1) from by have h1 := HU.out; have h2 := HT2.out; have h3 := HGn.out; rw [shSum]; omega)
              go_wp2
              exact ⟨⟨q + 1, u, by omega, HV.out, by go_num, rfl, hB⟩, by simp [intOf]; omega⟩
        · obtain rfl : q = Sh.length := by omega
          obtain rfl : t2 = t := by have h1 := HT2.out; have h2 := HTOT.out; have h3 := HTT.out; omega
          have hge : ¬ ((Sh.length : Int) < (p : Int) + 1) := by have := HSP.out; omega
          have HE := Lib.hid (bel2 HX3.out hB)
          clear hB
          go_wp2
          go_ret
          exact ⟨by simp, HE.out⟩
set_option maxRecDepth 100000 in
theorem walk (w : World) (a : Option Addr) (len cap : Nat) (L : List FV) (hL : L.length = len) (hc : len ≤ cap) (hr : RowV w a len 4 (fvCells L)) (hg : ∀ x ∈ L, GoodF w x) (n : Nat) (hn : n < 256) :
    Calls Try.prog 4 #[.slice a len cap, .int .u8 n] w fun e w' => e = .returned (.bool true) ∧ Below w.heap.size w w' := by
  cases hf : fewFs L
  · have GK := Lib.hid known18_any
    have GF := Lib.hid (fun W (hW : Below w.heap.size w W) => (show Gives Try.prog 11 #[.slice a len cap] W (.bool false) from by
      have := fewFs18_any a len cap L W hL (hr.below hW) (fun x hx => ⟨(hg x hx).1, (hg x hx).2.1, (hg x hx).2.2.1, (hg x hx).2.2.2.1.below hW, fun y hy => ⟨((hg x hx).2.2.2.2 y hy).1, ((hg x hx).2.2.2.2 y hy).2.1, ((hg x hx).2.2.2.2 y hy).2.2.1.below hW, ((hg x hx).2.2.2.2 y hy).2.2.2⟩⟩)
      rwa [hf] at this))
    clear hr hg hf
    go_enter Try.func4, Try.ntmps4
    go_wp2_with (first
      | (go_at_call 10; ((with_reducible refine (GK.out _).mono ?_); rintro e w1 ⟨rfl, hB1⟩))
      | (go_at_call 11; ((with_reducible refine (GF.out _ hB1).mono ?_); rintro e w2 ⟨rfl, hB2⟩; have hX2 := bel2 hB1 hB2)))
    go_ret
    exact ⟨rfl, hX2⟩
  · exact whole_few w a len cap L hL hc hr hg n hn hf

set_option maxRecDepth 100000 in
theorem lifted (os : Os) (started : os.Started) (H : Type) (enc : TypeId × Value → H) :
    ReturnsInHanded {} Try.checked os 4 .any (Rows.shardWholeSpec.pre6 enc Try.prog Try.f4 Rows.shardWholeRow.domain false) (Rows.shardWholeSpec.post enc Try.prog Try.f4 false true false false) := by
  refine returnsInHanded_of_change (C := Try.checked) Try.own started (by kernel_rfl) Try.func4
    (ChangeSpec.witness6 (enc := enc) (C := Try.checked) false ⟨#[], #[.slice none 0 0, .int .u8 0], []⟩ 8 (by kernel_rfl) (by kernel_rfl) (by kernel_rfl) (by kernel_rfl)) ?_
  intro W base args ds gs before hval hW _ _
  refine law_contract (T := 4) (n := 2) Try.laid Try.underlying4 rfl rfl ⟨rfl, fun H ds h => by match ds, h with | [_, _], _ => rfl⟩ (of_all (by kernel_rfl)) hW ?_
  intro ps hA
  rw [Try.params4] at hA hval
  obtain ⟨v0, vs0, d0, ds0, p0, q0, hargs, rfl, rfl, h0, r0⟩ := trodAll_cons hA
  obtain ⟨v1, vs1, d1, ds1, p1, q1, rfl, rfl, rfl, h1, r1⟩ := trodAll_cons r0
  obtain ⟨rfl, rfl, rfl⟩ := trodAll_nil r1
  obtain rfl : args = #[v0, v1] := by cases args; simp_all
  obtain ⟨s0, l0, c0, rfl⟩ := okWide_slice Try.underlying22 (hval 0 22 v0 rfl rfl)
  obtain ⟨zs0, e0, g0, w0, b0⟩ := open_founds h0
  obtain ⟨a1, rfl, rfl, rfl, w1⟩ := open_int Try.underlying5 (hval 1 5 v1 rfl rfl) h1
  obtain ⟨n1, rfl, b1⟩ := nat_of_u8 w1
  exact walk W s0 l0 c0 zs0 e0 g0 w0 b0 n1 b1

theorem holds : Rows.ShardWholeSaid :=
  OpenClaim.holds_of_wide 4 Try.f4 rfl rfl rfl rfl rfl rfl rfl ⟨rfl, rfl, rfl, rfl, rfl⟩ rfl rfl rfl rfl rfl (by kernel_rfl) Try.func4 (by kernel_rfl)
    (of_decide_eq_true (by kernel_rfl)) (by unfold Func.isWrapper; first | (rw [if_pos (by decide +kernel)]; kernel_rfl) | (rw [if_neg (by decide +kernel)]; exact ⟨rfl, rfl⟩))
    (fun os started H enc _ => lifted os started H enc)
end Go.Proofs.Ytdncdlbhgaehmaa.shardWhole
