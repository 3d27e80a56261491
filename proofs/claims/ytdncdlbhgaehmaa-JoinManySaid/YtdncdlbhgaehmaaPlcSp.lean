/- PlcI, PlcSp: in one text. -/
import Derived.Test.YtdncdlbhgaehmaaPlcS
import Derived.Test.YtdncdlbhgaehmaaIterK
import Derived.Test.YtdncdlbhgaehmaaLive
import Derived.Test.YtdncdlbhgaehmaaRecOpen
/- The iterator of package place's inOrder. -/
namespace Go.Proofs.Ytdncdlbhgaehmaa
open Go.RowKit Go.Shelf
set_option linter.unusedVariables false
set_option linter.unusedSimpArgs false
attribute [local go_sem] Oper.semAt_some wide_fn wide_round_fn

abbrev SpotC.sval (x : SpotC) : Value := .agg #[.int .i64 x.g, .int .i64 x.i, .int .i64 x.s, .int .i64 x.p]
def plcS (F : List LV) (i : Int) : Int := match getZ LV.k F i with | some x => x.s | none => 0
def plcT (F : List LV) (i : Int) : Int := match getZ LV.k F i with | some x => x.t | none => 0
theorem lookP_eq (F : List LV) (i : Int) : lookP F i = .agg #[.int .i64 (plcS F i), .int .i64 (plcT F i)] := by
  unfold lookP plcS plcT
  cases getZ LV.k F i <;> rfl
def spotOf (g : GM) (F : List LV) (i : Int) : SpotC := ⟨g.id, i, plcS F i, plcT F i⟩
def hasK (F : List LV) (i : Int) : Bool := (getZ LV.k F i).isSome
/-- All spots, in order: from the j-th of the two ends on. -/
def ordR (g : GM) (F : List LV) : Nat → List SpotC
  | 0 => (if hasK F (-1) = true then [spotOf g F (-1)] else []) ++ ((if hasK F 0 = true then [spotOf g F 0] else []) ++ g.l.map (fun e => spotOf g F e.i))
  | 1 => (if hasK F 0 = true then [spotOf g F 0] else []) ++ g.l.map (fun e => spotOf g F e.i)
  | _ => g.l.map (fun e => spotOf g F e.i)
def spotsL (g : GM) (F : List LV) : List SpotC := ordR g F 0
theorem LogAt.rd {W W' : World} {B d m : Nat} {S : Nat → Prop} {g : GM} {a : Option Addr} {c : Nat} {F : List LV} (h : LogAt W d m g a c F) (hR : Rd B S W W') (hd : S d) (hm : S m) (hS : ∀ k, inBlkE a g.l.length k → S k) : LogAt W' d m g a c F := by
  obtain ⟨es, clock, h1, r⟩ := h.2.1
  exact ⟨hR.get h.1 hd, ⟨es, clock, hR.get h1 hm, r⟩, ⟨h.2.2.1.1, rowV_rd h.2.2.1.2 hR hS⟩, h.2.2.2⟩
theorem inBlkL_ltP {W : World} {a : Option Addr} {n sz : Nat} {xs : List Value} (h : RowV W a n sz xs) {k : Nat} (hk : inBlkE a n k) : k < W.heap.size := by
  obtain ⟨b, off, e, h0, rfl⟩ := hk
  obtain ⟨b', off', e', hb, _⟩ := h.2.2 h0
  rw [e] at e'
  cases e'
  exact hb
theorem LogAt.ent {W : World} {d m : Nat} {g : GM} {a : Option Addr} {c : Nat} {F : List LV} (h : LogAt W d m g a c F) {k : Nat} (hk : inBlkE a g.l.length k) : k < W.heap.size := inBlkL_ltP h.2.2.1.2 hk
set_option maxRecDepth 100000 in
set_option maxHeartbeats 16000000 in
theorem ord_iter (Bl d m : Nat) (g : GM) (a : Option Addr) (c : Nat) (F : List LV) (S V : Nat → Prop) (hei : ∀ e ∈ g.l, (Lit.int .i64 e.i).wf = true) (w0 : World) (hbl : w0.heap[Bl]? = some (.cells #[.pointer (some ⟨d, 0, none⟩)] 91 (0, 0))) (hg : LogAt w0 d m g a c F)
    (hS : S Bl ∧ S d ∧ S m ∧ ∀ k, inBlkE a g.l.length k → S k) (hV : ¬ V Bl ∧ ¬ V d ∧ ¬ V m ∧ ∀ k, inBlkE a g.l.length k → ¬ V k) (hVl : ∀ k, V k → k < w0.heap.size) :
    IterV Try.prog 108 #[.pointer (some ⟨Bl, 0, none⟩)] (fun x : SpotC => #[x.sval]) (spotsL g F) S V w0 := by
  intro l J Jx W hW hlw hlW hJs _ hY h0
  have hgW := hg.rd hW hS.2.1 hS.2.2.1 hS.2.2.2
  have hbW := hW.get hbl hS.1
  have hent := fun k (hk : inBlkE a g.l.length k) => hg.ent hk
  have hdl := heap_lt hg.1
  have hml := hg.2.1.lt
  have hbll := heap_lt hbl
  have hWs := hW.size
  have hA := bel_alloc (Below.refl W.heap.size W) (.cells #[.int .i64 (-1), .int .i64 0] 3)
  have hR1 := World.alloc_heap_new W (.cells #[.int .i64 (-1), .int .i64 0] 3)
  have hz1 : (W.alloc (.cells #[.int .i64 (-1), .int .i64 0] 3)).heap.size = W.heap.size + 1 := by simp
  have H0 := Lib.hid (h0 _ hA)
  have hgA := hgW.below hA
  have hbA := (hA.block _ (heap_lt hbW)).trans hbW
  have HEI := Lib.hid hei
  have HGM := Lib.hid hg.2.2.1.1
  clear h0 hW hg hbl hgW hbW hA hei
  refine callsIn_of_wp Try.func108 rfl trivial ?_ rfl
  simp only [Try.ntmps108, List.size_toArray, List.length_cons, List.length_nil, Nat.reduceAdd, Nat.reduceSub, Array.replicate_succ, Array.replicate_zero, List.push_toArray, List.append_toArray, List.nil_append, List.cons_append]
  have HZ1 := Lib.hid hz1
  clear hz1
  gi_wp2
  generalize W.alloc (.cells #[.int .i64 (-1), .int .i64 0] 3) = wa at *
  have HOLD := Lib.hid (show ∀ x, x < w0.heap.size → ¬ V x → ((x < wa.heap.size ∧ ¬ V x) ∧ x ≠ l) from fun x hx hv => ⟨⟨by have := HZ1.out; omega, hv⟩, by omega⟩)
  have HR1S : (W.heap.size < wa.heap.size ∧ ¬ V W.heap.size) ∧ W.heap.size ≠ l := ⟨⟨by have := HZ1.out; omega, fun hv => by have := hVl _ hv; omega⟩, by omega⟩
  have HGW := Lib.hid (fun W' (hR : Rd W.heap.size (fun k => (k < wa.heap.size ∧ ¬ V k) ∧ k ≠ l) wa W') => hgA.rd hR (HOLD.out d hdl hV.2.1) (HOLD.out m hml hV.2.2.1) (fun k hk => HOLD.out k (hent k hk) (hV.2.2.2 k hk)))
  have HLW := Lib.hid (fun W' (hR : Rd W.heap.size (fun k => (k < wa.heap.size ∧ ¬ V k) ∧ k ≠ l) wa W') => (hR.get hbA (HOLD.out Bl hbll hV.1) : W'.heap[Bl]? = some (.cells #[.pointer (some ⟨d, 0, none⟩)] 91 (0, 0))))
  have HRW := Lib.hid (fun W' (hR : Rd W.heap.size (fun k => (k < wa.heap.size ∧ ¬ V k) ∧ k ≠ l) wa W') => (hR.get hR1 HR1S : W'.heap[W.heap.size]? = some (.cells #[.int .i64 (-1), .int .i64 0] 3 (0, 0))))
  have hWa : W.heap.size ≤ wa.heap.size := by have := HZ1.out; omega
  clear hgA hbA hR1 hS hV hVl hdl hml hbll hent HR1S
  gi_loopw [11] (fun q wr => ∃ (j : Nat) (pre : List SpotC), j ≤ 2 ∧ q = .int .i64 j ∧ spotsL g F = pre ++ ordR g F j ∧ J wa.heap.size pre wr ∧ Rd W.heap.size (fun k => (k < wa.heap.size ∧ ¬ V k) ∧ k ≠ l) wa wr) (fun q _ => 2 - (intOf q).toNat)
  case atStart => exact ⟨0, [], by omega, rfl, rfl, H0.out, Rd.refl _ _ _⟩
  case round =>
    obtain ⟨j, pre, hj, rfl, hM, hJ, hR⟩ := hrel
    have HM := Lib.hid hM
    clear hM
    have hgr := HGW.out wr hR
    have hbr := HLW.out wr hR
    have hrr := HRW.out wr hR
    have kl : wr.cell? ⟨Bl, 0, none⟩ = some (.pointer (some ⟨d, 0, none⟩)) := cell_of_row _ _ 0 _ _ _ hbr
    have k7 : wr.cell? ⟨d, 7, none⟩ = some (.map (some m)) := (cells8 hgr.1).2.2.2.2.2.2.2
    have k6 : wr.cell? ⟨d, 6, none⟩ = some (.slice a g.l.length c) := (cells8 hgr.1).2.2.2.2.2.2.1
    have HGR := Lib.hid hgr
    have HBR := Lib.hid hbr
    by_cases hj0 : j = 0
    · subst hj0
      have kr : wr.cell? ⟨W.heap.size, 0, none⟩ = some (.int .i64 (-1)) := cell_of_row _ _ 0 _ _ _ hrr
      have hlk := HasPl.look hgr.2.1 (-1) (by decide)
      rw [lookP_eq] at hlk
      have hAx := bel_alloc (Below.refl wr.heap.size wr) (.cells #[.int .i64 (plcS F (-1)), .int .i64 (plcT F (-1))] 34)
      have kl2 : (wr.alloc (.cells #[.int .i64 (plcS F (-1)), .int .i64 (plcT F (-1))] 34)).cell? ⟨Bl, 0, none⟩ = some (.pointer (some ⟨d, 0, none⟩)) := cell_of_row _ _ 0 _ _ _ ((hAx.block _ (heap_lt hbr)).trans hbr)
      have GS := Lib.hid (pspot_any (hgr.below hAx) (-1) (by decide) (plcS F (-1)) (plcT F (-1)) (lookP_eq F (-1)))
      have HAx := Lib.hid hAx
      have HJr := Lib.hid hJ
      have HRr := Lib.hid hR
      clear hgr hbr hrr hAx hJ hR k6
      cases hhk : (getZ LV.k F (-1)).isSome
      · rw [hhk] at hlk
        have HX := Lib.hid (HM.out.trans (show pre ++ ordR g F 0 = pre ++ ordR g F 1 by show pre ++ ((if hasK F (-1) = true then _ else _) ++ _) = _; rw [show hasK F (-1) = false from hhk]; rfl))
        clear hhk
        gi_wp2
        clear hlk kl k7 kr kl2
        go_roundw
        case rel => exact ⟨1, pre, by omega, by go_num, HX.out, hJs _ _ _ _ HJr.out (Moves.below HAx.out), HRr.out.trans (.below HAx.out)⟩
        case measure => simp [intOf]
      · rw [hhk] at hlk
        have HX := Lib.hid (HM.out.trans (show pre ++ ordR g F 0 = pre ++ spotOf g F (-1) :: ordR g F 1 by show pre ++ ((if hasK F (-1) = true then _ else _) ++ _) = _; rw [show hasK F (-1) = true from hhk]; rfl))
        clear hhk
        gi_wp2_with (gi_at_call 109; refine (callsIn_wide.2 GS.out).mono ?_; rintro e1 w3 ⟨rfl, hB3⟩; have hB3x := bel2 HAx.out hB3; have HB3 := Lib.hid hB3x; obtain ⟨fn, tmps, assign, body, hy, hR1⟩ := hY wa.heap.size pre _ _ w3 hWa HX.out (hJs _ _ _ _ HJr.out (Moves.below hB3x)); dsimp only [SpotC.sval, spotOf] at hy; clear hB3 hB3x hlk kl k7 kr kl2)
        refine (roundIn_wide_n hR1).mono ?_
        rintro e W3 (⟨rfl, hJ3, hk3⟩ | ⟨rfl, hJx3⟩)
        · clear hy hR1
          gi_wp2
          go_roundw
          case rel => exact ⟨1, pre ++ [spotOf g F (-1)], by omega, by go_num, by rw [HX.out, List.append_assoc]; rfl, hJ3, (HRr.out.trans (.below HB3.out)).trans hk3⟩
          case measure => simp [intOf]
        · gi_wp2
          refine bodyPost_ret (results_none rfl _ _ _) rfl ?_
          exact ⟨⟨_, rfl⟩, .inr ⟨_, _, _, HX.out, hJx3⟩⟩
    · by_cases hj1 : j = 1
      · subst hj1
        have kr : wr.cell? ⟨W.heap.size, 1, none⟩ = some (.int .i64 0) := cell_of_row _ _ 1 _ _ _ hrr
        have hlk := HasPl.look hgr.2.1 0 (by decide)
        rw [lookP_eq] at hlk
        have hAx := bel_alloc (Below.refl wr.heap.size wr) (.cells #[.int .i64 (plcS F 0), .int .i64 (plcT F 0)] 34)
        have kl2 : (wr.alloc (.cells #[.int .i64 (plcS F 0), .int .i64 (plcT F 0)] 34)).cell? ⟨Bl, 0, none⟩ = some (.pointer (some ⟨d, 0, none⟩)) := cell_of_row _ _ 0 _ _ _ ((hAx.block _ (heap_lt hbr)).trans hbr)
        have GS := Lib.hid (pspot_any (hgr.below hAx) 0 (by decide) (plcS F 0) (plcT F 0) (lookP_eq F 0))
        have HAx := Lib.hid hAx
        have HJr := Lib.hid hJ
        have HRr := Lib.hid hR
        clear hgr hbr hrr hAx hJ hR k6
        cases hhk : (getZ LV.k F 0).isSome
        · rw [hhk] at hlk
          have HX := Lib.hid (HM.out.trans (show pre ++ ordR g F 1 = pre ++ ordR g F 2 by show pre ++ ((if hasK F 0 = true then _ else _) ++ _) = _; rw [show hasK F 0 = false from hhk]; rfl))
          clear hhk
          gi_wp2
          clear hlk kl k7 kr kl2
          go_roundw
          case rel => exact ⟨2, pre, by omega, by go_num, HX.out, hJs _ _ _ _ HJr.out (Moves.below HAx.out), HRr.out.trans (.below HAx.out)⟩
          case measure => simp [intOf]
        · rw [hhk] at hlk
          have HX := Lib.hid (HM.out.trans (show pre ++ ordR g F 1 = pre ++ spotOf g F 0 :: ordR g F 2 by show pre ++ ((if hasK F 0 = true then _ else _) ++ _) = _; rw [show hasK F 0 = true from hhk]; rfl))
          clear hhk
          gi_wp2_with (gi_at_call 109; refine (callsIn_wide.2 GS.out).mono ?_; rintro e1 w3 ⟨rfl, hB3⟩; have hB3x := bel2 HAx.out hB3; have HB3 := Lib.hid hB3x; obtain ⟨fn, tmps, assign, body, hy, hR1⟩ := hY wa.heap.size pre _ _ w3 hWa HX.out (hJs _ _ _ _ HJr.out (Moves.below hB3x)); dsimp only [SpotC.sval, spotOf] at hy; clear hB3 hB3x hlk kl k7 kr kl2)
          refine (roundIn_wide_n hR1).mono ?_
          rintro e W3 (⟨rfl, hJ3, hk3⟩ | ⟨rfl, hJx3⟩)
          · clear hy hR1
            gi_wp2
            go_roundw
            case rel => exact ⟨2, pre ++ [spotOf g F 0], by omega, by go_num, by rw [HX.out, List.append_assoc]; rfl, hJ3, (HRr.out.trans (.below HB3.out)).trans hk3⟩
            case measure => simp [intOf]
          · gi_wp2
            refine bodyPost_ret (results_none rfl _ _ _) rfl ?_
            exact ⟨⟨_, rfl⟩, .inr ⟨_, _, _, HX.out, hJx3⟩⟩
      · have hj2 : j = 2 := by omega
        have hnl : ¬ (j : Int) < 2 := by omega
        clear hgr hbr hrr
        have hJ0 := hJ
        have hR0 := hR
        have HM0 := Lib.hid (show spotsL g F = pre ++ (g.l.drop 0).map (fun e => spotOf g F e.i) from by have h := HM.out; rw [hj2] at h; exact h)
        clear hj2 HM
        clear hj hj0 hj1 hJ hR k7
        gi_wp2
        clear kl k6 hnl
        gi_loopw [40] (fun q wr => ∃ (i : Nat) (pre : List SpotC), i ≤ g.l.length ∧ q = .int .i64 i ∧ spotsL g F = pre ++ (g.l.drop i).map (fun e => spotOf g F e.i) ∧ J wa.heap.size pre wr ∧ Rd W.heap.size (fun k => (k < wa.heap.size ∧ ¬ V k) ∧ k ≠ l) wa wr) (fun q _ => g.l.length - (intOf q).toNat)
        case atStart => exact ⟨0, pre, by omega, rfl, HM0.out, hJ0, hR0⟩
        case round =>
          clear hJ0 hR0
          obtain ⟨i, pre, hi, rfl, hM, hJ, hR⟩ := hrel
          have HM := Lib.hid hM
          clear hM
          have hgm := HGM.out
          by_cases hlt : i < g.l.length
          · have hgr := HGW.out wr hR
            have hbr := HLW.out wr hR
            obtain ⟨gb, go, hga, hgb, hgx⟩ := hgr.2.2.1.2.2.2 (by omega)
            obtain ⟨c0, c1, c2⟩ := entry_at hgb (Below.refl _ _) hgx hlt
            have HX := Lib.hid (HM.out.trans (show pre ++ (g.l.drop i).map (fun e => spotOf g F e.i) = pre ++ spotOf g F g.l[i].i :: (g.l.drop (i + 1)).map (fun e => spotOf g F e.i) by rw [List.drop_eq_getElem_cons hlt, List.map_cons]))
            have HWf := Lib.hid (HEI.out g.l[i] (List.getElem_mem hlt))
            have hi0 : (0 : Int) ≤ (i : Int) := by omega
            have hil : (i : Int) < (g.l.length : Int) := by omega
            clear hgx
            generalize g.l[i] = f at *
            have hAx := bel_alloc (Below.refl wr.heap.size wr) (.cells #[.int .i64 f.i, .int .i64 f.t, .string f.d] 115)
            have hXb := World.alloc_heap_new wr (.cells #[.int .i64 f.i, .int .i64 f.t, .string f.d] 115)
            have e0a := cell_of_row _ _ 0 _ _ _ hXb
            simp only [List.getElem?_toArray, List.getElem?_cons_zero] at e0a
            have kl2 : (wr.alloc (.cells #[.int .i64 f.i, .int .i64 f.t, .string f.d] 115)).cell? ⟨Bl, 0, none⟩ = some (.pointer (some ⟨d, 0, none⟩)) := cell_of_row _ _ 0 _ _ _ ((hAx.block _ (heap_lt hbr)).trans hbr)
            have GS := Lib.hid (pspot_any (hgr.below hAx) f.i HWf.out (plcS F f.i) (plcT F f.i) (lookP_eq F f.i))
            have HAx := Lib.hid hAx
            have HJr := Lib.hid hJ
            have HRr := Lib.hid hR
            clear hgr hbr hAx hXb hJ hR
            subst hga
            gi_wp2_with (gi_at_call 109; refine (callsIn_wide.2 GS.out).mono ?_; rintro e1 w3 ⟨rfl, hB3⟩; have hB3x := bel2 HAx.out hB3; have HB3 := Lib.hid hB3x; obtain ⟨fn, tmps, assign, body, hy, hR1⟩ := hY wa.heap.size pre _ _ w3 hWa HX.out (hJs _ _ _ _ HJr.out (Moves.below hB3x)); dsimp only [SpotC.sval, spotOf] at hy; clear hB3 hB3x c0 c1 c2 kl2 e0a)
            refine (roundIn_wide_n hR1).mono ?_
            rintro e W3 (⟨rfl, hJ3, hk3⟩ | ⟨rfl, hJx3⟩)
            · clear hy hR1
              gi_wp2
              go_roundw
              case rel => exact ⟨i + 1, pre ++ [spotOf g F f.i], by omega, by go_num, by rw [HX.out, List.append_assoc]; rfl, hJ3, (HRr.out.trans (.below HB3.out)).trans hk3⟩
              case measure => simp [intOf]; omega
            · gi_wp2
              refine bodyPost_ret (results_none rfl _ _ _) rfl ?_
              exact ⟨⟨_, rfl⟩, .inr ⟨_, _, _, HX.out, hJx3⟩⟩
          · obtain rfl : i = g.l.length := by omega
            rw [List.drop_length] at HM
            have HE := Lib.hid (show spotsL g F = pre from HM.out.trans (List.append_nil _))
            gi_wp2
            refine bodyPost_end (results_none rfl _ _ _) rfl ?_
            exact ⟨⟨_, rfl⟩, .inl ⟨_, hWa, by rw [HE.out]; exact hJ⟩⟩

end Go.Proofs.Ytdncdlbhgaehmaa

/- The contract of package place's Spots. -/
namespace Go.Proofs.Ytdncdlbhgaehmaa
open Go.RowKit Go.Shelf
set_option linter.unusedVariables false
set_option linter.unusedSimpArgs false
attribute [local go_sem] Oper.semAt_some wide_fn wide_round_fn

theorem infoSpotP : (Try.prog.info? 86).map (fun i => (i.zero, i.size, i.bytes)) = some (some (.agg #[.int .i64 0, .int .i64 0, .int .i64 0, .int .i64 0]), 4, 32) := by kernel_rfl
theorem ord_any (d : Nat) (W : World) : Calls Try.prog 85 #[.pointer (some ⟨d, 0, none⟩)] W fun e w' => e = .returned (.func (.func 108) #[] #[.pointer (some ⟨W.heap.size, 0, none⟩)]) ∧ w' = W.alloc (.cells #[.pointer (some ⟨d, 0, none⟩)] 91) := by
  go_enter Try.func85, Try.ntmps85
  go_wp2
  go_ret
  exact ⟨rfl, rfl⟩
theorem rowL_stabP {B : Nat} {a : Option Addr} {n sz : Nat} {X : List Value} : Stab B (fun _ => False) (fun W => RowV W a n sz X) := fun W W' h hm => ⟨h.1, h.2.1, fun h0 => by
  obtain ⟨c, off, e, hlt, hc⟩ := h.2.2 h0
  exact ⟨c, off, e, Nat.lt_of_lt_of_le hlt hm.size, fun j hj => Stab.cell (B := B) (T := fun _ => False) id W W' (hc j hj) hm⟩⟩
theorem frame_putP (W : World) (l : Nat) (o' : Obj) : FrameT (fun k => k = l) W (W.putObj l o') := by
  have g := grownBy_putObj' W l o'
  exact ⟨g.os, g.tape, g.output, g.size, fun k hk hT => World.putObj_heap_other hT⟩
/-- What the loop of Spots holds. -/
def spI2 (w5 : World) (Bs B1 : Nat) (v : Value) (pre : List SpotC) (W : World) : Prop := W.heap[Bs]? = some (.cells #[v] 67 (0, 0)) ∧ W.ownsRow B1 86 4 v pre.length (spotCells pre) ∧ FrameT (fun k => k = Bs) w5 W ∧ B1 ≤ W.heap.size
theorem frameS_stab {T : Nat → Prop} {w5 : World} {B : Nat} (h : w5.heap.size ≤ B) : Stab B (fun _ => False) (FrameT T w5) := fun W W' hp hm => hp.after ⟨hm.os, hm.tape, hm.output, hm.size, fun k o ho _ hc => hm.block k o ho id hc⟩ h
theorem spI2_stab {w5 : World} {Bs B1 B : Nat} {v : Value} {pre : List SpotC} (h : w5.heap.size ≤ B) : Stab B (fun _ => False) (spI2 w5 Bs B1 v pre) := (Stab.block id (.inr rfl)).and ((Stab.ownsRow (fun _ h => h.elim)).and ((frameS_stab h).and (fun W W' hs hm => Nat.le_trans hs hm.size)))
theorem sp_app {w5 W w6 : World} {Bs B1 l : Nat} {v v' : Value} {pre : List SpotC} {x : SpotC} {A : Array Value} {T : TypeId} (h : spI2 w5 Bs B1 v pre W) (hl : Bs < w5.heap.size ∧ w5.heap.size ≤ B1) (hown : w6.ownsRow B1 86 4 v' (pre.length + 1) (spotCells pre ++ x.cells)) (hg : (W.alloc (.cells A T)).grownBy w6 v.ownBlock) :
    w6.cell? ⟨Bs, 0, none⟩ = some v ∧ w6.frozen? ⟨Bs, 0, none⟩ = false ∧ spI2 w5 Bs B1 v' (pre ++ [x]) (w6.setCell ⟨Bs, 0, none⟩ v') ∧ Rd w5.heap.size (fun k => (k < B1 ∧ ¬ k = Bs) ∧ k ≠ l) W (w6.setCell ⟨Bs, 0, none⟩ v') := by
  obtain ⟨h1, h2, h3, h4⟩ := h
  have hA : Below W.heap.size W (W.alloc (.cells A T)) := bel_alloc (Below.refl W.heap.size W) _
  have hvb : ∀ k, some k = v.ownBlock → B1 ≤ k ∧ k < W.heap.size := fun k hk => by
    rcases h2.2 with ⟨rfl, _⟩ | ⟨g, cap, cur, rfl, hb, hgx, _⟩
    · simp [Value.ownBlock] at hk
    · obtain rfl : k = g := by simpa [Value.ownBlock] using hk
      exact ⟨hb, heap_lt hgx⟩
  have hF6 : FrameT (fun k => some k = v.ownBlock) (W.alloc (.cells A T)) w6 := ⟨hg.os, hg.tape, hg.output, hg.size, fun k hk hT => hg.block k hk hT⟩
  have hFW : FrameT (fun k => some k = v.ownBlock) W w6 := (FrameT.below hA).trans hF6
  have b6 := hFW.get h1 (fun e => by have := hvb _ e; omega)
  have hFs := FrameT.setCell w6 Bs 0 v'
  have hz : FrameT (fun k => some k = v.ownBlock ∨ k = Bs) W (w6.setCell ⟨Bs, 0, none⟩ v') := (hFW.mono fun _ h => .inl h).trans (hFs.mono fun _ h => .inr h)
  have hown2 : (w6.setCell ⟨Bs, 0, none⟩ v').ownsRow B1 86 4 v' (pre.length + 1) (spotCells pre ++ x.cells) := by
    refine ⟨hown.1, ?_⟩
    rcases hown.2 with h4 | ⟨g, cap, cur, hv, hb, hgx, r⟩
    · exact .inl h4
    · exact .inr ⟨g, cap, cur, hv, hb, hFs.get hgx (by omega), r⟩
  refine ⟨cell_of_row _ _ 0 _ _ _ b6, frozen_of_row _ Bs 0 _ _ b6, ⟨heap_setCell_same _ Bs 0 _ _ v' b6, ?_, ?_, Nat.le_trans h4 hz.size⟩, ⟨hz.os, hz.tape, hz.output, hz.size, fun k o ho hc => hz.get ho ?_⟩⟩
  · rw [List.length_append, spotCells_snoc]; exact hown2
  · exact ⟨hz.os.trans h3.os, hz.tape.trans h3.tape, hz.output.trans h3.output, Nat.le_trans h3.size hz.size, fun k hk hk2 => (hz.block k (by have := h3.size; omega) (by
      rintro (e | e)
      · have := hvb _ e; omega
      · exact hk2 e)).trans (h3.block k hk hk2)⟩
  · rintro (e | e)
    · have := hvb _ e
      rcases hc with hc | ⟨_, hc⟩
      · omega
      · rcases h2.2 with ⟨rfl, _⟩ | ⟨g, cap, cur, rfl, hb, hgx, _⟩
        · simp [Value.ownBlock] at e
        · obtain rfl : k = g := by simpa [Value.ownBlock] using e
          rw [ho] at hgx; cases hgx; cases hc
    · rcases hc with hc | ⟨hc, _⟩
      · exact hc.1.2 e
      · omega
set_option maxRecDepth 100000 in
set_option maxHeartbeats 8000000 in
theorem pspots_any {W : World} {d m : Nat} {g : GM} {a : Option Addr} {c : Nat} {F : List LV} (h : LogAt W d m g a c F) (hei : ∀ e ∈ g.l, (Lit.int .i64 e.i).wf = true) :
    Calls Try.prog 54 #[.pointer (some ⟨d, 0, none⟩)] W fun e w' => ∃ va vc, e = .returned (.slice va (spotsL g F).length vc) ∧ RowV w' va (spotsL g F).length 4 (spotCells (spotsL g F)) ∧ (spotsL g F).length ≤ vc ∧ Below W.heap.size W w' := by
  obtain ⟨i0, hi, hz0, hz1, hz2⟩ := info_parts infoSpotP
  have hmx : Try.prog.follows .mixedOrders = true := by kernel_rfl
  have hlen : (spotsL g F).length ≤ g.l.length + 2 := by
    show ((if hasK F (-1) = true then [spotOf g F (-1)] else []) ++ ((if hasK F 0 = true then [spotOf g F 0] else []) ++ g.l.map (fun e => spotOf g F e.i))).length ≤ _
    rw [List.length_append, List.length_append, List.length_map]
    split <;> split <;> simp <;> omega
  have hgl := h.2.2.1.1
  have hent := fun k (hk : inBlkE a g.l.length k) => h.ent hk
  have hdl := heap_lt h.1
  have hml := h.2.1.lt
  have hA := bel_alloc (Below.refl W.heap.size W) (.cells #[.slice none 0 0] 67)
  have hbs := World.alloc_heap_new W (.cells #[.slice none 0 0] 67)
  have hA2 := bel_alloc (Below.refl _ (W.alloc (.cells #[.slice none 0 0] 67))) (.cells #[.pointer (some ⟨d, 0, none⟩)] 91)
  have hbl := World.alloc_heap_new (W.alloc (.cells #[.slice none 0 0] 67)) (.cells #[.pointer (some ⟨d, 0, none⟩)] 91)
  have hg2 := (h.below hA).below hA2
  have hbs2 := (hA2.block _ (heap_lt hbs)).trans hbs
  have hB2 := bel2 hA hA2
  have hsz : ((W.alloc (.cells #[.slice none 0 0] 67)).alloc (.cells #[.pointer (some ⟨d, 0, none⟩)] 91)).heap.size = W.heap.size + 2 := by simp
  rw [World.size_alloc] at hbl
  have HI := Lib.hid (ord_iter (W.heap.size + 1) d m g a c F (fun k => k = W.heap.size + 1 ∨ k = d ∨ k = m ∨ inBlkE a g.l.length k) (fun k => k = W.heap.size) hei _ hbl hg2 ⟨.inl rfl, .inr (.inl rfl), .inr (.inr (.inl rfl)), fun k hk => .inr (.inr (.inr hk))⟩ ⟨by omega, by omega, by omega, fun k hk => by have := hent k hk; omega⟩ (fun k hk => by omega))
  have HSZ := Lib.hid hsz
  have HBS := Lib.hid hbs2
  have HB2 := Lib.hid hB2
  clear h hA hA2 hbs hbl hg2 hbs2 hB2 hsz hei hent hdl hml
  refine (callsIn_wide (n := 9)).1 ?_
  refine callsIn_of_wp_marks Try.func54 rfl trivial ?_ rfl
  simp only [Try.ntmps54, List.size_toArray, List.length_cons, List.length_nil, Nat.reduceAdd, Nat.reduceSub, Array.replicate_succ, Array.replicate_zero, List.push_toArray, List.append_toArray, List.nil_append, List.cons_append]
  gi_wp2_with (gi_at_call 85; refine (callsIn_wide.2 (ord_any d _)).mono ?_; rintro e1 w5 ⟨rfl, rfl⟩)
  generalize (W.alloc (.cells #[.slice none 0 0] 67)).alloc (.cells #[.pointer (some ⟨d, 0, none⟩)] 91) = w5 at *
  refine range_outerV rfl (enters_of Try.func108 (by kernel_rfl) rfl) HI.out (fun _ => rfl)
    (fun B1 pre W' => w5.heap.size ≤ B1 ∧ ∃ v, spI2 w5 W.heap.size B1 v pre W') (fun _ _ _ => False) (fun _ _ => (Stab.pure _).and (Stab.ex fun _ => spI2_stab (Nat.le_refl _))) (fun _ _ => Stab.pure _)
    (fun W1 hW1 => ⟨hW1.size, _, (hW1.block _ (heap_lt HBS.out)).trans HBS.out, World.ownsRow_nil _ _ _ _, FrameT.below hW1, Nat.le_refl _⟩) ?hr ?hd (fun _ _ _ _ _ _ h => h.elim)
  case hr =>
    rintro B1 l0 pre x suf W1 hBB hx hl ⟨_, v, hv⟩ hrec
    have hpl : pre.length < 1000100 := by have h1 := congrArg List.length hx; simp at h1; omega
    clear hx
    obtain ⟨xg, xi, xs, xp⟩ := x
    dsimp only [SpotC.sval]
    gi_wp2
    have hsz := HSZ.out
    refine rdThen_mk (fun W' => spI2 w5 W.heap.size B1 v pre W' ∧ W'.heap[W1.heap.size]? = some (.cells #[.int .i64 xg, .int .i64 xi, .int .i64 xs, .int .i64 xp] 86 (0, 0))) ((spI2_stab (Nat.le_refl _)).and (Stab.block (fun h => h) (.inr rfl))) ⟨spI2_stab (Nat.le_refl _) _ _ hv (Moves.alloc _ _), World.alloc_heap_new W1 _⟩ ((Rd.refl _ _ _).alloc _) ?_
    clear hv hrec
    obtain ⟨Xf, hXf⟩ : ∃ Xf, Xf = W1.heap.size := ⟨_, rfl⟩
    rw [← hXf]
    clear hXf W1
    rintro W1 ⟨hJ, hf⟩ hrec
    have x0 : W1.cell? ⟨Xf, 0, none⟩ = some (.int .i64 xg) := cell_of_row _ _ 0 _ _ _ hf
    have x1 : W1.cell? ⟨Xf, 1, none⟩ = some (.int .i64 xi) := cell_of_row _ _ 1 _ _ _ hf
    have x2 : W1.cell? ⟨Xf, 2, none⟩ = some (.int .i64 xs) := cell_of_row _ _ 2 _ _ _ hf
    have x3 : W1.cell? ⟨Xf, 3, none⟩ = some (.int .i64 xp) := cell_of_row _ _ 3 _ _ _ hf
    have cs : W1.cell? ⟨W.heap.size, 0, none⟩ = some v := cell_of_row _ _ 0 _ _ _ hJ.1
    have hrow := hJ.2.1
    have hzz := hJ.2.2.2
    have HJ := Lib.hid hJ
    have HBB := Lib.hid hBB
    clear hf hJ hsz hBB
    gi_wp2_with (gi_at_builtin; refine wpListIn_append_at _ rfl _ _ 67 rfl B1 86 i0 (.agg #[.int .i64 0, .int .i64 0, .int .i64 0, .int .i64 0]) 4 32 Try.underlying67 hi hz0 hz1 hz2 rfl (by decide) _ _ _ rfl (hrow.alloc _) ⟨W1.heap.size, 0, none⟩ 1 1 [.int .i64 xg, .int .i64 xi, .int .i64 xs, .int .i64 xp] rfl rfl (news_new _ _ _) (by simp [Value.oneCell']) (by unfold maxLen; omega) (by omega) (by simp; omega) ?_; intro v' w9 hown' hgrow hnew; obtain ⟨g', cap', rfl⟩ := ownsRow_succ hown'; obtain ⟨cx9, fx9, hJ9, hR9⟩ := sp_app (l := l0) (x := ⟨xg, xi, xs, xp⟩) HJ.out ⟨by have := HSZ.out; omega, by have := HBB.out; omega⟩ hown' hgrow; have HJ9 := Lib.hid hJ9; have HR9 := Lib.hid hR9; clear hJ9 hR9)
    exact ⟨HR9.out, by have := HBB.out; omega, _, HJ9.out⟩
  case hd =>
    rintro B1 Wd hBB ⟨_, v, hJ⟩ hD
    obtain ⟨va, vc, rfl, hvc, hrow⟩ := rowV_own hJ.2.1
    have cs : Wd.cell? ⟨W.heap.size, 0, none⟩ = some (.slice va (spotsL g F).length vc) := cell_of_row _ _ 0 _ _ _ hJ.1
    have HR := Lib.hid hrow
    have HVC := Lib.hid hvc
    have HF := Lib.hid hJ.2.2.1
    clear hrow hvc hJ
    gi_wp2
    refine leave_one hD (results_tmp rfl _ _ _) ⟨va, vc, rfl, ?_, HVC.out, ?_⟩
    · exact rowL_stabP _ _ HR.out (Moves.putObj _ _ (Nat.le_refl _) hD rfl)
    · have hz := HSZ.out
      have h1 := HB2.out.trans (HF.out.toBelow (n := W.heap.size) (by omega) (fun k hk => by omega))
      exact h1.trans ((frame_putP Wd w5.heap.size (.deferred none)).toBelow (n := W.heap.size) (by have := h1.size; omega) (fun k hk => by omega))

end Go.Proofs.Ytdncdlbhgaehmaa
