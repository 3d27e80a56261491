/- SprIs, SprCmp: in one text. -/
import Derived.Test.YtfbibpnkfmgkaaaSprMrg
import Derived.Test.YtfbibpnkfmgkaaaGrpIs
import Derived.Deep.RegionHeld3
import Derived.Deep.Cut
/- The contracts of package sparse's Is, Dense, merged. -/
namespace Go.Proofs.Ytfbibpnkfmgkaaa
open Go.RowKit Go.Shelf
set_option linter.unusedVariables false
attribute [local go_sem] Oper.semAt_some wide_fn wide_round_fn

theorem isSp_nil {id fi te ht hv hc : Int} {l : List EntryC} (h : sprB l fi = true) : isSp ⟨id, fi, te, ht, hv, hc, l⟩ = isG ⟨id, fi, te, ht, hv, hc, []⟩ := by
  unfold isSp isG denseB; dsimp only; rw [h]
theorem isSp_no {g : GM} (h : sprB g.l g.fi = false) : isSp g = false := by
  unfold isSp; rw [h]; simp

set_option maxRecDepth 100000 in
set_option maxHeartbeats 4000000 in
theorem sprIs_any (id fi te ht hv hc : Int) (l : List EntryC) (a : Option Addr) (cap : Nat) (w : World) (hg : HasG w a ⟨id, fi, te, ht, hv, hc, l⟩) : Gives Try.prog 13 #[.agg #[.int .i64 id, .int .i64 fi, .int .i64 te, .int .i64 ht, .int .i64 hv, .int .i64 hc, .slice a l.length cap]] w (.bool (isSp ⟨id, fi, te, ht, hv, hc, l⟩)) := by
  have hm := hg.1
  have hcs := hg.2.2.2
  dsimp only at hm hcs
  have GG := Lib.hid (fun W => (show Gives Try.prog 31 #[.agg #[.int .i64 id, .int .i64 fi, .int .i64 te, .int .i64 ht, .int .i64 hv, .int .i64 hc, .slice none 0 0]] W (.bool (isG ⟨id, fi, te, ht, hv, hc, []⟩)) from grpIs_any id fi te ht hv hc [] none 0 W ⟨(by decide : 0 < 1000000), RowV.nil _ _ _⟩))
  have HA := Lib.hid (bel_alloc (Below.refl w.heap.size w) (.cells #[.int .i64 id, .int .i64 fi, .int .i64 te, .int .i64 ht, .int .i64 hv, .int .i64 hc, .slice a l.length cap] 26))
  clear hg
  unfold Gives
  go_enter Try.func13, Try.ntmps13
  go_wp2
  go_loopw [3, 11] (fun ls q wr => ∃ (k : Nat) (m : Int), k ≤ l.length ∧ q = .int .i64 k ∧ ls = .int .i64 m ∧ sprB l fi = sprB (l.drop k) m ∧ Below (w.alloc (.cells #[.int .i64 id, .int .i64 fi, .int .i64 te, .int .i64 ht, .int .i64 hv, .int .i64 hc, .slice a l.length cap] 26)).heap.size (w.alloc (.cells #[.int .i64 id, .int .i64 fi, .int .i64 te, .int .i64 ht, .int .i64 hv, .int .i64 hc, .slice a l.length cap] 26)) wr) (fun _ q _ => l.length - (intOf q).toNat)
  case atStart => exact ⟨0, fi, by omega, rfl, rfl, rfl, Below.refl _ _⟩
  case round =>
    obtain ⟨k, m, hk, rfl, rfl, hsp, hB⟩ := hrel
    have HSP := Lib.hid hsp
    clear hsp
    have hBw := bel2 HA.out hB
    have hGb := (hB.block w.heap.size (by simp)).trans (World.alloc_heap_new w (.cells #[.int .i64 id, .int .i64 fi, .int .i64 te, .int .i64 ht, .int .i64 hv, .int .i64 hc, .slice a l.length cap] 26))
    by_cases hlt : k < l.length
    · obtain ⟨b, off, rfl, hb, hx⟩ := hcs (by omega)
      obtain ⟨d0, d1, d2⟩ := entry_at hb hBw hx hlt
      have HT := Lib.hid (show sprB l fi = ((entryB l[k] && decide (m ≤ l[k].i)) && sprB (l.drop (k + 1)) (l[k].i + 1)) by rw [HSP.out, List.drop_eq_getElem_cons hlt]; rfl)
      have hk0 : (0 : Int) ≤ (k : Int) := by omega
      have hkl : (k : Int) < (l.length : Int) := by omega
      clear hx hcs HSP hGb
      generalize l[k] = x at *
      have GE := Lib.hid (isEntry_any x)
      have hbd := fun h => (entryB_bd (e := x) h).1
      obtain ⟨xi, xt, xd⟩ := x
      dsimp only [EntryC.val] at *
      cases he : entryB ⟨xi, xt, xd⟩
      · have HN := Lib.hid (isSp_no (g := ⟨id, fi, te, ht, hv, hc, l⟩) (by show sprB l fi = false; rw [HT.out, he]; rfl))
        rw [he] at GE
        clear HT hbd he
        go_wp2_with (go_at_call 30; ((with_reducible refine (GE.out _).mono ?_); rintro e w2 ⟨rfl, hB2⟩; have hA2 := bel2 (bel_alloc (Below.refl wr.heap.size wr) (.cells #[.int .i64 xi, .int .i64 xt, .string xd] 38)) hB2; have x0 : w2.cell? ⟨wr.heap.size, 0, none⟩ = some (.int .i64 xi) := blk_cell hB2 0))
        go_ret
        exact ⟨by rw [HN.out]; rfl, bel2 hBw hA2⟩
      · rw [he] at GE
        have hb9 := hbd he
        by_cases hmi : m ≤ xi
        · have HT2 := Lib.hid (show sprB l fi = sprB (l.drop (k + 1)) (xi + 1) by rw [HT.out, he, decide_eq_true hmi]; rfl)
          obtain ⟨hb1, hb2⟩ := hb9
          clear HT hbd he
          go_wp2_with (go_at_call 30; ((with_reducible refine (GE.out _).mono ?_); rintro e w2 ⟨rfl, hB2⟩; have hA2 := bel2 (bel_alloc (Below.refl wr.heap.size wr) (.cells #[.int .i64 xi, .int .i64 xt, .string xd] 38)) hB2; have x0 : w2.cell? ⟨wr.heap.size, 0, none⟩ = some (.int .i64 xi) := blk_cell hB2 0))
          go_roundw
          case rel => exact ⟨k + 1, xi + 1, by omega, by go_num, rfl, HT2.out, bel2 hB hA2⟩
          case measure => simp [intOf]; omega
        · have HN := Lib.hid (isSp_no (g := ⟨id, fi, te, ht, hv, hc, l⟩) (by show sprB l fi = false; rw [HT.out, decide_eq_false hmi]; simp))
          replace hmi : xi < m := by omega
          clear HT hbd he hb9
          go_wp2_with (go_at_call 30; ((with_reducible refine (GE.out _).mono ?_); rintro e w2 ⟨rfl, hB2⟩; have hA2 := bel2 (bel_alloc (Below.refl wr.heap.size wr) (.cells #[.int .i64 xi, .int .i64 xt, .string xd] 38)) hB2; have x0 : w2.cell? ⟨wr.heap.size, 0, none⟩ = some (.int .i64 xi) := blk_cell hB2 0))
          go_ret
          exact ⟨by rw [HN.out]; rfl, bel2 hBw hA2⟩
    · obtain rfl : k = l.length := by omega
      have HN := Lib.hid (isSp_nil (id := id) (te := te) (ht := ht) (hv := hv) (hc := hc) (show sprB l fi = true by rw [HSP.out, List.drop_length]; rfl))
      have hb7 := Go.Joins.block_setCell hGb (.slice none 0 0) (i := 6)
      simp only [List.setIfInBounds_toArray, List.set_cons_succ, List.set_cons_zero] at hb7
      have hbs := hBw.setCell (p := ⟨w.heap.size, 6, none⟩) (Nat.le_refl _) (.slice none 0 0)
      obtain ⟨g0, g1, g2, g3, g4, g5, g6, fg⟩ := cells7 hGb
      generalize isG ⟨id, fi, te, ht, hv, hc, []⟩ = bb at *
      clear HSP hcs
      go_wp2_with (go_at_call 31; ((with_reducible refine (GG.out _).mono ?_); rintro e w2 ⟨rfl, hB2⟩))
      go_ret
      exact ⟨by rw [HN.out]; rfl, bel2 hbs hB2⟩

theorem sprDense_any (id fi te ht hv hc : Int) (l : List EntryC) (a : Option Addr) (cap : Nat) (w : World) (hg : HasG w a ⟨id, fi, te, ht, hv, hc, l⟩) : Gives Try.prog 15 #[.agg #[.int .i64 id, .int .i64 fi, .int .i64 te, .int .i64 ht, .int .i64 hv, .int .i64 hc, .slice a l.length cap]] w (.bool (isG ⟨id, fi, te, ht, hv, hc, l⟩)) := by
  have GI := Lib.hid (fun W (hB : Below w.heap.size w W) => grpIs_any id fi te ht hv hc l a cap W (hg.below hB))
  generalize isG ⟨id, fi, te, ht, hv, hc, l⟩ = b at *
  have HA := Lib.hid (bel_alloc (Below.refl w.heap.size w) (.cells #[.int .i64 id, .int .i64 fi, .int .i64 te, .int .i64 ht, .int .i64 hv, .int .i64 hc, .slice a l.length cap] 26))
  clear hg
  unfold Gives
  go_enter Try.func15, Try.ntmps15
  go_wp2_with (go_at_call 31; ((with_reducible refine (GI.out _ HA.out).mono ?_); rintro e w1 ⟨rfl, hB1⟩))
  go_ret
  exact ⟨rfl, bel2 HA.out hB1⟩

set_option maxRecDepth 100000 in
set_option maxHeartbeats 4000000 in
theorem mrg_makes (a b : Option Addr) (ca cb : Nat) (al bl : List EntryC) (hma : al.length < 1000000) (hmb : bl.length < 1000000) (hcb : bl.length ≤ cb) (V : Nat → Prop) (w : World) (hV : ∀ k, V k → k < w.heap.size) (hVa : ∀ k, inBlkE a al.length k → ¬ V k) (hVb : ∀ k, inBlkE b bl.length k → ¬ V k) (hra : RowV w a al.length 3 (entryCells al)) (hrb : RowV w b bl.length 3 (entryCells bl)) :
    Calls Try.prog 28 #[.slice a al.length ca, .slice b bl.length cb] w fun e w' => ∃ lb, e = .returned (.func (.func 52) #[] lb) ∧ Below w.heap.size w w' ∧ IterU Try.prog 52 lb EntryC.enc (mrg al bl) (fun k => inBlkE a al.length k ∨ inBlkE b bl.length k ∨ span w.heap.size w'.heap.size k) V w' := by
  have h1 := (Boxed.new w 24 (.slice a al.length ca)).alloc (.cells #[.slice b bl.length cb] 24)
  have h2 := Boxed.new (w.alloc (.cells #[.slice a al.length ca] 24)) 24 (.slice b bl.length cb)
  rw [World.size_alloc] at h2
  have hB : Below w.heap.size w ((w.alloc (.cells #[.slice a al.length ca] 24)).alloc (.cells #[.slice b bl.length cb] 24)) := bel_alloc (bel_alloc (Below.refl _ _) _) _
  have hI := mrg_iter w.heap.size (w.heap.size + 1) a b ca cb al bl hma hmb hcb (fun k => inBlkE a al.length k ∨ inBlkE b bl.length k ∨ span w.heap.size ((w.alloc (.cells #[.slice a al.length ca] 24)).alloc (.cells #[.slice b bl.length cb] 24)).heap.size k) V (.inr (.inr ⟨by omega, by simp only [World.size_alloc]; omega⟩)) (.inr (.inr ⟨by omega, by simp only [World.size_alloc]; omega⟩)) (fun k h => .inl h) (fun k h => .inr (.inl h)) _
    (fun k hk => by
      rcases hk with h | h | h
      · exact ⟨hVa k h, Nat.lt_of_lt_of_le (inBlkE_lt hra h) hB.size⟩
      · exact ⟨hVb k h, Nat.lt_of_lt_of_le (inBlkE_lt hrb h) hB.size⟩
      · exact ⟨fun hv => by have h3 := hV k hv; have h4 := h.1; omega, h.2⟩)
    (fun k hk => Nat.lt_of_lt_of_le (hV k hk) hB.size) h1.cell h2.cell (hra.below hB) (hrb.below hB)
  have HI := Lib.hid hI
  have HB := Lib.hid hB
  clear hI hB h1 h2 hV hVa hVb hra hrb
  go_enter Try.func28, Try.ntmps28
  go_wp2
  go_ret
  exact ⟨_, rfl, HB.out, HI.out⟩

end Go.Proofs.Ytfbibpnkfmgkaaa

/- The contracts of package sparse's compacted, snapped. -/
namespace Go.Proofs.Ytfbibpnkfmgkaaa
open Go.RowKit Go.Shelf
set_option linter.unusedVariables false
attribute [local go_sem] Oper.semAt_some wide_fn wide_round_fn

/-- What compacted, snapped tell: a group's numbers, and the entries that stay. -/
def CmpP (w : World) (a : Option Addr) (n cap : Nat) (id fi te ht hv hc : Int) (L : List EntryC) (e : Ending) (w' : World) : Prop := ∃ va vc, e = .returned (.tuple #[.agg #[.int .i64 id, .int .i64 fi, .int .i64 te, .int .i64 ht, .int .i64 hv, .int .i64 hc, .slice a n cap], .slice va L.length vc]) ∧ RowV w' va L.length 3 (entryCells L) ∧ L.length ≤ vc ∧ Below w.heap.size w w' ∧ ∀ k, inBlkE va L.length k → inBlkE a n k
theorem DoW.fin {w W : World} {P : Array Value} {v0 v1 v2 v3 v4 v5 v6 : Value} (h : DoW w #[v0, v1, v2, v3, v4, v5, v6] P W) :
    (st7 W (w.heap.size + 1 + 1) v0 v1 v2 v3 v4 v5 v6).heap[w.heap.size + 1 + 1]? = some (.cells #[v0, v1, v2, v3, v4, v5, v6] 26 (0, 0)) ∧ Below w.heap.size w (st7 W (w.heap.size + 1 + 1) v0 v1 v2 v3 v4 v5 v6) ∧ FrameT (fun k => k = w.heap.size + 1 + 1) W (st7 W (w.heap.size + 1 + 1) v0 v1 v2 v3 v4 v5 v6) ∧ (st7 W (w.heap.size + 1 + 1) v0 v1 v2 v3 v4 v5 v6).heap[w.heap.size]? = some (.cells #[v0, v1, v2, v3, v4, v5, v6] 26 (0, 0)) :=
  ⟨st7_block h.rb v0 v1 v2 v3 v4 v5 v6, h.bel.trans ((st7_frame W (w.heap.size + 1 + 1) v0 v1 v2 v3 v4 v5 v6).toBelow h.bel.size (fun k h => by omega)), st7_frame W (w.heap.size + 1 + 1) v0 v1 v2 v3 v4 v5 v6, (st7_frame W (w.heap.size + 1 + 1) v0 v1 v2 v3 v4 v5 v6).get h.gb (by omega)⟩
theorem hasB_at {l : List EntryC} {i : Int} (h : hasB l i = true) : ∃ hk : fnd l i < l.length, l[fnd l i].i = i := by
  unfold hasB at h
  by_cases hk : fnd l i < l.length
  · rw [List.getElem?_eq_getElem hk] at h
    exact ⟨hk, by simpa using h⟩
  · rw [List.getElem?_eq_none (by omega)] at h; cases h
theorem entT_ris {l : List EntryC} (hr : Ris l) (i : Int) : entT l i = if h : hasB l i = true then (l[fnd l i]'(hasB_at h).1).t else 0 := by
  have hf : btw l i i = (l.drop (fnd l i)).take (if hasB l i = true then 1 else 0) := by
    unfold btw
    have h1 : (l.filter fun e => decide (i ≤ e.i) && decide (e.i ≤ i)) = (l.filter fun e => decide (i ≤ e.i)).filter fun e => decide (e.i ≤ i) := by
      rw [List.filter_filter]; congr 1; funext e; rw [Bool.and_comm]
    rw [h1]
    have h2 : (l.filter fun e => decide (i ≤ e.i)) = l.drop (fnd l i) := froL_ris hr i
    rw [h2]
    refine filter_split (fun j hj hlt => ?_) (fun j hj hge => ?_)
    · split at hlt
      · rename_i hb
        obtain ⟨hk, he⟩ := hasB_at hb
        obtain rfl : j = 0 := by omega
        have h8 : ((l.drop (fnd l i))[0]'hj).i = i := by rw [List.getElem_drop]; simpa using he
        rw [h8]; simp
      · omega
    · simp at hj
      rw [List.getElem_drop]
      by_cases h0 : j = 0
      · subst h0
        have hb : ¬ hasB l i = true := by intro hb; rw [if_pos hb] at hge; omega
        have h9 : (l[fnd l i]'(by omega)).i ≠ i := by
          intro he; apply hb; unfold hasB; rw [List.getElem?_eq_getElem (by omega)]; simpa using he
        have h8 := fnd_ge hr (i := i) (j := fnd l i) (by omega) (Nat.le_refl _)
        exact decide_eq_false (by simp only [Nat.add_zero]; omega)
      · have h8 := fnd_ge hr (i := i) (j := fnd l i) (by omega) (Nat.le_refl _)
        have h7 := hr (fnd l i) (fnd l i + j) (by omega) (by omega)
        exact decide_eq_false (by omega)
  unfold entT
  rw [hf]
  by_cases hb : hasB l i = true
  · rw [if_pos hb, dif_pos hb]
    obtain ⟨hk, -⟩ := hasB_at hb
    rw [List.drop_eq_getElem_cons hk]; rfl
  · rw [if_neg hb, dif_neg hb]; rfl

set_option maxRecDepth 100000 in
set_option maxHeartbeats 4000000 in
theorem cmp_no (id fi te ht hv hc : Int) (l : List EntryC) (a : Option Addr) (cap : Nat) (pg pk : Int) (pa : Option Addr) (plen pcap : Nat) (pht phv phc pi pt : Int) (pm ph : Bool) (w : World) (hm : l.length < 1000000) (hcap : l.length ≤ cap) (hr : RowV w a l.length 3 (entryCells l)) (hs : Ris l) (hi : pi < fi) : Calls Try.prog 26 #[.agg #[.int .i64 id, .int .i64 fi, .int .i64 te, .int .i64 ht, .int .i64 hv, .int .i64 hc, .slice a l.length cap], .agg #[.int .i64 pg, .int .i64 pk, .slice pa plen pcap, .int .i64 pht, .int .i64 phv, .int .i64 phc, .int .i64 pi, .int .i64 pt, .bool pm, .bool ph]] w (CmpP w a l.length cap id fi te ht hv hc l) := by
  have HR := Lib.hid (fun W (hB : Below w.heap.size w W) => hr.below hB)
  have HS := Lib.hid (DoW.start w #[.int .i64 id, .int .i64 fi, .int .i64 te, .int .i64 ht, .int .i64 hv, .int .i64 hc, .slice a l.length cap] #[.int .i64 pg, .int .i64 pk, .slice pa plen pcap, .int .i64 pht, .int .i64 phv, .int .i64 phc, .int .i64 pi, .int .i64 pt, .bool pm, .bool ph])
  clear hr hs
  go_enter Try.func26, Try.ntmps26
  go_upto_region 1 with (fail)
  have hD := HS.out
  generalize (((w.alloc (.cells #[.int .i64 id, .int .i64 fi, .int .i64 te, .int .i64 ht, .int .i64 hv, .int .i64 hc, .slice a l.length cap] 26)).alloc (.cells #[.int .i64 pg, .int .i64 pk, .slice pa plen pcap, .int .i64 pht, .int .i64 phv, .int .i64 phc, .int .i64 pi, .int .i64 pt, .bool pm, .bool ph] 28)).alloc (.cells GZ 26)) = wq at *
  obtain ⟨g0, g1, g2, g3, g4, g5, g6, fg⟩ := cells7 hD.gb
  obtain ⟨p1, p2, p3, p4, p5, p6, p7⟩ := cells10 hD.pb
  obtain ⟨r0, r1, r2, r3, r4, r5, r6, fr⟩ := cells7 hD.rb
  go_wp2
  obtain ⟨hb7, hbel, hF7, hg7⟩ := hD.fin
  obtain ⟨e0, e1, e2, e3, e4, e5, e6, -⟩ := cells7 hb7
  obtain ⟨y0, y1, y2, y3, y4, y5, y6, -⟩ := cells7 hg7
  have HB := Lib.hid hbel
  clear hb7 hg7 hF7 hbel
  go_region_held3 (fun W' => W'.cell? ⟨w.heap.size, 0, none⟩ = some (.int .i64 id) ∧ W'.cell? ⟨w.heap.size, 1, none⟩ = some (.int .i64 fi) ∧ W'.cell? ⟨w.heap.size, 2, none⟩ = some (.int .i64 te) ∧ W'.cell? ⟨w.heap.size, 3, none⟩ = some (.int .i64 ht) ∧ W'.cell? ⟨w.heap.size, 4, none⟩ = some (.int .i64 hv) ∧ W'.cell? ⟨w.heap.size, 5, none⟩ = some (.int .i64 hc) ∧ W'.cell? ⟨w.heap.size, 6, none⟩ = some (.slice a l.length cap)) (go_keep) (fail)
  all_goals
    go_wp2
    refine bodyPost_ret (v := .tuple #[.agg #[.int .i64 id, .int .i64 fi, .int .i64 te, .int .i64 ht, .int .i64 hv, .int .i64 hc, .slice a l.length cap], .slice a l.length cap]) (by simp [results, Try.results26, go_sem, e0, e1, e2, e3, e4, e5, e6]) rfl ?_
    exact ⟨a, cap, rfl, HR.out _ HB.out.drew, hcap, HB.out.drew, fun k hk => hk⟩

set_option maxRecDepth 100000 in
set_option maxHeartbeats 4000000 in
theorem snp_no (id fi te ht hv hc : Int) (l : List EntryC) (a : Option Addr) (cap : Nat) (pg pk : Int) (pa : Option Addr) (plen pcap : Nat) (pht phv phc pi pt : Int) (pm ph : Bool) (w : World) (hm : l.length < 1000000) (hcap : l.length ≤ cap) (hr : RowV w a l.length 3 (entryCells l)) (hs : Ris l) (hi : pi < fi) : Calls Try.prog 27 #[.agg #[.int .i64 id, .int .i64 fi, .int .i64 te, .int .i64 ht, .int .i64 hv, .int .i64 hc, .slice a l.length cap], .agg #[.int .i64 pg, .int .i64 pk, .slice pa plen pcap, .int .i64 pht, .int .i64 phv, .int .i64 phc, .int .i64 pi, .int .i64 pt, .bool pm, .bool ph]] w (CmpP w a l.length cap id fi te ht hv hc l) := by
  have HR := Lib.hid (fun W (hB : Below w.heap.size w W) => hr.below hB)
  have HS := Lib.hid (DoW.start w #[.int .i64 id, .int .i64 fi, .int .i64 te, .int .i64 ht, .int .i64 hv, .int .i64 hc, .slice a l.length cap] #[.int .i64 pg, .int .i64 pk, .slice pa plen pcap, .int .i64 pht, .int .i64 phv, .int .i64 phc, .int .i64 pi, .int .i64 pt, .bool pm, .bool ph])
  clear hr hs
  go_enter Try.func27, Try.ntmps27
  go_upto_region 1 with (fail)
  have hD := HS.out
  generalize (((w.alloc (.cells #[.int .i64 id, .int .i64 fi, .int .i64 te, .int .i64 ht, .int .i64 hv, .int .i64 hc, .slice a l.length cap] 26)).alloc (.cells #[.int .i64 pg, .int .i64 pk, .slice pa plen pcap, .int .i64 pht, .int .i64 phv, .int .i64 phc, .int .i64 pi, .int .i64 pt, .bool pm, .bool ph] 28)).alloc (.cells GZ 26)) = wq at *
  obtain ⟨g0, g1, g2, g3, g4, g5, g6, fg⟩ := cells7 hD.gb
  obtain ⟨p1, p2, p3, p4, p5, p6, p7⟩ := cells10 hD.pb
  obtain ⟨r0, r1, r2, r3, r4, r5, r6, fr⟩ := cells7 hD.rb
  go_wp2
  obtain ⟨hb7, hbel, hF7, hg7⟩ := hD.fin
  obtain ⟨e0, e1, e2, e3, e4, e5, e6, -⟩ := cells7 hb7
  obtain ⟨y0, y1, y2, y3, y4, y5, y6, -⟩ := cells7 hg7
  have HB := Lib.hid hbel
  clear hb7 hg7 hF7 hbel
  go_region_held3 (fun W' => W'.cell? ⟨w.heap.size, 0, none⟩ = some (.int .i64 id) ∧ W'.cell? ⟨w.heap.size, 1, none⟩ = some (.int .i64 fi) ∧ W'.cell? ⟨w.heap.size, 2, none⟩ = some (.int .i64 te) ∧ W'.cell? ⟨w.heap.size, 3, none⟩ = some (.int .i64 ht) ∧ W'.cell? ⟨w.heap.size, 4, none⟩ = some (.int .i64 hv) ∧ W'.cell? ⟨w.heap.size, 5, none⟩ = some (.int .i64 hc) ∧ W'.cell? ⟨w.heap.size, 6, none⟩ = some (.slice a l.length cap)) (go_keep) (fail)
  all_goals
    go_wp2
    refine bodyPost_ret (v := .tuple #[.agg #[.int .i64 id, .int .i64 fi, .int .i64 te, .int .i64 ht, .int .i64 hv, .int .i64 hc, .slice a l.length cap], .slice a l.length cap]) (by simp [results, Try.results27, go_sem, e0, e1, e2, e3, e4, e5, e6]) rfl ?_
    exact ⟨a, cap, rfl, HR.out _ HB.out.drew, hcap, HB.out.drew, fun k hk => hk⟩

set_option maxRecDepth 100000 in
set_option maxHeartbeats 4000000 in
theorem snp_yes (id fi te ht hv hc : Int) (l : List EntryC) (a : Option Addr) (cap : Nat) (pg pk : Int) (pa : Option Addr) (plen pcap : Nat) (pht phv phc pi pt : Int) (pm ph : Bool) (w : World) (hm : l.length < 1000000) (hcap : l.length ≤ cap) (hr : RowV w a l.length 3 (entryCells l)) (hs : Ris l) (hi : fi ≤ pi) (hi1 : 1 ≤ pi) (hi2 : pi ≤ 1099511627776) : Calls Try.prog 27 #[.agg #[.int .i64 id, .int .i64 fi, .int .i64 te, .int .i64 ht, .int .i64 hv, .int .i64 hc, .slice a l.length cap], .agg #[.int .i64 pg, .int .i64 pk, .slice pa plen pcap, .int .i64 pht, .int .i64 phv, .int .i64 phc, .int .i64 pi, .int .i64 pt, .bool pm, .bool ph]] w (CmpP w a l.length cap id (pi + 1) pt ht hv hc []) := by
  have HR := Lib.hid (fun W (hB : Below w.heap.size w W) => hr.below hB)
  have HS := Lib.hid (DoW.start w #[.int .i64 id, .int .i64 fi, .int .i64 te, .int .i64 ht, .int .i64 hv, .int .i64 hc, .slice a l.length cap] #[.int .i64 pg, .int .i64 pk, .slice pa plen pcap, .int .i64 pht, .int .i64 phv, .int .i64 phc, .int .i64 pi, .int .i64 pt, .bool pm, .bool ph])
  clear hr hs
  go_enter Try.func27, Try.ntmps27
  go_upto_region 1 with (fail)
  have hD := HS.out
  generalize (((w.alloc (.cells #[.int .i64 id, .int .i64 fi, .int .i64 te, .int .i64 ht, .int .i64 hv, .int .i64 hc, .slice a l.length cap] 26)).alloc (.cells #[.int .i64 pg, .int .i64 pk, .slice pa plen pcap, .int .i64 pht, .int .i64 phv, .int .i64 phc, .int .i64 pi, .int .i64 pt, .bool pm, .bool ph] 28)).alloc (.cells GZ 26)) = wq at *
  obtain ⟨g0, g1, g2, g3, g4, g5, g6, fg⟩ := cells7 hD.gb
  obtain ⟨p1, p2, p3, p4, p5, p6, p7⟩ := cells10 hD.pb
  obtain ⟨r0, r1, r2, r3, r4, r5, r6, fr⟩ := cells7 hD.rb
  go_wp2
  have hA := hD.set 1 (.int .i64 (pi + 1))
  have hA2 := hA.set 2 (.int .i64 pt)
  have hs9 : IntKind.i64.wrap (pi + 1) = pi + 1 := IntWalk.i64_in _ (by omega)
  simp only [List.setIfInBounds_toArray, List.set_cons_succ, List.set_cons_zero] at hA hA2
  obtain ⟨a1, a2, a3, a4, a5, a6, a7⟩ := cells10 hA.pb
  obtain ⟨y0, y1, y2, y3, y4, y5, y6, fy⟩ := cells7 hA.gb
  obtain ⟨u1, u2, u3, u4, u5, u6, u7⟩ := cells10 hA2.pb
  go_region_held3 (fun W' => W'.cell? ⟨w.heap.size + 1, 6, none⟩ = some (.int .i64 pi) ∧ W'.cell? ⟨w.heap.size + 1, 7, none⟩ = some (.int .i64 pt)) (go_keep) (fail)
  have hD3 := hA2.drew
  clear g0 g1 g2 g3 g4 g5 g6 fg p1 p2 p3 p4 p5 p6 p7 r0 r1 r2 r3 r4 r5 r6 fr a1 a2 a3 a4 a5 a6 a7 y0 y1 y2 y3 y4 y5 y6 fy u1 u2 u3 u4 u5 u6 u7 hA hA2
  generalize ((wq.setCell ⟨w.heap.size, 1, none⟩ (.int .i64 (pi + 1))).setCell ⟨w.heap.size, 2, none⟩ (.int .i64 pt)).drew = w3 at *
  obtain ⟨g0, g1, g2, g3, g4, g5, g6, fg⟩ := cells7 hD3.gb
  obtain ⟨r0, r1, r2, r3, r4, r5, r6, fr⟩ := cells7 hD3.rb
  go_wp2
  obtain ⟨hb7, hbel, hF7, hg7⟩ := hD3.fin
  obtain ⟨e0, e1, e2, e3, e4, e5, e6, -⟩ := cells7 hb7
  refine bodyPost_ret (v := .tuple #[.agg #[.int .i64 id, .int .i64 (pi + 1), .int .i64 pt, .int .i64 ht, .int .i64 hv, .int .i64 hc, .slice a l.length cap], .slice none 0 0]) (by simp [results, Try.results27, go_sem, e0, e1, e2, e3, e4, e5, e6]) rfl ?_
  exact ⟨none, 0, rfl, RowV.nil _ _ _, Nat.le_refl _, hbel, fun k hk => by obtain ⟨_, _, e9, _⟩ := hk; cases e9⟩

set_option maxRecDepth 100000 in
set_option maxHeartbeats 4000000 in
theorem cmp_at (id fi te ht hv hc : Int) (l : List EntryC) (a : Option Addr) (cap : Nat) (pg pk : Int) (pa : Option Addr) (plen pcap : Nat) (pht phv phc pi pt : Int) (pm ph : Bool) (w : World) (hm : l.length < 1000000) (hcap : l.length ≤ cap) (hr : RowV w a l.length 3 (entryCells l)) (hs : Ris l) (hi : fi ≤ pi) (hi1 : 1 ≤ pi) (hi2 : pi ≤ 1099511627776) (ht0 : pt ≠ 0) (hbb : hasB l pi = true) : Calls Try.prog 26 #[.agg #[.int .i64 id, .int .i64 fi, .int .i64 te, .int .i64 ht, .int .i64 hv, .int .i64 hc, .slice a l.length cap], .agg #[.int .i64 pg, .int .i64 pk, .slice pa plen pcap, .int .i64 pht, .int .i64 phv, .int .i64 phc, .int .i64 pi, .int .i64 pt, .bool pm, .bool ph]] w (CmpP w a l.length cap id (pi + 1) pt ht hv hc (l.drop (fnd l (pi + 1)))) := by
  have HR := Lib.hid (fun W (hB : Below w.heap.size w W) => hr.below hB)
  have HS := Lib.hid (DoW.start w #[.int .i64 id, .int .i64 fi, .int .i64 te, .int .i64 ht, .int .i64 hv, .int .i64 hc, .slice a l.length cap] #[.int .i64 pg, .int .i64 pk, .slice pa plen pcap, .int .i64 pht, .int .i64 phv, .int .i64 phc, .int .i64 pi, .int .i64 pt, .bool pm, .bool ph])
  have HLT := Lib.hid (show ∀ k, inBlkE a l.length k → k < w.heap.size from fun k hk => inBlkE_lt hr hk)
  have GF := Lib.hid (fun W (hB : Below w.heap.size w W) => find_any l a cap pi W hm (hr.below hB) hs)
  have GR := Lib.hid (fun W (hR : RowV W a l.length 3 (entryCells l)) => sfrom_any l a cap (pi + 1) W hm hcap hR hs)
  have t0 : (pt == 0) = false := by rw [beq_eq_false_iff_ne]; exact ht0
  rw [hbb] at GF
  generalize fnd l pi = kk at *
  clear ht0 hbb
  generalize l.drop (fnd l (pi + 1)) = XL at *
  clear hr hs
  go_enter Try.func26, Try.ntmps26
  go_upto_region 1 with (fail)
  have hD := HS.out
  generalize (((w.alloc (.cells #[.int .i64 id, .int .i64 fi, .int .i64 te, .int .i64 ht, .int .i64 hv, .int .i64 hc, .slice a l.length cap] 26)).alloc (.cells #[.int .i64 pg, .int .i64 pk, .slice pa plen pcap, .int .i64 pht, .int .i64 phv, .int .i64 phc, .int .i64 pi, .int .i64 pt, .bool pm, .bool ph] 28)).alloc (.cells GZ 26)) = wq at *
  obtain ⟨g0, g1, g2, g3, g4, g5, g6, fg⟩ := cells7 hD.gb
  obtain ⟨p1, p2, p3, p4, p5, p6, p7⟩ := cells10 hD.pb
  obtain ⟨r0, r1, r2, r3, r4, r5, r6, fr⟩ := cells7 hD.rb
  go_upto_region 8 with (go_at_call 51; ((with_reducible refine (GF.out _ hD.bel).mono ?_); rintro e w1 ⟨rfl, hB1⟩; have hD1 := hD.after hB1; clear g0 g1 g2 g3 g4 g5 g6 fg p1 p2 p3 p4 p5 p6 p7 r0 r1 r2 r3 r4 r5 r6 fr; obtain ⟨g0, g1, g2, g3, g4, g5, g6, fg⟩ := cells7 hD1.gb; obtain ⟨p1, p2, p3, p4, p5, p6, p7⟩ := cells10 hD1.pb; obtain ⟨r0, r1, r2, r3, r4, r5, r6, fr⟩ := cells7 hD1.rb))
  have hD2 := (hD1.set 1 (.int .i64 (pi + 1))).set 2 (.int .i64 pt)
  simp only [List.setIfInBounds_toArray, List.set_cons_succ, List.set_cons_zero] at hD2
  clear g0 g1 g2 g3 g4 g5 g6 fg p1 p2 p3 p4 p5 p6 p7 r0 r1 r2 r3 r4 r5 r6 fr
  generalize ((w1.setCell ⟨w.heap.size, 1, none⟩ (.int .i64 (pi + 1))).setCell ⟨w.heap.size, 2, none⟩ (.int .i64 pt)) = w2 at *
  obtain ⟨g0, g1, g2, g3, g4, g5, g6, fg⟩ := cells7 hD2.gb
  obtain ⟨p1, p2, p3, p4, p5, p6, p7⟩ := cells10 hD2.pb
  obtain ⟨r0, r1, r2, r3, r4, r5, r6, fr⟩ := cells7 hD2.rb
  have hb2 := hD2.bel
  obtain ⟨hb7, hbel2, hF7, hg7⟩ := hD2.fin
  obtain ⟨y0, y1, y2, y3, y4, y5, y6, -⟩ := cells7 hg7
  go_region_held3 (fun W' => W'.cell? ⟨w.heap.size, 0, none⟩ = some (.int .i64 id) ∧ W'.cell? ⟨w.heap.size, 1, none⟩ = some (.int .i64 (pi + 1)) ∧ W'.cell? ⟨w.heap.size, 2, none⟩ = some (.int .i64 pt) ∧ W'.cell? ⟨w.heap.size, 3, none⟩ = some (.int .i64 ht) ∧ W'.cell? ⟨w.heap.size, 4, none⟩ = some (.int .i64 hv) ∧ W'.cell? ⟨w.heap.size, 5, none⟩ = some (.int .i64 hc) ∧ W'.cell? ⟨w.heap.size, 6, none⟩ = some (.slice a l.length cap)) (go_keep) (first
    | (go_at_call 29; ((with_reducible refine (GR.out _ ?hr).mono ?_); (case hr => first | exact HR.out _ hb2 | exact HR.out _ hb2.drew | exact HR.out _ hbel2 | exact HR.out _ hbel2.drew); rintro e w3 ⟨va, vc, rfl, hrow3, hvc, hB3, hin⟩; (first
      | (have hX3 : Below w2.heap.size w2 w3 := (by first | exact hB3 | exact bel2 (Below.refl _ _).drew hB3); have hD3 := hD2.after hX3; clear g0 g1 g2 g3 g4 g5 g6 fg p1 p2 p3 p4 p5 p6 p7 r0 r1 r2 r3 r4 r5 r6 fr y0 y1 y2 y3 y4 y5 y6 hb7 hbel2 hF7 hg7; obtain ⟨g0, g1, g2, g3, g4, g5, g6, fg⟩ := cells7 hD3.gb; obtain ⟨p1, p2, p3, p4, p5, p6, p7⟩ := cells10 hD3.pb; obtain ⟨r0, r1, r2, r3, r4, r5, r6, fr⟩ := cells7 hD3.rb; obtain ⟨hb9, hbel9, hF9, hg9⟩ := hD3.fin; obtain ⟨y0, y1, y2, y3, y4, y5, y6, -⟩ := cells7 hg9; obtain ⟨e0, e1, e2, e3, e4, e5, e6, -⟩ := cells7 hb9)
      | (have hX3 : Below (st7 w2 (w.heap.size + 1 + 1) (.int .i64 id) (.int .i64 (pi + 1)) (.int .i64 pt) (.int .i64 ht) (.int .i64 hv) (.int .i64 hc) (.slice a l.length cap)).heap.size (st7 w2 (w.heap.size + 1 + 1) (.int .i64 id) (.int .i64 (pi + 1)) (.int .i64 pt) (.int .i64 ht) (.int .i64 hv) (.int .i64 hc) (.slice a l.length cap)) w3 := (by first | exact hB3 | exact bel2 (Below.refl _ _).drew hB3); have hb9 := (hX3.block _ (heap_lt hb7)).trans hb7; have hg9 := (hX3.block _ (heap_lt hg7)).trans hg7; have hbel9 := hbel2.trans (hX3.mono hbel2.size); clear g0 g1 g2 g3 g4 g5 g6 fg p1 p2 p3 p4 p5 p6 p7 r0 r1 r2 r3 r4 r5 r6 fr y0 y1 y2 y3 y4 y5 y6 hb7 hF7 hg7; obtain ⟨y0, y1, y2, y3, y4, y5, y6, -⟩ := cells7 hg9; obtain ⟨e0, e1, e2, e3, e4, e5, e6, -⟩ := cells7 hb9)))))
  all_goals
    go_wp2
    refine bodyPost_ret (v := .tuple #[.agg #[.int .i64 id, .int .i64 (pi + 1), .int .i64 pt, .int .i64 ht, .int .i64 hv, .int .i64 hc, .slice a l.length cap], .slice va XL.length vc]) (by simp [results, Try.results26, go_sem, e0, e1, e2, e3, e4, e5, e6]) rfl ?_
    first
      | exact ⟨va, vc, rfl, rowV_frame hrow3 hF9 (fun k hk h => by have := HLT.out k (hin k hk); omega), hvc, hbel9, hin⟩
      | exact ⟨va, vc, rfl, hrow3, hvc, hbel9, hin⟩

set_option maxRecDepth 100000 in
set_option maxHeartbeats 4000000 in
theorem cmp_af (id fi te ht hv hc : Int) (l : List EntryC) (a : Option Addr) (cap : Nat) (pg pk : Int) (pa : Option Addr) (plen pcap : Nat) (pht phv phc pi pt : Int) (pm ph : Bool) (w : World) (hm : l.length < 1000000) (hcap : l.length ≤ cap) (hr : RowV w a l.length 3 (entryCells l)) (hs : Ris l) (hi : fi ≤ pi) (hi1 : 1 ≤ pi) (hi2 : pi ≤ 1099511627776) (ht0 : pt ≠ 0) (hbb : hasB l pi = false) : Calls Try.prog 26 #[.agg #[.int .i64 id, .int .i64 fi, .int .i64 te, .int .i64 ht, .int .i64 hv, .int .i64 hc, .slice a l.length cap], .agg #[.int .i64 pg, .int .i64 pk, .slice pa plen pcap, .int .i64 pht, .int .i64 phv, .int .i64 phc, .int .i64 pi, .int .i64 pt, .bool pm, .bool ph]] w (CmpP w a l.length cap id (pi + 1) pt ht hv hc (l.drop (fnd l (pi + 1)))) := by
  have HR := Lib.hid (fun W (hB : Below w.heap.size w W) => hr.below hB)
  have HS := Lib.hid (DoW.start w #[.int .i64 id, .int .i64 fi, .int .i64 te, .int .i64 ht, .int .i64 hv, .int .i64 hc, .slice a l.length cap] #[.int .i64 pg, .int .i64 pk, .slice pa plen pcap, .int .i64 pht, .int .i64 phv, .int .i64 phc, .int .i64 pi, .int .i64 pt, .bool pm, .bool ph])
  have HLT := Lib.hid (show ∀ k, inBlkE a l.length k → k < w.heap.size from fun k hk => inBlkE_lt hr hk)
  have GF := Lib.hid (fun W (hB : Below w.heap.size w W) => find_any l a cap pi W hm (hr.below hB) hs)
  have GR := Lib.hid (fun W (hR : RowV W a l.length 3 (entryCells l)) => sfrom_any l a cap (pi + 1) W hm hcap hR hs)
  have t0 : (pt == 0) = false := by rw [beq_eq_false_iff_ne]; exact ht0
  rw [hbb] at GF
  generalize fnd l pi = kk at *
  clear ht0 hbb
  generalize l.drop (fnd l (pi + 1)) = XL at *
  clear hr hs
  go_enter Try.func26, Try.ntmps26
  go_upto_region 1 with (fail)
  have hD := HS.out
  generalize (((w.alloc (.cells #[.int .i64 id, .int .i64 fi, .int .i64 te, .int .i64 ht, .int .i64 hv, .int .i64 hc, .slice a l.length cap] 26)).alloc (.cells #[.int .i64 pg, .int .i64 pk, .slice pa plen pcap, .int .i64 pht, .int .i64 phv, .int .i64 phc, .int .i64 pi, .int .i64 pt, .bool pm, .bool ph] 28)).alloc (.cells GZ 26)) = wq at *
  obtain ⟨g0, g1, g2, g3, g4, g5, g6, fg⟩ := cells7 hD.gb
  obtain ⟨p1, p2, p3, p4, p5, p6, p7⟩ := cells10 hD.pb
  obtain ⟨r0, r1, r2, r3, r4, r5, r6, fr⟩ := cells7 hD.rb
  go_upto_region 8 with (go_at_call 51; ((with_reducible refine (GF.out _ hD.bel).mono ?_); rintro e w1 ⟨rfl, hB1⟩; have hD1 := hD.after hB1; clear g0 g1 g2 g3 g4 g5 g6 fg p1 p2 p3 p4 p5 p6 p7 r0 r1 r2 r3 r4 r5 r6 fr; obtain ⟨g0, g1, g2, g3, g4, g5, g6, fg⟩ := cells7 hD1.gb; obtain ⟨p1, p2, p3, p4, p5, p6, p7⟩ := cells10 hD1.pb; obtain ⟨r0, r1, r2, r3, r4, r5, r6, fr⟩ := cells7 hD1.rb))
  have hD2 := (hD1.set 1 (.int .i64 (pi + 1))).set 2 (.int .i64 pt)
  simp only [List.setIfInBounds_toArray, List.set_cons_succ, List.set_cons_zero] at hD2
  clear g0 g1 g2 g3 g4 g5 g6 fg p1 p2 p3 p4 p5 p6 p7 r0 r1 r2 r3 r4 r5 r6 fr
  generalize ((w1.setCell ⟨w.heap.size, 1, none⟩ (.int .i64 (pi + 1))).setCell ⟨w.heap.size, 2, none⟩ (.int .i64 pt)) = w2 at *
  obtain ⟨g0, g1, g2, g3, g4, g5, g6, fg⟩ := cells7 hD2.gb
  obtain ⟨p1, p2, p3, p4, p5, p6, p7⟩ := cells10 hD2.pb
  obtain ⟨r0, r1, r2, r3, r4, r5, r6, fr⟩ := cells7 hD2.rb
  have hb2 := hD2.bel
  obtain ⟨hb7, hbel2, hF7, hg7⟩ := hD2.fin
  obtain ⟨y0, y1, y2, y3, y4, y5, y6, -⟩ := cells7 hg7
  go_region_held3 (fun W' => W'.cell? ⟨w.heap.size, 0, none⟩ = some (.int .i64 id) ∧ W'.cell? ⟨w.heap.size, 1, none⟩ = some (.int .i64 (pi + 1)) ∧ W'.cell? ⟨w.heap.size, 2, none⟩ = some (.int .i64 pt) ∧ W'.cell? ⟨w.heap.size, 3, none⟩ = some (.int .i64 ht) ∧ W'.cell? ⟨w.heap.size, 4, none⟩ = some (.int .i64 hv) ∧ W'.cell? ⟨w.heap.size, 5, none⟩ = some (.int .i64 hc) ∧ W'.cell? ⟨w.heap.size, 6, none⟩ = some (.slice a l.length cap)) (go_keep) (first
    | (go_at_call 29; ((with_reducible refine (GR.out _ ?hr).mono ?_); (case hr => first | exact HR.out _ hb2 | exact HR.out _ hb2.drew | exact HR.out _ hbel2 | exact HR.out _ hbel2.drew); rintro e w3 ⟨va, vc, rfl, hrow3, hvc, hB3, hin⟩; (first
      | (have hX3 : Below w2.heap.size w2 w3 := (by first | exact hB3 | exact bel2 (Below.refl _ _).drew hB3); have hD3 := hD2.after hX3; clear g0 g1 g2 g3 g4 g5 g6 fg p1 p2 p3 p4 p5 p6 p7 r0 r1 r2 r3 r4 r5 r6 fr y0 y1 y2 y3 y4 y5 y6 hb7 hbel2 hF7 hg7; obtain ⟨g0, g1, g2, g3, g4, g5, g6, fg⟩ := cells7 hD3.gb; obtain ⟨p1, p2, p3, p4, p5, p6, p7⟩ := cells10 hD3.pb; obtain ⟨r0, r1, r2, r3, r4, r5, r6, fr⟩ := cells7 hD3.rb; obtain ⟨hb9, hbel9, hF9, hg9⟩ := hD3.fin; obtain ⟨y0, y1, y2, y3, y4, y5, y6, -⟩ := cells7 hg9; obtain ⟨e0, e1, e2, e3, e4, e5, e6, -⟩ := cells7 hb9)
      | (have hX3 : Below (st7 w2 (w.heap.size + 1 + 1) (.int .i64 id) (.int .i64 (pi + 1)) (.int .i64 pt) (.int .i64 ht) (.int .i64 hv) (.int .i64 hc) (.slice a l.length cap)).heap.size (st7 w2 (w.heap.size + 1 + 1) (.int .i64 id) (.int .i64 (pi + 1)) (.int .i64 pt) (.int .i64 ht) (.int .i64 hv) (.int .i64 hc) (.slice a l.length cap)) w3 := (by first | exact hB3 | exact bel2 (Below.refl _ _).drew hB3); have hb9 := (hX3.block _ (heap_lt hb7)).trans hb7; have hg9 := (hX3.block _ (heap_lt hg7)).trans hg7; have hbel9 := hbel2.trans (hX3.mono hbel2.size); clear g0 g1 g2 g3 g4 g5 g6 fg p1 p2 p3 p4 p5 p6 p7 r0 r1 r2 r3 r4 r5 r6 fr y0 y1 y2 y3 y4 y5 y6 hb7 hF7 hg7; obtain ⟨y0, y1, y2, y3, y4, y5, y6, -⟩ := cells7 hg9; obtain ⟨e0, e1, e2, e3, e4, e5, e6, -⟩ := cells7 hb9)))))
  all_goals
    go_wp2
    refine bodyPost_ret (v := .tuple #[.agg #[.int .i64 id, .int .i64 (pi + 1), .int .i64 pt, .int .i64 ht, .int .i64 hv, .int .i64 hc, .slice a l.length cap], .slice va XL.length vc]) (by simp [results, Try.results26, go_sem, e0, e1, e2, e3, e4, e5, e6]) rfl ?_
    first
      | exact ⟨va, vc, rfl, rowV_frame hrow3 hF9 (fun k hk h => by have := HLT.out k (hin k hk); omega), hvc, hbel9, hin⟩
      | exact ⟨va, vc, rfl, hrow3, hvc, hbel9, hin⟩

set_option maxRecDepth 100000 in
set_option maxHeartbeats 4000000 in
theorem cmp_b (id fi te ht hv hc : Int) (l : List EntryC) (a : Option Addr) (cap : Nat) (pg pk : Int) (pa : Option Addr) (plen pcap : Nat) (pht phv phc pi pt : Int) (pm ph : Bool) (w : World) (hm : l.length < 1000000) (hcap : l.length ≤ cap) (hr : RowV w a l.length 3 (entryCells l)) (hs : Ris l) (hi : fi ≤ pi) (hi1 : 1 ≤ pi) (hi2 : pi ≤ 1099511627776) (ht0 : pt = 0) (hbb : hasB l pi = false) : Calls Try.prog 26 #[.agg #[.int .i64 id, .int .i64 fi, .int .i64 te, .int .i64 ht, .int .i64 hv, .int .i64 hc, .slice a l.length cap], .agg #[.int .i64 pg, .int .i64 pk, .slice pa plen pcap, .int .i64 pht, .int .i64 phv, .int .i64 phc, .int .i64 pi, .int .i64 0, .bool pm, .bool ph]] w (CmpP w a l.length cap id (pi + 1) 0 ht hv hc (l.drop (fnd l (pi + 1)))) := by
  have HR := Lib.hid (fun W (hB : Below w.heap.size w W) => hr.below hB)
  have HS := Lib.hid (DoW.start w #[.int .i64 id, .int .i64 fi, .int .i64 te, .int .i64 ht, .int .i64 hv, .int .i64 hc, .slice a l.length cap] #[.int .i64 pg, .int .i64 pk, .slice pa plen pcap, .int .i64 pht, .int .i64 phv, .int .i64 phc, .int .i64 pi, .int .i64 0, .bool pm, .bool ph])
  have HLT := Lib.hid (show ∀ k, inBlkE a l.length k → k < w.heap.size from fun k hk => inBlkE_lt hr hk)
  have GF := Lib.hid (fun W (hB : Below w.heap.size w W) => find_any l a cap pi W hm (hr.below hB) hs)
  have GR := Lib.hid (fun W (hR : RowV W a l.length 3 (entryCells l)) => sfrom_any l a cap (pi + 1) W hm hcap hR hs)
  subst ht0
  rw [hbb] at GF
  generalize fnd l pi = kk at *
  clear hbb
  generalize l.drop (fnd l (pi + 1)) = XL at *
  clear hr hs
  go_enter Try.func26, Try.ntmps26
  go_upto_region 1 with (fail)
  have hD := HS.out
  generalize (((w.alloc (.cells #[.int .i64 id, .int .i64 fi, .int .i64 te, .int .i64 ht, .int .i64 hv, .int .i64 hc, .slice a l.length cap] 26)).alloc (.cells #[.int .i64 pg, .int .i64 pk, .slice pa plen pcap, .int .i64 pht, .int .i64 phv, .int .i64 phc, .int .i64 pi, .int .i64 0, .bool pm, .bool ph] 28)).alloc (.cells GZ 26)) = wq at *
  obtain ⟨g0, g1, g2, g3, g4, g5, g6, fg⟩ := cells7 hD.gb
  obtain ⟨p1, p2, p3, p4, p5, p6, p7⟩ := cells10 hD.pb
  obtain ⟨r0, r1, r2, r3, r4, r5, r6, fr⟩ := cells7 hD.rb
  go_upto_region 8 with (go_at_call 51; ((with_reducible refine (GF.out _ hD.bel).mono ?_); rintro e w1 ⟨rfl, hB1⟩; have hD1 := hD.after hB1; clear g0 g1 g2 g3 g4 g5 g6 fg p1 p2 p3 p4 p5 p6 p7 r0 r1 r2 r3 r4 r5 r6 fr; obtain ⟨g0, g1, g2, g3, g4, g5, g6, fg⟩ := cells7 hD1.gb; obtain ⟨p1, p2, p3, p4, p5, p6, p7⟩ := cells10 hD1.pb; obtain ⟨r0, r1, r2, r3, r4, r5, r6, fr⟩ := cells7 hD1.rb))
  have hD2 := (hD1.set 1 (.int .i64 (pi + 1))).set 2 (.int .i64 0)
  simp only [List.setIfInBounds_toArray, List.set_cons_succ, List.set_cons_zero] at hD2
  clear g0 g1 g2 g3 g4 g5 g6 fg p1 p2 p3 p4 p5 p6 p7 r0 r1 r2 r3 r4 r5 r6 fr
  generalize ((w1.setCell ⟨w.heap.size, 1, none⟩ (.int .i64 (pi + 1))).setCell ⟨w.heap.size, 2, none⟩ (.int .i64 0)) = w2 at *
  obtain ⟨g0, g1, g2, g3, g4, g5, g6, fg⟩ := cells7 hD2.gb
  obtain ⟨p1, p2, p3, p4, p5, p6, p7⟩ := cells10 hD2.pb
  obtain ⟨r0, r1, r2, r3, r4, r5, r6, fr⟩ := cells7 hD2.rb
  have hb2 := hD2.bel
  obtain ⟨hb7, hbel2, hF7, hg7⟩ := hD2.fin
  obtain ⟨y0, y1, y2, y3, y4, y5, y6, -⟩ := cells7 hg7
  go_region_held3 (fun W' => W'.cell? ⟨w.heap.size, 0, none⟩ = some (.int .i64 id) ∧ W'.cell? ⟨w.heap.size, 1, none⟩ = some (.int .i64 (pi + 1)) ∧ W'.cell? ⟨w.heap.size, 2, none⟩ = some (.int .i64 0) ∧ W'.cell? ⟨w.heap.size, 3, none⟩ = some (.int .i64 ht) ∧ W'.cell? ⟨w.heap.size, 4, none⟩ = some (.int .i64 hv) ∧ W'.cell? ⟨w.heap.size, 5, none⟩ = some (.int .i64 hc) ∧ W'.cell? ⟨w.heap.size, 6, none⟩ = some (.slice a l.length cap)) (go_keep) (first
    | (go_at_call 29; ((with_reducible refine (GR.out _ ?hr).mono ?_); (case hr => first | exact HR.out _ hb2 | exact HR.out _ hb2.drew | exact HR.out _ hbel2 | exact HR.out _ hbel2.drew); rintro e w3 ⟨va, vc, rfl, hrow3, hvc, hB3, hin⟩; (first
      | (have hX3 : Below w2.heap.size w2 w3 := (by first | exact hB3 | exact bel2 (Below.refl _ _).drew hB3); have hD3 := hD2.after hX3; clear g0 g1 g2 g3 g4 g5 g6 fg p1 p2 p3 p4 p5 p6 p7 r0 r1 r2 r3 r4 r5 r6 fr y0 y1 y2 y3 y4 y5 y6 hb7 hbel2 hF7 hg7; obtain ⟨g0, g1, g2, g3, g4, g5, g6, fg⟩ := cells7 hD3.gb; obtain ⟨p1, p2, p3, p4, p5, p6, p7⟩ := cells10 hD3.pb; obtain ⟨r0, r1, r2, r3, r4, r5, r6, fr⟩ := cells7 hD3.rb; obtain ⟨hb9, hbel9, hF9, hg9⟩ := hD3.fin; obtain ⟨y0, y1, y2, y3, y4, y5, y6, -⟩ := cells7 hg9; obtain ⟨e0, e1, e2, e3, e4, e5, e6, -⟩ := cells7 hb9)
      | (have hX3 : Below (st7 w2 (w.heap.size + 1 + 1) (.int .i64 id) (.int .i64 (pi + 1)) (.int .i64 0) (.int .i64 ht) (.int .i64 hv) (.int .i64 hc) (.slice a l.length cap)).heap.size (st7 w2 (w.heap.size + 1 + 1) (.int .i64 id) (.int .i64 (pi + 1)) (.int .i64 0) (.int .i64 ht) (.int .i64 hv) (.int .i64 hc) (.slice a l.length cap)) w3 := (by first | exact hB3 | exact bel2 (Below.refl _ _).drew hB3); have hb9 := (hX3.block _ (heap_lt hb7)).trans hb7; have hg9 := (hX3.block _ (heap_lt hg7)).trans hg7; have hbel9 := hbel2.trans (hX3.mono hbel2.size); clear g0 g1 g2 g3 g4 g5 g6 fg p1 p2 p3 p4 p5 p6 p7 r0 r1 r2 r3 r4 r5 r6 fr y0 y1 y2 y3 y4 y5 y6 hb7 hF7 hg7; obtain ⟨y0, y1, y2, y3, y4, y5, y6, -⟩ := cells7 hg9; obtain ⟨e0, e1, e2, e3, e4, e5, e6, -⟩ := cells7 hb9)))))
  all_goals
    go_wp2
    refine bodyPost_ret (v := .tuple #[.agg #[.int .i64 id, .int .i64 (pi + 1), .int .i64 0, .int .i64 ht, .int .i64 hv, .int .i64 hc, .slice a l.length cap], .slice va XL.length vc]) (by simp [results, Try.results26, go_sem, e0, e1, e2, e3, e4, e5, e6]) rfl ?_
    first
      | exact ⟨va, vc, rfl, rowV_frame hrow3 hF9 (fun k hk h => by have := HLT.out k (hin k hk); omega), hvc, hbel9, hin⟩
      | exact ⟨va, vc, rfl, hrow3, hvc, hbel9, hin⟩

set_option maxRecDepth 100000 in
set_option maxHeartbeats 4000000 in
theorem cmp_c (id fi te ht hv hc : Int) (l : List EntryC) (b off : Nat) (cap : Nat) (pg pk : Int) (pa : Option Addr) (plen pcap : Nat) (pht phv phc pi pt : Int) (pm ph : Bool) (w : World) (hm : l.length < 1000000) (hcap : l.length ≤ cap) (hr : RowV w (some ⟨b, off, none⟩) l.length 3 (entryCells l)) (hs : Ris l) (hi : fi ≤ pi) (hi1 : 1 ≤ pi) (hi2 : pi ≤ 1099511627776) (ht0 : pt = 0) (kk : Nat) (hk : kk < l.length) (hkk : fnd l pi = kk) (hbb : hasB l pi = true) : Calls Try.prog 26 #[.agg #[.int .i64 id, .int .i64 fi, .int .i64 te, .int .i64 ht, .int .i64 hv, .int .i64 hc, .slice (some ⟨b, off, none⟩) l.length cap], .agg #[.int .i64 pg, .int .i64 pk, .slice pa plen pcap, .int .i64 pht, .int .i64 phv, .int .i64 phc, .int .i64 pi, .int .i64 0, .bool pm, .bool ph]] w (CmpP w (some ⟨b, off, none⟩) l.length cap id (pi + 1) l[kk].t ht hv hc (l.drop (fnd l (pi + 1)))) := by
  have HR := Lib.hid (fun W (hB : Below w.heap.size w W) => hr.below hB)
  have HS := Lib.hid (DoW.start w #[.int .i64 id, .int .i64 fi, .int .i64 te, .int .i64 ht, .int .i64 hv, .int .i64 hc, .slice (some ⟨b, off, none⟩) l.length cap] #[.int .i64 pg, .int .i64 pk, .slice pa plen pcap, .int .i64 pht, .int .i64 phv, .int .i64 phc, .int .i64 pi, .int .i64 0, .bool pm, .bool ph])
  have HLT := Lib.hid (show ∀ k, inBlkE (some ⟨b, off, none⟩) l.length k → k < w.heap.size from fun k hk => inBlkE_lt hr hk)
  have GF := Lib.hid (fun W (hB : Below w.heap.size w W) => find_any l (some ⟨b, off, none⟩) cap pi W hm (hr.below hB) hs)
  have GR := Lib.hid (fun W (hR : RowV W (some ⟨b, off, none⟩) l.length 3 (entryCells l)) => sfrom_any l (some ⟨b, off, none⟩) cap (pi + 1) W hm hcap hR hs)
  subst ht0
  rw [hbb, hkk] at GF
  obtain ⟨b9, off9, e9, hbw, hx⟩ := hr.2.2 (by omega)
  cases e9
  have HX := Lib.hid (fun W (hB : Below w.heap.size w W) => entry_at hbw hB hx hk)
  generalize l[kk] = x at *
  obtain ⟨xi, xt, xd⟩ := x
  dsimp only at *
  have hk0 : (0 : Int) ≤ (kk : Int) := by omega
  have hkl : (kk : Int) < (l.length : Int) := by omega
  clear hx hkk hbb
  generalize l.drop (fnd l (pi + 1)) = XL at *
  clear hr hs
  go_enter Try.func26, Try.ntmps26
  go_upto_region 1 with (fail)
  have hD := HS.out
  generalize (((w.alloc (.cells #[.int .i64 id, .int .i64 fi, .int .i64 te, .int .i64 ht, .int .i64 hv, .int .i64 hc, .slice (some ⟨b, off, none⟩) l.length cap] 26)).alloc (.cells #[.int .i64 pg, .int .i64 pk, .slice pa plen pcap, .int .i64 pht, .int .i64 phv, .int .i64 phc, .int .i64 pi, .int .i64 0, .bool pm, .bool ph] 28)).alloc (.cells GZ 26)) = wq at *
  obtain ⟨g0, g1, g2, g3, g4, g5, g6, fg⟩ := cells7 hD.gb
  obtain ⟨p1, p2, p3, p4, p5, p6, p7⟩ := cells10 hD.pb
  obtain ⟨r0, r1, r2, r3, r4, r5, r6, fr⟩ := cells7 hD.rb
  go_upto_region 8 with (go_at_call 51; ((with_reducible refine (GF.out _ hD.bel).mono ?_); rintro e w1 ⟨rfl, hB1⟩; have hD1 := hD.after hB1; clear g0 g1 g2 g3 g4 g5 g6 fg p1 p2 p3 p4 p5 p6 p7 r0 r1 r2 r3 r4 r5 r6 fr; obtain ⟨g0, g1, g2, g3, g4, g5, g6, fg⟩ := cells7 hD1.gb; obtain ⟨p1, p2, p3, p4, p5, p6, p7⟩ := cells10 hD1.pb; obtain ⟨r0, r1, r2, r3, r4, r5, r6, fr⟩ := cells7 hD1.rb; obtain ⟨d0, d1, d2⟩ := HX.out _ hD1.bel))
  have hD2 := (hD1.set 1 (.int .i64 (pi + 1))).set 2 (.int .i64 xt)
  simp only [List.setIfInBounds_toArray, List.set_cons_succ, List.set_cons_zero] at hD2
  clear g0 g1 g2 g3 g4 g5 g6 fg p1 p2 p3 p4 p5 p6 p7 r0 r1 r2 r3 r4 r5 r6 fr d0 d1 d2
  generalize ((w1.setCell ⟨w.heap.size, 1, none⟩ (.int .i64 (pi + 1))).setCell ⟨w.heap.size, 2, none⟩ (.int .i64 xt)) = w2 at *
  obtain ⟨g0, g1, g2, g3, g4, g5, g6, fg⟩ := cells7 hD2.gb
  obtain ⟨p1, p2, p3, p4, p5, p6, p7⟩ := cells10 hD2.pb
  obtain ⟨r0, r1, r2, r3, r4, r5, r6, fr⟩ := cells7 hD2.rb
  have hb2 := hD2.bel
  obtain ⟨hb7, hbel2, hF7, hg7⟩ := hD2.fin
  obtain ⟨y0, y1, y2, y3, y4, y5, y6, -⟩ := cells7 hg7
  go_region_held3 (fun W' => W'.cell? ⟨w.heap.size, 0, none⟩ = some (.int .i64 id) ∧ W'.cell? ⟨w.heap.size, 1, none⟩ = some (.int .i64 (pi + 1)) ∧ W'.cell? ⟨w.heap.size, 2, none⟩ = some (.int .i64 xt) ∧ W'.cell? ⟨w.heap.size, 3, none⟩ = some (.int .i64 ht) ∧ W'.cell? ⟨w.heap.size, 4, none⟩ = some (.int .i64 hv) ∧ W'.cell? ⟨w.heap.size, 5, none⟩ = some (.int .i64 hc) ∧ W'.cell? ⟨w.heap.size, 6, none⟩ = some (.slice (some ⟨b, off, none⟩) l.length cap)) (go_keep) (first
    | (go_at_call 29; ((with_reducible refine (GR.out _ ?hr).mono ?_); (case hr => first | exact HR.out _ hb2 | exact HR.out _ hb2.drew | exact HR.out _ hbel2 | exact HR.out _ hbel2.drew); rintro e w3 ⟨va, vc, rfl, hrow3, hvc, hB3, hin⟩; (first
      | (have hX3 : Below w2.heap.size w2 w3 := (by first | exact hB3 | exact bel2 (Below.refl _ _).drew hB3); have hD3 := hD2.after hX3; clear g0 g1 g2 g3 g4 g5 g6 fg p1 p2 p3 p4 p5 p6 p7 r0 r1 r2 r3 r4 r5 r6 fr y0 y1 y2 y3 y4 y5 y6 hb7 hbel2 hF7 hg7; obtain ⟨g0, g1, g2, g3, g4, g5, g6, fg⟩ := cells7 hD3.gb; obtain ⟨p1, p2, p3, p4, p5, p6, p7⟩ := cells10 hD3.pb; obtain ⟨r0, r1, r2, r3, r4, r5, r6, fr⟩ := cells7 hD3.rb; obtain ⟨hb9, hbel9, hF9, hg9⟩ := hD3.fin; obtain ⟨y0, y1, y2, y3, y4, y5, y6, -⟩ := cells7 hg9; obtain ⟨e0, e1, e2, e3, e4, e5, e6, -⟩ := cells7 hb9)
      | (have hX3 : Below (st7 w2 (w.heap.size + 1 + 1) (.int .i64 id) (.int .i64 (pi + 1)) (.int .i64 xt) (.int .i64 ht) (.int .i64 hv) (.int .i64 hc) (.slice (some ⟨b, off, none⟩) l.length cap)).heap.size (st7 w2 (w.heap.size + 1 + 1) (.int .i64 id) (.int .i64 (pi + 1)) (.int .i64 xt) (.int .i64 ht) (.int .i64 hv) (.int .i64 hc) (.slice (some ⟨b, off, none⟩) l.length cap)) w3 := (by first | exact hB3 | exact bel2 (Below.refl _ _).drew hB3); have hb9 := (hX3.block _ (heap_lt hb7)).trans hb7; have hg9 := (hX3.block _ (heap_lt hg7)).trans hg7; have hbel9 := hbel2.trans (hX3.mono hbel2.size); clear g0 g1 g2 g3 g4 g5 g6 fg p1 p2 p3 p4 p5 p6 p7 r0 r1 r2 r3 r4 r5 r6 fr y0 y1 y2 y3 y4 y5 y6 hb7 hF7 hg7; obtain ⟨y0, y1, y2, y3, y4, y5, y6, -⟩ := cells7 hg9; obtain ⟨e0, e1, e2, e3, e4, e5, e6, -⟩ := cells7 hb9)))))
  all_goals
    go_wp2
    refine bodyPost_ret (v := .tuple #[.agg #[.int .i64 id, .int .i64 (pi + 1), .int .i64 xt, .int .i64 ht, .int .i64 hv, .int .i64 hc, .slice (some ⟨b, off, none⟩) l.length cap], .slice va XL.length vc]) (by simp [results, Try.results26, go_sem, e0, e1, e2, e3, e4, e5, e6]) rfl ?_
    first
      | exact ⟨va, vc, rfl, rowV_frame hrow3 hF9 (fun k hk h => by have := HLT.out k (hin k hk); omega), hvc, hbel9, hin⟩
      | exact ⟨va, vc, rfl, hrow3, hvc, hbel9, hin⟩

theorem cmp_yes (id fi te ht hv hc : Int) (l : List EntryC) (a : Option Addr) (cap : Nat) (pg pk : Int) (pa : Option Addr) (plen pcap : Nat) (pht phv phc pi pt : Int) (pm ph : Bool) (w : World) (hm : l.length < 1000000) (hcap : l.length ≤ cap) (hr : RowV w a l.length 3 (entryCells l)) (hs : Ris l) (hi : fi ≤ pi) (hi1 : 1 ≤ pi) (hi2 : pi ≤ 1099511627776) : Calls Try.prog 26 #[.agg #[.int .i64 id, .int .i64 fi, .int .i64 te, .int .i64 ht, .int .i64 hv, .int .i64 hc, .slice a l.length cap], .agg #[.int .i64 pg, .int .i64 pk, .slice pa plen pcap, .int .i64 pht, .int .i64 phv, .int .i64 phc, .int .i64 pi, .int .i64 pt, .bool pm, .bool ph]] w (CmpP w a l.length cap id (pi + 1) (if pt = 0 then entT l pi else pt) ht hv hc (l.drop (fnd l (pi + 1)))) := by
  by_cases ht0 : pt = 0
  · subst ht0
    rw [if_pos rfl, entT_ris hs]
    by_cases hbb : hasB l pi = true
    · rw [dif_pos hbb]
      have hk9 := (hasB_at hbb).1
      obtain ⟨b, off, rfl, -, -⟩ := hr.2.2 (by omega)
      exact cmp_c id fi te ht hv hc l b off cap pg pk pa plen pcap pht phv phc pi 0 pm ph w hm hcap hr hs hi hi1 hi2 rfl _ hk9 rfl hbb
    · rw [dif_neg hbb]
      exact cmp_b id fi te ht hv hc l a cap pg pk pa plen pcap pht phv phc pi 0 pm ph w hm hcap hr hs hi hi1 hi2 rfl (Bool.eq_false_iff.2 hbb)
  · rw [if_neg ht0]
    cases hbb : hasB l pi
    · exact cmp_af id fi te ht hv hc l a cap pg pk pa plen pcap pht phv phc pi pt pm ph w hm hcap hr hs hi hi1 hi2 ht0 hbb
    · exact cmp_at id fi te ht hv hc l a cap pg pk pa plen pcap pht phv phc pi pt pm ph w hm hcap hr hs hi hi1 hi2 ht0 hbb

end Go.Proofs.Ytfbibpnkfmgkaaa
