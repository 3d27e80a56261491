/- ParL, Shd, ShdI: in one text. -/
import Derived.Test.YtdncdlbhgaehmaaGrpDo
import Derived.Test.YtdncdlbhgaehmaaRec
import Derived.Maps.AppendAt
import Derived.Test.YtdncdlbhgaehmaaIterK
/- A row of parts of one's own that grows, each with entries of its own (no map, no group is named here). -/
namespace Go.Proofs.Ytdncdlbhgaehmaa
open Go.RowKit Go.Shelf
set_option linter.unusedVariables false

theorem infoPartL : (Try.prog.info? 41).map (fun i => (i.zero, i.size, i.bytes)) = some (some (.agg #[.int .i64 0, .int .i64 0, .slice none 0 0, .int .i64 0, .int .i64 0, .int .i64 0, .int .i64 0, .int .i64 0, .bool false, .bool false]), 10, 88) := by kernel_rfl
theorem ownL_frame {T : Nat → Prop} {W W' : World} {B : Nat} {e : TypeId} {sz n : Nat} {v : Value} {xs : List Value} (h : W.ownsRow B e sz v n xs) (hF : FrameT T W W') (hT : ∀ j, some j = v.ownBlock → ¬ T j) : W'.ownsRow B e sz v n xs := by
  refine ⟨h.1, ?_⟩
  rcases h.2 with h2 | ⟨g, cap, cur, hv, hb, hg, r⟩
  · exact .inl h2
  · exact .inr ⟨g, cap, cur, hv, hb, hF.get hg (hT g (by rw [hv]; rfl)), r⟩
theorem hasEL_frame {T : Nat → Prop} {W W' : World} {P : PartC} {l : List EntryC} (h : HasE W P l) (hF : FrameT T W W') (hne : ∀ k, inBlkE P.a P.len k → ¬ T k) : HasE W' P l := ⟨h.1, h.2.1, rowV_frame h.2.2 hF hne⟩
theorem inBlkL_lt {W : World} {a : Option Addr} {n sz : Nat} {xs : List Value} (h : RowV W a n sz xs) {k : Nat} (hk : inBlkE a n k) : k < W.heap.size := by
  obtain ⟨b, off, e, h0, rfl⟩ := hk
  obtain ⟨b', off', e', hb, _⟩ := h.2.2 h0
  rw [e] at e'
  cases e'
  exact hb
theorem ownBlockL_lt {W : World} {base : Nat} {e : TypeId} {size : Nat} {v : Value} {k : Nat} {xs : List Value} (h : W.ownsRow base e size v k xs) {j : Nat} (hj : some j = v.ownBlock) : j < W.heap.size ∧ base ≤ j ∧ ∃ o : Obj, W.heap[j]? = some o ∧ o.isCells = true := by
  rcases h.2 with ⟨rfl, _⟩ | ⟨g, cap, cur, rfl, hb, hg, _⟩
  · simp [Value.ownBlock] at hj
  · obtain rfl : j = g := by simpa [Value.ownBlock] using hj
    exact ⟨(Array.getElem?_eq_some_iff.1 hg).1, hb, _, hg, rfl⟩
theorem frameL_grown {w w' : World} {row : Option Nat} (h : w.grownBy w' row) : FrameT (fun k => some k = row) w w' := ⟨h.os, h.tape, h.output, h.size, fun k hk hT => h.block k hk hT⟩
/-- A row of parts that grows from C on; what its parts hold lies elsewhere, from C on too. -/
def plI (C : Nat) (v : Value) (pre : List PL) (W : World) : Prop :=
  W.ownsRow C 41 10 v pre.length (partCells pre) ∧ ∀ x, x ∈ pre → HasE W x.1 x.2 ∧ ∀ k, inBlkE x.1.a x.1.len k → C ≤ k ∧ some k ≠ v.ownBlock
theorem plI_nil (C : Nat) (W : World) : plI C (.slice none 0 0) [] W := ⟨World.ownsRow_nil _ _ _ _, fun x hx => by cases hx⟩
theorem plI.below {C : Nat} {v : Value} {pre : List PL} {W W' : World} (h : plI C v pre W) (hB : Below W.heap.size W W') : plI C v pre W' :=
  ⟨ownL_frame h.1 (FrameT.below hB) (fun _ _ => id), fun x hx => ⟨(h.2 x hx).1.below hB, (h.2 x hx).2⟩⟩
theorem plI_append {C : Nat} {v v' : Value} {pre : List PL} {x : PL} {W w2 : World} (h : plI C v pre W)
    (hx : HasE W x.1 x.2 ∧ ∀ k, inBlkE x.1.a x.1.len k → C ≤ k ∧ some k ≠ v.ownBlock) (hown : w2.ownsRow C 41 10 v' (pre.length + 1) (partCells pre ++ x.1.arr.toList)) (hg : W.grownBy w2 v.ownBlock) (hn : v'.ownBlock = v.ownBlock ∨ v'.ownBlock = some W.heap.size) :
    plI C v' (pre ++ [x]) w2 ∧ FrameT (fun k => some k = v.ownBlock) W w2 := by
  obtain ⟨hrow, hall⟩ := h
  have hF := frameL_grown hg
  refine ⟨⟨?_, fun y hy => ?_⟩, hF⟩
  · rw [List.length_append, partCells_snoc]; exact hown
  · have hE : ∀ y : PL, HasE W y.1 y.2 ∧ (∀ k, inBlkE y.1.a y.1.len k → C ≤ k ∧ some k ≠ v.ownBlock) → HasE w2 y.1 y.2 ∧ ∀ k, inBlkE y.1.a y.1.len k → C ≤ k ∧ some k ≠ v'.ownBlock := fun y hy =>
      ⟨hasEL_frame hy.1 hF (fun k hk hT => (hy.2 k hk).2 hT), fun k hk => ⟨(hy.2 k hk).1, fun e => by
          have h3 := inBlkL_lt hy.1.2.2 hk
          rcases hn with hn | hn
          · exact (hy.2 k hk).2 (e.trans hn)
          · rw [hn] at e; cases e; omega⟩⟩
    rcases List.mem_append.1 hy with hy | hy
    · exact hE y (hall y hy)
    · rw [List.mem_singleton] at hy; subst hy; exact hE _ hx
/-- Parts in new memory: from C on. -/
def PNew (C : Nat) (W : World) (a : Option Addr) (len : Nat) (S : List PL) : Prop := HasP W a len S ∧ (∀ k, inBlkE a len k → C ≤ k) ∧ ∀ x ∈ S, ∀ k, inBlkE x.1.a x.1.len k → C ≤ k
theorem PNew.below {C : Nat} {W W' : World} {a : Option Addr} {len : Nat} {S : List PL} (h : PNew C W a len S) (hB : Below W.heap.size W W') : PNew C W' a len S := ⟨h.1.below hB, h.2⟩
theorem PNew.mono {C C' : Nat} {W : World} {a : Option Addr} {len : Nat} {S : List PL} (h : PNew C W a len S) (hC : C' ≤ C) : PNew C' W a len S := ⟨h.1, fun k hk => Nat.le_trans hC (h.2.1 k hk), fun x hx k hk => Nat.le_trans hC (h.2.2 x hx k hk)⟩
theorem PNew.frame {C : Nat} {T : Nat → Prop} {W W' : World} {a : Option Addr} {len : Nat} {S : List PL} (h : PNew C W a len S) (hF : FrameT T W W') (hT : ∀ k, C ≤ k → k < W.heap.size → ¬ T k) : PNew C W' a len S := by
  obtain ⟨⟨h1, h2, h3, h4⟩, h5, h6⟩ := h
  exact ⟨⟨h1, h2, rowV_frame h3 hF (fun k hk => hT k (h5 k hk) (inBlkL_lt h3 hk)), fun x hx => hasEL_frame (h4 x hx) hF (fun k hk => hT k (h6 x hx k hk) (inBlkL_lt (h4 x hx).2.2 hk))⟩, h5, h6⟩
theorem plI.out {C : Nat} {v : Value} {pre : List PL} {W : World} (h : plI C v pre W) (hn : pre.length < 1000000) : ∃ a cap, v = .slice a pre.length cap ∧ pre.length ≤ cap ∧ PNew C W a pre.length pre := by
  obtain ⟨a, cap, rfl, hc, hr⟩ := rowV_own h.1
  refine ⟨a, cap, rfl, hc, ⟨rfl, hn, hr, fun x hx => (h.2 x hx).1⟩, fun k hk => ?_, fun x hx k hk => ((h.2 x hx).2 k hk).1⟩
  obtain ⟨b, off, rfl, h0, rfl⟩ := hk
  exact (ownBlockL_lt h.1 rfl).2.1
theorem setBox10 {w : World} {b : Nat} {T : TypeId} {v0 v1 v2 v3 v4 v5 v6 v7 v8 v9 : Value} (h : w.heap[b]? = some (.cells #[v0, v1, v2, v3, v4, v5, v6, v7, v8, v9] T (0, 0))) (u : Value) :
    (w.setCell ⟨b, 2, none⟩ u).heap[b]? = some (.cells #[v0, v1, u, v3, v4, v5, v6, v7, v8, v9] T (0, 0)) := by
  have := Go.Joins.block_setCell h u (i := 2)
  simpa only [List.setIfInBounds_toArray, List.set_cons_succ, List.set_cons_zero] using this

end Go.Proofs.Ytdncdlbhgaehmaa

/- Package shard: whose a group is; what a shard has of a record's parts. -/
namespace Go.Proofs.Ytdncdlbhgaehmaa
open Go.RowKit Go.Shelf
set_option linter.unusedVariables false
attribute [local go_sem] Oper.semAt_some wide_fn wide_round_fn

def heldI (n : Int) : Int := if n < 1 then 1 else if 64 < n then 64 else n
theorem heldI_bd (n : Int) : 1 ≤ heldI n ∧ heldI n ≤ 64 := by unfold heldI; split; (omega); (split <;> omega)
def shOf (g n : Int) : Int := (if g < 0 then 0 else g) % heldI n
theorem shOf_bd (g n : Int) : 0 ≤ shOf g n ∧ shOf g n < heldI n := by
  have := heldI_bd n
  unfold shOf
  exact ⟨Int.emod_nonneg _ (by omega), Int.emod_lt_of_pos _ (by omega)⟩
set_option maxRecDepth 100000 in
theorem shHeld_any (n : Int) (w : World) : Gives Try.prog 34 #[.int .i64 n] w (.int .i64 (heldI n)) := by
  unfold Gives heldI
  by_cases h1 : n < 1
  · rw [if_pos h1]
    have h2 : n ≤ 1 := by omega
    go_enter Try.func34, Try.ntmps34
    go_wp2
    go_ret
    exact ⟨by rw [Int.max_eq_right h2]; rfl, Below.refl _ _⟩
  · rw [if_neg h1]
    have h2 : 1 ≤ n := by omega
    by_cases h3 : 64 < n
    · rw [if_pos h3]
      have h4 : 64 ≤ n := by omega
      go_enter Try.func34, Try.ntmps34
      go_wp2
      go_ret
      exact ⟨by simp [Int.max_eq_left h2, Int.min_eq_right h4], Below.refl _ _⟩
    · rw [if_neg h3]
      have h4 : n ≤ 64 := by omega
      go_enter Try.func34, Try.ntmps34
      go_wp2
      go_ret
      exact ⟨by simp [Int.max_eq_left h2, Int.min_eq_left h4], Below.refl _ _⟩
set_option maxRecDepth 100000 in
theorem shOf_any (g n : Int) (hg : -9223372036854775808 ≤ g ∧ g < 9223372036854775808) (w : World) : Gives Try.prog 15 #[.int .i64 g, .int .i64 n] w (.int .i64 (shOf g n)) := by
  have GH := Lib.hid (shHeld_any n)
  have hb := heldI_bd n
  unfold Gives shOf
  generalize heldI n = k at *
  have hk0 : ¬ k = 0 := by omega
  have hk1 : (k == 0) = false := by rw [beq_eq_false_iff_ne]; exact hk0
  by_cases h1 : g < 0
  · rw [if_pos h1]
    have h2 : g ≤ 0 := by omega
    have e1 : (0 : Int) % k = 0 := by simp
    rw [e1]
    go_enter Try.func15, Try.ntmps15
    go_wp2_with (go_at_call 34; ((with_reducible refine (GH.out _).mono ?_); rintro e w1 ⟨rfl, hB⟩))
    go_ret
    exact ⟨by simp [Int.max_eq_right h2], hB⟩
  · rw [if_neg h1]
    have h2 : 0 ≤ g := by omega
    have h3 : 0 ≤ g % k := Int.emod_nonneg _ (by omega)
    have h4 : g % k < k := Int.emod_lt_of_pos _ (by omega)
    have h5 : g.tmod k = g % k := Int.tmod_eq_emod_of_nonneg h2
    have h6 : IntKind.i64.wrap (g % k) = g % k := IntWalk.i64_in _ (by omega)
    go_enter Try.func15, Try.ntmps15
    go_wp2_with (go_at_call 34; ((with_reducible refine (GH.out _).mono ?_); rintro e w1 ⟨rfl, hB⟩))
    go_ret
    exact ⟨by simp [Int.max_eq_left h2], hB⟩

def ownP (s n : Int) (L : List PL) : List PL := L.filter fun x => decide (shOf x.1.g n = s)
def ownC (s n : Int) (L : List ReadC) : List ReadC := L.filter fun x => decide (shOf x.g n = s)
theorem ownP_core (s n : Int) (L : List PL) : (ownP s n L).map core = ownC s n (L.map core) := by
  unfold ownP ownC
  rw [List.filter_map]; rfl
theorem ownC_take {s n : Int} {L : List PL} {k : Nat} (hk : k < L.length) : ownC s n ((L.take (k + 1)).map core) = ownC s n ((L.take k).map core) ++ if shOf L[k].1.g n = s then [core L[k]] else [] := by
  rw [List.take_succ_eq_append_getElem hk, List.map_append]
  unfold ownC
  rw [List.filter_append]
  congr 1
  by_cases h : shOf L[k].1.g n = s
  · rw [if_pos h]; simp [core, h]
  · rw [if_neg h]; simp [core, h]
theorem ownC_len (s n : Int) (L : List ReadC) : (ownC s n L).length ≤ L.length := List.length_filter_le _ _
/-- Entries fit into what holds them. -/
def CapL (L : List PL) : Prop := ∀ y ∈ L, y.2.length ≤ y.1.cap
theorem CapL.snoc {L : List PL} {y : PL} (h : CapL L) (hy : y.2.length ≤ y.1.cap) : CapL (L ++ [y]) := fun z hz => by
  rcases List.mem_append.1 hz with hz | hz
  · exact h z hz
  · rw [List.mem_singleton.1 hz]; exact hy
/-- What share leaves: the parts of that shard, with entries of their own. -/
def SharePost (s n : Int) (L : List PL) (W : World) (e : Ending) (w' : World) : Prop :=
  ∃ a cap S, e = .returned (.slice a S.length cap) ∧ S.length ≤ cap ∧ PNew W.heap.size w' a S.length S ∧ S.map core = ownC s n (L.map core) ∧ CapL S ∧ Below W.heap.size W w'
set_option maxRecDepth 100000 in
set_option maxHeartbeats 4000000 in
theorem share_any (s n : Int) (a : Option Addr) (len cap : Nat) (L : List PL) (W : World) (hp : HasP W a len L) (hg : ∀ x ∈ L, -9223372036854775808 ≤ x.1.g ∧ x.1.g < 9223372036854775808) :
    Calls Try.prog 57 #[.slice a len cap, .int .i64 s, .int .i64 n] W (SharePost s n L W) := by
  obtain ⟨i0, hi, hz0, hz1, hz2⟩ := info_parts infoPartL
  obtain ⟨hl, hm, hrow, hen⟩ := hp
  have HL := Lib.hid hl
  have HEN := Lib.hid hen
  have HG := Lib.hid hg
  have hcs := hrow.2.2
  clear hl hen hg hrow
  go_enter Try.func57, Try.ntmps57
  go_wp2
  go_loopw [7, 12] (fun ov q wr => ∃ (k : Nat) (pre : List PL) (v : Value), k ≤ len ∧ v = ov ∧ q = .int .i64 (k : Int) ∧ plI W.heap.size v pre wr ∧ pre.map core = ownC s n ((L.take k).map core) ∧ CapL pre ∧ Below W.heap.size W wr) (fun _ q _ => len - (intOf q).toNat)
  case atStart => exact ⟨0, [], _, by omega, rfl, rfl, plI_nil _ _, rfl, (fun y hy => by cases hy), Below.refl _ _⟩
  case round =>
  obtain ⟨k, pre, v, hk, rfl, rfl, hI, hpre, hcap, hB⟩ := hrel
  have HPRE := Lib.hid hpre
  have HCAP := Lib.hid hcap
  clear hpre hcap
  by_cases hlt : k < len
  · have hlt' : (k : Int) < (len : Int) := by omega
    have hw9 : IntKind.i64.wrap ((k : Int) + 1) = ((k + 1 : Nat) : Int) := (IntWalk.i64_in _ (by omega)).trans (by push_cast; rfl)
    obtain ⟨b, off, rfl, hb, hx⟩ := hcs (by omega)
    have hkl : k < L.length := by rw [HL.out]; exact hlt
    obtain ⟨c0, c1, c2, c3, c4, c5, c6, c7, c8, c9⟩ := part_at10 hb hB hx hkl
    have HEk := Lib.hid ((HEN.out L[k] (List.getElem_mem hkl)).below hB)
    have HTK := Lib.hid (ownC_take (s := s) (n := n) hkl)
    have hgk := HG.out L[k] (List.getElem_mem hkl)
    have HLEN := Lib.hid (show pre.length ≤ k by
      have h1 := congrArg List.length HPRE.out
      rw [List.length_map] at h1
      have h2 := ownC_len s n ((L.take k).map core)
      rw [List.length_map, List.length_take] at h2
      omega)
    clear hx hcs HEN HG
    generalize L[k] = x at *
    obtain ⟨⟨pg, pk, pa, plen, pcap, pht, phv, phc, pi, pt, pm, ph⟩, pl⟩ := x
    dsimp only at *
    have GO := Lib.hid (fun W' => shOf_any pg n hgk W')
    have hbx := World.alloc_heap_new wr (.cells #[.int .i64 pg, .int .i64 pk, .slice pa plen pcap, .int .i64 pht, .int .i64 phv, .int .i64 phc, .int .i64 pi, .int .i64 pt, .bool pm, .bool ph] 41)
    have hBx := bel_alloc (Below.refl wr.heap.size wr) (.cells #[.int .i64 pg, .int .i64 pk, .slice pa plen pcap, .int .i64 pht, .int .i64 phv, .int .i64 phc, .int .i64 pi, .int .i64 pt, .bool pm, .bool ph] 41)
    obtain ⟨x0, x1, x2, x3, x4, x5, x6, x7, x8, x9⟩ := arr10q hbx
    have HBX := Lib.hid hbx
    have HBB := Lib.hid hBx
    clear hbx hBx
    by_cases hs : shOf pg n = s
    · subst hs
      have HC := Lib.hid (fun W' (hE : HasE W' (⟨pg, pk, pa, plen, pcap, pht, phv, phc, pi, pt, pm, ph⟩ : PartC) pl) => clone_ent pa plen pcap pl hE.1 hE.2.1 W' hE.2.2)
      unfold GivesOwn at HC
      generalize hsg : shOf pg n = s at *
      have HSG := Lib.hid hsg
      clear hsg hgk
      go_wp2_with (first
        | (go_at_call 15; ((with_reducible refine (GO.out _).mono ?_); rintro e w1 ⟨rfl, hB1⟩; have hq1 := (hB1.block _ (heap_lt HBX.out)).trans HBX.out; have hE1 := HEk.out.below (bel2 HBB.out hB1); have hB1' := bel2 HBB.out hB1; clear x0 x1 x2 x3 x4 x5 x6 x7 x8 x9; obtain ⟨x0, x1, x2, x3, x4, x5, x6, x7, x8, x9⟩ := arr10q hq1; clear hB1))
        | (go_at_call 82; ((with_reducible refine (HC.out _ hE1).mono ?_); rintro e w2 ⟨v2, rfl, hown2, hB2⟩; obtain ⟨va, vc, rfl, hvc2, hrow2⟩ := rowV_own hown2; have HCL := Lib.hid (HCAP.out.snoc (y := ((⟨pg, pk, va, plen, vc, pht, phv, phc, pi, pt, pm, ph⟩ : PartC), pl)) (by have h1 := hE1.1; dsimp only at h1 ⊢; omega)); clear hvc2; have hnb := own_new hown2; have hq2 := (hB2.block _ (heap_lt hq1)).trans hq1; have hB2' := bel2 hB1' hB2; have hq3 := setBox10 hq2 (.slice va plen vc); clear x0 x1 x2 x3 x4 x5 x6 x7 x8 x9; obtain ⟨y0, y1, y2, y3, y4, y5, y6, y7, y8, y9⟩ := arr10q hq2; have f2 := frozen_of_row w2 wr.heap.size 2 _ _ hq2; obtain ⟨x0, x1, x2, x3, x4, x5, x6, x7, x8, x9⟩ := arr10q hq3; have hB3 := hB2'.setCell (p := ⟨wr.heap.size, 2, none⟩) (Nat.le_refl _) (.slice va plen vc); have hE3 : HasE (w2.setCell ⟨wr.heap.size, 2, none⟩ (.slice va plen vc)) (⟨pg, pk, va, plen, vc, pht, phv, phc, pi, pt, pm, ph⟩ : PartC) pl := (hasEL_frame (T := fun k => k = wr.heap.size) (W := w2) ⟨HEk.out.1, HEk.out.2.1, hrow2⟩ (FrameT.setCell w2 wr.heap.size 2 _) (fun k hk e => by have h1 := hnb k hk; have h2 := heap_lt hq1; omega)); have HI3 := Lib.hid (hI.below hB3); have HNB := Lib.hid (show ∀ k, inBlkE va plen k → W.heap.size ≤ k ∧ some k ≠ v.ownBlock from fun k hk => ⟨by have h1 := hnb k hk; have h2 := hB.size; have h3 := hB1'.size; omega, fun e => by have h1 := hnb k hk; have h2 := (ownBlockL_lt hI.1 e).1; have h3 := hB1'.size; omega⟩); have HE3 := Lib.hid hE3; have HB3 := Lib.hid hB3; have hs3 : (w2.setCell ⟨wr.heap.size, 2, none⟩ (.slice va plen vc)).heap.size = w2.heap.size := World.size_setCell _ _ _; have hW2 : W.heap.size ≤ w2.heap.size := Nat.le_trans hB.size hB2'.size; clear hown2 hrow2 hnb hq1 hq2 hq3 hB2 hB2' hB1' hE1 hE3 hB3))
        | (at_builtin; refine wpList_append_own_at _ rfl _ _ 30 rfl W.heap.size 41 i0 (.agg #[.int .i64 0, .int .i64 0, .slice none 0 0, .int .i64 0, .int .i64 0, .int .i64 0, .int .i64 0, .int .i64 0, .bool false, .bool false]) 10 88 Try.underlying30 hi hz0 hz1 hz2 rfl (by decide) _ _ _ rfl (HI3.out.1.alloc _) ⟨w2.heap.size, 0, none⟩ 1 1 [.int .i64 pg, .int .i64 pk, .slice va plen vc, .int .i64 pht, .int .i64 phv, .int .i64 phc, .int .i64 pi, .int .i64 pt, .bool pm, .bool ph] rfl rfl (by have h := news_new (w2.setCell ⟨wr.heap.size, 2, none⟩ (.slice va plen vc)) 41 [.int .i64 pg, .int .i64 pk, .slice va plen vc, .int .i64 pht, .int .i64 phv, .int .i64 phc, .int .i64 pi, .int .i64 pt, .bool pm, .bool ph]; rwa [World.size_setCell] at h) (by simp [Value.oneCell']) (by unfold maxLen; have := HLEN.out; omega) (by have := HLEN.out; omega) (by simp; omega) ?_; intro v' w9 hown9 hgrow9 _ hnew9; have hA := bel_alloc (Below.refl (w2.setCell ⟨wr.heap.size, 2, none⟩ (.slice va plen vc)).heap.size (w2.setCell ⟨wr.heap.size, 2, none⟩ (.slice va plen vc))) (.cells #[.int .i64 pg, .int .i64 pk, .slice va plen vc, .int .i64 pht, .int .i64 phv, .int .i64 phc, .int .i64 pi, .int .i64 pt, .bool pm, .bool ph] 41); have HLA := Lib.hid (plI_append (x := (⟨pg, pk, va, plen, vc, pht, phv, phc, pi, pt, pm, ph⟩, pl)) (HI3.out.below hA) ⟨HE3.out.below hA, HNB.out⟩ hown9 hgrow9 hnew9); have HB9 := Lib.hid (show Below W.heap.size W w9 from (hB.trans (HB3.out.mono hB.size)).trans ((hA.mono (by have := hB.size; have := HB3.out.size; omega)).trans (HLA.out.2.toBelow (by have := hA.size; have := HB3.out.size; have := hB.size; omega) (fun k hk => (ownBlockL_lt (hI.1) hk).2.1)))); clear hown9 hgrow9 hnew9 hA))
      clear x0 x1 x2 x3 x4 x5 x6 x7 x8 x9 y0 y1 y2 y3 y4 y5 y6 y7 y8 y9
      go_roundw
      case rel => exact ⟨k + 1, pre ++ [(⟨pg, pk, va, plen, vc, pht, phv, phc, pi, pt, pm, ph⟩, pl)], _, by omega, rfl, by go_num, HLA.out.1, by rw [HTK.out, List.map_append, HPRE.out]; simp [core], HCL.out, HB9.out⟩
      case measure => simp [intOf]; omega
    · have hs' : (shOf pg n == s) = false := by rw [beq_eq_false_iff_ne]; exact hs
      have HS := Lib.hid hs
      clear hgk hs
      generalize shOf pg n = t at *
      go_wp2_with (go_at_call 15; ((with_reducible refine (GO.out _).mono ?_); rintro e w1 ⟨rfl, hB1⟩; have HI1 := Lib.hid (hI.below (bel2 HBB.out hB1)); have HB1 := Lib.hid (bel2 hB (bel2 HBB.out hB1))))
      clear x0 x1 x2 x3 x4 x5 x6 x7 x8 x9
      go_roundw
      case rel => exact ⟨k + 1, pre, _, by omega, rfl, by go_num, HI1.out, by rw [HTK.out, if_neg HS.out, List.append_nil, HPRE.out], HCAP.out, HB1.out⟩
      case measure => simp [intOf]; omega
  have hOk : k = len := by omega
  subst k
  have hge : ¬ (len : Int) < (len : Int) := by omega
  have hl := HL.out
  have hpl : pre.length ≤ len := by
    have h1 := congrArg List.length HPRE.out
    rw [List.length_map] at h1
    have h2 := ownC_len s n ((L.take len).map core)
    rw [List.length_map, List.length_take] at h2
    omega
  obtain ⟨va, vc, rfl, hvc, hPN⟩ := hI.out (by omega)
  go_wp2
  go_ret
  refine ⟨va, vc, pre, rfl, hvc, hPN, ?_, HCAP.out, hB⟩
  rw [HPRE.out, List.take_of_length_le (by omega)]

end Go.Proofs.Ytdncdlbhgaehmaa

/- Records that were found, in memory; what a shard has of them: the iterator shares. -/
namespace Go.Proofs.Ytdncdlbhgaehmaa
open Go.RowKit Go.Shelf
set_option linter.unusedVariables false
attribute [local go_sem] Oper.semAt_some wide_fn wide_round_fn

/-- A record that was found, and where: its number, its parts, the place. -/
structure FV where
  q : Int
  a : Option Addr
  len : Nat
  cap : Nat
  L : List PL
  s : Int
  t : Int
abbrev FV.arr (x : FV) : Array Value := #[.int .i64 x.q, .slice x.a x.len x.cap, .int .i64 x.s, .int .i64 x.t]
abbrev FV.val (x : FV) : Value := .agg #[.int .i64 x.q, .slice x.a x.len x.cap, .int .i64 x.s, .int .i64 x.t]
/-- .. but for where its parts lie. -/
structure FC where
  q : Int
  ps : List ReadC
  s : Int
  t : Int
def fcore (x : FV) : FC := ⟨x.q, x.L.map core, x.s, x.t⟩
def fvCells (L : List FV) : List Value := (L.map fun x => x.arr.toList).flatten
theorem fvCells_snoc (L : List FV) (x : FV) : fvCells (L ++ [x]) = fvCells L ++ x.arr.toList := by simp [fvCells]
def FoundsAt (W : World) (a : Option Addr) (len : Nat) (L : List FV) : Prop := L.length = len ∧ len < 1000000 ∧ RowV W a len 4 (fvCells L) ∧ ∀ x ∈ L, HasP W x.a x.len x.L ∧ ∀ y ∈ x.L, -9223372036854775808 ≤ y.1.g ∧ y.1.g < 9223372036854775808
theorem FoundsAt.below {W W' : World} {a : Option Addr} {len : Nat} {L : List FV} (h : FoundsAt W a len L) (hB : Below W.heap.size W W') : FoundsAt W' a len L :=
  ⟨h.1, h.2.1, h.2.2.1.below hB, fun x hx => ⟨(h.2.2.2 x hx).1.below hB, (h.2.2.2 x hx).2⟩⟩
theorem fv_at4 {w W : World} {b off : Nat} {L : List FV} (hb : b < w.heap.size) (hB : Below w.heap.size w W) (hc : ∀ j (h : j < (fvCells L).length), w.cell? ⟨b, off + j, none⟩ = some (fvCells L)[j]) {k : Nat} (hk : k < L.length) :
    W.cell? ⟨b, off + k * 4, none⟩ = some (.int .i64 L[k].q) ∧ W.cell? ⟨b, off + k * 4 + 1, none⟩ = some (.slice L[k].a L[k].len L[k].cap) ∧ W.cell? ⟨b, off + k * 4 + 2, none⟩ = some (.int .i64 L[k].s) ∧ W.cell? ⟨b, off + k * 4 + 3, none⟩ = some (.int .i64 L[k].t) := by
  have key : ∀ j v, j < 4 → L[k].arr.toList[j]? = some v → W.cell? ⟨b, off + k * 4 + j, none⟩ = some v := fun j v hj hv => by
    rw [Nat.add_assoc]
    exact (hB.cell (p := ⟨b, off + (k * 4 + j), none⟩) hb).trans (RowV.at_ (len := L.length) (sz := 4) hc (by rw [fvCells, flat_at (fun x : FV => x.arr.toList) 4 (fun _ => rfl) L k j hk hj]; exact hv))
  exact ⟨key 0 _ (by decide) rfl, key 1 _ (by decide) rfl, key 2 _ (by decide) rfl, key 3 _ (by decide) rfl⟩
/-- What a shard has of records. -/
def ownF (s n : Int) (x : FC) : FC := ⟨x.q, ownC s n x.ps, x.s, x.t⟩
def splitC (s n : Int) (l : List FC) : List FC := (l.map (ownF s n)).filter fun x => !x.ps.isEmpty
theorem splitC_take {s n : Int} {L : List FV} {k : Nat} (hk : k < L.length) : splitC s n ((L.take (k + 1)).map fcore) = splitC s n ((L.take k).map fcore) ++ if (ownC s n (L[k].L.map core)).isEmpty then [] else [⟨L[k].q, ownC s n (L[k].L.map core), L[k].s, L[k].t⟩] := by
  rw [List.take_succ_eq_append_getElem hk, List.map_append]
  unfold splitC
  rw [List.map_append, List.filter_append]
  congr 1
  by_cases h : (ownC s n (L[k].L.map core)).isEmpty
  · rw [if_pos h]; simp [fcore, ownF, h]
  · rw [if_neg h]; simp [fcore, ownF, h]
theorem splitC_len (s n : Int) (l : List FC) : (splitC s n l).length ≤ l.length := by
  unfold splitC
  exact Nat.le_trans (List.length_filter_le _ _) (by rw [List.length_map]; exact Nat.le_refl _)
/-- What comes next: in new memory. -/
def nxS (n : Nat) (pre : List FV) (x : FV) (W2 W : World) : Prop := pre.length < n ∧ PNew W2.heap.size W x.a x.len x.L ∧ Below W2.heap.size W2 W ∧ CapL x.L
theorem below_rdE {wE w0 W : World} {B0 : Nat} {S : Nat → Prop} (h0 : Below wE.heap.size wE w0) (hR : Rd B0 S w0 W) (hS : ∀ k, k < wE.heap.size → S k) : Below wE.heap.size wE W :=
  ⟨hR.os.trans h0.os, hR.tape.trans h0.tape, hR.output.trans h0.output, Nat.le_trans h0.size hR.size, fun k hk => by
    have h1 := h0.block k hk
    obtain ⟨o, ho⟩ : ∃ o, wE.heap[k]? = some o := ⟨_, Array.getElem?_eq_some_iff.2 ⟨hk, rfl⟩⟩
    rw [ho] at h1 ⊢
    exact hR.block k o h1 (.inl (hS k hk))⟩
theorem cells4 {W : World} {b : Nat} {T : TypeId} {v0 v1 v2 v3 : Value} (h : W.heap[b]? = some (.cells #[v0, v1, v2, v3] T (0, 0))) :
    W.cell? ⟨b, 0, none⟩ = some v0 ∧ W.cell? ⟨b, 1, none⟩ = some v1 ∧ W.cell? ⟨b, 2, none⟩ = some v2 ∧ W.cell? ⟨b, 3, none⟩ = some v3 := ⟨cell_of_row _ _ 0 _ _ _ h, cell_of_row _ _ 1 _ _ _ h, cell_of_row _ _ 2 _ _ _ h, cell_of_row _ _ 3 _ _ _ h⟩
theorem setBox4 {w : World} {b : Nat} {T : TypeId} {v0 v1 v2 v3 : Value} (h : w.heap[b]? = some (.cells #[v0, v1, v2, v3] T (0, 0))) (u : Value) : (w.setCell ⟨b, 1, none⟩ u).heap[b]? = some (.cells #[v0, u, v2, v3] T (0, 0)) := by
  have := Go.Joins.block_setCell h u (i := 1)
  simpa only [List.setIfInBounds_toArray, List.set_cons_succ, List.set_cons_zero] using this
set_option maxRecDepth 100000 in
set_option maxHeartbeats 4000000 in
theorem shares_iter (Bl Bs Bn : Nat) (s n : Int) (fa : Option Addr) (flen fcap : Nat) (Fs : List FV) (wE w0 : World) (hFs : FoundsAt wE fa flen Fs) (hEW : Below wE.heap.size wE w0) (h1 : w0.heap[Bl]? = some (.cells #[.slice fa flen fcap] 22 (0, 0))) (h2 : w0.heap[Bs]? = some (.cells #[.int .i64 s] 3 (0, 0))) (h3 : w0.heap[Bn]? = some (.cells #[.int .i64 n] 3 (0, 0))) :
    IterD Try.prog 56 #[.pointer (some ⟨Bl, 0, none⟩), .pointer (some ⟨Bs, 0, none⟩), .pointer (some ⟨Bn, 0, none⟩)] (fun x : FV => #[x.val]) (nxS flen) (fun ys => ys.map fcore = splitC s n (Fs.map fcore)) (fun k => k < wE.heap.size ∨ k = Bl ∨ k = Bs ∨ k = Bn) (fun _ => False) w0 := by
  intro l J Jx W hW hJs _ hY h0
  have hbs := hW.get h2 (.inr (.inr (.inl rfl)))
  have hbn := hW.get h3 (.inr (.inr (.inr rfl)))
  have cl0 : W.cell? ⟨Bl, 0, none⟩ = some (.slice fa flen fcap) := cell_of_row _ _ 0 _ _ _ (hW.get h1 (.inr (.inl rfl)))
  have hE0 : Below wE.heap.size wE W := below_rdE hEW hW (fun k hk => .inl hk)
  have HL := Lib.hid hFs.1
  have HFS := Lib.hid hFs
  have hm := hFs.2.1
  clear h1 h2 h3 hFs hW
  refine callsIn_of_wp Try.func56 rfl trivial ?_ rfl
  simp only [Try.ntmps56, List.size_toArray, List.length_cons, List.length_nil, Nat.reduceAdd, Nat.reduceSub, Array.replicate_succ, Array.replicate_zero, List.push_toArray, List.append_toArray, List.nil_append, List.cons_append]
  gi_wp2
  gi_loopw [9] (fun q wr => ∃ (k : Nat) (pre : List FV), k ≤ flen ∧ q = .int .i64 (k : Int) ∧ pre.map fcore = splitC s n ((Fs.take k).map fcore) ∧ J pre wr ∧ Rd W.heap.size (fun k => k < wE.heap.size ∨ k = Bl ∨ k = Bs ∨ k = Bn) W wr) (fun q _ => flen - (intOf q).toNat)
  case atStart => exact ⟨0, [], by omega, rfl, rfl, h0, Rd.refl _ _ _⟩
  case round =>
  obtain ⟨k, pre, hk, rfl, hpre, hJ, hR⟩ := hrel
  have HPRE := Lib.hid hpre
  clear hpre cl0 h0
  by_cases hlt : k < flen
  · have hlt' : (k : Int) < (flen : Int) := by omega
    have hw9 : IntKind.i64.wrap ((k : Int) + 1) = ((k + 1 : Nat) : Int) := (IntWalk.i64_in _ (by omega)).trans (by push_cast; rfl)
    have hEr := below_rdE hE0 hR (fun k hk => .inl hk)
    have hFr := HFS.out.below hEr
    obtain ⟨b, off, rfl, hb, hx⟩ := hFr.2.2.1.2.2 (by omega)
    have hkl : k < Fs.length := by rw [HL.out]; exact hlt
    obtain ⟨c0, c1, c2, c3⟩ := fv_at4 hb (Below.refl _ _) hx hkl
    have HXK := Lib.hid (hFr.2.2.2 Fs[k] (List.getElem_mem hkl))
    have HTK := Lib.hid (splitC_take (s := s) (n := n) hkl)
    have HPL := Lib.hid (show pre.length ≤ k by
      have h1 := congrArg List.length HPRE.out
      rw [List.length_map] at h1
      have h2 := splitC_len s n ((Fs.take k).map fcore)
      rw [List.length_map, List.length_take] at h2
      omega)
    have hbs2 := hR.get hbs (.inr (.inr (.inl rfl)))
    have hbn2 := hR.get hbn (.inr (.inr (.inr rfl)))
    clear hx hFr
    generalize Fs[k] = x at *
    obtain ⟨xq, xa, xlen, xcap, xL, xs, xt⟩ := x
    dsimp only at *
    have hBx := bel_alloc (Below.refl wr.heap.size wr) (.cells #[.int .i64 xq, .slice xa xlen xcap, .int .i64 xs, .int .i64 xt] 36)
    have hbx := World.alloc_heap_new wr (.cells #[.int .i64 xq, .slice xa xlen xcap, .int .i64 xs, .int .i64 xt] 36)
    obtain ⟨x0, x1, x2, x3⟩ := cells4 hbx
    have ks : (wr.alloc (.cells #[.int .i64 xq, .slice xa xlen xcap, .int .i64 xs, .int .i64 xt] 36)).cell? ⟨Bs, 0, none⟩ = some (.int .i64 s) := cell_of_row _ _ 0 _ _ _ ((hBx.block _ (heap_lt hbs2)).trans hbs2)
    have kn : (wr.alloc (.cells #[.int .i64 xq, .slice xa xlen xcap, .int .i64 xs, .int .i64 xt] 36)).cell? ⟨Bn, 0, none⟩ = some (.int .i64 n) := cell_of_row _ _ 0 _ _ _ ((hBx.block _ (heap_lt hbn2)).trans hbn2)
    have GS := Lib.hid (share_any s n xa xlen xcap xL _ (HXK.out.1.below hBx) HXK.out.2)
    have HBX := Lib.hid hBx
    have HBB := Lib.hid hbx
    clear hbx hBx hbs2 hbn2 hEr HXK
    by_cases hE : (ownC s n (xL.map core)).isEmpty = true
    · have HT2 := Lib.hid (show pre.map fcore = splitC s n ((Fs.take (k + 1)).map fcore) by rw [HTK.out, if_pos hE, List.append_nil, HPRE.out])
      have HE := Lib.hid (show ∀ S : List PL, S.map core = ownC s n (xL.map core) → S = [] from fun S h => by
        rw [List.isEmpty_iff] at hE
        rw [hE] at h
        exact List.map_eq_nil_iff.1 h)
      clear hE
      gi_wp2_with (gi_at_call 57; refine (callsIn_wide.2 GS.out).mono ?_; rintro e w1 ⟨sa, sc, S, rfl, hsc, hPN, hSc, hcl, hB1⟩; have hb1 := (hB1.block _ (heap_lt HBB.out)).trans HBB.out; clear x0 x1 x2 x3 ks kn; obtain ⟨y0, y1, y2, y3⟩ := cells4 hb1; have f1 := frozen_of_row _ wr.heap.size 1 _ _ hb1; have hb2 := setBox4 hb1 (.slice sa S.length sc); obtain ⟨x0, x1, x2, x3⟩ := cells4 hb2; have hBy := (bel2 HBX.out hB1).setCell (p := ⟨wr.heap.size, 1, none⟩) (Nat.le_refl _) (.slice sa S.length sc); obtain rfl := HE.out S hSc; have HJ2 := Lib.hid (hJs _ _ _ hJ (Moves.below hBy)); have HR2 := Lib.hid (hR.trans (Rd.below hBy)); clear hPN hSc hcl hB1 hb1 hb2 hBy hsc)
      go_roundw
      case rel => exact ⟨k + 1, pre, by omega, by go_num, HT2.out, HJ2.out, HR2.out⟩
      case measure => simp [intOf]; omega
    · have HT2 := Lib.hid (show ∀ x : FV, fcore x = ⟨xq, ownC s n (xL.map core), xs, xt⟩ → (pre ++ [x]).map fcore = splitC s n ((Fs.take (k + 1)).map fcore) from fun x hx => by rw [HTK.out, if_neg hE, List.map_append, HPRE.out, List.map_cons, hx]; rfl)
      have HE := Lib.hid (show ∀ S : List PL, S.map core = ownC s n (xL.map core) → 0 < S.length from fun S h => by
        rcases Nat.eq_zero_or_pos S.length with h0 | h0
        · rw [List.length_eq_zero_iff] at h0
          rw [h0] at h
          rw [← h] at hE
          exact absurd rfl hE
        · exact h0)
      clear hE
      gi_wp2_with (gi_at_call 57; refine (callsIn_wide.2 GS.out).mono ?_; rintro e w1 ⟨sa, sc, S, rfl, hsc, hPN, hSc, hcl, hB1⟩; have hb1 := (hB1.block _ (heap_lt HBB.out)).trans HBB.out; clear x0 x1 x2 x3 ks kn; obtain ⟨y0, y1, y2, y3⟩ := cells4 hb1; have f1 := frozen_of_row _ wr.heap.size 1 _ _ hb1; have hb2 := setBox4 hb1 (.slice sa S.length sc); obtain ⟨x0, x1, x2, x3⟩ := cells4 hb2; have hBy := (bel2 HBX.out hB1).setCell (p := ⟨wr.heap.size, 1, none⟩) (Nat.le_refl _) (.slice sa S.length sc); have hpos : (0 : Int) < (S.length : Int) := (by have := HE.out S hSc; omega); have hPy : PNew wr.heap.size (w1.setCell ⟨wr.heap.size, 1, none⟩ (.slice sa S.length sc)) sa S.length S := (hPN.frame (FrameT.setCell w1 wr.heap.size 1 (.slice sa S.length sc)) (fun k hk _ e => by simp at hk; omega)).mono (by simp); have hJ2 := hJs _ _ _ hJ (Moves.below hBy); obtain ⟨fn, tmps, assign, body, hy, hR1⟩ := hY pre ⟨xq, sa, S.length, sc, S, xs, xt⟩ wr (w1.setCell ⟨wr.heap.size, 1, none⟩ (.slice sa S.length sc)) hJ ⟨(by rw [show flen = flen from rfl]; have := HPL.out; omega), hPy, hBy, hcl⟩ hJ2; dsimp only [FV.val] at hy; have HR2 := Lib.hid (hR.trans (Rd.below hBy)); have HSC := Lib.hid hSc; clear hPN hB1 hb1 hb2 hBy hsc hPy hJ2 hSc hcl)
      refine (roundIn_wide_n hR1).mono ?_
      rintro e W3 (⟨rfl, hJ3, hk3⟩ | ⟨rfl, hJx3⟩)
      · clear x0 x1 x2 x3 y0 y1 y2 y3 f1 hy hR1
        gi_wp2
        go_roundw
        case rel => exact ⟨k + 1, pre ++ [⟨xq, sa, S.length, sc, S, xs, xt⟩], by omega, by go_num, HT2.out _ (by show (⟨xq, S.map core, xs, xt⟩ : FC) = _; rw [HSC.out]), hJ3, HR2.out.trans hk3⟩
        case measure => simp [intOf]; omega
      · gi_wp2
        refine bodyPost_ret (results_none rfl _ _ _) rfl ?_
        exact ⟨⟨_, rfl⟩, .inr ⟨_, _, hJx3⟩⟩
  have hOk : k = flen := by omega
  subst k
  have hge : ¬ (flen : Int) < (flen : Int) := by omega
  have HF := Lib.hid (show pre.map fcore = splitC s n (Fs.map fcore) by rw [HPRE.out, List.take_of_length_le (by rw [HL.out]; exact Nat.le_refl _)])
  gi_wp2
  refine bodyPost_end (results_none rfl _ _ _) rfl ?_
  exact ⟨⟨_, rfl⟩, .inl ⟨_, HF.out, hJ⟩⟩

end Go.Proofs.Ytdncdlbhgaehmaa
