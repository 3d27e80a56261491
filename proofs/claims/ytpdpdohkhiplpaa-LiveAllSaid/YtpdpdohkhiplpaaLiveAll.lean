/- Law LiveAll: for every input the call answers true; its arguments read as they did. No condition. -/
import Derived.Test.YtpdpdohkhiplpaaLaw
import Derived.Test.YtpdpdohkhiplpaaLiveMath
import Derived.Test.YtpdpdohkhiplpaaOpenSpot
namespace Go.Proofs.Ytpdpdohkhiplpaa.liveAll
open Go.ChangeShapes Go.WideShapes Go.ChangeAt Go.RowKit Go.Shelf
open Go.ChangeMaps (open_string shut_string)
set_option linter.unusedVariables false
attribute [local go_sem] Oper.semAt_some wide_fn wide_round_fn


def addS (acc : List Int) (f : SpotC) : List Int := if acc.any (· == f.s) then acc else acc ++ [f.s]
def dd (l : List SpotC) : List Int := l.foldl addS []
theorem dd_snoc (l : List SpotC) (f : SpotC) : dd (l ++ [f]) = addS (dd l) f := by simp [dd]
theorem dd_take (l : List SpotC) (k : Nat) (h : k < l.length) : dd (l.take (k + 1)) = addS (dd (l.take k)) l[k] := by rw [List.take_succ_eq_append_getElem h, dd_snoc]
theorem dd_props (l : List SpotC) : ∀ (r : List SpotC), r.length ≤ l.length → (∀ f ∈ r, f ∈ l) → (dd r).Nodup ∧ (∀ f ∈ r, f.s ∈ dd r) ∧ (∀ z ∈ dd r, ∃ f ∈ r, f.s = z) ∧ (dd r).length ≤ r.length := by
  intro r
  have key : ∀ r' : List SpotC, (dd r'.reverse).Nodup ∧ (∀ f ∈ r', f.s ∈ dd r'.reverse) ∧ (∀ z ∈ dd r'.reverse, ∃ f ∈ r', f.s = z) ∧ (dd r'.reverse).length ≤ r'.length := fun r' => by
    induction r' with
    | nil => simp [dd]
    | cons f r' ih =>
      obtain ⟨h1, h2, h3, h4⟩ := ih
      rw [List.reverse_cons, dd_snoc]
      unfold addS
      split
      · rename_i hany
        rw [List.any_eq_true] at hany
        obtain ⟨z, hz, he⟩ := hany
        have he : z = f.s := by simpa using he
        refine ⟨h1, fun g hg => ?_, fun z hz => ?_, by simp; omega⟩
        · rcases List.mem_cons.1 hg with rfl | hg
          · rw [← he]; exact hz
          · exact h2 g hg
        · obtain ⟨g, hg, e⟩ := h3 z hz; exact ⟨g, List.mem_cons_of_mem _ hg, e⟩
      · rename_i hany
        have hno : f.s ∉ dd r'.reverse := fun hm => hany (by rw [List.any_eq_true]; exact ⟨f.s, hm, by simp⟩)
        refine ⟨?_, fun g hg => ?_, fun z hz => ?_, by simp; omega⟩
        · rw [List.nodup_append]
          exact ⟨h1, by simp, fun a ha b hb e => hno (by simp at hb; rw [← hb, ← e]; exact ha)⟩
        · rcases List.mem_cons.1 hg with rfl | hg
          · simp
          · exact List.mem_append_left _ (h2 g hg)
        · rcases List.mem_append.1 hz with hz | hz
          · obtain ⟨g, hg, e⟩ := h3 z hz; exact ⟨g, List.mem_cons_of_mem _ hg, e⟩
          · exact ⟨f, by simp, (List.mem_singleton.1 hz).symm⟩
  intro _ _
  have := key r.reverse
  rw [List.reverse_reverse] at this
  obtain ⟨h1, h2, h3, h4⟩ := this
  exact ⟨h1, fun f hf => h2 f (by simpa using hf), fun z hz => by obtain ⟨f, hf, e⟩ := h3 z hz; exact ⟨f, by simpa using hf, e⟩, by simpa using h4⟩
theorem one_of (D : List Int) (hD : D.Nodup) (z : Int) (hz : z ∈ D) : (D.map fun y => if z = y then 1 else 0).sum = 1 := by
  induction D with
  | nil => simp at hz
  | cons y D ih =>
    rw [List.nodup_cons] at hD
    simp only [List.map_cons, List.sum_cons]
    by_cases e : z = y
    · subst e
      have : (D.map fun y => if z = y then 1 else 0).sum = 0 := by
        have h0 : ∀ D' : List Int, z ∉ D' → (D'.map fun y => if z = y then 1 else 0).sum = 0 := fun D' => by
          induction D' with
          | nil => intro _; rfl
          | cons x D' ih2 =>
            intro h
            simp only [List.map_cons, List.sum_cons]
            rw [if_neg (fun e => h (by simp [e])), ih2 (fun hm => h (List.mem_cons_of_mem _ hm))]
        exact h0 D hD.1
      rw [if_pos rfl, this]
    · rw [if_neg e, ih hD.2 (by rcases List.mem_cons.1 hz with h | h; exact absurd h e; exact h)]
theorem sum_cnt (D : List Int) (hD : D.Nodup) (l : List SpotC) (h : ∀ f ∈ l, f.s ∈ D) : (D.map (cnt l)).sum = l.length := by
  induction l with
  | nil =>
    have : ∀ D' : List Int, (D'.map (cnt [])).sum = 0 := fun D' => by
      induction D' with
      | nil => rfl
      | cons x D' ih => simp only [List.map_cons, List.sum_cons, ih]; rfl
    exact this D
  | cons f l ih =>
    have hadd : ∀ D' : List Int, (D'.map (cnt (f :: l))).sum = (D'.map fun y => if f.s = y then 1 else 0).sum + (D'.map (cnt l)).sum := fun D' => by
      induction D' with
      | nil => rfl
      | cons x D' ih2 =>
        simp only [List.map_cons, List.sum_cons, ih2]
        rw [cnt_cons]; omega
    rw [hadd, one_of D hD f.s (h f (by simp)), ih (fun g hg => h g (List.mem_cons_of_mem _ hg)), List.length_cons]
    omega
theorem recs_pos {l : List SpotC} (h : l ≠ []) : 1 ≤ recs l := by
  have : ∀ r : List SpotC, r ≠ [] → 1 ≤ recsR r := fun r => by
    induction r with
    | nil => intro h; exact absurd rfl h
    | cons f r ih =>
      intro _
      simp only [recsR]
      by_cases hr : r = []
      · subst hr; simp
      · have := ih hr; omega
  exact this _ (by simpa using h)

set_option maxRecDepth 100000 in
set_option maxHeartbeats 4000000 in
theorem walk (w : World) (a : Option Addr) (len cap : Nat) (l : List SpotC) (hl : l.length = len) (hcap : len ≤ cap) (h : RowV w a len 4 (spotCells l)) (hg : ∀ f ∈ l, goodSpot f) :
    Calls Try.prog 4 #[.slice a len cap] w fun e w' => e = .returned (.bool true) ∧ Below w.heap.size w w' := by
  obtain ⟨j0, hj, hy0, hy1, hy2⟩ := info_parts infoInt
  have hml2 := h.2.1
  unfold maxLen at hml2
  by_cases h1 : 40 < len
  · go_enter Try.func4, Try.ntmps4
    go_wp2_with (go_at_call 11; refine (live_known _).mono ?_; rintro e w1 ⟨rfl, hB1⟩)
    go_ret
    exact ⟨rfl, hB1⟩
  have h1' : len ≤ 40 := by omega
  clear h1
  have hcs := h.2.2
  go_enter Try.func4, Try.ntmps4
  go_wp2_with (go_at_call 11; refine (live_known _).mono ?_; rintro e w1 ⟨rfl, hB1⟩)
  go_loopw [3, 4] (fun v i wr => ∃ k : Nat, k ≤ len ∧ i = .int .i64 k ∧ wr.ownsRow w.heap.size 3 1 v (dd (l.take k)).length (intsV (dd (l.take k))) ∧ Below w.heap.size w wr) (fun _ i _ => len - (intOf i).toNat)
  case atStart => exact ⟨0, by omega, rfl, World.ownsRow_nil _ _ _ _, hB1⟩
  case round =>
    obtain ⟨k, hk, rfl, hown, hB⟩ := hrel
    by_cases hlt : k < len
    · obtain ⟨b, off, rfl, hb, hc⟩ := hcs (by omega)
      have hkl : k < l.length := by omega
      have HC2 := Lib.hid (fun (W : World) (hW : Below w.heap.size w W) => (spot_at hb hW hc hkl).2.2.1)
      have HD := Lib.hid (dd_take l k hkl)
      have hDl : (dd (l.take k)).length ≤ 40 := by
        have := (dd_props l (l.take k) (by simp; omega) (fun f hf => List.mem_of_mem_take hf)).2.2.2
        simp at this; omega
      generalize dd (l.take k) = D at *
      generalize l[k] = f at *
      have HOWN := Lib.hid hown
      obtain ⟨sa, sc, rfl, hsc, hrs⟩ := rowV_own hown
      clear hc hown
      obtain ⟨wo, rfl⟩ : ∃ wo : World, wo = wr := ⟨_, rfl⟩
      go_wp2
      go_loopw [5, 6] (fun th i wr => ∃ (k2 : Nat) (t : Bool), k2 ≤ D.length ∧ i = .int .i64 k2 ∧ th = .bool t ∧ t = (D.take k2).any (· == f.s) ∧ Below wo.heap.size wo wr) (fun _ i _ => D.length - (intOf i).toNat)
      case atStart => exact ⟨0, false, by omega, rfl, rfl, rfl, Below.refl _ _⟩
      case round =>
        obtain ⟨k2, t, hk2, rfl, rfl, ht, hB2⟩ := hrel
        by_cases hlt2 : k2 < D.length
        · obtain ⟨sb, so, rfl, hsb, hsl⟩ := hrs.2.2 (by omega)
          have d1 : wr.cell? ⟨sb, so + k2, none⟩ = some (.int .i64 D[k2]) := (hB2.cell (p := ⟨sb, so + k2, none⟩) hsb).trans (RowV.at_ (len := D.length) (sz := 1) hsl (by simp [hlt2]))
          have d2 := HC2.out wr (hB.trans (hB2.mono hB.size))
          have HT := Lib.hid (show (D.take (k2 + 1)).any (· == f.s) = (t || (D[k2] == f.s)) by rw [List.take_succ_eq_append_getElem hlt2, List.any_append, ← ht]; simp)
          clear ht hsl
          generalize D[k2] = z at *
          cases t with
          | true =>
            go_wp2
            go_quiet (fail)
            go_wp2
            exact ⟨⟨k2 + 1, true, by omega, by go_num, rfl, by rw [HT.out]; rfl, below_drewN hB2 _⟩, by simp [intOf]; omega⟩
          | false =>
            go_wp2
            go_quiet (fail)
            go_wp2
            exact ⟨⟨k2 + 1, (z == f.s), by omega, by go_num, rfl, by rw [HT.out]; rfl, below_drewN hB2 _⟩, by simp [intOf]; omega⟩
        · obtain rfl : k2 = D.length := by omega
          rw [List.take_length] at ht
          have d2 := HC2.out wr (hB.trans (hB2.mono hB.size))
          have hB3 : Below w.heap.size w wr := hB.trans (hB2.mono hB.size)
          have hown := ownsRow_below (n := 0) HOWN.out hB2
          have HA := Lib.hid (show dd (l.take (k + 1)) = if t then D else D ++ [f.s] by rw [HD.out, ht]; rfl)
          clear hrs hk2 hlt2 ht
          cases t with
          | true =>
            go_wp2
            exact ⟨⟨k + 1, by omega, by go_num, by rw [HA.out]; exact hown, hB3⟩, by simp [intOf]; omega⟩
          | false =>
            go_wp2_with (at_builtin; refine wpList_append_own _ rfl _ _ 23 rfl w.heap.size 3 j0 (.int .i64 0) 1 8 Try.underlying23 hj hy0 hy1 hy2 rfl (by decide) _ _ _ rfl (hown.alloc _) ⟨wr.heap.size, 0, none⟩ 1 1 [.int .i64 f.s] rfl rfl (news_new _ _ _) (by simp [Value.oneCell']) (by unfold maxLen; omega) (by omega) (by have := hB3.size; simp; omega) ?_; intro v' w2 hown' hgrow _)
            have hB4 : Below w.heap.size w w2 := (bel_alloc hB3 _).grown hgrow (by have := hB3.size; simp; omega) (fun g e => ownBlock_ge hown e)
            exact ⟨⟨k + 1, by omega, by go_num, by rw [HA.out]; simpa [intsV] using hown', hB4⟩, by simp [intOf]; omega⟩
    · obtain rfl : k = len := by omega
      rw [List.take_of_length_le (by omega)] at hown
      obtain ⟨p1, p2, p3, p4⟩ := dd_props l l (Nat.le_refl _) (fun _ h => h)
      have hsum := Lib.hid (sum_cnt (dd l) p1 l p2)
      have hpos := Lib.hid (fun z (hz : z ∈ dd l) => show inL l z ≠ [] from fun e => by
        obtain ⟨f, hf, hfz⟩ := p3 z hz
        have : f ∈ inL l z := List.mem_filter.2 ⟨hf, by simp [hfz]⟩
        rw [e] at this
        simp at this)
      have hle := Lib.hid (fun (k : Nat) => show ((dd l).take k).map (cnt l) = ((dd l).map (cnt l)).take k from by rw [List.map_take])
      have hw : ∀ f ∈ l, wfP f := fun f hf => ⟨wf_i64 (hg f hf).2.2.1, wf_i64 (hg f hf).2.2.2⟩
      have HN := Lib.hid (fun (z : Int) (W : World) (hW : Below w.heap.size w W) => in_any a k cap l z hl (by omega) W (h.below hW))
      have HR := Lib.hid (fun (z : Int) (W : World) (hW : Below w.heap.size w W) => records_any a k cap l z hl (by omega) hw W (h.below hW))
      have HK := Lib.hid (fun (z : Int) (W : World) (hW : Below w.heap.size w W) => count_any a k cap l z hl (by omega) W (h.below hW))
      have hDl : (dd l).length ≤ 40 := by omega
      generalize dd l = D at *
      obtain ⟨sa, sc, rfl, hsc, hrs⟩ := rowV_own hown
      obtain ⟨wo, rfl⟩ : ∃ wo : World, wo = wr := ⟨_, rfl⟩
      clear hown h hg hw p1 p2 p3 p4 hlt hk
      go_wp2
      go_loopw [7, 8] (fun n i wr => ∃ k2 : Nat, k2 ≤ D.length ∧ i = .int .i64 k2 ∧ n = .int .i64 ((D.take k2).map (cnt l)).sum ∧ ((D.take k2).map (cnt l)).sum ≤ 41 * k2 ∧ Below wo.heap.size wo wr) (fun _ i _ => D.length - (intOf i).toNat)
      case atStart => exact ⟨0, by omega, rfl, rfl, by simp, Below.refl _ _⟩
      case round =>
        obtain ⟨k2, hk2, rfl, rfl, hbd, hB2⟩ := hrel
        have hBw := hB.trans (hB2.mono hB.size)
        by_cases hlt2 : k2 < D.length
        · obtain ⟨sb, so, rfl, hsb, hsl⟩ := hrs.2.2 (by omega)
          have HD1 := Lib.hid (fun (W : World) (hW : Below wo.heap.size wo W) => show W.cell? ⟨sb, so + k2, none⟩ = some (.int .i64 D[k2]) from (hW.cell (p := ⟨sb, so + k2, none⟩) hsb).trans (RowV.at_ (len := D.length) (sz := 1) hsl (by simp [hlt2])))
          have d1 := HD1.out wr hB2
          have hps := hpos.out D[k2] (List.getElem_mem _)
          have hr1 := recs_pos hps
          have hr2 : recs (inL l D[k2]) ≤ cnt l D[k2] := recs_le _
          have hcl : cnt l D[k2] ≤ 40 := by have := cnt_le l D[k2]; omega
          have HS := Lib.hid (show ((D.take (k2 + 1)).map (cnt l)).sum = ((D.take k2).map (cnt l)).sum + cnt l D[k2] by rw [List.take_succ_eq_append_getElem hlt2, List.map_append, List.sum_append]; rfl)
          have N1 := Lib.hid (HN.out D[k2])
          have R1 := Lib.hid (HR.out D[k2])
          have K1 := Lib.hid (HK.out D[k2])
          clear hsl hrs hps
          generalize hrr : recs (inL l D[k2]) = rr at *
          clear hrr
          generalize hcc : cnt l D[k2] = cc at *
          clear hcc
          generalize D[k2] = z at *
          generalize ((D.take k2).map (cnt l)).sum = S at *
          go_wp2_with (first
            | (go_at_call 15; ((with_reducible refine (N1.out _ hBw).mono ?_); rintro e w3 ⟨v, rfl, hown3, hB3⟩; obtain ⟨a3, c3, rfl, hn3, -⟩ := rowV_own hown3; clear hown3; have d3 := HD1.out w3 (bel2 hB2 hB3); have hBw3 := bel2 hBw hB3))
            | (go_at_call 17; ((with_reducible refine (R1.out _ hBw3).mono ?_); rintro e w4 ⟨rfl, hB4⟩; have d4 := HD1.out w4 (bel2 (bel2 hB2 hB3) hB4); have hBw4 := bel2 hBw3 hB4))
            | (go_at_call 16; ((with_reducible refine (K1.out _ hBw4).mono ?_); rintro e w5 ⟨rfl, hB5⟩)))
          exact ⟨⟨k2 + 1, by omega, by go_num, by rw [HS.out]; go_num, by rw [HS.out]; omega, bel2 (bel2 (bel2 hB2 hB3) hB4) hB5⟩, by simp [intOf]; omega⟩
        · obtain rfl : k2 = D.length := by omega
          rw [List.take_length] at hbd ⊢
          rw [hsum.out, hl] at hbd ⊢
          go_wp2
          go_ret
          exact ⟨by simp, hBw⟩

set_option maxRecDepth 100000 in
theorem lifted (os : Os) (started : os.Started) (H : Type) (enc : TypeId × Value → H) :
    ReturnsInHanded {} Try.checked os 4 .any (Rows.liveAllSpec.pre6 enc Try.prog Try.f4 Rows.liveAllRow.domain false) (Rows.liveAllSpec.post enc Try.prog Try.f4 false true false false) := by
  refine returnsInHanded_of_change (C := Try.checked) Try.own started (by kernel_rfl) Try.func4
    (ChangeSpec.witness6 (enc := enc) (C := Try.checked) false ⟨#[], #[.slice none 0 0], []⟩ 8 (by kernel_rfl) (by kernel_rfl) (by kernel_rfl) (by kernel_rfl)) ?_
  intro W base args ds gs before hval hW _ _
  refine law_contract (T := 4) (n := 1) Try.laid Try.underlying4 rfl rfl ⟨rfl, fun H ds h => by match ds, h with | [_], _ => rfl⟩ (of_all (by kernel_rfl)) hW ?_
  intro ps hA
  rw [Try.params4] at hA hval
  obtain ⟨v0, vs0, d0, ds0, p0, q0, hargs, rfl, rfl, h0, r0⟩ := trodAll_cons hA
  obtain ⟨rfl, rfl, rfl⟩ := trodAll_nil r0
  obtain rfl : args = #[v0] := by cases args; simp_all
  obtain ⟨s0, l0, c0, rfl⟩ := okWide_slice Try.underlying22 (hval 0 22 v0 rfl rfl)
  obtain ⟨zs0, e0, g0, w0, b0⟩ := open_spots h0
  exact walk W s0 l0 c0 zs0 e0 g0 w0 b0

theorem holds : Rows.LiveAllSaid :=
  OpenClaim.holds_of_wide 4 Try.f4 rfl rfl rfl rfl rfl rfl rfl ⟨rfl, rfl, rfl, rfl, rfl⟩ rfl rfl rfl rfl rfl (by kernel_rfl) Try.func4 (by kernel_rfl)
    (of_decide_eq_true (by kernel_rfl)) (by unfold Func.isWrapper; first | (rw [if_pos (by decide +kernel)]; kernel_rfl) | (rw [if_neg (by decide +kernel)]; exact ⟨rfl, rfl⟩))
    (fun os started H enc _ => lifted os started H enc)
end Go.Proofs.Ytpdpdohkhiplpaa.liveAll
