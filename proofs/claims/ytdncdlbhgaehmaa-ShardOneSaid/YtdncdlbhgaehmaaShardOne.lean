/- Law ShardOne: for every input the call answers true; its arguments read as they did. No condition. -/
import Derived.Test.YtdncdlbhgaehmaaLaw
import Derived.Test.YtdncdlbhgaehmaaKnown18
import Derived.Test.YtdncdlbhgaehmaaFew18
import Derived.Test.YtdncdlbhgaehmaaSame18
namespace Go.Proofs.Ytdncdlbhgaehmaa.shardOne
open Go.ChangeShapes Go.WideShapes Go.ChangeAt Go.RowKit Go.Shelf
open Go.ChangeMaps (open_string shut_string)
set_option linter.unusedVariables false
attribute [local go_sem] Oper.semAt_some wide_fn wide_round_fn

attribute [local irreducible] wpQuiet
def somF (L : List FV) : List FV := L.filter fun x => decide (0 < x.len)
theorem somF_take {L : List FV} {k : Nat} (hk : k < L.length) : somF (L.take (k + 1)) = somF (L.take k) ++ if 0 < L[k].len then [L[k]] else [] := by
  unfold somF
  rw [List.take_succ_eq_append_getElem hk, List.filter_append]
  congr 1
  by_cases h : 0 < L[k].len
  · simp [h]
  · rw [if_neg h, List.filter_cons_of_neg (by simpa using h)]; rfl
theorem somF_len (L : List FV) : (somF L).length ≤ L.length := List.length_filter_le _ _
theorem own_one (l : List ReadC) : ownC 0 1 l = l := by
  unfold ownC
  rw [List.filter_eq_self]
  intro x _
  have h := shOf_bd x.g 1
  have h1 : heldI 1 = 1 := by kernel_rfl
  simp only [decide_eq_true_eq]
  omega
theorem split_one (L : List FV) (h : ∀ x ∈ L, x.L.length = x.len) : splitC 0 1 (L.map fcore) = (somF L).map fcore := by
  induction L with
  | nil => rfl
  | cons x L ih =>
    have ih' := ih (fun y hy => h y (List.mem_cons_of_mem _ hy))
    have hx := h x List.mem_cons_self
    unfold splitC somF at *
    simp only [List.map_cons]
    have e : ownF 0 1 (fcore x) = fcore x := by unfold ownF; rw [own_one]
    rw [e]
    by_cases h0 : 0 < x.len
    · rw [List.filter_cons_of_pos (by show (!(fcore x).ps.isEmpty) = true; simp [fcore, ← List.length_eq_zero_iff]; omega), List.filter_cons_of_pos (by simpa using h0), List.map_cons, ih']
    · rw [List.filter_cons_of_neg (by show ¬ (!(fcore x).ps.isEmpty) = true; simp [fcore, ← List.length_eq_zero_iff]; omega), List.filter_cons_of_neg (by simpa using h0), ih']
theorem one_post {W w' : World} {e : Ending} {L : List FV} (hp : ∀ x ∈ L, x.L.length = x.len) (h : SplitPost 1 (L.map fcore) W e w') : ∃ R a0 c0 L0, e = .returned (.slice (some ⟨R, 0, none⟩) 1 1) ∧ w'.heap[R]? = some (.cells #[.slice a0 (somF L).length c0] 22 (0, 0)) ∧ FNew W.heap.size w' a0 (somF L).length L0 ∧ L0.map fcore = (somF L).map fcore ∧ Below W.heap.size W w' := by
  obtain ⟨R, Sh, rfl, hl, hR, _, hd, hB⟩ := h
  have h1 : heldI 1 = 1 := by kernel_rfl
  have hl1 : Sh.length = 1 := by omega
  match Sh, hl1 with
  | [x], _ =>
    obtain ⟨d1, d2, d3⟩ := hd 0 (by show 0 < 1; decide)
    have d3' : x.L.map fcore = (somF L).map fcore := d3.trans (split_one L hp)
    have hlen : x.L.length = (somF L).length := by have := congrArg List.length d3'; simpa using this
    refine ⟨R, x.a, x.c, x.L, rfl, ?_, hlen ▸ d1, d3', hB⟩
    rw [← hlen]; exact hR
theorem n_post {W w' : World} {e : Ending} {n : Int} {Fs : List FC} {K : Nat} (hK : heldI n = (K : Int)) (h : SplitPost n Fs W e w') : ∃ R, e = .returned (.slice (some ⟨R, 0, none⟩) K K) ∧ Below W.heap.size W w' := by
  obtain ⟨R, Sh, rfl, hl, _, _, _, hB⟩ := h
  have : Sh.length = K := by omega
  exact ⟨R, by rw [this], hB⟩
set_option maxRecDepth 100000 in
set_option maxHeartbeats 4000000 in
theorem one_few (w : World) (a : Option Addr) (len cap : Nat) (L : List FV) (hL : L.length = len) (hc : len ≤ cap) (hr : RowV w a len 4 (fvCells L)) (hg : ∀ x ∈ L, GoodF w x) (n : Int) (hn : -128 ≤ n ∧ n < 128) (hf : fewFs L = true) :
    Calls Try.prog 5 #[.slice a len cap, .int .i8 n] w fun e w' => e = .returned (.bool true) ∧ Below w.heap.size w w' := by
  obtain ⟨i0, hi, hz0, hz1, hz2⟩ := info_parts infoFoundS
  obtain ⟨hFA, h30⟩ := founds_at hL hr hg hf
  obtain ⟨K, hK⟩ : ∃ K : Nat, heldI n = (K : Int) := ⟨(heldI n).toNat, by have := heldI_bd n; omega⟩
  have HK := Lib.hid hK
  have GK := Lib.hid known18_any
  have GF := Lib.hid (fun W (hW : Below w.heap.size w W) => (show Gives Try.prog 11 #[.slice a len cap] W (.bool true) from by
    have := fewFs18_any a len cap L W hL (hr.below hW) (fun x hx => ⟨(hg x hx).1, (hg x hx).2.1, (hg x hx).2.2.1, (hg x hx).2.2.2.1.below hW, fun y hy => ⟨((hg x hx).2.2.2.2 y hy).1, ((hg x hx).2.2.2.2 y hy).2.1, ((hg x hx).2.2.2.2 y hy).2.2.1.below hW, ((hg x hx).2.2.2.2 y hy).2.2.2⟩⟩)
    rwa [hf] at this))
  have hpl : ∀ x ∈ L, x.L.length = x.len := fun x hx => (hg x hx).2.1
  have G1 := Lib.hid (fun W (hW : Below w.heap.size w W) => (split_any 1 a len cap L W (hFA.below hW)).mono fun e w' h => one_post hpl h)
  have GN := Lib.hid (fun W (hW : Below w.heap.size w W) => (split_any n a len cap L W (hFA.below hW)).mono fun e w' h => n_post hK h)
  have HFA := Lib.hid hFA
  have HL := Lib.hid hL
  have hcs := hr.2.2
  clear hr hg hf hK hFA hpl hL
  go_enter Try.func5, Try.ntmps5
  go_wp2_with (first
    | (go_at_call 10; ((with_reducible refine (GK.out _).mono ?_); rintro e w1 ⟨rfl, hB1⟩))
    | (go_at_call 11; ((with_reducible refine (GF.out _ hB1).mono ?_); rintro e w2 ⟨rfl, hB2⟩; have hX2 := bel2 hB1 hB2)))
  go_loopw [5, 6] (fun v i wr => ∃ k : Nat, k ≤ len ∧ i = .int .i64 k ∧ wr.ownsRow w.heap.size 36 4 v (somF (L.take k)).length (fvCells (somF (L.take k))) ∧ Below w.heap.size w wr) (fun _ i _ => len - (intOf i).toNat)
  case atStart => exact ⟨0, by omega, rfl, World.ownsRow_nil _ _ _ _, hX2⟩
  case round =>
    obtain ⟨k, hk, rfl, hown, hB⟩ := hrel
    by_cases hlt : k < len
    · obtain ⟨b, off, rfl, hb, hx⟩ := hcs (by omega)
      have hkl : k < L.length := by rw [HL.out]; exact hlt
      obtain ⟨d0, d1, d2, d3⟩ := fv_at4 hb hB hx hkl
      have HS := Lib.hid (somF_take hkl)
      have hsl : (somF (L.take k)).length ≤ 30 := Nat.le_trans (somF_len _) (by rw [List.length_take]; omega)
      clear hx
      generalize L[k] = x at *
      obtain ⟨xq, xa, xlen, xcap, xL, xs, xt⟩ := x
      dsimp only at *
      by_cases h0 : 0 < xlen
      · have h0' : (0 : Int) < (xlen : Int) := by omega
        rw [if_pos h0] at HS
        go_wp2_with (at_builtin; refine wpList_append_own _ rfl _ _ 22 rfl w.heap.size 36 i0 (.agg #[.int .i64 0, .slice none 0 0, .int .i64 0, .int .i64 0]) 4 48 Try.underlying22 hi hz0 hz1 hz2 rfl (by decide) _ _ _ rfl (hown.alloc _) ⟨wr.heap.size, 0, none⟩ 1 1 [.int .i64 xq, .slice xa xlen xcap, .int .i64 xs, .int .i64 xt] rfl rfl (news_new _ _ _) (by simp [Value.oneCell']) (by unfold maxLen; omega) (by omega) (by have := hB.size; simp; omega) ?_; intro v' w2 hown' hgrow _)
        have hB2 : Below w.heap.size w w2 := (bel_alloc hB _).grown hgrow (by have := hB.size; simp; omega) (fun g e => ownBlock_ge hown e)
        exact ⟨⟨k + 1, by omega, by go_num, by rw [HS.out, List.length_append, fvCells_snoc]; exact hown', hB2⟩, by simp [intOf]; omega⟩
      · have h0' : ¬ (0 : Int) < (xlen : Int) := by omega
        rw [if_neg h0, List.append_nil] at HS
        go_wp2
        exact ⟨⟨k + 1, by omega, by go_num, by rw [HS.out]; exact hown, hB⟩, by simp [intOf]; omega⟩
    · obtain rfl : k = len := by omega
      rw [List.take_of_length_le (by rw [HL.out]; exact Nat.le_refl _)] at hown
      obtain ⟨ya, yc, rfl, _, hrow⟩ := rowV_own hown
      have HROW := Lib.hid hrow
      clear hrow hown hcs
      have HB := Lib.hid hB
      have GO1 := Lib.hid (fun W => (show Gives Try.prog 15 #[.int .i64 (-5), .int .i64 3] W (.int .i64 0) from by
        have := shOf_any (-5) 3 ⟨by decide, by decide⟩ W
        rwa [show shOf (-5) 3 = 0 by kernel_rfl] at this))
      have GO2 := Lib.hid (fun W => (show Gives Try.prog 15 #[.int .i64 70, .int .i64 100] W (.int .i64 6) from by
        have := shOf_any 70 100 ⟨by decide, by decide⟩ W
        rwa [show shOf 70 100 = 6 by kernel_rfl] at this))
      have HKM := Lib.hid (show (K : Int) = max 1 (min n 64) from by have h := HK.out; unfold heldI at h; split at h <;> (try split at h) <;> omega)
      go_wp2_with (first
          | (go_at_call 12; ((with_reducible refine (G1.out _ hB).mono ?_); rintro e w3 ⟨R, a0, c0, L0, rfl, hR, hN0, he0, hB3⟩; have hX3 := bel2 hB hB3; have HN0 := Lib.hid hN0; have HE0 := Lib.hid he0; have HR := Lib.hid hR; have HB3 := Lib.hid hB3; clear hN0 he0 hR hB hB3))
          | (go_at_call 12; ((with_reducible refine (GN.out _ hX3).mono ?_); rintro e w4 ⟨R4, rfl, hB4⟩; have hX4 := bel2 hX3 hB4; have HB4 := Lib.hid hB4; have kR := cell_of_row _ _ 0 _ _ _ ((hB4.block _ (heap_lt HR.out)).trans HR.out); have GS := Lib.hid (sameF18 a0 ya (somF L).length c0 yc L0 (somF L) w4 HN0.out.1 (by have := HN0.out.2.1; omega) (HN0.out.2.2.1.below hB4) (HROW.out.below (bel2 HB3.out hB4)) (fun x hx => (HN0.out.2.2.2.2 x hx).1.below hB4) (fun x hx => (HFA.out.2.2.2 x (List.mem_filter.1 hx).1).1.below hX4) HE0.out); clear hB4))
          | (go_at_call 14; ((with_reducible refine GS.out.mono ?_); rintro e w5 ⟨rfl, hB5⟩; have hX5 := bel2 hX4 hB5))
          | (go_at_call 15; ((with_reducible refine (GO1.out _).mono ?_); rintro e w6 ⟨rfl, hB6⟩; have hX6 := bel2 hX5 hB6))
          | (go_at_call 15; ((with_reducible refine (GO2.out _).mono ?_); rintro e w7 ⟨rfl, hB7⟩; have hX7 := bel2 hX6 hB7)))
      go_ret
      exact ⟨rfl, hX7⟩
set_option maxRecDepth 100000 in
theorem walk (w : World) (a : Option Addr) (len cap : Nat) (L : List FV) (hL : L.length = len) (hc : len ≤ cap) (hr : RowV w a len 4 (fvCells L)) (hg : ∀ x ∈ L, GoodF w x) (n : Int) (hn : -128 ≤ n ∧ n < 128) :
    Calls Try.prog 5 #[.slice a len cap, .int .i8 n] w fun e w' => e = .returned (.bool true) ∧ Below w.heap.size w w' := by
  cases hf : fewFs L
  · have GK := Lib.hid known18_any
    have GF := Lib.hid (fun W (hW : Below w.heap.size w W) => (show Gives Try.prog 11 #[.slice a len cap] W (.bool false) from by
      have := fewFs18_any a len cap L W hL (hr.below hW) (fun x hx => ⟨(hg x hx).1, (hg x hx).2.1, (hg x hx).2.2.1, (hg x hx).2.2.2.1.below hW, fun y hy => ⟨((hg x hx).2.2.2.2 y hy).1, ((hg x hx).2.2.2.2 y hy).2.1, ((hg x hx).2.2.2.2 y hy).2.2.1.below hW, ((hg x hx).2.2.2.2 y hy).2.2.2⟩⟩)
      rwa [hf] at this))
    clear hr hg hf
    go_enter Try.func5, Try.ntmps5
    go_wp2_with (first
      | (go_at_call 10; ((with_reducible refine (GK.out _).mono ?_); rintro e w1 ⟨rfl, hB1⟩))
      | (go_at_call 11; ((with_reducible refine (GF.out _ hB1).mono ?_); rintro e w2 ⟨rfl, hB2⟩; have hX2 := bel2 hB1 hB2)))
    go_ret
    exact ⟨rfl, hX2⟩
  · exact one_few w a len cap L hL hc hr hg n hn hf

set_option maxRecDepth 100000 in
theorem lifted (os : Os) (started : os.Started) (H : Type) (enc : TypeId × Value → H) :
    ReturnsInHanded {} Try.checked os 5 .any (Rows.shardOneSpec.pre6 enc Try.prog Try.f5 Rows.shardOneRow.domain false) (Rows.shardOneSpec.post enc Try.prog Try.f5 false true false false) := by
  refine returnsInHanded_of_change (C := Try.checked) Try.own started (by kernel_rfl) Try.func5
    (ChangeSpec.witness6 (enc := enc) (C := Try.checked) false ⟨#[], #[.slice none 0 0, .int .i8 0], []⟩ 8 (by kernel_rfl) (by kernel_rfl) (by kernel_rfl) (by kernel_rfl)) ?_
  intro W base args ds gs before hval hW _ _
  refine law_contract (T := 4) (n := 2) Try.laid Try.underlying4 rfl rfl ⟨rfl, fun H ds h => by match ds, h with | [_, _], _ => rfl⟩ (of_all (by kernel_rfl)) hW ?_
  intro ps hA
  rw [Try.params5] at hA hval
  obtain ⟨v0, vs0, d0, ds0, p0, q0, hargs, rfl, rfl, h0, r0⟩ := trodAll_cons hA
  obtain ⟨v1, vs1, d1, ds1, p1, q1, rfl, rfl, rfl, h1, r1⟩ := trodAll_cons r0
  obtain ⟨rfl, rfl, rfl⟩ := trodAll_nil r1
  obtain rfl : args = #[v0, v1] := by cases args; simp_all
  obtain ⟨s0, l0, c0, rfl⟩ := okWide_slice Try.underlying22 (hval 0 22 v0 rfl rfl)
  obtain ⟨zs0, e0, g0, w0, b0⟩ := open_founds h0
  obtain ⟨a1, rfl, rfl, rfl, w1⟩ := open_int Try.underlying43 (hval 1 43 v1 rfl rfl) h1
  exact walk W s0 l0 c0 zs0 e0 g0 w0 b0 a1 (bounds_i8 w1)

theorem holds : Rows.ShardOneSaid :=
  OpenClaim.holds_of_wide 5 Try.f5 rfl rfl rfl rfl rfl rfl rfl ⟨rfl, rfl, rfl, rfl, rfl⟩ rfl rfl rfl rfl rfl (by kernel_rfl) Try.func5 (by kernel_rfl)
    (of_decide_eq_true (by kernel_rfl)) (by unfold Func.isWrapper; first | (rw [if_pos (by decide +kernel)]; kernel_rfl) | (rw [if_neg (by decide +kernel)]; exact ⟨rfl, rfl⟩))
    (fun os started H enc _ => lifted os started H enc)
end Go.Proofs.Ytdncdlbhgaehmaa.shardOne
