/- The contracts of package victim's functions: Sealed, Pick, Rounds; of slices.Clone at numbers. -/
import Derived.Test.YtpdpdohkhiplpaaLive
import Derived.Lib.SliceRun
namespace Go.Proofs.Ytpdpdohkhiplpaa
open Go.RowKit Go.Shelf
set_option linter.unusedVariables false
attribute [local go_sem] Oper.semAt_some wide_fn wide_round_fn

abbrev intsV (zs : List Int) : List Value := zs.map (Value.int .i64)

set_option maxRecDepth 100000 in
set_option maxHeartbeats 1000000 in
theorem clone_ints (b off n cap : Nat) (zs : List Int) (hz : zs.length = n) (hm : n < 1000000) (w : World) (hb : b < w.heap.size) (hc : ∀ i (h : i < zs.length), w.cell? ⟨b, off + i, none⟩ = some (.int .i64 zs[i])) :
    GivesRow Try.prog 28 #[.slice (some ⟨b, off, none⟩) n cap] w 3 1 n (intsV zs) := by
  obtain ⟨i0, hi, hz0, hz1, hz2⟩ := info_parts infoInt
  have hn : ∀ j u, (intsV zs)[j]? = some u → (w.alloc (.cells #[] 3)).cell? ((⟨b, off, none⟩ : Addr).add j) = some u := fun j u hu => by
    obtain ⟨hj, rfl⟩ := List.getElem?_eq_some_iff.1 hu
    have hj2 : j < zs.length := by simpa using hj
    rw [add_off, List.getElem_map]
    exact (World.cell?_alloc_lt w _ ⟨b, off + j, none⟩ hb).trans (hc j hj2)
  have hq := fun w => Lib.run_eql_slice_nil (P := Try.prog) w 23 3 (some ⟨b, off, none⟩) n cap 0 0 Try.underlying23
  unfold GivesRow
  go_enter Try.func28, Try.ntmps28
  go_wp2_with (at_builtin; refine wpList_append_own _ rfl _ _ 23 rfl w.heap.size 3 i0 (.int .i64 0) 1 8 Try.underlying23 hi hz0 hz1 hz2 rfl (by decide) _ _ _ rfl (World.ownsRow_made w #[] 0 (Nat.le_refl _) (by unfold maxLen; omega) rfl) ⟨b, off, none⟩ n cap (intsV zs) rfl (by simp [hz]) hn (by simp [Value.oneCell']) (by unfold maxLen; omega) (by omega) (by simp) ?_; intro v' w2 hown' hgrow _)
  go_ret
  exact ⟨_, rfl, by simpa using hown', (bel_alloc (Below.refl _ _) _).grown hgrow (by simp) (fun g e => by cases e; exact Nat.le_refl _)⟩

/-- The first n elements of a longer slice of numbers. -/
theorem rowI_cut {w : World} {a : Option Addr} {len : Nat} {zs : List Int} (h : RowI .i64 w a len zs) (n : Nat) (hn : n ≤ len) : RowI .i64 w a n (zs.take n) := by
  obtain ⟨h1, h2, h3, h4⟩ := h
  refine ⟨by rw [List.length_take]; omega, by omega, fun y hy => h3 y (List.mem_of_mem_take hy), fun h0 => ?_⟩
  obtain ⟨b, off, e, hb, hc⟩ := h4 (by omega)
  exact ⟨b, off, e, hb, fun i hi => by rw [List.getElem_take]; exact hc i (by rw [List.length_take] at hi; omega)⟩
theorem rowI_below {w w' : World} {k : IntKind} {a : Option Addr} {len : Nat} {zs : List Int} (h : RowI k w a len zs) (hb : Below w.heap.size w w') : RowI k w' a len zs :=
  ⟨h.1, h.2.1, h.2.2.1, fun h0 => by
    obtain ⟨b, off, e, hlt, hc⟩ := h.2.2.2 h0
    exact ⟨b, off, e, Nat.lt_of_lt_of_le hlt hb.size, fun j hj => (hb.cell (p := ⟨b, off + j, none⟩) hlt).trans (hc j hj)⟩⟩
/-- A row of numbers that a call has made is such a slice. -/
theorem rowI_own {w : World} {base : Nat} {e : TypeId} {n : Nat} {v : Value} {zs : List Int} (h : w.ownsRow base e 1 v n (intsV zs)) (hw : ∀ z ∈ zs, (Lit.int .i64 z).wf = true) : ∃ a cap, v = .slice a n cap ∧ n ≤ cap ∧ RowI .i64 w a n zs := by
  obtain ⟨a, cap, e, hn, h1, h2, h3⟩ := rowV_own h
  have hl : zs.length = n := by simpa using h1
  refine ⟨a, cap, e, hn, hl, h2, hw, fun h0 => ?_⟩
  obtain ⟨b, off, e2, hb, hc⟩ := h3 h0
  exact ⟨b, off, e2, hb, fun i hi => by rw [hc i (by simpa using hi), List.getElem_map]⟩

set_option maxRecDepth 100000 in
set_option maxHeartbeats 1000000 in
theorem sealed_any (a : Option Addr) (len cap : Nat) (zs : List Int) (hm : len < 1000000) (hcap : len ≤ cap) (w : World) (h : RowI .i64 w a len zs) :
    GivesRow Try.prog 21 #[.slice a len cap] w 3 1 (len - 1) (intsV (zs.take (len - 1))) := by
  by_cases h0 : len = 0
  · subst h0
    unfold GivesRow
    go_enter Try.func21, Try.ntmps21
    go_wp2
    go_ret
    exact ⟨_, rfl, by simpa using World.ownsRow_nil w w.heap.size 3 1, Below.refl _ _⟩
  · have h1 : 1 ≤ len := by omega
    have hz : ((len : Int) == 0) = false := by rw [beq_eq_false_iff_ne]; omega
    obtain ⟨r1, r2, r3, r4⟩ := rowI_cut h (len - 1) (by omega)
    obtain ⟨b, off, rfl, hb, hc⟩ := h.2.2.2 (by omega)
    have hc2 : ∀ i (hi : i < (zs.take (len - 1)).length), w.cell? ⟨b, off + i, none⟩ = some (.int .i64 (zs.take (len - 1))[i]) := fun i hi => by
      rw [List.getElem_take]; exact hc i (by rw [List.length_take] at hi; omega)
    have G := Lib.hid (clone_ints b off (len - 1) cap _ r1 (by omega) w hb hc2)
    have hci : (len : Int) - 1 ≤ (cap : Int) := by omega
    clear hc hc2 r4 h0
    unfold GivesRow
    go_enter Try.func21, Try.ntmps21
    go_wp2_with (go_at_call 28; ((with_reducible refine (G.out).mono ?_); rintro e w1 ⟨v, rfl, hown, hB1⟩))
    go_ret
    exact ⟨_, rfl, hown, hB1⟩

set_option maxRecDepth 100000 in
set_option maxHeartbeats 1000000 in
theorem pick_none (a : Option Addr) (len cap : Nat) (zs : List Int) (h1 : len ≤ 1) (hcap : len ≤ cap) (w : World) (h : RowI .i64 w a len zs) :
    Gives Try.prog 20 #[.slice a len cap] w (.tuple #[.int .i64 0, .bool false]) := by
  have g := sealed_any a len cap zs (by omega) hcap w h
  rw [show len - 1 = 0 by omega] at g
  have G := Lib.hid g
  clear g
  unfold Gives
  go_enter Try.func20, Try.ntmps20
  go_wp2_with (go_at_call 21; ((with_reducible refine (G.out).mono ?_); rintro e w1 ⟨v, rfl, hown, hB1⟩; obtain ⟨a', c', rfl, hn', hrow⟩ := rowV_own hown))
  go_ret2
  exact ⟨rfl, hB1⟩

set_option maxRecDepth 100000 in
set_option maxHeartbeats 1000000 in
theorem pick_some (a : Option Addr) (len cap : Nat) (z : Int) (zs : List Int) (h1 : 2 ≤ len) (hm : len < 1000000) (hcap : len ≤ cap) (w : World) (h : RowI .i64 w a len (z :: zs)) :
    Gives Try.prog 20 #[.slice a len cap] w (.tuple #[.int .i64 z, .bool true]) := by
  obtain ⟨n, rfl⟩ : ∃ n, len = n + 2 := ⟨len - 2, by omega⟩
  have g := sealed_any a (n + 2) cap (z :: zs) hm hcap w h
  rw [show n + 2 - 1 = n + 1 by omega] at g
  have G := Lib.hid g
  have hz : (((n + 1 : Nat) : Int) == 0) = false := by rw [beq_eq_false_iff_ne]; omega
  clear g
  unfold Gives
  go_enter Try.func20, Try.ntmps20
  go_wp2_with (go_at_call 21; ((with_reducible refine (G.out).mono ?_); rintro e w1 ⟨v, rfl, hown, hB1⟩; obtain ⟨a', c', rfl, hn', -, -, hrow⟩ := rowV_own hown; obtain ⟨b, off, rfl, hb, hc⟩ := hrow (by omega); have hc0 : w1.cell? ⟨b, off, none⟩ = some (.int .i64 z) := hc 0 (by simp); clear hc))
  go_ret2
  exact ⟨rfl, hB1⟩

/-- How many are left, from r on downwards, when what has none goes. -/
def back (f : Nat → Nat) : Nat → Nat
  | 0 => 0
  | r + 1 => if f r = 0 then back f r else r + 1
def roundsB (zs : List Int) (l : List SpotC) : Nat := back (fun i => cnt l (zs.getD i 0)) (zs.length - 1)

set_option maxRecDepth 100000 in
set_option maxHeartbeats 1000000 in
theorem rounds_any (l : List SpotC) (zs : List Int) (hw : ∀ f ∈ l, -9223372036854775808 ≤ f.s ∧ f.s < 9223372036854775808) (a b : Option Addr) (len cap len2 cap2 : Nat) (hl : l.length = len) (hm : len < 1000000) (hm2 : len2 < 1000000) (hcap2 : len2 ≤ cap2)
    (w : World) (h : RowV w a len 4 (spotCells l)) (h2 : RowI .i64 w b len2 zs) : Gives Try.prog 22 #[.slice b len2 cap2, .slice a len cap] w (.int .i64 (roundsB zs l)) := by
  have S := Lib.hid (sealed_any b len2 cap2 zs hm2 hcap2 w h2)
  have C := Lib.hid (fun (w1 : World) (hB : Below w.heap.size w w1) (a' : Option Addr) (c' : Nat) (hr : RowI .i64 w1 a' (len2 - 1) (zs.take (len2 - 1))) => counts_any l (zs.take (len2 - 1)) hw a a' len cap (len2 - 1) c' hl hm (by omega) w1 (h.below hB) hr)
  have hzl := h2.1
  have hwz : ∀ z ∈ zs.take (len2 - 1), (Lit.int .i64 z).wf = true := fun z hz => h2.2.2.1 z (List.mem_of_mem_take hz)
  have HW := Lib.hid hwz
  unfold roundsB
  rw [hzl]
  obtain ⟨n, hn⟩ : ∃ n, n = len2 - 1 := ⟨_, rfl⟩
  rw [← hn] at S C HW ⊢
  have hnm : n < 1000000 := by omega
  have hnz : n ≤ zs.length := by omega
  obtain ⟨f, hf⟩ : ∃ f : Nat → Nat, ∀ i, f i = cnt l (zs.getD i 0) := ⟨_, fun _ => rfl⟩
  rw [show (fun i => cnt l (zs.getD i 0)) = f from funext fun i => (hf i).symm]
  have hv : ∀ i (hi : i < n), ((zs.take n).map (fun z => Value.int .i64 (cnt l z)))[i]? = some (.int .i64 (f i)) := fun i hi => by
    have h1 : i < zs.length := by omega
    rw [hf]
    simp [hi, List.getD, List.getElem?_eq_getElem h1]
  have hcn : ∀ i, f i ≤ len := fun i => by rw [← hl, hf]; exact cnt_le l _
  have HV := Lib.hid hv
  have HCN := Lib.hid hcn
  clear h h2 hzl hwz hn hw hf hv hcn
  unfold Gives
  go_enter Try.func22, Try.ntmps22
  go_wp2
  go_step3
  go_wp2_with (first
    | (go_at_call 21; ((with_reducible refine (S.out).mono ?_); rintro e w1 ⟨v, rfl, hown, hB1⟩; obtain ⟨a', c', rfl, hn', hrow⟩ := rowI_own hown HW.out; clear hown))
    | (go_at_call 12; ((with_reducible refine (C.out w1 hB1 a' c' hrow).mono ?_); rintro e w2 ⟨v, rfl, hown, hB2⟩; obtain ⟨a2, c2, rfl, hn2, -, -, hrow2⟩ := rowV_own hown; clear hown)))
  go_step3
  go_wp2
  go_loopw [6] (fun q wr => ∃ r : Nat, r ≤ n ∧ q = .int .i64 r ∧ back f n = back f r ∧ Below w2.heap.size w2 wr) (fun q _ => (intOf q).toNat)
  case atStart => exact ⟨n, Nat.le_refl _, rfl, rfl, Below.refl _ _⟩
  case round =>
    obtain ⟨r, hr, rfl, hbk, hB⟩ := hrel
    have HB := Lib.hid hbk
    clear hbk
    by_cases h0 : r = 0
    · subst h0
      go_wp2
      ((try rw [Exit.noGoto_ret]); go_ret)
      exact ⟨by rw [HB.out]; rfl, bel2 (bel2 hB1 hB2) hB⟩
    · obtain ⟨r, rfl⟩ : ∃ r', r = r' + 1 := ⟨r - 1, by omega⟩
      obtain ⟨b, off, rfl, hb, hc⟩ := hrow2 (by omega)
      have hck : wr.cell? ⟨b, off + r, none⟩ = some (.int .i64 (f r)) := (hB.cell (p := ⟨b, off + r, none⟩) hb).trans (RowV.at_ (len := n) (sz := 1) hc (HV.out r (by omega)))
      have hbd := HCN.out r
      clear hc h0
      by_cases hz : f r = 0
      · have t0 : ((f r : Int) == 0) = true := by rw [beq_iff_eq]; omega
        have HZ := Lib.hid hz
        clear hz
        go_wp2
        exact ⟨⟨r, by omega, by go_num, by rw [HB.out]; simp [back, HZ.out], hB⟩, by simp [intOf]⟩
      · have t0 : ((f r : Int) == 0) = false := by rw [beq_eq_false_iff_ne]; omega
        have HZ := Lib.hid hz
        clear hz
        go_wp2
        ((try rw [Exit.noGoto_ret]); go_ret)
        exact ⟨by rw [HB.out]; simp [back, HZ.out], bel2 (bel2 hB1 hB2) hB⟩

/-- Rows of unlike elements lie apart. -/
theorem rows_apart {w : World} {b1 b2 : Nat} {e1 e2 : TypeId} {s1 s2 n1 n2 : Nat} {v1 v2 : Value} {xs1 xs2 : List Value} (h1 : w.ownsRow b1 e1 s1 v1 n1 xs1) (h2 : w.ownsRow b2 e2 s2 v2 n2 xs2) (hne : e1 ≠ e2) :
    v1.ownBlock = none ∨ v1.ownBlock ≠ v2.ownBlock := by
  rcases h1.2 with ⟨rfl, _⟩ | ⟨g, cap, cur, rfl, _, hg, _⟩
  · exact .inl rfl
  · refine .inr fun he => ?_
    rcases h2.2 with ⟨rfl, _⟩ | ⟨g', cap', cur', rfl, _, hg', _⟩
    · cases he
    · cases he
      rw [hg] at hg'
      injection hg' with hg'
      injection hg' with _ ht
      exact hne ht

end Go.Proofs.Ytpdpdohkhiplpaa
