/- SprFind, SprMrg: in one text. -/
import Derived.Test.YtfbibpnkfmgkaaaSprM
import Derived.Test.YtfbibpnkfmgkaaaIterU
import Derived.Test.YtfbibpnkfmgkaaaGrpDo
/- The contracts of package sparse's find, below, from. -/
namespace Go.Proofs.Ytfbibpnkfmgkaaa
open Go.RowKit Go.Shelf
set_option linter.unusedVariables false
attribute [local go_sem] Oper.semAt_some wide_fn wide_round_fn

def hasB (l : List EntryC) (i : Int) : Bool := (l[fnd l i]?.map fun e => e.i == i).getD false
def cmpI (a b : Int) : Int := if a < b then -1 else if b < a then 1 else 0
set_option maxHeartbeats 1000000 in
theorem cmp_any (a b : Int) (w : World) : Gives Try.prog 58 #[.int .i64 a, .int .i64 b] w (.int .i64 (cmpI a b)) := by
  unfold Gives cmpI
  by_cases h1 : a < b
  · rw [if_pos h1]
    go_enter Try.func58, Try.ntmps58
    go_wp2
    go_ret
    exact ⟨rfl, Below.refl _ _⟩
  · rw [if_neg h1]
    replace h1 : b ≤ a := by omega
    by_cases h2 : b < a
    · rw [if_pos h2]
      go_enter Try.func58, Try.ntmps58
      go_wp2
      go_ret
      exact ⟨rfl, Below.refl _ _⟩
    · rw [if_neg h2]
      replace h2 : a ≤ b := by omega
      go_enter Try.func58, Try.ntmps58
      go_wp2
      go_ret
      exact ⟨rfl, Below.refl _ _⟩
set_option maxHeartbeats 1000000 in
theorem fnd1_any (e : EntryC) (i : Int) (w : World) : Gives Try.prog 57 #[.agg #[.int .i64 e.i, .int .i64 e.t, .string e.d], .int .i64 i] w (.int .i64 (cmpI e.i i)) := by
  have GC := Lib.hid (cmp_any e.i i)
  unfold Gives
  generalize cmpI e.i i = c at *
  go_enter Try.func57, Try.ntmps57
  go_wp2_with (go_at_call 58; ((with_reducible refine (GC.out _).mono ?_); rintro e w1 ⟨rfl, hB1⟩))
  go_ret
  exact ⟨rfl, blk_below hB1⟩

set_option maxRecDepth 100000 in
set_option maxHeartbeats 4000000 in
theorem bsf_any (l : List EntryC) (a : Option Addr) (cap : Nat) (i : Int) (w : World) (hm : l.length < 1000000) (hr : RowV w a l.length 3 (entryCells l)) (hs : Ris l) : Gives Try.prog 56 #[.slice a l.length cap, .int .i64 i, .func (.func 57) #[] #[]] w (.tuple #[.int .i64 (fnd l i), .bool (hasB l i)]) := by
  have hcs := hr.2.2
  have HS := Lib.hid hs
  clear hr hs
  unfold Gives
  go_enter Try.func56, Try.ntmps56
  go_wp2
  go_loopw [9, 10] (fun q r wr => ∃ lo hi : Nat, lo ≤ hi ∧ hi ≤ l.length ∧ q = .int .i64 lo ∧ r = .int .i64 hi ∧ (∀ j (hj : j < l.length), j < lo → l[j].i < i) ∧ (∀ j (hj : j < l.length), hi ≤ j → i ≤ l[j].i) ∧ Below w.heap.size w wr) (fun q r _ => (intOf r).toNat - (intOf q).toNat)
  case atStart => exact ⟨0, l.length, by omega, by omega, rfl, rfl, fun j _ h => by omega, fun j h1 h2 => by omega, Below.refl _ _⟩
  case round =>
    obtain ⟨lo, hi, hlh, hhl, rfl, rfl, h1, h2, hB⟩ := hrel
    have H1 := Lib.hid h1
    have H2 := Lib.hid h2
    clear h1 h2
    by_cases hlt : lo < hi
    · have hlt' : (lo : Int) < (hi : Int) := by omega
      have hh9 : (hi : Int) ≤ 1000000 := by omega
      have hl0 : (0 : Int) ≤ (lo : Int) := by omega
      obtain ⟨b, off, rfl, hb, hx⟩ := hcs (by omega)
      have hml : (lo + hi) / 2 < l.length := by omega
      obtain ⟨d0, d1, d2⟩ := entry_at hb hB hx hml
      have HY := Lib.hid (show l[(lo + hi) / 2].i < i → ∀ j (hj : j < l.length), j < (lo + hi) / 2 + 1 → l[j].i < i from fun h j hj hjm => by
        by_cases e : j = (lo + hi) / 2
        · subst e; exact h
        · have := HS.out j ((lo + hi) / 2) (by omega) hml; omega)
      have HN := Lib.hid (show i ≤ l[(lo + hi) / 2].i → ∀ j (hj : j < l.length), (lo + hi) / 2 ≤ j → i ≤ l[j].i from fun h j hj hjm => by
        by_cases e : j = (lo + hi) / 2
        · subst e; exact h
        · have := HS.out ((lo + hi) / 2) j (by omega) hj; omega)
      clear hx hcs
      generalize l[(lo + hi) / 2] = x at *
      have GF := Lib.hid (fnd1_any x i)
      unfold cmpI at GF
      obtain ⟨xi, xt, xd⟩ := x
      dsimp only at *
      by_cases hc : xi < i
      · rw [if_pos hc] at GF
        have HY2 := Lib.hid (HY.out hc)
        clear HY HN hc
        go_wp2_with (go_at_call 57; ((with_reducible refine (GF.out _).mono ?_); rintro e w1 ⟨rfl, hB1⟩))
        go_roundw
        case rel => exact ⟨(lo + hi) / 2 + 1, hi, by omega, hhl, by rw [show (((lo + hi) / 2 + 1 : Nat) : Int) = ((lo : Int) + (hi : Int)) / 2 + 1 by omega], rfl, HY2.out, H2.out, bel2 hB hB1⟩
        case measure => simp [intOf]; omega
      · replace hc : i ≤ xi := by omega
        obtain ⟨c, hce, hc0⟩ : ∃ c, (if xi < i then (-1 : Int) else if i < xi then 1 else 0) = c ∧ 0 ≤ c := ⟨_, rfl, by rw [if_neg (by omega)]; split <;> omega⟩
        rw [hce] at GF
        have HN2 := Lib.hid (HN.out hc)
        clear HY HN hce hc
        go_wp2_with (go_at_call 57; ((with_reducible refine (GF.out _).mono ?_); rintro e w1 ⟨rfl, hB1⟩))
        go_roundw
        case rel => exact ⟨lo, (lo + hi) / 2, by omega, by omega, rfl, by rw [show (((lo + hi) / 2 : Nat) : Int) = ((lo : Int) + (hi : Int)) / 2 by omega], H1.out, HN2.out, bel2 hB hB1⟩
        case measure => simp [intOf]; omega
    · obtain rfl : lo = hi := by omega
      have HF := Lib.hid (fnd_eq (l := l) (i := i) (k := lo) hhl (fun j hj => H1.out j (by omega) hj) (fun j hj h => H2.out j hj h))
      by_cases hll : lo < l.length
      · obtain ⟨b, off, rfl, hb, hx⟩ := hcs (by omega)
        obtain ⟨d0, d1, d2⟩ := entry_at hb hB hx hll
        have HB := Lib.hid (show hasB l i = (l[lo].i == i) by unfold hasB; rw [HF.out, List.getElem?_eq_getElem hll]; rfl)
        have hl0 : (0 : Int) ≤ (lo : Int) := by omega
        have hl1 : (lo : Int) < (l.length : Int) := by omega
        clear hx hcs H1 H2
        generalize l[lo] = x at *
        have GF := Lib.hid (fnd1_any x i)
        unfold cmpI at GF
        obtain ⟨xi, xt, xd⟩ := x
        dsimp only at *
        by_cases hc : xi = i
        · rw [if_neg (by omega), if_neg (by omega)] at GF
          have HB2 := Lib.hid (HB.out.trans (show (xi == i) = true by rw [beq_iff_eq]; exact hc))
          clear HB hc
          go_wp2_with (go_at_call 57; ((with_reducible refine (GF.out _).mono ?_); rintro e w1 ⟨rfl, hB1⟩))
          go_ret2
          rw [HF.out, HB2.out]
          exact ⟨by simp, bel2 hB hB1⟩
        · obtain ⟨c, hce, hc0⟩ : ∃ c, (if xi < i then (-1 : Int) else if i < xi then 1 else 0) = c ∧ (c == 0) = false := ⟨_, rfl, by rw [beq_eq_false_iff_ne]; split; omega; rw [if_pos (by omega)]; omega⟩
          rw [hce] at GF
          have HB2 := Lib.hid (HB.out.trans (show (xi == i) = false by rw [beq_eq_false_iff_ne]; exact hc))
          clear HB hce hc
          go_wp2_with (go_at_call 57; ((with_reducible refine (GF.out _).mono ?_); rintro e w1 ⟨rfl, hB1⟩))
          go_ret2
          rw [HF.out, HB2.out]
          exact ⟨by simp, bel2 hB hB1⟩
      · obtain rfl : lo = l.length := by omega
        have HB := Lib.hid (show hasB l i = false by unfold hasB; rw [HF.out, List.getElem?_eq_none (Nat.le_refl _)]; rfl)
        clear hcs H1 H2
        go_wp2
        go_ret2
        rw [HF.out, HB.out]
        exact ⟨by simp, hB⟩

theorem find_any (l : List EntryC) (a : Option Addr) (cap : Nat) (i : Int) (w : World) (hm : l.length < 1000000) (hr : RowV w a l.length 3 (entryCells l)) (hs : Ris l) : Gives Try.prog 51 #[.slice a l.length cap, .int .i64 i] w (.tuple #[.int .i64 (fnd l i), .bool (hasB l i)]) := by
  have GB := Lib.hid (bsf_any l a cap i w hm hr hs)
  generalize fnd l i = k at *
  generalize hasB l i = bb at *
  clear hr hs
  unfold Gives
  go_enter Try.func51, Try.ntmps51
  go_wp2_with (go_at_call 56; ((with_reducible refine GB.out.mono ?_); rintro e w1 ⟨rfl, hB1⟩))
  go_ret2
  exact ⟨rfl, hB1⟩

def CutP (w : World) (a : Option Addr) (n : Nat) (L : List EntryC) (e : Ending) (w' : World) : Prop := ∃ va vc, e = .returned (.slice va L.length vc) ∧ RowV w' va L.length 3 (entryCells L) ∧ L.length ≤ vc ∧ Below w.heap.size w w' ∧ ∀ k, inBlkE va L.length k → inBlkE a n k

theorem rowV_take {w : World} {a : Option Addr} {l : List EntryC} (h : RowV w a l.length 3 (entryCells l)) (hl : l.length < 1000000) {k : Nat} (hk : k ≤ l.length) : RowV w a (l.take k).length 3 (entryCells (l.take k)) := by
  rcases Nat.eq_zero_or_pos k with h0 | h0
  · subst h0; rw [List.take_zero]; exact RowV.nil _ _ _
  · obtain ⟨b, off, rfl, hb, hx⟩ := h.2.2 (by omega)
    have := row_part hb hx (k := 0) (m := k) h0 hk hl
    simpa using this
theorem rowV_drop {w : World} {b off : Nat} {l : List EntryC} (h : RowV w (some ⟨b, off, none⟩) l.length 3 (entryCells l)) (hl : l.length < 1000000) {k : Nat} (hk : k < l.length) : RowV w (some ⟨b, off + k * 3, none⟩) (l.drop k).length 3 (entryCells (l.drop k)) := by
  obtain ⟨b', off', e, hb, hx⟩ := h.2.2 (by omega)
  cases e
  have := row_part hb hx (k := k) (m := l.length) hk (Nat.le_refl _) hl
  rwa [List.take_length] at this

set_option maxRecDepth 100000 in
set_option maxHeartbeats 4000000 in
theorem sbelow_any (l : List EntryC) (a : Option Addr) (cap : Nat) (i : Int) (w : World) (hm : l.length < 1000000) (hcap : l.length ≤ cap) (hr : RowV w a l.length 3 (entryCells l)) (hs : Ris l) : Calls Try.prog 25 #[.slice a l.length cap, .int .i64 i] w (CutP w a l.length (l.take (fnd l i))) := by
  have GF := Lib.hid (find_any l a cap i w hm hr hs)
  have hfl := fnd_le l i
  generalize fnd l i = k at *
  generalize hasB l i = bb at *
  have HR := Lib.hid hr
  have hk0 : (0 : Int) ≤ (k : Int) := by omega
  have hkl : (k : Int) ≤ (l.length : Int) := by omega
  have hkc : (k : Int) ≤ (cap : Int) := by omega
  have hlc : (l.length : Int) ≤ (cap : Int) := by omega
  have hcs := hr.2.2
  clear hr hs
  go_enter Try.func25, Try.ntmps25
  go_wp2_with (go_at_call 51; ((with_reducible refine GF.out.mono ?_); rintro e w1 ⟨rfl, hB1⟩))
  go_ret
  exact ⟨a, cap, by rw [List.length_take, Nat.min_eq_left hfl]; rfl, (rowV_take HR.out hm hfl).below hB1, by rw [List.length_take]; omega, hB1, fun q hq => by obtain ⟨_, o9, e9, h9, rfl⟩ := hq; exact ⟨_, o9, e9, by rw [List.length_take] at h9; omega, rfl⟩⟩

set_option maxRecDepth 100000 in
set_option maxHeartbeats 4000000 in
theorem sfrom_any (l : List EntryC) (a : Option Addr) (cap : Nat) (i : Int) (w : World) (hm : l.length < 1000000) (hcap : l.length ≤ cap) (hr : RowV w a l.length 3 (entryCells l)) (hs : Ris l) : Calls Try.prog 29 #[.slice a l.length cap, .int .i64 i] w (CutP w a l.length (l.drop (fnd l i))) := by
  have GF := Lib.hid (find_any l a cap i w hm hr hs)
  have hfl := fnd_le l i
  generalize fnd l i = k at *
  generalize hasB l i = bb at *
  have HR := Lib.hid hr
  have hk0 : (0 : Int) ≤ (k : Int) := by omega
  have hkl : (k : Int) ≤ (l.length : Int) := by omega
  have hkc : (k : Int) ≤ (cap : Int) := by omega
  have hlc : (l.length : Int) ≤ (cap : Int) := by omega
  have hcs := hr.2.2
  clear hr hs
  by_cases hkk : k < l.length
  · obtain ⟨b, off, rfl, hb, hx⟩ := hcs (by omega)
    have n4 : ¬ cap = k := by omega
    clear hcs hx
    go_enter Try.func29, Try.ntmps29
    go_wp2_with (go_at_call 51; ((with_reducible refine GF.out.mono ?_); rintro e w1 ⟨rfl, hB1⟩))
    go_ret
    refine ⟨some ⟨b, off + k * 3, none⟩, cap - k, by simp, ?_, by (try rw [List.length_drop]); omega, hB1, fun q hq => by obtain ⟨b9, o9, e9, h9, rfl⟩ := hq; cases e9; exact ⟨b, off, rfl, by omega, rfl⟩⟩
    have := (rowV_drop HR.out hm hkk).below hB1
    simpa using this
  · obtain rfl : k = l.length := by omega
    clear hcs
    go_enter Try.func29, Try.ntmps29
    go_wp2_with (go_at_call 51; ((with_reducible refine GF.out.mono ?_); rintro e w1 ⟨rfl, hB1⟩))
    all_goals
      go_ret
      exact ⟨_, _, rfl, RowV.nil _ _ _, by simp, hB1, fun q hq => by obtain ⟨_, o9, e9, h9, rfl⟩ := hq; simp at h9⟩


end Go.Proofs.Ytfbibpnkfmgkaaa

/- The iterator of package sparse's merged. -/
namespace Go.Proofs.Ytfbibpnkfmgkaaa
open Go.RowKit Go.Shelf
set_option linter.unusedVariables false
attribute [local go_sem] Oper.semAt_some wide_fn wide_round_fn

attribute [local irreducible] wpQuietIn
theorem mrg_lt {e x : EntryC} {A B : List EntryC} (h : x.i < e.i) : mrg (e :: A) (x :: B) = x :: mrg (e :: A) B := by
  have h2 : x.i ≤ e.i := by omega
  simp [mrg, h2, h]
theorem mrg_eq {e x : EntryC} {A B : List EntryC} (h : x.i = e.i) : mrg (e :: A) (x :: B) = mrg (e :: A) B := by
  simp [mrg, h]
theorem mrg_gt {e : EntryC} {A B : List EntryC} (h : ∀ x, B.head? = some x → e.i < x.i) : mrg (e :: A) B = e :: mrg A B := by
  cases B with
  | nil => simp [mrg]
  | cons x B => have h2 : ¬ x.i ≤ e.i := by have := h x rfl; omega
                simp [mrg, h2]

set_option maxRecDepth 100000 in
set_option maxHeartbeats 4000000 in
theorem mrg_iter (Ba Bb : Nat) (a b : Option Addr) (ca cb : Nat) (al bl : List EntryC) (hma : al.length < 1000000) (hmb : bl.length < 1000000) (hcb : bl.length ≤ cb) (S V : Nat → Prop) (hSa : S Ba) (hSb : S Bb) (hSa2 : ∀ k, inBlkE a al.length k → S k) (hSb2 : ∀ k, inBlkE b bl.length k → S k) (w0 : World) (hSV : ∀ k, S k → ¬ V k ∧ k < w0.heap.size) (hV : ∀ k, V k → k < w0.heap.size)
    (hca : w0.cell? ⟨Ba, 0, none⟩ = some (.slice a al.length ca)) (hcbx : w0.cell? ⟨Bb, 0, none⟩ = some (.slice b bl.length cb)) (hra : RowV w0 a al.length 3 (entryCells al)) (hrb : RowV w0 b bl.length 3 (entryCells bl)) :
    IterU Try.prog 52 #[.pointer (some ⟨Ba, 0, none⟩), .pointer (some ⟨Bb, 0, none⟩)] EntryC.enc (mrg al bl) S V w0 := by
  intro L J Jx W hW hl0 hlW hJs _ hY h0
  have hU : ∀ k, S k → ¬ V k ∧ k ≠ L := fun k hk => ⟨(hSV k hk).1, by have := (hSV k hk).2; omega⟩
  have hX9 : ∀ k, W.heap.size ≤ k → ¬ V k ∧ k ≠ L := fun k hk => ⟨fun h => by have h1 := hV k h; have h2 := hW.size; omega, by omega⟩
  have hcl0 := hW.cell hca hSa
  have hcr0 := hW.cell hcbx hSb
  obtain ⟨hlen, hml, hcs⟩ := hra
  obtain ⟨hlen2, hml2, hcs2⟩ := hrb
  clear hca hcbx
  refine callsIn_of_wp Try.func52 rfl trivial ?_ rfl
  simp only [Try.ntmps52, List.size_toArray, List.length_cons, List.length_nil, Nat.reduceAdd, Nat.reduceSub, Array.replicate_succ, Array.replicate_zero, List.push_toArray, List.append_toArray, List.nil_append, List.cons_append]
  gi_wp2
  gi_loopw [4, 11] (fun qk qi wr => ∃ (i k : Nat) (pre : List EntryC), i ≤ al.length ∧ k ≤ bl.length ∧ qk = .int .i64 k ∧ qi = .int .i64 i ∧ mrg al bl = pre ++ mrg (al.drop i) (bl.drop k) ∧ J pre wr ∧ Rd W.heap.size (fun k => ¬ V k ∧ k ≠ L) W wr) (fun _ qi _ => al.length - (intOf qi).toNat)
  case atStart => exact ⟨0, 0, [], by omega, by omega, rfl, rfl, rfl, h0, Rd.refl _ _ _⟩
  case round =>
    obtain ⟨i, k, pre, hi, hk, rfl, rfl, hM, hJ, hR⟩ := hrel
    have HM := Lib.hid hM
    clear hM
    by_cases hlt : i < al.length
    · obtain ⟨ba, oa, rfl, hba, hxa⟩ := hcs (by omega)
      have hSba := hSa2 ba ⟨ba, oa, rfl, by omega, rfl⟩
      have cell : ∀ q u, q < 3 → (al[i].cells)[q]? = some u → wr.cell? ⟨ba, oa + (i * 3 + q), none⟩ = some u := fun q u hq hu =>
        hR.cell (hW.cell (RowV.at_ (len := al.length) (sz := 3) hxa (by rw [entryCells, flat_at EntryC.cells 3 EntryC.len al i q (by omega) hq]; exact hu)) hSba) (hU _ hSba)
      have c0 : wr.cell? ⟨ba, oa + i * 3, none⟩ = some (.int .i64 al[i].i) := cell 0 _ (by decide) rfl
      have c1 : wr.cell? ⟨ba, oa + i * 3 + 1, none⟩ = some (.int .i64 al[i].t) := cell 1 _ (by decide) rfl
      have c2 : wr.cell? ⟨ba, oa + i * 3 + 2, none⟩ = some (.string al[i].d) := cell 2 _ (by decide) rfl
      have HM2 := Lib.hid (HM.out.trans (show pre ++ mrg (al.drop i) (bl.drop k) = pre ++ mrg (al[i] :: al.drop (i + 1)) (bl.drop k) by rw [List.drop_eq_getElem_cons hlt]))
      have hi0 : (0 : Int) ≤ (i : Int) := by omega
      have hil : (i : Int) < (al.length : Int) := by omega
      clear cell hxa hcs HM
      generalize al[i] = f at *
      have hRA := hR.alloc (.cells #[.int .i64 f.i, .int .i64 f.t, .string f.d] 38)
      have hJA := hJs _ _ _ hJ (Moves.alloc wr (.cells #[.int .i64 f.i, .int .i64 f.t, .string f.d] 38))
      have hXb := World.alloc_heap_new wr (.cells #[.int .i64 f.i, .int .i64 f.t, .string f.d] 38)
      have hXs : W.heap.size ≤ wr.heap.size := hR.size
      gi_wp2
      clear c0 c1 c2 hJ hR
      obtain ⟨X, hX⟩ : ∃ X, X = wr.heap.size := ⟨_, rfl⟩
      generalize (wr.alloc (.cells #[.int .i64 f.i, .int .i64 f.t, .string f.d] 38)) = wa at *
      rw [← hX] at hXb hXs
      rw [← hX]
      clear hX
      gi_loopw [4] (fun qk wq => ∃ (k2 : Nat) (pre2 : List EntryC), k2 ≤ bl.length ∧ qk = .int .i64 k2 ∧ mrg al bl = pre2 ++ mrg (f :: al.drop (i + 1)) (bl.drop k2) ∧ J pre2 wq ∧ Rd W.heap.size (fun k => ¬ V k ∧ k ≠ L) W wq ∧ wq.heap[X]? = some (.cells #[.int .i64 f.i, .int .i64 f.t, .string f.d] 38 (0, 0))) (fun qk _ => bl.length - (intOf qk).toNat)
      case atStart => exact ⟨k, pre, hk, rfl, HM2.out, hJA, hRA, hXb⟩
      case round =>
        clear hJA hRA hXb HM2
        obtain ⟨k2, pre2, hk2, rfl, hM2, hJ2, hR2, hX2⟩ := hrel
        have HM2 := Lib.hid hM2
        clear hM2
        have cB := hR2.cell hcr0 (hU _ hSb)
        have e0 := cell_of_row _ _ 0 _ _ _ hX2
        have e1 := cell_of_row _ _ 1 _ _ _ hX2
        have e2 := cell_of_row _ _ 2 _ _ _ hX2
        simp only [List.getElem?_toArray, List.getElem?_cons_zero, List.getElem?_cons_succ] at e0 e1 e2
        have hk0 : (0 : Int) ≤ (k2 : Int) := by omega
        by_cases hlt2 : k2 < bl.length
        · obtain ⟨bb, ob, rfl, hbb, hxb⟩ := hcs2 (by omega)
          have hSbb := hSb2 bb ⟨bb, ob, rfl, by omega, rfl⟩
          have cell : ∀ q u, q < 3 → (bl[k2].cells)[q]? = some u → wr.cell? ⟨bb, ob + (k2 * 3 + q), none⟩ = some u := fun q u hq hu =>
            hR2.cell (hW.cell (RowV.at_ (len := bl.length) (sz := 3) hxb (by rw [entryCells, flat_at EntryC.cells 3 EntryC.len bl k2 q (by omega) hq]; exact hu)) hSbb) (hU _ hSbb)
          have b0 : wr.cell? ⟨bb, ob + k2 * 3, none⟩ = some (.int .i64 bl[k2].i) := cell 0 _ (by decide) rfl
          have b1 : wr.cell? ⟨bb, ob + k2 * 3 + 1, none⟩ = some (.int .i64 bl[k2].t) := cell 1 _ (by decide) rfl
          have b2 : wr.cell? ⟨bb, ob + k2 * 3 + 2, none⟩ = some (.string bl[k2].d) := cell 2 _ (by decide) rfl
          have HD := Lib.hid (List.drop_eq_getElem_cons hlt2)
          have hkl : (k2 : Int) < (bl.length : Int) := by omega
          clear cell hxb hcs2
          generalize bl[k2] = y at *
          have HSW := Lib.hid (fun W' (hW' : Below wr.heap.size wr W') => And.intro ((hW'.cell (World.block_lt_of_cell? wr _ cB)).trans cB) (And.intro ((hW'.cell (World.block_lt_of_cell? wr _ b0)).trans b0) (And.intro ((hW'.cell (World.block_lt_of_cell? wr _ b1)).trans b1) (And.intro ((hW'.cell (World.block_lt_of_cell? wr _ b2)).trans b2) (And.intro ((hW'.cell (World.block_lt_of_cell? wr _ e0)).trans e0) (And.intro ((hW'.cell (World.block_lt_of_cell? wr _ e1)).trans e1) ((hW'.cell (World.block_lt_of_cell? wr _ e2)).trans e2)))))))
          clear cB b0 b1 b2 e0 e1 e2
          have HS := Lib.hid (fun W' (hW' : Above wr W') => HSW.out W' hW')
          by_cases hyf : y.i ≤ f.i
          · have ht1 : decide (y.i ≤ f.i) = true := decide_eq_true hyf
            gi_wp2
            refine wpIn_region_below rfl (by kernel_rfl) (by kernel_rfl) ?_
            repeat (first
              | (refine BigFrame.wpQuietIn_skip (by first | quiet_asked_in | exact fun _ _ _ _ => trivial) (by rfl) ?_; (try simp only [Act.put, List.setIfInBounds_toArray, List.set_cons_zero, List.set_cons_succ]))
              | (refine BigFrame.wpQuietIn_want (by first | quiet_asked_in | exact fun _ _ _ _ => trivial) (by rfl) (fun K hK => ?_); apply Exists.intro; refine ⟨fun W hW => ?_, hK _ ?_⟩; (focus (obtain ⟨cB, b0, b1, b2, e0, e1, e2⟩ := HS.out _ hW; go_simp; (first | done | with_reducible rfl | (fail) | (rw [if_neg (by omega)]; go_simp; (first | done | with_reducible rfl))))); clear hK K; (try simp only [Act.put, List.setIfInBounds_toArray, List.set_cons_zero, List.set_cons_succ])))
            refine wpQuietIn_nil ?_
            intro w5 hB5
            replace hB5 : Below wr.heap.size wr w5 := hB5
            obtain ⟨cB, b0, b1, b2, e0, e1, e2⟩ := HSW.out w5 hB5
            by_cases hlt3 : y.i < f.i
            · have ht2 : decide (y.i < f.i) = true := decide_eq_true hlt3
              have HX := Lib.hid (HM2.out.trans (show pre2 ++ mrg (f :: al.drop (i + 1)) (bl.drop k2) = pre2 ++ y :: mrg (f :: al.drop (i + 1)) (bl.drop (k2 + 1)) by rw [HD.out, mrg_lt hlt3]))
              clear HM2 HD
              gi_wp2
              refine wpIn_region_tail 14 rfl (by kernel_rfl) (by kernel_rfl) (show Above w5 _ from (Below.refl _ _).drew) ?_
              simp only [List.take_succ_cons, List.take_zero, List.drop_succ_cons, List.drop_zero]
              repeat (first
                | (refine BigFrame.wpQuietIn_skip (by first | quiet_asked_in | exact fun _ _ _ _ => trivial) (by rfl) ?_; (try simp only [Act.put, List.setIfInBounds_toArray, List.set_cons_zero, List.set_cons_succ]))
                | (refine BigFrame.wpQuietIn_want (by first | quiet_asked_in | exact fun _ _ _ _ => trivial) (by rfl) (fun K hK => ?_); apply Exists.intro; refine ⟨fun W hW => ?_, hK _ ?_⟩; (focus (obtain ⟨cB, b0, b1, b2, e0, e1, e2⟩ := HSW.out _ (bel2 hB5 hW); go_simp; (first | done | with_reducible rfl | (fail) | (rw [if_neg (by omega)]; go_simp; (first | done | with_reducible rfl))))); clear hK K; (try simp only [Act.put, List.setIfInBounds_toArray, List.set_cons_zero, List.set_cons_succ])))
              refine wpQuietIn_nil ?_
              intro w6 hB6
              have hB56 := bel2 hB5 hB6
              have hR6 := hR2.trans (.below hB56)
              have hX6 := (hB56.block _ (heap_lt hX2)).trans hX2
              obtain ⟨fn, tmps, assign, body, hy, hR1⟩ := hY pre2 _ _ w6 HX.out (hJs _ _ _ hJ2 (Moves.below hB56))
              dsimp only [EntryC.enc, EntryC.val] at hy
              gi_wp2
              refine (roundIn_wide_n hR1).mono ?_
              rintro e W3 (⟨rfl, hJ3, hk3⟩ | ⟨rfl, hJx3⟩)
              · gi_wp2
                go_roundw
                case rel => exact ⟨k2 + 1, pre2 ++ [y], by omega, by go_num, by rw [HX.out, List.append_assoc]; rfl, hJ3, hR6.trans hk3, hk3.get hX6 (hX9 X hXs)⟩
                case measure => simp [intOf]; omega
              · gi_wp2
                refine bodyPost_ret (results_none rfl _ _ _) rfl ?_
                exact ⟨⟨_, rfl⟩, .inr ⟨_, _, _, HX.out, hJx3⟩⟩
            · replace hlt3 : f.i ≤ y.i := by omega
              have ht2 : decide (y.i < f.i) = false := decide_eq_false (by omega)
              have HX := Lib.hid (HM2.out.trans (show pre2 ++ mrg (f :: al.drop (i + 1)) (bl.drop k2) = pre2 ++ mrg (f :: al.drop (i + 1)) (bl.drop (k2 + 1)) by rw [HD.out, mrg_eq (by omega)]))
              clear HM2 HD
              gi_wp2
              refine wpIn_region_below rfl (by kernel_rfl) (by kernel_rfl) ?_
              repeat (first
                | (refine BigFrame.wpQuietIn_skip (by first | quiet_asked_in | exact fun _ _ _ _ => trivial) (by rfl) ?_; (try simp only [Act.put, List.setIfInBounds_toArray, List.set_cons_zero, List.set_cons_succ]))
                | (refine BigFrame.wpQuietIn_want (by first | quiet_asked_in | exact fun _ _ _ _ => trivial) (by rfl) (fun K hK => ?_); apply Exists.intro; refine ⟨fun W hW => ?_, hK _ ?_⟩; (focus (obtain ⟨cB, b0, b1, b2, e0, e1, e2⟩ := HSW.out _ (bel2 hB5 hW); go_simp; (first | done | with_reducible rfl | (fail) | (rw [if_neg (by omega)]; go_simp; (first | done | with_reducible rfl))))); clear hK K; (try simp only [Act.put, List.setIfInBounds_toArray, List.set_cons_zero, List.set_cons_succ])))
              refine wpQuietIn_nil ?_
              intro w6 hB6
              replace hB6 : Below w5.heap.size w5 w6 := hB6
              have hB56 := bel2 hB5 hB6
              have hR6 := hR2.trans (.below hB56)
              have hX6 := (hB56.block _ (heap_lt hX2)).trans hX2
              gi_wp2
              go_roundw
              case rel => exact ⟨k2 + 1, pre2, by omega, by go_num, HX.out, hJs _ _ _ hJ2 (Moves.below hB56), hR6, hX6⟩
              case measure => simp [intOf]; omega
          · replace hyf : f.i < y.i := by omega
            have ht1 : decide (y.i ≤ f.i) = false := decide_eq_false (by omega)
            have HX := Lib.hid (HM2.out.trans (show pre2 ++ mrg (f :: al.drop (i + 1)) (bl.drop k2) = pre2 ++ f :: mrg (al.drop (i + 1)) (bl.drop k2) by rw [mrg_gt (by rw [HD.out]; intro x hx; cases hx; exact hyf)]))
            clear HM2 HD
            gi_wp2
            refine wpIn_region_below rfl (by kernel_rfl) (by kernel_rfl) ?_
            repeat (first
              | (refine BigFrame.wpQuietIn_skip (by first | quiet_asked_in | exact fun _ _ _ _ => trivial) (by rfl) ?_; (try simp only [Act.put, List.setIfInBounds_toArray, List.set_cons_zero, List.set_cons_succ]))
              | (refine BigFrame.wpQuietIn_want (by first | quiet_asked_in | exact fun _ _ _ _ => trivial) (by rfl) (fun K hK => ?_); apply Exists.intro; refine ⟨fun W hW => ?_, hK _ ?_⟩; (focus (obtain ⟨cB, b0, b1, b2, e0, e1, e2⟩ := HS.out _ hW; go_simp; (first | done | with_reducible rfl | (fail) | (rw [if_neg (by omega)]; go_simp; (first | done | with_reducible rfl))))); clear hK K; (try simp only [Act.put, List.setIfInBounds_toArray, List.set_cons_zero, List.set_cons_succ])))
            refine wpQuietIn_nil ?_
            intro w5 hB5
            replace hB5 : Below wr.heap.size wr w5 := hB5
            obtain ⟨cB, b0, b1, b2, e0, e1, e2⟩ := HSW.out w5 hB5
            have hR5 := hR2.trans (.below hB5)
            obtain ⟨fn, tmps, assign, body, hy, hR1⟩ := hY pre2 _ _ w5 HX.out (hJs _ _ _ hJ2 (Moves.below hB5))
            dsimp only [EntryC.enc, EntryC.val] at hy
            gi_wp2
            refine (roundIn_wide_n hR1).mono ?_
            rintro e W3 (⟨rfl, hJ3, hk3⟩ | ⟨rfl, hJx3⟩)
            · gi_wp2
              go_roundw
              case rel => exact ⟨i + 1, k2, pre2 ++ [f], by omega, by omega, rfl, by go_num, by rw [HX.out, List.append_assoc]; rfl, hJ3, hR5.trans hk3⟩
              case measure => simp [intOf]; omega
            · gi_wp2
              refine bodyPost_ret (results_none rfl _ _ _) rfl ?_
              exact ⟨⟨_, rfl⟩, .inr ⟨_, _, _, HX.out, hJx3⟩⟩
        · obtain rfl : k2 = bl.length := by omega
          have HX := Lib.hid (HM2.out.trans (show pre2 ++ mrg (f :: al.drop (i + 1)) (bl.drop bl.length) = pre2 ++ f :: mrg (al.drop (i + 1)) (bl.drop bl.length) by rw [mrg_gt (by rw [List.drop_length]; intro x hx; cases hx)]))
          clear HM2
          have HSW := Lib.hid (fun W' (hW' : Below wr.heap.size wr W') => And.intro ((hW'.cell (World.block_lt_of_cell? wr _ cB)).trans cB) (And.intro ((hW'.cell (World.block_lt_of_cell? wr _ e0)).trans e0) (And.intro ((hW'.cell (World.block_lt_of_cell? wr _ e1)).trans e1) ((hW'.cell (World.block_lt_of_cell? wr _ e2)).trans e2))))
          clear cB e0 e1 e2
          have HS := Lib.hid (fun W' (hW' : Above wr W') => HSW.out W' hW')
          gi_wp2
          refine wpIn_region_below rfl (by kernel_rfl) (by kernel_rfl) ?_
          repeat (first
            | (refine BigFrame.wpQuietIn_skip (by first | quiet_asked_in | exact fun _ _ _ _ => trivial) (by rfl) ?_; (try simp only [Act.put, List.setIfInBounds_toArray, List.set_cons_zero, List.set_cons_succ]))
            | (refine BigFrame.wpQuietIn_want (by first | quiet_asked_in | exact fun _ _ _ _ => trivial) (by rfl) (fun K hK => ?_); apply Exists.intro; refine ⟨fun W hW => ?_, hK _ ?_⟩; (focus (obtain ⟨cB, e0, e1, e2⟩ := HS.out _ hW; go_simp; (first | done | with_reducible rfl | (fail) | (rw [if_neg (by omega)]; go_simp; (first | done | with_reducible rfl))))); clear hK K; (try simp only [Act.put, List.setIfInBounds_toArray, List.set_cons_zero, List.set_cons_succ])))
          refine wpQuietIn_nil ?_
          intro w5 hB5
          replace hB5 : Below wr.heap.size wr w5 := hB5
          obtain ⟨cB, e0, e1, e2⟩ := HSW.out w5 hB5
          have hR5 := hR2.trans (.below hB5)
          obtain ⟨fn, tmps, assign, body, hy, hR1⟩ := hY pre2 _ _ w5 HX.out (hJs _ _ _ hJ2 (Moves.below hB5))
          dsimp only [EntryC.enc, EntryC.val] at hy
          gi_wp2
          refine (roundIn_wide_n hR1).mono ?_
          rintro e W3 (⟨rfl, hJ3, hk3⟩ | ⟨rfl, hJx3⟩)
          · gi_wp2
            go_roundw
            case rel => exact ⟨i + 1, bl.length, pre2 ++ [f], by omega, by omega, rfl, by go_num, by rw [HX.out, List.append_assoc]; rfl, hJ3, hR5.trans hk3⟩
            case measure => simp [intOf]; omega
          · gi_wp2
            refine bodyPost_ret (results_none rfl _ _ _) rfl ?_
            exact ⟨⟨_, rfl⟩, .inr ⟨_, _, _, HX.out, hJx3⟩⟩
    · obtain rfl : i = al.length := by omega
      rw [List.drop_length] at HM
      have HM3 := Lib.hid (show mrg al bl = pre ++ bl.drop k from HM.out)
      clear HM hcs
      have cB := hR.cell hcr0 (hU _ hSb)
      have hk0 : (0 : Int) ≤ (k : Int) := by omega
      have hkI : (k : Int) ≤ (bl.length : Int) := by omega
      have hkC : (k : Int) ≤ (cb : Int) := by omega
      have hlC : (bl.length : Int) ≤ (cb : Int) := by omega
      by_cases hkl : k < bl.length
      · obtain ⟨bb, ob, rfl, hbb, hxb⟩ := hcs2 (by omega)
        have hSbb := hSb2 bb ⟨bb, ob, rfl, by omega, rfl⟩
        have n4 : ¬ cb = k := by omega
        gi_wp2
        clear cB
        gi_loopw [57] (fun q wr => ∃ (j : Nat) (pre3 : List EntryC), k + j ≤ bl.length ∧ q = .int .i64 j ∧ mrg al bl = pre3 ++ bl.drop (k + j) ∧ J pre3 wr ∧ Rd W.heap.size (fun k => ¬ V k ∧ k ≠ L) W wr) (fun q _ => bl.length - (intOf q).toNat)
        case atStart => exact ⟨0, pre, by omega, rfl, HM3.out, hJ, hR⟩
        case round =>
          clear hJ hR HM3
          obtain ⟨j, pre3, hj, rfl, hM3, hJ3, hR3⟩ := hrel
          have HM3 := Lib.hid hM3
          clear hM3
          by_cases hlt3 : k + j < bl.length
          · have cell : ∀ q u, q < 3 → (bl[k + j].cells)[q]? = some u → wr.cell? ⟨bb, ob + ((k + j) * 3 + q), none⟩ = some u := fun q u hq hu =>
              hR3.cell (hW.cell (RowV.at_ (len := bl.length) (sz := 3) hxb (by rw [entryCells, flat_at EntryC.cells 3 EntryC.len bl (k + j) q (by omega) hq]; exact hu)) hSbb) (hU _ hSbb)
            have b0 : wr.cell? ⟨bb, ob + k * 3 + j * 3, none⟩ = some (.int .i64 bl[k + j].i) := by have := cell 0 _ (by decide) rfl; rwa [show ob + ((k + j) * 3 + 0) = ob + k * 3 + j * 3 by omega] at this
            have b1 : wr.cell? ⟨bb, ob + k * 3 + j * 3 + 1, none⟩ = some (.int .i64 bl[k + j].t) := by have := cell 1 _ (by decide) rfl; rwa [show ob + ((k + j) * 3 + 1) = ob + k * 3 + j * 3 + 1 by omega] at this
            have b2 : wr.cell? ⟨bb, ob + k * 3 + j * 3 + 2, none⟩ = some (.string bl[k + j].d) := by have := cell 2 _ (by decide) rfl; rwa [show ob + ((k + j) * 3 + 2) = ob + k * 3 + j * 3 + 2 by omega] at this
            have HX := Lib.hid (HM3.out.trans (show pre3 ++ bl.drop (k + j) = pre3 ++ bl[k + j] :: bl.drop (k + j + 1) by rw [List.drop_eq_getElem_cons hlt3]))
            have hj0 : (0 : Int) ≤ (j : Int) := by omega
            have hjl : j < bl.length - k := by omega
            have hjL : (j : Int) < ((bl.length - k : Nat) : Int) := by omega
            clear cell hxb hcs2 HM3
            generalize bl[k + j] = y at *
            obtain ⟨fn, tmps, assign, body, hy, hR1⟩ := hY pre3 _ _ (wr.alloc (.cells #[.int .i64 y.i, .int .i64 y.t, .string y.d] 38)) HX.out (hJs _ _ _ hJ3 (Moves.alloc _ _))
            dsimp only [EntryC.enc, EntryC.val] at hy
            gi_wp2
            refine (roundIn_wide_n hR1).mono ?_
            rintro e W3 (⟨rfl, hJ4, hk3⟩ | ⟨rfl, hJx3⟩)
            · gi_wp2
              go_roundw
              case rel => exact ⟨j + 1, pre3 ++ [y], by omega, by go_num, by rw [HX.out, List.append_assoc]; rfl, hJ4, (hR3.alloc _).trans hk3⟩
              case measure => simp [intOf]; omega
            · gi_wp2
              refine bodyPost_ret (results_none rfl _ _ _) rfl ?_
              exact ⟨⟨_, rfl⟩, .inr ⟨_, _, _, HX.out, hJx3⟩⟩
          · have hje : k + j = bl.length := by omega
            have HE := Lib.hid (show mrg al bl = pre3 by rw [HM3.out, hje, List.drop_length, List.append_nil])
            have hjl : bl.length - k ≤ j := by omega
            have hjL : ((bl.length - k : Nat) : Int) ≤ (j : Int) := by omega
            clear HM3 hje
            gi_wp2
            refine bodyPost_end (results_none rfl _ _ _) rfl ?_
            exact ⟨⟨_, rfl⟩, .inl (by rw [HE.out]; exact hJ3)⟩
      · obtain rfl : k = bl.length := by omega
        have HE := Lib.hid (show mrg al bl = pre by rw [HM3.out, List.drop_length, List.append_nil])
        clear HM3
        gi_wp2
        all_goals
          gi_loopw [57] (fun q wr => q = .int .i64 0 ∧ J pre wr) (fun q _ => 0)
          case atStart => exact ⟨rfl, hJ⟩
          case round =>
            clear hJ hR
            obtain ⟨rfl, hJ4⟩ := hrel
            gi_wp2
            refine bodyPost_end (results_none rfl _ _ _) rfl ?_
            exact ⟨⟨_, rfl⟩, .inl (by rw [HE.out]; exact hJ4)⟩

end Go.Proofs.Ytfbibpnkfmgkaaa
