/- Law GroupStands: for every input the call answers true; its arguments read as they did. No condition. -/
import Derived.Deep.RegionHeld3
import Derived.Test.YtfmcebmkclaafaaLaw
import Derived.Test.YtfmcebmkclaafaaFew6
import Derived.Test.YtfmcebmkclaafaaGrpMath
import Derived.Test.YtfmcebmkclaafaaRef6a
namespace Go.Proofs.Ytfmcebmkclaafaa.groupStands
open Go.ChangeShapes Go.WideShapes Go.ChangeAt Go.RowKit Go.Shelf
open Go.ChangeMaps (open_string shut_string)
set_option linter.unusedVariables false
attribute [local go_sem] Oper.semAt_some wide_fn wide_round_fn

attribute [local irreducible] wpQuiet
theorem wpList_append_none6 {P : Program} {w : World} {ops : Array Oper} {rest : List Oper} {o : Oper} {a : Act} {Q : Exit → Act → World → Prop} (hgd : o.guard = none) (s x : Operand) (t : TypeId)
    (ho : o.op = .call { callee := .builtin .append, args := #[s, x], argTypes := #[t, t] }) (e : TypeId) (i : TypeInfo) (ht : P.underlying t = some (.slice e)) (hi : P.info? e = some i)
    (hs : a.eval s = .slice none 0 0) (m c : Nat) (hm0 : m = 0) (hx : a.eval x = .slice none m c) (h : wpList P ops Q rest (a.put o.dst (.slice none 0 0)) w) : wpList P ops Q (o :: rest) a w := by
  subst hm0
  refine wpList_plain hgd fun K hK => ?_
  have hrun : (Builtin.append_ #[t, t] o.type #[.slice none 0 0, .slice none 0 c]).run P w = .ok (.slice none 0 0) w := by
    simp [Builtin.append_, run_underlying ht, sizeOf, typeInfo, hi, Builtin.lenOf, Builtin.firstCells]
  unfold Oper.wp
  simp [execOp, ho, resolve, invoke, builtin, hs, hx, hrun, Result.andThen]
  exact hK _ _ h
theorem few6_at {P : List PL} (h : fewPs6 P = true) {x : PL} (hx : x ∈ P) : few6B x.2 = true := by
  simp only [fewPs6, Bool.and_eq_true, List.all_eq_true] at h; exact h.1 x hx
theorem few6_len {P : List PL} (h : fewPs6 P = true) : P.length ≤ 6 := by
  simp only [fewPs6, Bool.and_eq_true, decide_eq_true_eq] at h; exact h.2
theorem doG_err {g : GM} {p : PartC} {pl : List EntryC} (h : chkG g p pl ≠ 0) : doG g p pl = g := if_pos h

set_option maxRecDepth 100000 in
set_option maxHeartbeats 4000000 in
theorem std_1 (id fi te ht hv hc : Int) (l : List EntryC) (a : Option Addr) (cap : Nat) (b : Option Addr) (len bcap : Nat) (P : List PL) (hP : P.length = len) (w : World) (hg : GoodG w ⟨id, fi, te, ht, hv, hc, l⟩ a) (hrow : RowV w b len 10 (partCells P)) (hp : ∀ x ∈ P, GoodP w x) (hf : fewGB l = false) : Calls Try.prog 5 #[.agg #[.int .i64 id, .int .i64 fi, .int .i64 te, .int .i64 ht, .int .i64 hv, .int .i64 hc, .slice a l.length cap], .slice b len bcap] w fun e w' => e = .returned (.bool true) ∧ Below w.heap.size w w' := by
  have GK := Lib.hid group_known
  have GFG := Lib.hid (fun W (hB : Below w.heap.size w W) => fewG_any id fi te ht hv hc l a cap W (hg.2.1.below hB) (fun e he => (hg.2.2 e he).2.2))
  have GFP := Lib.hid (fun W (hB : Below w.heap.size w W) => fewPs6_any b len bcap P W hP (hrow.below hB) (fun x hx => ⟨(hp x hx).1, (hp x hx).2.1, (hp x hx).2.2.1.below hB, (hp x hx).2.2.2⟩))
  rw [hf] at GFG
  clear hg hp
  have hg := World.alloc_heap_new w (.cells #[.int .i64 id, .int .i64 fi, .int .i64 te, .int .i64 ht, .int .i64 hv, .int .i64 hc, .slice a l.length cap] 26)
  have hA : Below w.heap.size w (w.alloc (.cells #[.int .i64 id, .int .i64 fi, .int .i64 te, .int .i64 ht, .int .i64 hv, .int .i64 hc, .slice a l.length cap] 26)) := bel_alloc (Below.refl _ _) _
  obtain ⟨g0, g1, g2, g3, g4, g5, g6, -⟩ := cells7 hg
  go_enter Try.func5, Try.ntmps5
  go_wp2_with (first
    | (go_at_call 12; ((with_reducible refine (GK.out _).mono ?_); rintro e w1 ⟨rfl, hB⟩; clear g0 g1 g2 g3 g4 g5 g6; replace hA := bel2 hA hB; replace hg := (hB.block _ (heap_lt hg)).trans hg; obtain ⟨g0, g1, g2, g3, g4, g5, g6, -⟩ := cells7 hg; clear hB))
    | (go_at_call 13; ((with_reducible refine (GFG.out _ hA).mono ?_); rintro e w2 ⟨rfl, hB⟩; clear g0 g1 g2 g3 g4 g5 g6; replace hA := bel2 hA hB; replace hg := (hB.block _ (heap_lt hg)).trans hg; obtain ⟨g0, g1, g2, g3, g4, g5, g6, -⟩ := cells7 hg; clear hB)))
  go_ret
  exact ⟨by simp, hA⟩

set_option maxRecDepth 100000 in
set_option maxHeartbeats 4000000 in
theorem std_2 (id fi te ht hv hc : Int) (l : List EntryC) (a : Option Addr) (cap : Nat) (b : Option Addr) (len bcap : Nat) (P : List PL) (hP : P.length = len) (w : World) (hg : GoodG w ⟨id, fi, te, ht, hv, hc, l⟩ a) (hrow : RowV w b len 10 (partCells P)) (hp : ∀ x ∈ P, GoodP w x) (hf : fewGB l = true) (hf2 : fewPs6 P = false) : Calls Try.prog 5 #[.agg #[.int .i64 id, .int .i64 fi, .int .i64 te, .int .i64 ht, .int .i64 hv, .int .i64 hc, .slice a l.length cap], .slice b len bcap] w fun e w' => e = .returned (.bool true) ∧ Below w.heap.size w w' := by
  have GK := Lib.hid group_known
  have GFG := Lib.hid (fun W (hB : Below w.heap.size w W) => fewG_any id fi te ht hv hc l a cap W (hg.2.1.below hB) (fun e he => (hg.2.2 e he).2.2))
  have GFP := Lib.hid (fun W (hB : Below w.heap.size w W) => fewPs6_any b len bcap P W hP (hrow.below hB) (fun x hx => ⟨(hp x hx).1, (hp x hx).2.1, (hp x hx).2.2.1.below hB, (hp x hx).2.2.2⟩))
  rw [hf] at GFG
  rw [hf2] at GFP
  clear hg hp
  have hg := World.alloc_heap_new w (.cells #[.int .i64 id, .int .i64 fi, .int .i64 te, .int .i64 ht, .int .i64 hv, .int .i64 hc, .slice a l.length cap] 26)
  have hA : Below w.heap.size w (w.alloc (.cells #[.int .i64 id, .int .i64 fi, .int .i64 te, .int .i64 ht, .int .i64 hv, .int .i64 hc, .slice a l.length cap] 26)) := bel_alloc (Below.refl _ _) _
  obtain ⟨g0, g1, g2, g3, g4, g5, g6, -⟩ := cells7 hg
  go_enter Try.func5, Try.ntmps5
  go_wp2_with (first
    | (go_at_call 12; ((with_reducible refine (GK.out _).mono ?_); rintro e w1 ⟨rfl, hB⟩; clear g0 g1 g2 g3 g4 g5 g6; replace hA := bel2 hA hB; replace hg := (hB.block _ (heap_lt hg)).trans hg; obtain ⟨g0, g1, g2, g3, g4, g5, g6, -⟩ := cells7 hg; clear hB))
    | (go_at_call 13; ((with_reducible refine (GFG.out _ hA).mono ?_); rintro e w2 ⟨rfl, hB⟩; clear g0 g1 g2 g3 g4 g5 g6; replace hA := bel2 hA hB; replace hg := (hB.block _ (heap_lt hg)).trans hg; obtain ⟨g0, g1, g2, g3, g4, g5, g6, -⟩ := cells7 hg; clear hB))
    | (go_at_call 31; ((with_reducible refine (GFP.out _ hA).mono ?_); rintro e w3 ⟨rfl, hB⟩; clear g0 g1 g2 g3 g4 g5 g6; replace hA := bel2 hA hB; replace hg := (hB.block _ (heap_lt hg)).trans hg; obtain ⟨g0, g1, g2, g3, g4, g5, g6, -⟩ := cells7 hg; clear hB)))
  go_ret
  exact ⟨by simp, hA⟩

set_option maxRecDepth 100000 in
set_option maxHeartbeats 4000000 in
theorem std_3 (id fi te ht hv hc : Int) (l : List EntryC) (a : Option Addr) (cap : Nat) (b : Option Addr) (len bcap : Nat) (P : List PL) (hP : P.length = len) (w : World) (hg : GoodG w ⟨id, fi, te, ht, hv, hc, l⟩ a) (hrow : RowV w b len 10 (partCells P)) (hp : ∀ x ∈ P, GoodP w x) (hf : fewGB l = true) (hf2 : fewPs6 P = true) (hG : isG ⟨id, fi, te, ht, hv, hc, l⟩ = false) : Calls Try.prog 5 #[.agg #[.int .i64 id, .int .i64 fi, .int .i64 te, .int .i64 ht, .int .i64 hv, .int .i64 hc, .slice a l.length cap], .slice b len bcap] w fun e w' => e = .returned (.bool true) ∧ Below w.heap.size w w' := by
  have GK := Lib.hid group_known
  have GFG := Lib.hid (fun W (hB : Below w.heap.size w W) => fewG_any id fi te ht hv hc l a cap W (hg.2.1.below hB) (fun e he => (hg.2.2 e he).2.2))
  have GFP := Lib.hid (fun W (hB : Below w.heap.size w W) => fewPs6_any b len bcap P W hP (hrow.below hB) (fun x hx => ⟨(hp x hx).1, (hp x hx).2.1, (hp x hx).2.2.1.below hB, (hp x hx).2.2.2⟩))
  obtain ⟨hGH, h30⟩ := hg.has hf
  have GI := Lib.hid (fun W (hB : Below w.heap.size w W) => grpIs_any id fi te ht hv hc l a cap W (hGH.below hB))
  rw [hf] at GFG
  rw [hf2] at GFP
  rw [hG] at GI
  clear hGH
  clear hg hp
  have hg := World.alloc_heap_new w (.cells #[.int .i64 id, .int .i64 fi, .int .i64 te, .int .i64 ht, .int .i64 hv, .int .i64 hc, .slice a l.length cap] 26)
  have hA : Below w.heap.size w (w.alloc (.cells #[.int .i64 id, .int .i64 fi, .int .i64 te, .int .i64 ht, .int .i64 hv, .int .i64 hc, .slice a l.length cap] 26)) := bel_alloc (Below.refl _ _) _
  obtain ⟨g0, g1, g2, g3, g4, g5, g6, -⟩ := cells7 hg
  go_enter Try.func5, Try.ntmps5
  go_wp2_with (first
    | (go_at_call 12; ((with_reducible refine (GK.out _).mono ?_); rintro e w1 ⟨rfl, hB⟩; clear g0 g1 g2 g3 g4 g5 g6; replace hA := bel2 hA hB; replace hg := (hB.block _ (heap_lt hg)).trans hg; obtain ⟨g0, g1, g2, g3, g4, g5, g6, -⟩ := cells7 hg; clear hB))
    | (go_at_call 13; ((with_reducible refine (GFG.out _ hA).mono ?_); rintro e w2 ⟨rfl, hB⟩; clear g0 g1 g2 g3 g4 g5 g6; replace hA := bel2 hA hB; replace hg := (hB.block _ (heap_lt hg)).trans hg; obtain ⟨g0, g1, g2, g3, g4, g5, g6, -⟩ := cells7 hg; clear hB))
    | (go_at_call 31; ((with_reducible refine (GFP.out _ hA).mono ?_); rintro e w3 ⟨rfl, hB⟩; clear g0 g1 g2 g3 g4 g5 g6; replace hA := bel2 hA hB; replace hg := (hB.block _ (heap_lt hg)).trans hg; obtain ⟨g0, g1, g2, g3, g4, g5, g6, -⟩ := cells7 hg; clear hB))
    | (go_at_call 15; ((with_reducible refine (GI.out _ hA).mono ?_); rintro e w4 ⟨rfl, hB⟩; clear g0 g1 g2 g3 g4 g5 g6; replace hA := bel2 hA hB; replace hg := (hB.block _ (heap_lt hg)).trans hg; obtain ⟨g0, g1, g2, g3, g4, g5, g6, -⟩ := cells7 hg; clear hB)))
  go_ret
  exact ⟨by simp, hA⟩

set_option maxRecDepth 100000 in
set_option maxHeartbeats 4000000 in
theorem std_4 (id fi te ht hv hc : Int) (l : List EntryC) (a : Option Addr) (cap : Nat) (b : Option Addr) (len bcap : Nat) (P : List PL) (hP : P.length = len) (w : World) (hg : GoodG w ⟨id, fi, te, ht, hv, hc, l⟩ a) (hrow : RowV w b len 10 (partCells P)) (hp : ∀ x ∈ P, GoodP w x) (hf : fewGB l = true) (hf2 : fewPs6 P = true) (hG : isG ⟨id, fi, te, ht, hv, hc, l⟩ = true) : Calls Try.prog 5 #[.agg #[.int .i64 id, .int .i64 fi, .int .i64 te, .int .i64 ht, .int .i64 hv, .int .i64 hc, .slice a l.length cap], .slice b len bcap] w fun e w' => e = .returned (.bool true) ∧ Below w.heap.size w w' := by
  have GK := Lib.hid group_known
  have GFG := Lib.hid (fun W (hB : Below w.heap.size w W) => fewG_any id fi te ht hv hc l a cap W (hg.2.1.below hB) (fun e he => (hg.2.2 e he).2.2))
  have GFP := Lib.hid (fun W (hB : Below w.heap.size w W) => fewPs6_any b len bcap P W hP (hrow.below hB) (fun x hx => ⟨(hp x hx).1, (hp x hx).2.1, (hp x hx).2.2.1.below hB, (hp x hx).2.2.2⟩))
  obtain ⟨hGH, h30⟩ := hg.has hf
  have GI := Lib.hid (fun W (hB : Below w.heap.size w W) => grpIs_any id fi te ht hv hc l a cap W (hGH.below hB))
  rw [hf] at GFG
  rw [hf2] at GFP
  rw [hG] at GI
  have HPX := Lib.hid (show ∀ x ∈ P, HasE w x.1 x.2 from fun x hx => (hp x hx).has (few6_at hf2 hx))
  have h6 := few6_len hf2
  have hcs := hrow.2.2
  have HL := Lib.hid hP
  have hlen : len ≤ 6 := by omega
  have HGX := Lib.hid (And.intro hG (And.intro hGH h30))
  obtain ⟨i0, hi, hz0, hz1, hz2⟩ := info_parts infoEntry
  clear hGH h30 hG hP hrow hf2 hf h6
  clear hg hp
  have hg := World.alloc_heap_new w (.cells #[.int .i64 id, .int .i64 fi, .int .i64 te, .int .i64 ht, .int .i64 hv, .int .i64 hc, .slice a l.length cap] 26)
  have hA : Below w.heap.size w (w.alloc (.cells #[.int .i64 id, .int .i64 fi, .int .i64 te, .int .i64 ht, .int .i64 hv, .int .i64 hc, .slice a l.length cap] 26)) := bel_alloc (Below.refl _ _) _
  obtain ⟨g0, g1, g2, g3, g4, g5, g6, -⟩ := cells7 hg
  go_enter Try.func5, Try.ntmps5
  go_wp2_with (first
    | (go_at_call 12; ((with_reducible refine (GK.out _).mono ?_); rintro e w1 ⟨rfl, hB⟩; clear g0 g1 g2 g3 g4 g5 g6; replace hA := bel2 hA hB; replace hg := (hB.block _ (heap_lt hg)).trans hg; obtain ⟨g0, g1, g2, g3, g4, g5, g6, -⟩ := cells7 hg; clear hB))
    | (go_at_call 13; ((with_reducible refine (GFG.out _ hA).mono ?_); rintro e w2 ⟨rfl, hB⟩; clear g0 g1 g2 g3 g4 g5 g6; replace hA := bel2 hA hB; replace hg := (hB.block _ (heap_lt hg)).trans hg; obtain ⟨g0, g1, g2, g3, g4, g5, g6, -⟩ := cells7 hg; clear hB))
    | (go_at_call 31; ((with_reducible refine (GFP.out _ hA).mono ?_); rintro e w3 ⟨rfl, hB⟩; clear g0 g1 g2 g3 g4 g5 g6; replace hA := bel2 hA hB; replace hg := (hB.block _ (heap_lt hg)).trans hg; obtain ⟨g0, g1, g2, g3, g4, g5, g6, -⟩ := cells7 hg; clear hB))
    | (go_at_call 15; ((with_reducible refine (GI.out _ hA).mono ?_); rintro e w4 ⟨rfl, hB⟩; clear g0 g1 g2 g3 g4 g5 g6; replace hA := bel2 hA hB; replace hg := (hB.block _ (heap_lt hg)).trans hg; obtain ⟨g0, g1, g2, g3, g4, g5, g6, -⟩ := cells7 hg; clear hB)))
  obtain ⟨A, hAe⟩ : ∃ A, A = w4.heap.size := ⟨_, rfl⟩
  have hat := World.alloc_heap_new w4 (.cells #[.int .i64 id, .int .i64 fi, .int .i64 te, .int .i64 ht, .int .i64 hv, .int .i64 hc, .slice a l.length cap] 26)
  have hA5 := bel_alloc hA (.cells #[.int .i64 id, .int .i64 fi, .int .i64 te, .int .i64 ht, .int .i64 hv, .int .i64 hc, .slice a l.length cap] 26)
  have hA5l : w.heap.size ≤ A := by rw [hAe]; exact hA.size
  rw [← hAe] at hat
  have HAT := Lib.hid hat
  have HGH5 := Lib.hid (HGX.out.2.1.below hA5)
  clear g0 g1 g2 g3 g4 g5 g6
  clear hat hg hA
  rw [← hAe]
  clear hAe
  go_loopw [6, 7, 8, 9] (fun q _ _ _ wr => ∃ (k : Nat) (X : GM) (xa : Option Addr) (xc : Nat), k ≤ len ∧ q = .int .i64 k ∧ isG X = true ∧ X.l.length ≤ 30 + 6 * k ∧ wr.heap[A]? = some (.cells #[.int .i64 X.id, .int .i64 X.fi, .int .i64 X.te, .int .i64 X.ht, .int .i64 X.hv, .int .i64 X.hc, .slice xa X.l.length xc] 26 (0, 0)) ∧ HasG wr xa X ∧ Below w.heap.size w wr) (fun q _ _ _ _ => len - (intOf q).toNat)
  case atStart => exact ⟨0, ⟨id, fi, te, ht, hv, hc, l⟩, a, cap, by omega, rfl, HGX.out.1, by have := HGX.out.2.2; simpa using this, HAT.out, HGH5.out, hA5⟩
  case round =>
    obtain ⟨k, ⟨xid, xfi, xte, xht, xhv, xhc, xl⟩, xa, xc, hk, rfl, hGk, hXl, hxb, hXH, hB⟩ := hrel
    dsimp only at hXl hxb
    obtain ⟨⟨_, ⟨hf1, hf2⟩, _⟩, _, _⟩ := isG_iff.1 hGk
    dsimp only at hf1 hf2
    have GL := Lib.hid (fun W x c (h : HasG W x ⟨xid, xfi, xte, xht, xhv, xhc, xl⟩) => last_any xid xfi xte xht xhv xhc xl x c W h hGk)
    have hAw : A < wr.heap.size := heap_lt hxb
    by_cases hlt : k < len
    · obtain ⟨pb, po, rfl, hpb, hpx⟩ := hcs (by omega)
      have hkl : k < P.length := by rw [HL.out]; exact hlt
      obtain ⟨c0, c1, c2, c3, c4, c5, c6, c7, c8, c9⟩ := part_at10 hpb hB hpx hkl
      have hPE := HPX.out P[k] (List.getElem_mem hkl)
      have hpw : pb < wr.heap.size := Nat.lt_of_lt_of_le hpb hB.size
      have hk0 : (0 : Int) ≤ (k : Int) := by omega
      have hk1 : (k : Int) < (len : Int) := by omega
      clear hpx hcs
      generalize P[k] = x at *
      obtain ⟨⟨pg, pk, pa, plen, pcap, pht, phv, phc, pi, pt, pm, ph⟩, pl⟩ := x
      dsimp only [PartC.val, PartC.arr] at *
      have hrv := hXH.2
      have hXm : xl.length ≤ 66 := by omega
      have hl3 : (entryCells xl).length = xl.length * 3 := hXH.2.1
      obtain ⟨x0, x1, x2, x3, x4, x5, x6, -⟩ := cells7r hxb
      have hAx := bel_alloc (Below.refl wr.heap.size wr) (.cells #[.int .i64 xid, .int .i64 xfi, .int .i64 xte, .int .i64 xht, .int .i64 xhv, .int .i64 xhc, .slice xa xl.length xc] 26)
      have hxb1 := (hAx.block _ hAw).trans hxb
      have hwb1 := World.alloc_heap_new wr (.cells #[.int .i64 xid, .int .i64 xfi, .int .i64 xte, .int .i64 xht, .int .i64 xhv, .int .i64 xhc, .slice xa xl.length xc] 26)
      cases xa with
      | none =>
        have H0 := Lib.hid (show xl.length = 0 from by
          rcases Nat.eq_zero_or_pos xl.length with h | h
          · exact h
          · obtain ⟨_, _, e, _⟩ := hrv.2.2 h; cases e)
        go_wp2_with (at_builtin; refine wpList_append_none6 rfl _ _ 24 rfl 55 i0 Try.underlying24 hi rfl xl.length xc H0.out rfl ?_)
        have hgen : wr.alloc (.cells #[.int .i64 xid, .int .i64 xfi, .int .i64 xte, .int .i64 xht, .int .i64 xhv, .int .i64 xhc, .slice none 0 0] 26) = wr.alloc (.cells #[.int .i64 xid, .int .i64 xfi, .int .i64 xte, .int .i64 xht, .int .i64 xhv, .int .i64 xhc, .slice none xl.length 0] 26) := by rw [H0.out]
        rw [hgen]
        clear hgen
        have hwb6 := World.alloc_heap_new wr (.cells #[.int .i64 xid, .int .i64 xfi, .int .i64 xte, .int .i64 xht, .int .i64 xhv, .int .i64 xhc, .slice none xl.length 0] 26)
        have hB6 := bel_alloc (Below.refl wr.heap.size wr) (.cells #[.int .i64 xid, .int .i64 xfi, .int .i64 xte, .int .i64 xht, .int .i64 xhv, .int .i64 xhc, .slice none xl.length 0] 26)
        have hrv6 := hrv.below hB6
        generalize (wr.alloc (.cells #[.int .i64 xid, .int .i64 xfi, .int .i64 xte, .int .i64 xht, .int .i64 xhv, .int .i64 xhc, .slice none xl.length 0] 26)) = w6 at *
        clear x0 x1 x2 x3 x4 x5 x6 hxb1 hwb1 hAx
        have KH := Lib.hid (fun W' (hW : Below wr.heap.size wr W') => And.intro (cells7r ((hW.block _ hAw).trans hxb)) (And.intro ((hW.cell (p := ⟨pb, po + k * 10, none⟩) hpw).trans c0) (And.intro ((hW.cell (p := ⟨pb, po + k * 10 + 1, none⟩) hpw).trans c1) (And.intro ((hW.cell (p := ⟨pb, po + k * 10 + 2, none⟩) hpw).trans c2) (And.intro ((hW.cell (p := ⟨pb, po + k * 10 + 3, none⟩) hpw).trans c3) (And.intro ((hW.cell (p := ⟨pb, po + k * 10 + 4, none⟩) hpw).trans c4) (And.intro ((hW.cell (p := ⟨pb, po + k * 10 + 5, none⟩) hpw).trans c5) (And.intro ((hW.cell (p := ⟨pb, po + k * 10 + 6, none⟩) hpw).trans c6) (And.intro ((hW.cell (p := ⟨pb, po + k * 10 + 7, none⟩) hpw).trans c7) (And.intro ((hW.cell (p := ⟨pb, po + k * 10 + 8, none⟩) hpw).trans c8) ((hW.cell (p := ⟨pb, po + k * 10 + 9, none⟩) hpw).trans c9)))))))))))
        clear c0 c1 c2 c3 c4 c5 c6 c7 c8 c9
        obtain ⟨⟨x0, x1, x2, x3, x4, x5, x6, -⟩, c0, c1, c2, c3, c4, c5, c6, c7, c8, c9⟩ := KH.out w6 hB6
        have GD := Lib.hid (fun W (hW : Below wr.heap.size wr W) => do_any xid xfi xte xht xhv xhc xl none xc pg pk pa plen pcap pht phv phc pi pt pm ph pl W (hXH.below hW) hGk (hPE.below (bel2 hB hW)) (by omega))
        have HDI := Lib.hid (doG_isG (g := ⟨xid, xfi, xte, xht, xhv, xhc, xl⟩) (p := ⟨pg, pk, pa, plen, pcap, pht, phv, phc, pi, pt, pm, ph⟩) (pl := pl) hGk (by show xl.length ≤ 100000; omega) hPE.1)
        have HSE := Lib.hid (show chkG ⟨xid, xfi, xte, xht, xhv, xhc, xl⟩ ⟨pg, pk, pa, plen, pcap, pht, phv, phc, pi, pt, pm, ph⟩ pl ≠ 0 → sameG (doG ⟨xid, xfi, xte, xht, xhv, xhc, xl⟩ ⟨pg, pk, pa, plen, pcap, pht, phv, phc, pi, pt, pm, ph⟩ pl) ⟨xid, xfi, xte, xht, xhv, xhc, xl⟩ = true from fun h => by rw [doG_err h]; simp [sameG])
        generalize doG ⟨xid, xfi, xte, xht, xhv, xhc, xl⟩ ⟨pg, pk, pa, plen, pcap, pht, phv, phc, pi, pt, pm, ph⟩ pl = H at *
        generalize chkG ⟨xid, xfi, xte, xht, xhv, xhc, xl⟩ ⟨pg, pk, pa, plen, pcap, pht, phv, phc, pi, pt, pm, ph⟩ pl = c at *
        have q1 : A < w6.heap.size := Nat.lt_of_lt_of_le hAw hB6.size
        have q2 : pb < w6.heap.size := Nat.lt_of_lt_of_le hpw hB6.size
        have n1 : A ≠ w6.heap.size := by omega
        have n2 : w6.heap.size ≠ A := by omega
        have n3 : pb ≠ w6.heap.size := by omega
        have n4 : w6.heap.size ≠ pb := by omega
        go_region_held3 (fun W' => W'.cell? ⟨A, 0, none⟩ = some (.int .i64 xid) ∧ W'.cell? ⟨A, 1, none⟩ = some (.int .i64 xfi) ∧ W'.cell? ⟨A, 2, none⟩ = some (.int .i64 xte) ∧ W'.cell? ⟨A, 3, none⟩ = some (.int .i64 xht) ∧ W'.cell? ⟨A, 4, none⟩ = some (.int .i64 xhv) ∧ W'.cell? ⟨A, 5, none⟩ = some (.int .i64 xhc) ∧ W'.cell? ⟨A, 6, none⟩ = some (.slice none xl.length xc) ∧ W'.cell? ⟨pb, po + k * 10, none⟩ = some (.int .i64 pg) ∧ W'.cell? ⟨pb, po + k * 10 + 1, none⟩ = some (.int .i64 pk) ∧ W'.cell? ⟨pb, po + k * 10 + 2, none⟩ = some (.slice pa plen pcap) ∧ W'.cell? ⟨pb, po + k * 10 + 3, none⟩ = some (.int .i64 pht) ∧ W'.cell? ⟨pb, po + k * 10 + 4, none⟩ = some (.int .i64 phv) ∧ W'.cell? ⟨pb, po + k * 10 + 5, none⟩ = some (.int .i64 phc) ∧ W'.cell? ⟨pb, po + k * 10 + 6, none⟩ = some (.int .i64 pi) ∧ W'.cell? ⟨pb, po + k * 10 + 7, none⟩ = some (.int .i64 pt) ∧ W'.cell? ⟨pb, po + k * 10 + 8, none⟩ = some (.bool pm) ∧ W'.cell? ⟨pb, po + k * 10 + 9, none⟩ = some (.bool ph)) (go_keep) (first
          | (go_at_call 22; ((with_reducible refine (GD.out _ ?_).mono ?_); (focus (first | exact hB6 | exact hB6.drew | exact (hB6.alloc hB6.size _) | exact (hB6.drew.alloc hB6.size _))); rintro e w7 ⟨ha, hcp, rfl, hHH, hB7, hHN⟩; have hB67 : Below w6.heap.size w6 w7 := (by first | exact hB7 | exact bel2 (Below.refl _ _).drew hB7 | exact bel2 (bel_alloc (Below.refl _ _).drew _) hB7 | exact bel2 (bel_alloc (Below.refl _ _) _) hB7); have hHN6 : (∀ k, inBlkE ha H.l.length k → w6.heap.size ≤ k) := (fun k hk => Nat.le_trans (by first | exact Nat.le_refl _ | simp) (hHN k hk)); have hX7 : Below wr.heap.size wr w7 := (by first | exact bel2 hB6 hB7 | exact bel2 hB6.drew hB7 | exact bel2 (hB6.drew.alloc hB6.size _) hB7); obtain ⟨⟨z0, z1, z2, z3, z4, z5, z6, -⟩, d0, d1, d2, d3, d4, d5, d6, d7, d8, d9⟩ := KH.out w7 hX7; try (have hz7 : w7.heap[w6.heap.size]? = some (.cells GZ 26 (0, 0)) := (by first | exact (hB7.block _ (by simp)).trans (World.alloc_heap_new w6 _) | exact (hB7.block _ (by simp)).trans (World.alloc_heap_new w6.drew _)); obtain ⟨q0, q1, q2, q3, q4, q5, q6, fq⟩ := cells7 hz7))))
        all_goals first
          | (have hBz := bel_alloc (Below.refl w7.heap.size w7) (.cells #[.int .i64 H.id, .int .i64 H.fi, .int .i64 H.te, .int .i64 H.ht, .int .i64 H.hv, .int .i64 H.hc, .slice ha H.l.length hcp] 26)
             have hhb8 := World.alloc_heap_new w7 (.cells #[.int .i64 H.id, .int .i64 H.fi, .int .i64 H.te, .int .i64 H.ht, .int .i64 H.hv, .int .i64 H.hc, .slice ha H.l.length hcp] 26)
             have hFz : FrameT (fun k => k = w7.heap.size) w7 (w7.alloc (.cells #[.int .i64 H.id, .int .i64 H.fi, .int .i64 H.te, .int .i64 H.ht, .int .i64 H.hv, .int .i64 H.hc, .slice ha H.l.length hcp] 26)) := FrameT.below hBz
             have hHz := hB67.size
             have hHn : (∀ k, inBlkE ha H.l.length k → ¬ k = w7.heap.size) := fun k hk e => by have h1 := btw_lt hHH.2 hk; omega
             generalize (w7.alloc (.cells #[.int .i64 H.id, .int .i64 H.fi, .int .i64 H.te, .int .i64 H.ht, .int .i64 H.hv, .int .i64 H.hc, .slice ha H.l.length hcp] 26)) = w8 at *
             obtain ⟨Hb, hHbe⟩ : ∃ Hb, Hb = w7.heap.size := ⟨_, rfl⟩
             have hHb : w6.heap.size ≤ Hb := by omega
             rw [← hHbe] at hhb8 hFz hHn ⊢
             clear hBz hHbe)
          | (have hhb8 := st7_block hz7 (.int .i64 H.id) (.int .i64 H.fi) (.int .i64 H.te) (.int .i64 H.ht) (.int .i64 H.hv) (.int .i64 H.hc) (.slice ha H.l.length hcp)
             have hFz := st7_frame w7 w6.heap.size (.int .i64 H.id) (.int .i64 H.fi) (.int .i64 H.te) (.int .i64 H.ht) (.int .i64 H.hv) (.int .i64 H.hc) (.slice ha H.l.length hcp)
             simp only [st7] at hhb8 hFz
             have hHn : (∀ k, inBlkE ha H.l.length k → ¬ k = w6.heap.size) := fun k hk e => by have h1 := hHN k hk; simp at h1; omega
             generalize (((((((w7.setCell ⟨w6.heap.size, 0, none⟩ (.int .i64 H.id)).setCell ⟨w6.heap.size, 1, none⟩ (.int .i64 H.fi)).setCell ⟨w6.heap.size, 2, none⟩ (.int .i64 H.te)).setCell ⟨w6.heap.size, 3, none⟩ (.int .i64 H.ht)).setCell ⟨w6.heap.size, 4, none⟩ (.int .i64 H.hv)).setCell ⟨w6.heap.size, 5, none⟩ (.int .i64 H.hc)).setCell ⟨w6.heap.size, 6, none⟩ (.slice ha H.l.length hcp)) = w8 at *
             obtain ⟨Hb, hHbe⟩ : ∃ Hb, Hb = w6.heap.size := ⟨_, rfl⟩
             have hHb : w6.heap.size ≤ Hb := by omega
             rw [← hHbe] at hhb8 hFz hHn ⊢
             clear hHbe)
        all_goals
          have hwl := heap_lt hwb6
          have hxb8 := hFz.get ((hX7.block _ hAw).trans hxb) (show ¬ A = Hb by omega)
          have hwb8 := hFz.get ((hB67.block _ hwl).trans hwb6) (show ¬ wr.heap.size = Hb by omega)
          have hX8 : Below wr.heap.size wr w8 := hX7.trans (hFz.toBelow hX7.size (fun k h => by omega))
          have hXH8 := hXH.below hX8
          have hrv8 := rowV_frame (hrv6.below hB67) hFz (fun k hk h => by have := btw_lt hrv6 hk; omega)
          have hHH8 : HasG w8 ha H := ⟨hHH.1, rowV_frame hHH.2 hFz hHn⟩
          have hnHA : Hb ≠ A := by omega
          have hnAH : A ≠ Hb := by omega
          clear z0 z1 z2 z3 z4 z5 z6 d0 d1 d2 d3 d4 d5 d6 d7 d8 d9 x0 x1 x2 x3 x4 x5 x6 c0 c1 c2 c3 c4 c5 c6 c7 c8 c9 KH hFz hHn hHN hHH hrv6 hwb6 hB7 hB67 hX7 
          try clear hz7 q0 q1 q2 q3 q4 q5 q6 fq
          obtain ⟨hGH, hfH, hidH, hlH⟩ := HDI.out
          replace hfH : xfi ≤ H.fi := hfH
          replace hidH : H.id = xid := hidH
          replace hlH : H.l.length ≤ xl.length + 6 := hlH
          have tF : decide (H.fi < xfi) = false := by rw [decide_eq_false_iff_not]; omega
          have tI : (H.id != xid) = false := by rw [bne_eq_false_iff_eq]; exact hidH
          have tI2 : (H.id == xid) = true := by rw [beq_iff_eq]; exact hidH
          have HHL := Lib.hid (show H.l.length ≤ 30 + 6 * (k + 1) by omega)
          have GS1 := Lib.hid (fun W (h1 : HasG W none ⟨xid, xfi, xte, xht, xhv, xhc, xl⟩) (h2 : RowV W none xl.length 3 (entryCells xl)) => (show Gives Try.prog 18 #[.agg #[.int .i64 xid, .int .i64 xfi, .int .i64 xte, .int .i64 xht, .int .i64 xhv, .int .i64 xhc, .slice none xl.length xc], .agg #[.int .i64 xid, .int .i64 xfi, .int .i64 xte, .int .i64 xht, .int .i64 xhv, .int .i64 xhc, .slice none xl.length 0]] W (.bool true) from by have := refSame6_any xid xfi xte xht xhv xhc xl none xc xid xfi xte xht xhv xhc xl none 0 W h1 ⟨h1.1, h2⟩; rwa [show sameG ⟨xid, xfi, xte, xht, xhv, xhc, xl⟩ ⟨xid, xfi, xte, xht, xhv, xhc, xl⟩ = true by simp [sameG]] at this))
          have GS2 := Lib.hid (fun (hc : c ≠ 0) W (h1 : HasG W ha H) (h2 : HasG W none ⟨xid, xfi, xte, xht, xhv, xhc, xl⟩) => (show Gives Try.prog 18 #[.agg #[.int .i64 H.id, .int .i64 H.fi, .int .i64 H.te, .int .i64 H.ht, .int .i64 H.hv, .int .i64 H.hc, .slice ha H.l.length hcp], .agg #[.int .i64 xid, .int .i64 xfi, .int .i64 xte, .int .i64 xht, .int .i64 xhv, .int .i64 xhc, .slice none xl.length xc]] W (.bool true) from by have := refSame6_any H.id H.fi H.te H.ht H.hv H.hc H.l ha hcp xid xfi xte xht xhv xhc xl none xc W h1 h2; rwa [show sameG ⟨H.id, H.fi, H.te, H.ht, H.hv, H.hc, H.l⟩ ⟨xid, xfi, xte, xht, xhv, xhc, xl⟩ = true from HSE.out hc] at this))
          have GIH := Lib.hid (fun W (h : HasG W ha H) => (show Gives Try.prog 15 #[.agg #[.int .i64 H.id, .int .i64 H.fi, .int .i64 H.te, .int .i64 H.ht, .int .i64 H.hv, .int .i64 H.hc, .slice ha H.l.length hcp]] W (.bool true) from by have := grpIs_any H.id H.fi H.te H.ht H.hv H.hc H.l ha hcp W h; rwa [show isG ⟨H.id, H.fi, H.te, H.ht, H.hv, H.hc, H.l⟩ = true from hGH] at this))
          have HGH := Lib.hid hGH
          have hAN : ∀ k, inBlkE ha H.l.length k → ¬ k = A := fun k hk e => by have := hHN6 k hk; omega
          have HAN := Lib.hid hAN
          have hB8 := bel2 hB hX8
          clear hGH hidH hlH hfH hAN hHN6 HDI hX8 GL GD
          obtain ⟨x0, x1, x2, x3, x4, x5, x6, -⟩ := cells7r hxb8
          obtain ⟨y0, y1, y2, y3, y4, y5, y6, -⟩ := cells7r hwb8
          obtain ⟨z0, z1, z2, z3, z4, z5, z6, -⟩ := cells7r hhb8
          have fx : ∀ i, w8.frozen? ⟨A, i, none⟩ = false := fun i => frozen_of_row _ _ i _ _ hxb8
          by_cases hc0 : c = 0
          · have tc : (c != 0) = false := by rw [bne_eq_false_iff_eq]; exact hc0
            have tc2 : (c == 0) = true := by rw [beq_iff_eq]; exact hc0
            clear hc0
            go_wp2_with (first
              | (go_at_call 18; ((with_reducible refine (GS1.out _ hXH8 hrv8).mono ?_); rintro e w10 ⟨rfl, hB⟩; clear x0 x1 x2 x3 x4 x5 x6; clear y0 y1 y2 y3 y4 y5 y6; clear z0 z1 z2 z3 z4 z5 z6; clear fx; replace hB8 := bel2 hB8 hB; replace hxb8 := (hB.block _ (heap_lt hxb8)).trans hxb8; replace hwb8 := (hB.block _ (heap_lt hwb8)).trans hwb8; replace hhb8 := (hB.block _ (heap_lt hhb8)).trans hhb8; replace hXH8 := hXH8.below hB; replace hHH8 := hHH8.below hB; replace hrv8 := hrv8.below hB; obtain ⟨x0, x1, x2, x3, x4, x5, x6, -⟩ := cells7r hxb8; obtain ⟨y0, y1, y2, y3, y4, y5, y6, -⟩ := cells7r hwb8; obtain ⟨z0, z1, z2, z3, z4, z5, z6, -⟩ := cells7r hhb8; have fx : ∀ i, w10.frozen? ⟨A, i, none⟩ = false := (fun i => frozen_of_row _ _ i _ _ hxb8); clear hB))
              | (go_at_call 15; ((with_reducible refine (GIH.out _ hHH8).mono ?_); rintro e w12 ⟨rfl, hB⟩; clear x0 x1 x2 x3 x4 x5 x6; clear y0 y1 y2 y3 y4 y5 y6; clear z0 z1 z2 z3 z4 z5 z6; clear fx; replace hB8 := bel2 hB8 hB; replace hxb8 := (hB.block _ (heap_lt hxb8)).trans hxb8; replace hwb8 := (hB.block _ (heap_lt hwb8)).trans hwb8; replace hhb8 := (hB.block _ (heap_lt hhb8)).trans hhb8; replace hXH8 := hXH8.below hB; replace hHH8 := hHH8.below hB; replace hrv8 := hrv8.below hB; obtain ⟨x0, x1, x2, x3, x4, x5, x6, -⟩ := cells7r hxb8; obtain ⟨y0, y1, y2, y3, y4, y5, y6, -⟩ := cells7r hwb8; obtain ⟨z0, z1, z2, z3, z4, z5, z6, -⟩ := cells7r hhb8; have fx : ∀ i, w12.frozen? ⟨A, i, none⟩ = false := (fun i => frozen_of_row _ _ i _ _ hxb8); clear hB)))
            go_roundw
            case rel => exact ⟨k + 1, H, ha, hcp, by omega, by go_num, HGH.out, HHL.out, st7_block hxb8 _ _ _ _ _ _ _, ⟨hHH8.1, rowV_frame hHH8.2 (st7_frame _ _ _ _ _ _ _ _ _) HAN.out⟩, hB8.trans ((st7_frame _ _ _ _ _ _ _ _ _).toBelow hB8.size (fun k h => by rw [h]; exact hA5l))⟩
            case measure => simp [intOf]; omega
          · have tc : (c != 0) = true := by rw [bne_iff_ne]; exact hc0
            have tc2 : (c == 0) = false := by rw [beq_eq_false_iff_ne]; exact hc0
            have GS3 := Lib.hid (GS2.out hc0)
            clear hc0
            go_wp2_with (first
              | (go_at_call 18; ((with_reducible refine (GS1.out _ hXH8 hrv8).mono ?_); rintro e w10 ⟨rfl, hB⟩; clear x0 x1 x2 x3 x4 x5 x6; clear y0 y1 y2 y3 y4 y5 y6; clear z0 z1 z2 z3 z4 z5 z6; clear fx; replace hB8 := bel2 hB8 hB; replace hxb8 := (hB.block _ (heap_lt hxb8)).trans hxb8; replace hwb8 := (hB.block _ (heap_lt hwb8)).trans hwb8; replace hhb8 := (hB.block _ (heap_lt hhb8)).trans hhb8; replace hXH8 := hXH8.below hB; replace hHH8 := hHH8.below hB; replace hrv8 := hrv8.below hB; obtain ⟨x0, x1, x2, x3, x4, x5, x6, -⟩ := cells7r hxb8; obtain ⟨y0, y1, y2, y3, y4, y5, y6, -⟩ := cells7r hwb8; obtain ⟨z0, z1, z2, z3, z4, z5, z6, -⟩ := cells7r hhb8; have fx : ∀ i, w10.frozen? ⟨A, i, none⟩ = false := (fun i => frozen_of_row _ _ i _ _ hxb8); clear hB))
              | (go_at_call 18; ((with_reducible refine (GS3.out _ hHH8 hXH8).mono ?_); rintro e w11 ⟨rfl, hB⟩; clear x0 x1 x2 x3 x4 x5 x6; clear y0 y1 y2 y3 y4 y5 y6; clear z0 z1 z2 z3 z4 z5 z6; clear fx; replace hB8 := bel2 hB8 hB; replace hxb8 := (hB.block _ (heap_lt hxb8)).trans hxb8; replace hwb8 := (hB.block _ (heap_lt hwb8)).trans hwb8; replace hhb8 := (hB.block _ (heap_lt hhb8)).trans hhb8; replace hXH8 := hXH8.below hB; replace hHH8 := hHH8.below hB; replace hrv8 := hrv8.below hB; obtain ⟨x0, x1, x2, x3, x4, x5, x6, -⟩ := cells7r hxb8; obtain ⟨y0, y1, y2, y3, y4, y5, y6, -⟩ := cells7r hwb8; obtain ⟨z0, z1, z2, z3, z4, z5, z6, -⟩ := cells7r hhb8; have fx : ∀ i, w11.frozen? ⟨A, i, none⟩ = false := (fun i => frozen_of_row _ _ i _ _ hxb8); clear hB))
              | (go_at_call 15; ((with_reducible refine (GIH.out _ hHH8).mono ?_); rintro e w12 ⟨rfl, hB⟩; clear x0 x1 x2 x3 x4 x5 x6; clear y0 y1 y2 y3 y4 y5 y6; clear z0 z1 z2 z3 z4 z5 z6; clear fx; replace hB8 := bel2 hB8 hB; replace hxb8 := (hB.block _ (heap_lt hxb8)).trans hxb8; replace hwb8 := (hB.block _ (heap_lt hwb8)).trans hwb8; replace hhb8 := (hB.block _ (heap_lt hhb8)).trans hhb8; replace hXH8 := hXH8.below hB; replace hHH8 := hHH8.below hB; replace hrv8 := hrv8.below hB; obtain ⟨x0, x1, x2, x3, x4, x5, x6, -⟩ := cells7r hxb8; obtain ⟨y0, y1, y2, y3, y4, y5, y6, -⟩ := cells7r hwb8; obtain ⟨z0, z1, z2, z3, z4, z5, z6, -⟩ := cells7r hhb8; have fx : ∀ i, w12.frozen? ⟨A, i, none⟩ = false := (fun i => frozen_of_row _ _ i _ _ hxb8); clear hB)))
            go_roundw
            case rel => exact ⟨k + 1, H, ha, hcp, by omega, by go_num, HGH.out, HHL.out, st7_block hxb8 _ _ _ _ _ _ _, ⟨hHH8.1, rowV_frame hHH8.2 (st7_frame _ _ _ _ _ _ _ _ _) HAN.out⟩, hB8.trans ((st7_frame _ _ _ _ _ _ _ _ _).toBelow hB8.size (fun k h => by rw [h]; exact hA5l))⟩
            case measure => simp [intOf]; omega
      | some ad =>
        have HPL := Lib.hid (fun W (hW : Below wr.heap.size wr W) => (show ∀ j u, (entryCells xl)[j]? = some u → W.cell? (ad.add j) = some u from fun j u hu => by
          obtain ⟨hj, rfl⟩ := List.getElem?_eq_some_iff.1 hu
          obtain ⟨b2, off2, e2, hb2, hx2⟩ := (hrv.below hW).2.2 (by rcases Nat.eq_zero_or_pos xl.length with h | h; (rw [h] at hl3; omega); exact h)
          cases e2
          rw [add_off]
          exact hx2 j hj))
        have hone : ∀ u ∈ entryCells xl, u.oneCell' = true := by
          intro u hu
          simp only [entryCells, List.mem_flatten, List.mem_map] at hu
          obtain ⟨_, ⟨e, _, rfl⟩, hu⟩ := hu
          simp only [EntryC.cells, List.mem_cons, List.not_mem_nil, or_false] at hu
          rcases hu with rfl | rfl | rfl <;> rfl
        go_wp2_with (at_builtin; refine wpList_append_own _ rfl _ _ 24 rfl wr.heap.size 55 i0 (.agg #[.int .i64 0, .int .i64 0, .string ⟨#[]⟩]) 3 32 Try.underlying24 hi hz0 hz1 hz2 rfl (by decide) (.slice none 0 0) 0 [] rfl (World.ownsRow_nil _ _ _ _) ad xl.length xc (entryCells xl) rfl hl3 (HPL.out _ hAx) hone (by unfold maxLen; omega) (by omega) (by simp) ?_; intro v' w5 hown5 hgrow5 _; have hG5 := (Below.refl (wr.alloc (.cells #[.int .i64 xid, .int .i64 xfi, .int .i64 xte, .int .i64 xht, .int .i64 xhv, .int .i64 xhc, .slice (some ad) xl.length xc] 26)).heap.size (wr.alloc (.cells #[.int .i64 xid, .int .i64 xfi, .int .i64 xte, .int .i64 xht, .int .i64 xhv, .int .i64 xhc, .slice (some ad) xl.length xc] 26))).grown hgrow5 (Nat.le_refl _) (fun k e => by cases e); have hwb5 := (hG5.block _ (heap_lt hwb1)).trans hwb1; obtain ⟨va, vc, rfl, -, hrv5⟩ := rowV_own hown5; simp only [Nat.zero_add, List.nil_append] at hrv5; obtain ⟨y0, y1, y2, y3, y4, y5, y6, -⟩ := cells7r hwb5; have fy : ∀ i, w5.frozen? ⟨wr.heap.size, i, none⟩ = false := (fun i => frozen_of_row _ _ i _ _ hwb5); have hB5 := bel2 hAx hG5; have hne5 : ∀ k, inBlkE va xl.length k → ¬ k = wr.heap.size := (fun k hk e => by obtain ⟨b9, o9, e9, h9, rfl⟩ := hk; subst e9; rcases hown5.2 with ⟨hv, _⟩ | ⟨g9, cap9, cur9, hv, _, hgg, _⟩; (cases hv); (cases hv; rw [e, hwb5] at hgg; injection hgg with hgg; injection hgg with _ hty; exact absurd hty (by decide))))
        have hF6 := FrameT.setCell w5 wr.heap.size 6 (.slice va xl.length vc)
        have hwb6 : (w5.setCell ⟨wr.heap.size, 6, none⟩ (.slice va xl.length vc)).heap[wr.heap.size]? = some (.cells #[.int .i64 xid, .int .i64 xfi, .int .i64 xte, .int .i64 xht, .int .i64 xhv, .int .i64 xhc, .slice va xl.length vc] 26 (0, 0)) := by
          have := Go.Joins.block_setCell hwb5 (.slice va xl.length vc) (i := 6)
          simpa only [List.setIfInBounds_toArray, List.set_cons_succ, List.set_cons_zero] using this
        have hB6 : Below wr.heap.size wr (w5.setCell ⟨wr.heap.size, 6, none⟩ (.slice va xl.length vc)) := hB5.trans (hF6.toBelow hB5.size (fun k h => Nat.le_of_eq h.symm))
        have hrv6 := rowV_frame hrv5 hF6 hne5
        generalize (w5.setCell ⟨wr.heap.size, 6, none⟩ (.slice va xl.length vc)) = w6 at *
        clear x0 x1 x2 x3 x4 x5 x6 hxb1 hwb1 hAx
        have KH := Lib.hid (fun W' (hW : Below wr.heap.size wr W') => And.intro (cells7r ((hW.block _ hAw).trans hxb)) (And.intro ((hW.cell (p := ⟨pb, po + k * 10, none⟩) hpw).trans c0) (And.intro ((hW.cell (p := ⟨pb, po + k * 10 + 1, none⟩) hpw).trans c1) (And.intro ((hW.cell (p := ⟨pb, po + k * 10 + 2, none⟩) hpw).trans c2) (And.intro ((hW.cell (p := ⟨pb, po + k * 10 + 3, none⟩) hpw).trans c3) (And.intro ((hW.cell (p := ⟨pb, po + k * 10 + 4, none⟩) hpw).trans c4) (And.intro ((hW.cell (p := ⟨pb, po + k * 10 + 5, none⟩) hpw).trans c5) (And.intro ((hW.cell (p := ⟨pb, po + k * 10 + 6, none⟩) hpw).trans c6) (And.intro ((hW.cell (p := ⟨pb, po + k * 10 + 7, none⟩) hpw).trans c7) (And.intro ((hW.cell (p := ⟨pb, po + k * 10 + 8, none⟩) hpw).trans c8) ((hW.cell (p := ⟨pb, po + k * 10 + 9, none⟩) hpw).trans c9)))))))))))
        clear c0 c1 c2 c3 c4 c5 c6 c7 c8 c9
        obtain ⟨⟨x0, x1, x2, x3, x4, x5, x6, -⟩, c0, c1, c2, c3, c4, c5, c6, c7, c8, c9⟩ := KH.out w6 hB6
        have GD := Lib.hid (fun W (hW : Below wr.heap.size wr W) => do_any xid xfi xte xht xhv xhc xl (some ad) xc pg pk pa plen pcap pht phv phc pi pt pm ph pl W (hXH.below hW) hGk (hPE.below (bel2 hB hW)) (by omega))
        have HDI := Lib.hid (doG_isG (g := ⟨xid, xfi, xte, xht, xhv, xhc, xl⟩) (p := ⟨pg, pk, pa, plen, pcap, pht, phv, phc, pi, pt, pm, ph⟩) (pl := pl) hGk (by show xl.length ≤ 100000; omega) hPE.1)
        have HSE := Lib.hid (show chkG ⟨xid, xfi, xte, xht, xhv, xhc, xl⟩ ⟨pg, pk, pa, plen, pcap, pht, phv, phc, pi, pt, pm, ph⟩ pl ≠ 0 → sameG (doG ⟨xid, xfi, xte, xht, xhv, xhc, xl⟩ ⟨pg, pk, pa, plen, pcap, pht, phv, phc, pi, pt, pm, ph⟩ pl) ⟨xid, xfi, xte, xht, xhv, xhc, xl⟩ = true from fun h => by rw [doG_err h]; simp [sameG])
        generalize doG ⟨xid, xfi, xte, xht, xhv, xhc, xl⟩ ⟨pg, pk, pa, plen, pcap, pht, phv, phc, pi, pt, pm, ph⟩ pl = H at *
        generalize chkG ⟨xid, xfi, xte, xht, xhv, xhc, xl⟩ ⟨pg, pk, pa, plen, pcap, pht, phv, phc, pi, pt, pm, ph⟩ pl = c at *
        have q1 : A < w6.heap.size := Nat.lt_of_lt_of_le hAw hB6.size
        have q2 : pb < w6.heap.size := Nat.lt_of_lt_of_le hpw hB6.size
        have n1 : A ≠ w6.heap.size := by omega
        have n2 : w6.heap.size ≠ A := by omega
        have n3 : pb ≠ w6.heap.size := by omega
        have n4 : w6.heap.size ≠ pb := by omega
        go_region_held3 (fun W' => W'.cell? ⟨A, 0, none⟩ = some (.int .i64 xid) ∧ W'.cell? ⟨A, 1, none⟩ = some (.int .i64 xfi) ∧ W'.cell? ⟨A, 2, none⟩ = some (.int .i64 xte) ∧ W'.cell? ⟨A, 3, none⟩ = some (.int .i64 xht) ∧ W'.cell? ⟨A, 4, none⟩ = some (.int .i64 xhv) ∧ W'.cell? ⟨A, 5, none⟩ = some (.int .i64 xhc) ∧ W'.cell? ⟨A, 6, none⟩ = some (.slice (some ad) xl.length xc) ∧ W'.cell? ⟨pb, po + k * 10, none⟩ = some (.int .i64 pg) ∧ W'.cell? ⟨pb, po + k * 10 + 1, none⟩ = some (.int .i64 pk) ∧ W'.cell? ⟨pb, po + k * 10 + 2, none⟩ = some (.slice pa plen pcap) ∧ W'.cell? ⟨pb, po + k * 10 + 3, none⟩ = some (.int .i64 pht) ∧ W'.cell? ⟨pb, po + k * 10 + 4, none⟩ = some (.int .i64 phv) ∧ W'.cell? ⟨pb, po + k * 10 + 5, none⟩ = some (.int .i64 phc) ∧ W'.cell? ⟨pb, po + k * 10 + 6, none⟩ = some (.int .i64 pi) ∧ W'.cell? ⟨pb, po + k * 10 + 7, none⟩ = some (.int .i64 pt) ∧ W'.cell? ⟨pb, po + k * 10 + 8, none⟩ = some (.bool pm) ∧ W'.cell? ⟨pb, po + k * 10 + 9, none⟩ = some (.bool ph)) (go_keep) (first
          | (go_at_call 22; ((with_reducible refine (GD.out _ ?_).mono ?_); (focus (first | exact hB6 | exact hB6.drew | exact (hB6.alloc hB6.size _) | exact (hB6.drew.alloc hB6.size _))); rintro e w7 ⟨ha, hcp, rfl, hHH, hB7, hHN⟩; have hB67 : Below w6.heap.size w6 w7 := (by first | exact hB7 | exact bel2 (Below.refl _ _).drew hB7 | exact bel2 (bel_alloc (Below.refl _ _).drew _) hB7 | exact bel2 (bel_alloc (Below.refl _ _) _) hB7); have hHN6 : (∀ k, inBlkE ha H.l.length k → w6.heap.size ≤ k) := (fun k hk => Nat.le_trans (by first | exact Nat.le_refl _ | simp) (hHN k hk)); have hX7 : Below wr.heap.size wr w7 := (by first | exact bel2 hB6 hB7 | exact bel2 hB6.drew hB7 | exact bel2 (hB6.drew.alloc hB6.size _) hB7); obtain ⟨⟨z0, z1, z2, z3, z4, z5, z6, -⟩, d0, d1, d2, d3, d4, d5, d6, d7, d8, d9⟩ := KH.out w7 hX7; try (have hz7 : w7.heap[w6.heap.size]? = some (.cells GZ 26 (0, 0)) := (by first | exact (hB7.block _ (by simp)).trans (World.alloc_heap_new w6 _) | exact (hB7.block _ (by simp)).trans (World.alloc_heap_new w6.drew _)); obtain ⟨q0, q1, q2, q3, q4, q5, q6, fq⟩ := cells7 hz7))))
        all_goals first
          | (have hBz := bel_alloc (Below.refl w7.heap.size w7) (.cells #[.int .i64 H.id, .int .i64 H.fi, .int .i64 H.te, .int .i64 H.ht, .int .i64 H.hv, .int .i64 H.hc, .slice ha H.l.length hcp] 26)
             have hhb8 := World.alloc_heap_new w7 (.cells #[.int .i64 H.id, .int .i64 H.fi, .int .i64 H.te, .int .i64 H.ht, .int .i64 H.hv, .int .i64 H.hc, .slice ha H.l.length hcp] 26)
             have hFz : FrameT (fun k => k = w7.heap.size) w7 (w7.alloc (.cells #[.int .i64 H.id, .int .i64 H.fi, .int .i64 H.te, .int .i64 H.ht, .int .i64 H.hv, .int .i64 H.hc, .slice ha H.l.length hcp] 26)) := FrameT.below hBz
             have hHz := hB67.size
             have hHn : (∀ k, inBlkE ha H.l.length k → ¬ k = w7.heap.size) := fun k hk e => by have h1 := btw_lt hHH.2 hk; omega
             generalize (w7.alloc (.cells #[.int .i64 H.id, .int .i64 H.fi, .int .i64 H.te, .int .i64 H.ht, .int .i64 H.hv, .int .i64 H.hc, .slice ha H.l.length hcp] 26)) = w8 at *
             obtain ⟨Hb, hHbe⟩ : ∃ Hb, Hb = w7.heap.size := ⟨_, rfl⟩
             have hHb : w6.heap.size ≤ Hb := by omega
             rw [← hHbe] at hhb8 hFz hHn ⊢
             clear hBz hHbe)
          | (have hhb8 := st7_block hz7 (.int .i64 H.id) (.int .i64 H.fi) (.int .i64 H.te) (.int .i64 H.ht) (.int .i64 H.hv) (.int .i64 H.hc) (.slice ha H.l.length hcp)
             have hFz := st7_frame w7 w6.heap.size (.int .i64 H.id) (.int .i64 H.fi) (.int .i64 H.te) (.int .i64 H.ht) (.int .i64 H.hv) (.int .i64 H.hc) (.slice ha H.l.length hcp)
             simp only [st7] at hhb8 hFz
             have hHn : (∀ k, inBlkE ha H.l.length k → ¬ k = w6.heap.size) := fun k hk e => by have h1 := hHN k hk; simp at h1; omega
             generalize (((((((w7.setCell ⟨w6.heap.size, 0, none⟩ (.int .i64 H.id)).setCell ⟨w6.heap.size, 1, none⟩ (.int .i64 H.fi)).setCell ⟨w6.heap.size, 2, none⟩ (.int .i64 H.te)).setCell ⟨w6.heap.size, 3, none⟩ (.int .i64 H.ht)).setCell ⟨w6.heap.size, 4, none⟩ (.int .i64 H.hv)).setCell ⟨w6.heap.size, 5, none⟩ (.int .i64 H.hc)).setCell ⟨w6.heap.size, 6, none⟩ (.slice ha H.l.length hcp)) = w8 at *
             obtain ⟨Hb, hHbe⟩ : ∃ Hb, Hb = w6.heap.size := ⟨_, rfl⟩
             have hHb : w6.heap.size ≤ Hb := by omega
             rw [← hHbe] at hhb8 hFz hHn ⊢
             clear hHbe)
        all_goals
          have hwl := heap_lt hwb6
          have hxb8 := hFz.get ((hX7.block _ hAw).trans hxb) (show ¬ A = Hb by omega)
          have hwb8 := hFz.get ((hB67.block _ hwl).trans hwb6) (show ¬ wr.heap.size = Hb by omega)
          have hX8 : Below wr.heap.size wr w8 := hX7.trans (hFz.toBelow hX7.size (fun k h => by omega))
          have hXH8 := hXH.below hX8
          have hrv8 := rowV_frame (hrv6.below hB67) hFz (fun k hk h => by have := btw_lt hrv6 hk; omega)
          have hHH8 : HasG w8 ha H := ⟨hHH.1, rowV_frame hHH.2 hFz hHn⟩
          have hnHA : Hb ≠ A := by omega
          have hnAH : A ≠ Hb := by omega
          clear z0 z1 z2 z3 z4 z5 z6 d0 d1 d2 d3 d4 d5 d6 d7 d8 d9 x0 x1 x2 x3 x4 x5 x6 c0 c1 c2 c3 c4 c5 c6 c7 c8 c9 KH hFz hHn hHN hHH hrv6 hwb6 hB7 hB67 hX7 hrv5 hwb5 fy y0 y1 y2 y3 y4 y5 y6 hG5 hgrow5 hown5 hB5 hne5 hF6 HPL
          try clear hz7 q0 q1 q2 q3 q4 q5 q6 fq
          obtain ⟨hGH, hfH, hidH, hlH⟩ := HDI.out
          replace hfH : xfi ≤ H.fi := hfH
          replace hidH : H.id = xid := hidH
          replace hlH : H.l.length ≤ xl.length + 6 := hlH
          have tF : decide (H.fi < xfi) = false := by rw [decide_eq_false_iff_not]; omega
          have tI : (H.id != xid) = false := by rw [bne_eq_false_iff_eq]; exact hidH
          have tI2 : (H.id == xid) = true := by rw [beq_iff_eq]; exact hidH
          have HHL := Lib.hid (show H.l.length ≤ 30 + 6 * (k + 1) by omega)
          have GS1 := Lib.hid (fun W (h1 : HasG W (some ad) ⟨xid, xfi, xte, xht, xhv, xhc, xl⟩) (h2 : RowV W va xl.length 3 (entryCells xl)) => (show Gives Try.prog 18 #[.agg #[.int .i64 xid, .int .i64 xfi, .int .i64 xte, .int .i64 xht, .int .i64 xhv, .int .i64 xhc, .slice (some ad) xl.length xc], .agg #[.int .i64 xid, .int .i64 xfi, .int .i64 xte, .int .i64 xht, .int .i64 xhv, .int .i64 xhc, .slice va xl.length vc]] W (.bool true) from by have := refSame6_any xid xfi xte xht xhv xhc xl (some ad) xc xid xfi xte xht xhv xhc xl va vc W h1 ⟨h1.1, h2⟩; rwa [show sameG ⟨xid, xfi, xte, xht, xhv, xhc, xl⟩ ⟨xid, xfi, xte, xht, xhv, xhc, xl⟩ = true by simp [sameG]] at this))
          have GS2 := Lib.hid (fun (hc : c ≠ 0) W (h1 : HasG W ha H) (h2 : HasG W (some ad) ⟨xid, xfi, xte, xht, xhv, xhc, xl⟩) => (show Gives Try.prog 18 #[.agg #[.int .i64 H.id, .int .i64 H.fi, .int .i64 H.te, .int .i64 H.ht, .int .i64 H.hv, .int .i64 H.hc, .slice ha H.l.length hcp], .agg #[.int .i64 xid, .int .i64 xfi, .int .i64 xte, .int .i64 xht, .int .i64 xhv, .int .i64 xhc, .slice (some ad) xl.length xc]] W (.bool true) from by have := refSame6_any H.id H.fi H.te H.ht H.hv H.hc H.l ha hcp xid xfi xte xht xhv xhc xl (some ad) xc W h1 h2; rwa [show sameG ⟨H.id, H.fi, H.te, H.ht, H.hv, H.hc, H.l⟩ ⟨xid, xfi, xte, xht, xhv, xhc, xl⟩ = true from HSE.out hc] at this))
          have GIH := Lib.hid (fun W (h : HasG W ha H) => (show Gives Try.prog 15 #[.agg #[.int .i64 H.id, .int .i64 H.fi, .int .i64 H.te, .int .i64 H.ht, .int .i64 H.hv, .int .i64 H.hc, .slice ha H.l.length hcp]] W (.bool true) from by have := grpIs_any H.id H.fi H.te H.ht H.hv H.hc H.l ha hcp W h; rwa [show isG ⟨H.id, H.fi, H.te, H.ht, H.hv, H.hc, H.l⟩ = true from hGH] at this))
          have HGH := Lib.hid hGH
          have hAN : ∀ k, inBlkE ha H.l.length k → ¬ k = A := fun k hk e => by have := hHN6 k hk; omega
          have HAN := Lib.hid hAN
          have hB8 := bel2 hB hX8
          clear hGH hidH hlH hfH hAN hHN6 HDI hX8 GL GD
          obtain ⟨x0, x1, x2, x3, x4, x5, x6, -⟩ := cells7r hxb8
          obtain ⟨y0, y1, y2, y3, y4, y5, y6, -⟩ := cells7r hwb8
          obtain ⟨z0, z1, z2, z3, z4, z5, z6, -⟩ := cells7r hhb8
          have fx : ∀ i, w8.frozen? ⟨A, i, none⟩ = false := fun i => frozen_of_row _ _ i _ _ hxb8
          by_cases hc0 : c = 0
          · have tc : (c != 0) = false := by rw [bne_eq_false_iff_eq]; exact hc0
            have tc2 : (c == 0) = true := by rw [beq_iff_eq]; exact hc0
            clear hc0
            go_wp2_with (first
              | (go_at_call 18; ((with_reducible refine (GS1.out _ hXH8 hrv8).mono ?_); rintro e w10 ⟨rfl, hB⟩; clear x0 x1 x2 x3 x4 x5 x6; clear y0 y1 y2 y3 y4 y5 y6; clear z0 z1 z2 z3 z4 z5 z6; clear fx; replace hB8 := bel2 hB8 hB; replace hxb8 := (hB.block _ (heap_lt hxb8)).trans hxb8; replace hwb8 := (hB.block _ (heap_lt hwb8)).trans hwb8; replace hhb8 := (hB.block _ (heap_lt hhb8)).trans hhb8; replace hXH8 := hXH8.below hB; replace hHH8 := hHH8.below hB; replace hrv8 := hrv8.below hB; obtain ⟨x0, x1, x2, x3, x4, x5, x6, -⟩ := cells7r hxb8; obtain ⟨y0, y1, y2, y3, y4, y5, y6, -⟩ := cells7r hwb8; obtain ⟨z0, z1, z2, z3, z4, z5, z6, -⟩ := cells7r hhb8; have fx : ∀ i, w10.frozen? ⟨A, i, none⟩ = false := (fun i => frozen_of_row _ _ i _ _ hxb8); clear hB))
              | (go_at_call 15; ((with_reducible refine (GIH.out _ hHH8).mono ?_); rintro e w12 ⟨rfl, hB⟩; clear x0 x1 x2 x3 x4 x5 x6; clear y0 y1 y2 y3 y4 y5 y6; clear z0 z1 z2 z3 z4 z5 z6; clear fx; replace hB8 := bel2 hB8 hB; replace hxb8 := (hB.block _ (heap_lt hxb8)).trans hxb8; replace hwb8 := (hB.block _ (heap_lt hwb8)).trans hwb8; replace hhb8 := (hB.block _ (heap_lt hhb8)).trans hhb8; replace hXH8 := hXH8.below hB; replace hHH8 := hHH8.below hB; replace hrv8 := hrv8.below hB; obtain ⟨x0, x1, x2, x3, x4, x5, x6, -⟩ := cells7r hxb8; obtain ⟨y0, y1, y2, y3, y4, y5, y6, -⟩ := cells7r hwb8; obtain ⟨z0, z1, z2, z3, z4, z5, z6, -⟩ := cells7r hhb8; have fx : ∀ i, w12.frozen? ⟨A, i, none⟩ = false := (fun i => frozen_of_row _ _ i _ _ hxb8); clear hB)))
            go_roundw
            case rel => exact ⟨k + 1, H, ha, hcp, by omega, by go_num, HGH.out, HHL.out, st7_block hxb8 _ _ _ _ _ _ _, ⟨hHH8.1, rowV_frame hHH8.2 (st7_frame _ _ _ _ _ _ _ _ _) HAN.out⟩, hB8.trans ((st7_frame _ _ _ _ _ _ _ _ _).toBelow hB8.size (fun k h => by rw [h]; exact hA5l))⟩
            case measure => simp [intOf]; omega
          · have tc : (c != 0) = true := by rw [bne_iff_ne]; exact hc0
            have tc2 : (c == 0) = false := by rw [beq_eq_false_iff_ne]; exact hc0
            have GS3 := Lib.hid (GS2.out hc0)
            clear hc0
            go_wp2_with (first
              | (go_at_call 18; ((with_reducible refine (GS1.out _ hXH8 hrv8).mono ?_); rintro e w10 ⟨rfl, hB⟩; clear x0 x1 x2 x3 x4 x5 x6; clear y0 y1 y2 y3 y4 y5 y6; clear z0 z1 z2 z3 z4 z5 z6; clear fx; replace hB8 := bel2 hB8 hB; replace hxb8 := (hB.block _ (heap_lt hxb8)).trans hxb8; replace hwb8 := (hB.block _ (heap_lt hwb8)).trans hwb8; replace hhb8 := (hB.block _ (heap_lt hhb8)).trans hhb8; replace hXH8 := hXH8.below hB; replace hHH8 := hHH8.below hB; replace hrv8 := hrv8.below hB; obtain ⟨x0, x1, x2, x3, x4, x5, x6, -⟩ := cells7r hxb8; obtain ⟨y0, y1, y2, y3, y4, y5, y6, -⟩ := cells7r hwb8; obtain ⟨z0, z1, z2, z3, z4, z5, z6, -⟩ := cells7r hhb8; have fx : ∀ i, w10.frozen? ⟨A, i, none⟩ = false := (fun i => frozen_of_row _ _ i _ _ hxb8); clear hB))
              | (go_at_call 18; ((with_reducible refine (GS3.out _ hHH8 hXH8).mono ?_); rintro e w11 ⟨rfl, hB⟩; clear x0 x1 x2 x3 x4 x5 x6; clear y0 y1 y2 y3 y4 y5 y6; clear z0 z1 z2 z3 z4 z5 z6; clear fx; replace hB8 := bel2 hB8 hB; replace hxb8 := (hB.block _ (heap_lt hxb8)).trans hxb8; replace hwb8 := (hB.block _ (heap_lt hwb8)).trans hwb8; replace hhb8 := (hB.block _ (heap_lt hhb8)).trans hhb8; replace hXH8 := hXH8.below hB; replace hHH8 := hHH8.below hB; replace hrv8 := hrv8.below hB; obtain ⟨x0, x1, x2, x3, x4, x5, x6, -⟩ := cells7r hxb8; obtain ⟨y0, y1, y2, y3, y4, y5, y6, -⟩ := cells7r hwb8; obtain ⟨z0, z1, z2, z3, z4, z5, z6, -⟩ := cells7r hhb8; have fx : ∀ i, w11.frozen? ⟨A, i, none⟩ = false := (fun i => frozen_of_row _ _ i _ _ hxb8); clear hB))
              | (go_at_call 15; ((with_reducible refine (GIH.out _ hHH8).mono ?_); rintro e w12 ⟨rfl, hB⟩; clear x0 x1 x2 x3 x4 x5 x6; clear y0 y1 y2 y3 y4 y5 y6; clear z0 z1 z2 z3 z4 z5 z6; clear fx; replace hB8 := bel2 hB8 hB; replace hxb8 := (hB.block _ (heap_lt hxb8)).trans hxb8; replace hwb8 := (hB.block _ (heap_lt hwb8)).trans hwb8; replace hhb8 := (hB.block _ (heap_lt hhb8)).trans hhb8; replace hXH8 := hXH8.below hB; replace hHH8 := hHH8.below hB; replace hrv8 := hrv8.below hB; obtain ⟨x0, x1, x2, x3, x4, x5, x6, -⟩ := cells7r hxb8; obtain ⟨y0, y1, y2, y3, y4, y5, y6, -⟩ := cells7r hwb8; obtain ⟨z0, z1, z2, z3, z4, z5, z6, -⟩ := cells7r hhb8; have fx : ∀ i, w12.frozen? ⟨A, i, none⟩ = false := (fun i => frozen_of_row _ _ i _ _ hxb8); clear hB)))
            go_roundw
            case rel => exact ⟨k + 1, H, ha, hcp, by omega, by go_num, HGH.out, HHL.out, st7_block hxb8 _ _ _ _ _ _ _, ⟨hHH8.1, rowV_frame hHH8.2 (st7_frame _ _ _ _ _ _ _ _ _) HAN.out⟩, hB8.trans ((st7_frame _ _ _ _ _ _ _ _ _).toBelow hB8.size (fun k h => by rw [h]; exact hA5l))⟩
            case measure => simp [intOf]; omega
    · obtain rfl : k = len := by omega
      have HS := Lib.hid (fun W (hW : Above wr W) => cells7r ((Below.block hW _ hAw).trans hxb))
      obtain ⟨la, hla⟩ : ∃ la, la = xfi - 1 + (xl.length : Int) := ⟨_, rfl⟩
      have GL2 := Lib.hid (fun W x c (h : HasG W x ⟨xid, xfi, xte, xht, xhv, xhc, xl⟩) => (show Gives Try.prog 25 #[.agg #[.int .i64 xid, .int .i64 xfi, .int .i64 xte, .int .i64 xht, .int .i64 xhv, .int .i64 xhc, .slice x xl.length c]] W (.int .i64 la) from by rw [hla]; exact GL.out W x c h))
      have tl1 : decide (xfi - 1 ≤ la) = true := by rw [decide_eq_true_iff]; omega
      have tl2 : ((xl.length : Int) == la - xfi + 1) = true := by rw [beq_iff_eq]; omega
      have hw1 : IntKind.i64.wrap (xfi - 1) = xfi - 1 := IntWalk.i64_in _ (by omega)
      have hw2 : IntKind.i64.wrap (la - xfi) = la - xfi := IntWalk.i64_in _ (by omega)
      have hw3 : IntKind.i64.wrap (la - xfi + 1) = la - xfi + 1 := IntWalk.i64_in _ (by omega)
      clear hla GL hXl
      clear hcs
      go_wp2
      refine wp_region_below (by kernel_rfl) (by kernel_rfl) ?_
      repeat (first
        | (refine BigFrame.wpQuiet_skip (by rfl) ?_; (try simp only [Act.put, List.setIfInBounds_toArray, List.set_cons_zero, List.set_cons_succ]))
        | (refine BigFrame.wpQuiet_want (by rfl) (fun K hK => ?_); apply Exists.intro; refine ⟨fun W hW => ?_, hK _ ?_⟩; (focus (have hWB : Below _ _ W := hW; obtain ⟨x0, x1, x2, x3, x4, x5, x6, -⟩ := HS.out _ hW; go_simp; (first | done | with_reducible rfl | (go_at_call 25; with_reducible exact gives_above hW (GL2.out _ _ _ (hXH.below hWB))) | (rw [if_neg (by omega)]; go_simp; (first | done | with_reducible rfl))))); clear hK K; (try simp only [Act.put, List.setIfInBounds_toArray, List.set_cons_zero, List.set_cons_succ])))
      refine wpQuiet_nil ?_
      intro w9 hB9
      replace hB9 : Below _ _ w9 := hB9
      go_wp2
      go_ret
      exact ⟨by simp, bel2 hB hB9⟩


theorem walk (w : World) (g : GM) (a : Option Addr) (cap : Nat) (hg : GoodG w g a) (b : Option Addr) (len bcap : Nat) (P : List PL) (hP : P.length = len) (hcap : len ≤ bcap) (hrow : RowV w b len 10 (partCells P)) (hp : ∀ x ∈ P, GoodP w x) : Calls Try.prog 5 #[g.val a cap, .slice b len bcap] w fun e w' => e = .returned (.bool true) ∧ Below w.heap.size w w' := by
  obtain ⟨id, fi, te, ht, hv, hc, l⟩ := g
  cases hf : fewGB l
  · exact std_1 id fi te ht hv hc l a cap b len bcap P hP w hg hrow hp hf
  cases hf2 : fewPs6 P
  · exact std_2 id fi te ht hv hc l a cap b len bcap P hP w hg hrow hp hf hf2
  cases hG : isG ⟨id, fi, te, ht, hv, hc, l⟩
  · exact std_3 id fi te ht hv hc l a cap b len bcap P hP w hg hrow hp hf hf2 hG
  · exact std_4 id fi te ht hv hc l a cap b len bcap P hP w hg hrow hp hf hf2 hG

set_option maxRecDepth 100000 in
theorem lifted (os : Os) (started : os.Started) (H : Type) (enc : TypeId × Value → H) :
    ReturnsInHanded {} Try.checked os 5 .any (Rows.groupStandsSpec.pre6 enc Try.prog Try.f5 Rows.groupStandsRow.domain false) (Rows.groupStandsSpec.post enc Try.prog Try.f5 false true false false) := by
  refine returnsInHanded_of_change (C := Try.checked) Try.own started (by kernel_rfl) Try.func5
    (ChangeSpec.witness6 (enc := enc) (C := Try.checked) false ⟨#[], #[.agg #[.int .i64 0, .int .i64 0, .int .i64 0, .int .i64 0, .int .i64 0, .int .i64 0, .slice none 0 0], .slice none 0 0], []⟩ 8 (by kernel_rfl) (by kernel_rfl) (by kernel_rfl) (by kernel_rfl)) ?_
  intro W base args ds gs before hval hW _ _
  refine law_contract (T := 4) (n := 2) Try.laid Try.underlying4 rfl rfl ⟨rfl, fun H ds h => by match ds, h with | [_, _], _ => rfl⟩ (of_all (by kernel_rfl)) hW ?_
  intro ps hA
  rw [Try.params5] at hA hval
  obtain ⟨v0, vs0, d0, ds0, p0, q0, hargs, rfl, rfl, h0, r0⟩ := trodAll_cons hA
  obtain ⟨v1, vs1, d1, ds1, p1, q1, rfl, rfl, rfl, h1, r1⟩ := trodAll_cons r0
  obtain ⟨rfl, rfl, rfl⟩ := trodAll_nil r1
  obtain rfl : args = #[v0, v1] := by cases args; simp_all
  obtain ⟨p0, a0, c0, rfl, g0⟩ := open_group (hval 0 26 v0 rfl rfl) h0
  obtain ⟨s1, l1, c1, rfl⟩ := okWide_slice Try.underlying51 (hval 1 51 v1 rfl rfl)
  obtain ⟨zs1, e1, g1, w1, b1⟩ := open_parts h1
  exact walk W p0 a0 c0 g0 s1 l1 c1 zs1 e1 g1 w1 b1

theorem holds : Rows.GroupStandsSaid :=
  OpenClaim.holds_of_wide 5 Try.f5 rfl rfl rfl rfl rfl rfl rfl ⟨rfl, rfl, rfl, rfl, rfl⟩ rfl rfl rfl rfl rfl (by kernel_rfl) Try.func5 (by kernel_rfl)
    (of_decide_eq_true (by kernel_rfl)) (by unfold Func.isWrapper; first | (rw [if_pos (by decide +kernel)]; kernel_rfl) | (rw [if_neg (by decide +kernel)]; exact ⟨rfl, rfl⟩))
    (fun os started H enc _ => lifted os started H enc)

end Go.Proofs.Ytfmcebmkclaafaa.groupStands
