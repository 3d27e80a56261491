/- Law ShardTells: for every input the call answers true; its arguments read as they did. No condition. -/
import Derived.Test.YtdncdlbhgaehmaaLaw
import Derived.Test.YtdncdlbhgaehmaaKnown18
import Derived.Test.YtdncdlbhgaehmaaFew18
import Derived.Test.YtdncdlbhgaehmaaSame18
import Derived.Test.YtdncdlbhgaehmaaRefSplit
namespace Go.Proofs.Ytdncdlbhgaehmaa.shardTells
open Go.ChangeShapes Go.WideShapes Go.ChangeAt Go.RowKit Go.Shelf
open Go.ChangeMaps (open_string shut_string)
set_option linter.unusedVariables false
attribute [local go_sem] Oper.semAt_some wide_fn wide_round_fn

attribute [local irreducible] wpQuiet
/-- What the two Splits have of one shard, in whatever later world. -/
theorem tells_shard {W0 W1 w3 w4 : World} {n : Int} {Fs : List FC} {R R' : Nat} {Sh Sh' : List SV} (hR : w3.heap[R]? = some (.cells (Sh.map SV.val).toArray 22 (0, 0))) (hd : shDone W0.heap.size n Fs Sh w3) (hB : Below w3.heap.size w3 w4) (hR' : w4.heap[R']? = some (.cells (Sh'.map SV.val).toArray 22 (0, 0))) (hd' : refDone W1.heap.size n Fs Sh' W1 w4) (hB1 : Below W1.heap.size W1 w4) {k : Nat} (hk : k < Sh.length) (hk' : k < Sh'.length) :
    ∃ sa sc ta tc, ∃ m : Nat, ∀ W, Below w4.heap.size w4 W → W.cell? ⟨R, k, none⟩ = some (.slice sa m sc) ∧ W.cell? ⟨R', k, none⟩ = some (.slice ta m tc) ∧ Gives Try.prog 14 #[.slice sa m sc, .slice ta m tc] W (.bool true) := by
  obtain ⟨d1, d2, d3⟩ := hd k hk
  obtain ⟨e1, e2⟩ := hd' k hk'
  have hlen : Sh'[k].L.length = Sh[k].L.length := by
    have h1 := congrArg List.length d3
    have h2 := congrArg List.length e2
    simp only [List.length_map] at h1 h2
    omega
  refine ⟨Sh[k].a, Sh[k].c, Sh'[k].a, Sh'[k].c, Sh[k].L.length, fun W hW => ⟨?_, ?_, ?_⟩⟩
  · have h3 := bel2 hB hW
    exact (h3.cell (p := ⟨R, k, none⟩) (heap_lt hR)).trans (shRow_at hR hk)
  · have h3 := shRow_at hR' hk'
    rw [show Sh'[k].val = .slice Sh'[k].a Sh[k].L.length Sh'[k].c by show Value.slice _ _ _ = _; rw [hlen]] at h3
    exact (hW.cell (p := ⟨R', k, none⟩) (heap_lt hR')).trans h3
  · refine sameF18 Sh[k].a Sh'[k].a Sh[k].L.length Sh[k].c Sh'[k].c Sh[k].L Sh'[k].L W rfl d1.2.1 (d1.2.2.1.below (bel2 hB hW)) (hlen ▸ e1.2.2.1.below hW) (fun x hx => (d1.2.2.2.2 x hx).1.below (bel2 hB hW)) (fun x hx => ((e1.2.2.2.2 x hx).has hB1).below hW) (d3.trans e2.symm)
set_option maxRecDepth 100000 in
set_option maxHeartbeats 4000000 in
theorem tells_few (w : World) (a : Option Addr) (len cap : Nat) (L : List FV) (hL : L.length = len) (hc : len ≤ cap) (hr : RowV w a len 4 (fvCells L)) (hg : ∀ x ∈ L, GoodF w x) (g n : Int) (hgb : -9223372036854775808 ≤ g ∧ g < 9223372036854775808) (hf : fewFs L = true) :
    Calls Try.prog 3 #[.slice a len cap, .int .i64 g, .int .i64 n] w fun e w' => e = .returned (.bool true) ∧ Below w.heap.size w w' := by
  obtain ⟨hFA, h30⟩ := founds_at hL hr hg hf
  obtain ⟨K, hK⟩ : ∃ K : Nat, heldI n = (K : Int) := ⟨(heldI n).toNat, by have := heldI_bd n; omega⟩
  have hK64 : K ≤ 64 := by have := heldI_bd n; omega
  have GK := Lib.hid known18_any
  have GF := Lib.hid (fun W (hW : Below w.heap.size w W) => (show Gives Try.prog 11 #[.slice a len cap] W (.bool true) from by
    have := fewFs18_any a len cap L W hL (hr.below hW) (fun x hx => ⟨(hg x hx).1, (hg x hx).2.1, (hg x hx).2.2.1, (hg x hx).2.2.2.1.below hW, fun y hy => ⟨((hg x hx).2.2.2.2 y hy).1, ((hg x hx).2.2.2.2 y hy).2.1, ((hg x hx).2.2.2.2 y hy).2.2.1.below hW, ((hg x hx).2.2.2.2 y hy).2.2.2⟩⟩)
    rwa [hf] at this))
  have G1 := Lib.hid (fun W (hW : Below w.heap.size w W) => (show Calls Try.prog 12 #[.slice a len cap, .int .i64 n] W (fun e w' => ∃ (R : Nat) (Sh : List SV), e = .returned (.slice (some ⟨R, 0, none⟩) K K) ∧ Sh.length = K ∧ w'.heap[R]? = some (.cells (Sh.map SV.val).toArray 22 (0, 0)) ∧ shDone W.heap.size n (L.map fcore) Sh w' ∧ Below W.heap.size W w') from
    (split_any n a len cap L W (hFA.below hW)).mono fun e w' ⟨R, Sh, h1, h2, h3, _, h5, h6⟩ => ⟨R, Sh, by rw [h1, show Sh.length = K by omega], by omega, h3, h5, h6⟩))
  have G2 := Lib.hid (fun W (hW : Below w.heap.size w W) => (show Calls Try.prog 13 #[.slice a len cap, .int .i64 n] W (fun e w' => ∃ (R : Nat) (Sh : List SV), e = .returned (.slice (some ⟨R, 0, none⟩) K K) ∧ Sh.length = K ∧ w'.heap[R]? = some (.cells (Sh.map SV.val).toArray 22 (0, 0)) ∧ refDone W.heap.size n (L.map fcore) Sh W w' ∧ Below W.heap.size W w') from
    (refSplit_any n a len cap L W (hFA.below hW)).mono fun e w' ⟨R, Sh, h1, h2, h3, h5, h6⟩ => ⟨R, Sh, by rw [h1, show Sh.length = K by omega], by omega, h3, h5, h6⟩))
  have GO1 := Lib.hid (fun W => shOf_any g n hgb W)
  have GO2 := Lib.hid (fun W => refOf_any g n hgb W)
  generalize shOf g n = t at GO1 GO2
  clear hr hg hf hK hFA
  go_enter Try.func3, Try.ntmps3
  go_wp2_with (first
    | (go_at_call 10; ((with_reducible refine (GK.out _).mono ?_); rintro e w1 ⟨rfl, hB1⟩))
    | (go_at_call 11; ((with_reducible refine (GF.out _ hB1).mono ?_); rintro e w2 ⟨rfl, hB2⟩; have hX2 := bel2 hB1 hB2))
    | (go_at_call 12; ((with_reducible refine (G1.out _ hX2).mono ?_); rintro e w3 ⟨R, Sh, rfl, hl, hR, hd, hB3⟩; have hX3 := bel2 hX2 hB3; have HL3 := Lib.hid hl; have HR3 := Lib.hid hR; have HD3 := Lib.hid hd; clear hl hR hd hB3))
    | (go_at_call 13; ((with_reducible refine (G2.out _ hX3).mono ?_); rintro e w4 ⟨R', Sh', rfl, hl, hR, hd, hB4⟩; have hX4 := bel2 hX3 hB4; have HL4 := Lib.hid hl; have HR4 := Lib.hid hR; have HD4 := Lib.hid hd; have HB4 := Lib.hid hB4; clear hl hR hd hB4)))
  have HTS := Lib.hid (fun k (h1 : k < Sh.length) (h2 : k < Sh'.length) => tells_shard HR3.out HD3.out HB4.out HR4.out HD4.out HB4.out h1 h2)
  clear HR3 HD3 HR4 HD4
  go_loopw [9] (fun i wr => ∃ k : Nat, k ≤ K ∧ i = .int .i64 k ∧ Below w4.heap.size w4 wr) (fun i _ => K - (intOf i).toNat)
  case atStart => exact ⟨0, by omega, rfl, Below.refl _ _⟩
  case round =>
    obtain ⟨k, hk, rfl, hB⟩ := hrel
    by_cases hlt : k < K
    · have hk0 : (0 : Int) ≤ (k : Int) := by omega
      have hk1 : (k : Int) < (K : Int) := by omega
      obtain ⟨sa, sc, ta, tc, m, hm⟩ := HTS.out k (by rw [HL3.out]; exact hlt) (by rw [HL4.out]; exact hlt)
      have HS9 := Lib.hid (fun W (hW : Above wr W) => hm W (bel2 hB hW))
      clear hm
      go_wp2
      refine wp_region_below (by kernel_rfl) (by kernel_rfl) ?_
      repeat (first
        | (refine BigFrame.wpQuiet_skip (by rfl) ?_; (try simp only [Act.put, List.setIfInBounds_toArray, List.set_cons_zero, List.set_cons_succ]))
        | (refine BigFrame.wpQuiet_want (by rfl) (fun K' hK' => ?_); apply Exists.intro; refine ⟨fun W hW => ?_, hK' _ ?_⟩; (focus (have hWB : Below _ _ W := hW; obtain ⟨y0, y1, G⟩ := HS9.out _ hW; go_simp; (first | done | with_reducible rfl | (go_at_call 14; with_reducible exact gives_above hW G) | (rw [if_neg (by omega)]; go_simp; (first | done | with_reducible rfl))))); clear hK' K'; (try simp only [Act.put, List.setIfInBounds_toArray, List.set_cons_zero, List.set_cons_succ])))
      refine wpQuiet_nil ?_
      intro w9 hB9
      replace hB9 : Below _ _ w9 := hB9
      go_wp2
      go_roundw
      case rel => exact ⟨k + 1, by omega, by go_num, bel2 hB hB9⟩
      case measure => simp [intOf]; omega
    · obtain rfl : k = K := by omega
      have hX5 := bel2 hX4 hB
      go_wp2_with (first
        | (go_at_call 15; ((with_reducible refine (GO1.out _).mono ?_); rintro e w6 ⟨rfl, hB6⟩; have hX6 := bel2 hX5 hB6))
        | (go_at_call 16; ((with_reducible refine (GO2.out _).mono ?_); rintro e w7 ⟨rfl, hB7⟩; have hX7 := bel2 hX6 hB7)))
      go_ret
      exact ⟨by simp, hX7⟩
set_option maxRecDepth 100000 in
theorem walk (w : World) (a : Option Addr) (len cap : Nat) (L : List FV) (hL : L.length = len) (hc : len ≤ cap) (hr : RowV w a len 4 (fvCells L)) (hg : ∀ x ∈ L, GoodF w x) (g : Int) (hgb : -9223372036854775808 ≤ g ∧ g < 9223372036854775808) (n : Int) (hn : -9223372036854775808 ≤ n ∧ n < 9223372036854775808) :
    Calls Try.prog 3 #[.slice a len cap, .int .i64 g, .int .i64 n] w fun e w' => e = .returned (.bool true) ∧ Below w.heap.size w w' := by
  cases hf : fewFs L
  · have GK := Lib.hid known18_any
    have GF := Lib.hid (fun W (hW : Below w.heap.size w W) => (show Gives Try.prog 11 #[.slice a len cap] W (.bool false) from by
      have := fewFs18_any a len cap L W hL (hr.below hW) (fun x hx => ⟨(hg x hx).1, (hg x hx).2.1, (hg x hx).2.2.1, (hg x hx).2.2.2.1.below hW, fun y hy => ⟨((hg x hx).2.2.2.2 y hy).1, ((hg x hx).2.2.2.2 y hy).2.1, ((hg x hx).2.2.2.2 y hy).2.2.1.below hW, ((hg x hx).2.2.2.2 y hy).2.2.2⟩⟩)
      rwa [hf] at this))
    clear hr hg hf
    go_enter Try.func3, Try.ntmps3
    go_wp2_with (first
      | (go_at_call 10; ((with_reducible refine (GK.out _).mono ?_); rintro e w1 ⟨rfl, hB1⟩))
      | (go_at_call 11; ((with_reducible refine (GF.out _ hB1).mono ?_); rintro e w2 ⟨rfl, hB2⟩; have hX2 := bel2 hB1 hB2)))
    go_ret
    exact ⟨rfl, hX2⟩
  · exact tells_few w a len cap L hL hc hr hg g n hgb hf

set_option maxRecDepth 100000 in
theorem lifted (os : Os) (started : os.Started) (H : Type) (enc : TypeId × Value → H) :
    ReturnsInHanded {} Try.checked os 3 .any (Rows.shardTellsSpec.pre6 enc Try.prog Try.f3 Rows.shardTellsRow.domain false) (Rows.shardTellsSpec.post enc Try.prog Try.f3 false true false false) := by
  refine returnsInHanded_of_change (C := Try.checked) Try.own started (by kernel_rfl) Try.func3
    (ChangeSpec.witness6 (enc := enc) (C := Try.checked) false ⟨#[], #[.slice none 0 0, .int .i64 0, .int .i64 0], []⟩ 8 (by kernel_rfl) (by kernel_rfl) (by kernel_rfl) (by kernel_rfl)) ?_
  intro W base args ds gs before hval hW _ _
  refine law_contract (T := 4) (n := 3) Try.laid Try.underlying4 rfl rfl ⟨rfl, fun H ds h => by match ds, h with | [_, _, _], _ => rfl⟩ (of_all (by kernel_rfl)) hW ?_
  intro ps hA
  rw [Try.params3] at hA hval
  obtain ⟨v0, vs0, d0, ds0, p0, q0, hargs, rfl, rfl, h0, r0⟩ := trodAll_cons hA
  obtain ⟨v1, vs1, d1, ds1, p1, q1, rfl, rfl, rfl, h1, r1⟩ := trodAll_cons r0
  obtain ⟨v2, vs2, d2, ds2, p2, q2, rfl, rfl, rfl, h2, r2⟩ := trodAll_cons r1
  obtain ⟨rfl, rfl, rfl⟩ := trodAll_nil r2
  obtain rfl : args = #[v0, v1, v2] := by cases args; simp_all
  obtain ⟨s0, l0, c0, rfl⟩ := okWide_slice Try.underlying22 (hval 0 22 v0 rfl rfl)
  obtain ⟨zs0, e0, g0, w0, b0⟩ := open_founds h0
  obtain ⟨a1, rfl, rfl, rfl, w1⟩ := open_int Try.underlying3 (hval 1 3 v1 rfl rfl) h1
  obtain ⟨a2, rfl, rfl, rfl, w2⟩ := open_int Try.underlying3 (hval 2 3 v2 rfl rfl) h2
  exact walk W s0 l0 c0 zs0 e0 g0 w0 b0 a1 (bounds_i64 w1) a2 (bounds_i64 w2)

theorem holds : Rows.ShardTellsSaid :=
  OpenClaim.holds_of_wide 3 Try.f3 rfl rfl rfl rfl rfl rfl rfl ⟨rfl, rfl, rfl, rfl, rfl⟩ rfl rfl rfl rfl rfl (by kernel_rfl) Try.func3 (by kernel_rfl)
    (of_decide_eq_true (by kernel_rfl)) (by unfold Func.isWrapper; first | (rw [if_pos (by decide +kernel)]; kernel_rfl) | (rw [if_neg (by decide +kernel)]; exact ⟨rfl, rfl⟩))
    (fun os started H enc _ => lifted os started H enc)
end Go.Proofs.Ytdncdlbhgaehmaa.shardTells
