/- Law ReplayOrders: for every input the call answers true; its arguments read as they did. No condition. -/
import Derived.Test.YtdncdlbhgaehmaaLaw
import Derived.Test.YtdncdlbhgaehmaaRpO
import Derived.Test.YtdncdlbhgaehmaaFew18
import Derived.Test.YtdncdlbhgaehmaaQuietC
namespace Go.Proofs.Ytdncdlbhgaehmaa.replayOrders
open Go.ChangeShapes Go.WideShapes Go.ChangeAt Go.RowKit Go.Shelf
open Go.ChangeMaps (open_string shut_string)
set_option linter.unusedVariables false
attribute [local go_sem] Oper.semAt_some wide_fn wide_round_fn

attribute [local irreducible] wpQuiet
theorem few19_fcO {L : List FV} (h : fewFs L = true) : L.length ≤ 30 ∧ ∀ f ∈ L.map fcore, fewFC f := by
  simp only [fewFs, few18P, few18B, Bool.and_eq_true, decide_eq_true_eq, List.all_eq_true] at h
  refine ⟨h.2, fun f hf => ?_⟩
  obtain ⟨x, hx, rfl⟩ := List.mem_map.1 hf
  have h1 := h.1 x hx
  refine ⟨by show (x.L.map core).length ≤ 6; rw [List.length_map]; exact h1.2, fun p hp => ?_⟩
  obtain ⟨y, hy, rfl⟩ := List.mem_map.1 hp
  exact (h1.1 y hy).2
theorem sameA_refl (A : List LG) : sameA A A = true := by unfold sameA; simp
theorem ledAt_i {g : Nat} {C : List RC} {W : World} (h : LedOut g C W) {i : Nat} (hi : i < C.length) : ∃ e T, W.cell? ⟨g, i, none⟩ = some (.pointer (some ⟨e, 0, none⟩)) ∧ LT W e C[i].2 T := by
  obtain ⟨es, h1, h2⟩ := h
  obtain ⟨h3, T, h4⟩ := h2 i hi
  exact ⟨_, T, h3, h4⟩
/-- Both tell the same ledger. -/
theorem led_same {g h i : Nat} {C D : List RC} {W : World} (h1 : LedOut g C W) (h2 : LedOut h D W) (hCD : C.map Prod.snd = D.map Prod.snd) (hok : okRC 30 C) (hi : i < C.length) : ∃ e e2, W.cell? ⟨g, i, none⟩ = some (.pointer (some ⟨e, 0, none⟩)) ∧ W.cell? ⟨h, i, none⟩ = some (.pointer (some ⟨e2, 0, none⟩)) ∧ ∀ W', Below W.heap.size W W' → Gives Try.prog 23 #[.pointer (some ⟨e, 0, none⟩), .pointer (some ⟨e2, 0, none⟩)] W' (.bool true) := by
  have hl : D.length = C.length := by have := congrArg List.length hCD; rw [List.length_map, List.length_map] at this; exact this.symm
  obtain ⟨e, T, a1, a2⟩ := ledAt_i h1 hi
  obtain ⟨e2, T2, b1, b2⟩ := ledAt_i h2 (show i < D.length by omega)
  have hA : D[i].2 = C[i].2 := by
    have e : (D.map Prod.snd)[i]? = (C.map Prod.snd)[i]? := by rw [hCD]
    rw [List.getElem?_map, List.getElem?_map, List.getElem?_eq_getElem hi, List.getElem?_eq_getElem (show i < D.length by omega)] at e
    simpa using e
  rw [hA] at b2
  obtain ⟨o1, o2⟩ := hok.out (by decide) C[i] (List.getElem_mem hi)
  refine ⟨e, e2, a1, b1, fun W' hW' => ?_⟩
  have hs : C[i].2.length * (1800 + 2) < 1000000 := by omega
  have := tSame (a2.below hW') (b2.below hW') (by omega) (by omega) o1 o1 (by decide) hs hs
  rw [sameA_refl] at this
  exact this
set_option maxRecDepth 100000 in
set_option maxHeartbeats 8000000 in
theorem orders_few (w : World) (a : Option Addr) (len cap : Nat) (L : List FV) (hL : L.length = len) (hc : len ≤ cap) (hr : RowV w a len 4 (fvCells L)) (hg : ∀ x ∈ L, GoodF w x) (n : Nat) (hn : n < 256) (sa : Option Addr) (sl sc : Nat) (zs : List Int) (hz : RowI .u8 w sa sl zs) (ta : Option Addr) (tl tc : Nat) (ys : List Int) (hy : RowI .u8 w ta tl ys) (hf : fewFs L = true) (h100 : sl ≤ 100 ∧ tl ≤ 100) :
    Calls Try.prog 7 #[.slice a len cap, .int .u8 n, .slice sa sl sc, .slice ta tl tc] w fun e w' => e = .returned (.bool true) ∧ Below w.heap.size w w' := by
  obtain ⟨hFA, h30⟩ := founds_at hL hr hg hf
  obtain ⟨K, hKd⟩ : ∃ K : Nat, K = n % 64 + 1 := ⟨_, rfl⟩
  have hKb : 1 ≤ K ∧ K ≤ 64 := by omega
  have hK : (heldI (K : Int)).toNat = K := by unfold heldI; rw [if_neg (by omega), if_neg (by omega)]; rfl
  have GK := Lib.hid known19_any
  have GF := Lib.hid (fun W (hW : Below w.heap.size w W) => (show Gives Try.prog 18 #[.slice a len cap] W (.bool true) from by
    have := fewFs19_any a len cap L W hL (hr.below hW) (fun x hx => ⟨(hg x hx).1, (hg x hx).2.1, (hg x hx).2.2.1, (hg x hx).2.2.2.1.below hW, fun y hy => ⟨((hg x hx).2.2.2.2 y hy).1, ((hg x hx).2.2.2.2 y hy).2.1, ((hg x hx).2.2.2.2 y hy).2.2.1.below hW, ((hg x hx).2.2.2.2 y hy).2.2.2⟩⟩)
    rwa [hf] at this))
  have hfc := few19_fcO hf
  obtain ⟨C0, hC0⟩ : ∃ C0, C0 = newRC K (K : Int) (L.map fcore) := ⟨_, rfl⟩
  have GN := Lib.hid (fun W (hW : Below w.heap.size w W) => (show Calls Try.prog 19 #[.slice a len cap, .int .i64 (K : Int)] W (fun e w' => ∃ r, e = .returned (.pointer (some ⟨r, 0, none⟩)) ∧ RpS W C0 r w') from by
    have := RpS.new (K : Int) a len cap L W (hFA.below hW) ⟨hfc.1, hfc.2⟩
    rwa [hK, ← hC0] at this))
  have hCl : C0.length = K := by rw [hC0, newRC_len]
  have HZ := Lib.hid hz
  have HY := Lib.hid hy
  have HCL := Lib.hid hCl
  have HKD := Lib.hid hKd
  have hk8 : (n : Int) % 64 + 1 = (K : Int) := by omega
  obtain ⟨s1, s2⟩ := h100
  clear hr hg hf hFA hfc hL hz hy hKd hK hC0 hCl
  go_enter Try.func7, Try.ntmps7
  go_wp2_with (first
    | (go_at_call 17; ((with_reducible refine (GK.out _).mono ?_); rintro e w1 ⟨rfl, hB1⟩))
    | (go_at_call 18; ((with_reducible refine (GF.out _ hB1).mono ?_); rintro e w2 ⟨rfl, hB2⟩; have hX2 := bel2 hB1 hB2))
    | (go_at_call 19; ((with_reducible refine (GN.out _ hX3).mono ?_); rintro e w4 ⟨q, rfl, h4⟩; have HR4 := Lib.hid (HS3.out.two h4); have GR1 := Lib.hid (HR4.out.run sa sl sc zs (rowI8_below HZ.out hX2)); clear h4))
    | (go_at_call 19; ((with_reducible refine (GN.out _ hX2).mono ?_); rintro e w3 ⟨r, rfl, h3⟩; have HS3 := Lib.hid h3; have hX3 := bel2 hX2 h3.bel; clear h3))
    | (go_at_call 20; ((with_reducible refine GR2.out.mono ?_); rintro e w6 ⟨⟨x6, rfl⟩, qs, h6, hz6⟩; have HR6 := Lib.hid h6; have HZ6 := Lib.hid hz6; have hqs : (runC C0 qs).length = K := runC_len.trans HCL.out; have GA := Lib.hid (show Calls Try.prog 21 #[.pointer (some ⟨r, 0, none⟩)] w6 (fun e w' => ∃ g cap, e = .returned (.slice (some ⟨g, 0, none⟩) K cap) ∧ LedOut g (runC C0 ps) w' ∧ Below w6.heap.size w6 w') from (by have := h6.swap.one.ledgers; rwa [hps] at this)); clear h6 hz6))
    | (go_at_call 20; ((with_reducible refine GR1.out.mono ?_); rintro e w5 ⟨⟨x5, rfl⟩, ps, h5, hz5⟩; have HR5 := Lib.hid h5; have HZ5 := Lib.hid hz5; have hps : (runC C0 ps).length = K := runC_len.trans HCL.out; have GR2 := Lib.hid (h5.swap.run ta tl tc ys (rowI8_below HY.out hX2)); clear h5 hz5))
    | (go_at_call 21; ((with_reducible refine GB.out.mono ?_); rintro e w8 ⟨h, ch, rfl, h8, hB8⟩; have HLB := Lib.hid h8; have HR8 := Lib.hid (HR7.out.below hB8); have HLA8 := Lib.hid (HLA.out.below hB8); have GL1 := Lib.hid HR8.out.swap.one.left; rw [HZ5.out] at GL1; clear h8 hB8))
    | (go_at_call 21; ((with_reducible refine GA.out.mono ?_); rintro e w7 ⟨g, cg, rfl, h7, hB7⟩; have HLA := Lib.hid h7; have HR7 := Lib.hid (HR6.out.below hB7); have GB := Lib.hid (show Calls Try.prog 21 #[.pointer (some ⟨q, 0, none⟩)] w7 (fun e w' => ∃ g cap, e = .returned (.slice (some ⟨g, 0, none⟩) K cap) ∧ LedOut g (runC C0 qs) w' ∧ Below w7.heap.size w7 w') from (by have := HR7.out.one.ledgers; rwa [hqs] at this)); clear h7 hB7))
    | (go_at_call 22; ((with_reducible refine GL2.out.mono ?_); rintro e w10 ⟨rfl, hB10⟩; have HLAE := Lib.hid (HLA9.out.below hB10); have HLBE := Lib.hid (HLB9.out.below hB10); have HXE := Lib.hid (bel2 HX9.out hB10); clear hB10))
    | (go_at_call 22; ((with_reducible refine GL1.out.mono ?_); rintro e w9 ⟨rfl, hB9⟩; have HR9 := Lib.hid (HR8.out.below hB9); have HX9 := Lib.hid (bel2 hX2 HR9.out.bel); have HLA9 := Lib.hid (HLA8.out.below hB9); have HLB9 := Lib.hid (HLB.out.below hB9); have GL2 := Lib.hid HR9.out.one.left; rw [HZ6.out] at GL2; clear hB9)))
  have HCD := Lib.hid (orders_same HZ5.out HZ6.out)
  have HOK := Lib.hid (show okRC 30 (runC C0 ps) from by obtain ⟨_, _, _, _, _, _, _, _, _, _, _, h9⟩ := HR9.out.swap.one; exact h9)
  have HPS := Lib.hid hps
  clear hps hqs
  obtain ⟨u, hu⟩ : ∃ u, u = w10 := ⟨_, rfl⟩
  rw [← hu] at HLAE HLBE HXE
  go_loopw [14] (fun s14 wr => ∃ k : Nat, k ≤ K ∧ s14 = .int .i64 (k : Int) ∧ Below u.heap.size u wr) (fun s14 _ => K - (intOf s14).toNat)
  case atStart => exact ⟨0, Nat.zero_le _, rfl, hu ▸ Below.refl _ _⟩
  case round =>
    obtain ⟨k, hk, rfl, hB⟩ := hrel
    by_cases hlt : k < K
    · have hlt' : (k : Int) < (K : Int) := by omega
      have hw9 : IntKind.i64.wrap ((k : Int) + 1) = ((k + 1 : Nat) : Int) := (IntWalk.i64_in _ (by omega)).trans (by push_cast; rfl)
      obtain ⟨e1, e2, c1, c2, hGS⟩ := led_same (HLAE.out.below hB) (HLBE.out.below hB) HCD.out HOK.out (i := k) (by rw [HPS.out]; exact hlt)
      have GSm := Lib.hid hGS
      have HS := Lib.hid (fun W (hW : Below wr.heap.size wr W) => (show W.cell? ⟨g, k, none⟩ = some (.pointer (some ⟨e1, 0, none⟩)) ∧ W.cell? ⟨h, k, none⟩ = some (.pointer (some ⟨e2, 0, none⟩)) from ⟨(hW.cell (p := ⟨g, k, none⟩) (cellX_lt c1)).trans c1, (hW.cell (p := ⟨h, k, none⟩) (cellX_lt c2)).trans c2⟩))
      clear hGS c1 c2
      go_wp2
      refine wp_region_below (by kernel_rfl) (by kernel_rfl) ?_
      repeat (first
        | (refine BigFrame.wpQuiet_skip (by rfl) ?_; (try simp only [Act.put, List.setIfInBounds_toArray, List.set_cons_zero, List.set_cons_succ]))
        | (refine BigFrame.wpQuiet_want (by rfl) (fun K hK => ?_); apply Exists.intro; refine ⟨fun W hW => ?_, hK _ ?_⟩; (focus (have hWB : Below _ _ W := hW; obtain ⟨z0, z1⟩ := HS.out _ hW; go_simp; (first | done | with_reducible rfl | ((go_at_call 23; with_reducible exact gives_above hW (GSm.out _ hWB))) | (rw [if_neg (by omega)]; go_simp; (first | done | with_reducible rfl))))); clear hK K; (try simp only [Act.put, List.setIfInBounds_toArray, List.set_cons_zero, List.set_cons_succ])))
      refine wpQuiet_nil ?_
      intro w9 hB9
      replace hB9 : Below _ _ w9 := hB9
      go_wp2
      exact ⟨⟨k + 1, by omega, by go_num, bel2 hB hB9⟩, by simp [intOf]; omega⟩
    · have hOk : k = K := by omega
      subst k
      have hge : ¬ (K : Int) < (K : Int) := by omega
      go_wp2
      go_ret
      exact ⟨rfl, bel2 HXE.out hB⟩
theorem walk (w : World) (a : Option Addr) (len cap : Nat) (L : List FV) (hL : L.length = len) (hc : len ≤ cap) (hr : RowV w a len 4 (fvCells L)) (hg : ∀ x ∈ L, GoodF w x) (n : Nat) (hn : n < 256) (sa : Option Addr) (sl sc : Nat) (zs : List Int) (hz : RowI .u8 w sa sl zs) (ta : Option Addr) (tl tc : Nat) (ys : List Int) (hy : RowI .u8 w ta tl ys) :
    Calls Try.prog 7 #[.slice a len cap, .int .u8 n, .slice sa sl sc, .slice ta tl tc] w fun e w' => e = .returned (.bool true) ∧ Below w.heap.size w w' := by
  have GK := Lib.hid known19_any
  cases hf : fewFs L
  · have GF := Lib.hid (fun W (hW : Below w.heap.size w W) => (show Gives Try.prog 18 #[.slice a len cap] W (.bool false) from by
      have := fewFs19_any a len cap L W hL (hr.below hW) (fun x hx => ⟨(hg x hx).1, (hg x hx).2.1, (hg x hx).2.2.1, (hg x hx).2.2.2.1.below hW, fun y hy => ⟨((hg x hx).2.2.2.2 y hy).1, ((hg x hx).2.2.2.2 y hy).2.1, ((hg x hx).2.2.2.2 y hy).2.2.1.below hW, ((hg x hx).2.2.2.2 y hy).2.2.2⟩⟩)
      rwa [hf] at this))
    clear hr hg hf hz hy
    go_enter Try.func7, Try.ntmps7
    go_wp2_with (first
      | (go_at_call 17; ((with_reducible refine (GK.out _).mono ?_); rintro e w1 ⟨rfl, hB1⟩))
      | (go_at_call 18; ((with_reducible refine (GF.out _ hB1).mono ?_); rintro e w2 ⟨rfl, hB2⟩; have hX2 := bel2 hB1 hB2)))
    go_ret
    exact ⟨rfl, hX2⟩
  · by_cases h1 : sl ≤ 100
    · by_cases h2 : tl ≤ 100
      · exact orders_few w a len cap L hL hc hr hg n hn sa sl sc zs hz ta tl tc ys hy hf ⟨h1, h2⟩
      · have h2' : (100 : Int) < (tl : Int) := by omega
        have GF := Lib.hid (fun W (hW : Below w.heap.size w W) => (show Gives Try.prog 18 #[.slice a len cap] W (.bool true) from by
          have := fewFs19_any a len cap L W hL (hr.below hW) (fun x hx => ⟨(hg x hx).1, (hg x hx).2.1, (hg x hx).2.2.1, (hg x hx).2.2.2.1.below hW, fun y hy => ⟨((hg x hx).2.2.2.2 y hy).1, ((hg x hx).2.2.2.2 y hy).2.1, ((hg x hx).2.2.2.2 y hy).2.2.1.below hW, ((hg x hx).2.2.2.2 y hy).2.2.2⟩⟩)
          rwa [hf] at this))
        clear hr hg hf hz hy
        go_enter Try.func7, Try.ntmps7
        go_wp2_with (first
          | (go_at_call 17; ((with_reducible refine (GK.out _).mono ?_); rintro e w1 ⟨rfl, hB1⟩))
          | (go_at_call 18; ((with_reducible refine (GF.out _ hB1).mono ?_); rintro e w2 ⟨rfl, hB2⟩; have hX2 := bel2 hB1 hB2)))
        go_ret
        exact ⟨rfl, hX2⟩
    · have h1' : (100 : Int) < (sl : Int) := by omega
      have GF := Lib.hid (fun W (hW : Below w.heap.size w W) => (show Gives Try.prog 18 #[.slice a len cap] W (.bool true) from by
        have := fewFs19_any a len cap L W hL (hr.below hW) (fun x hx => ⟨(hg x hx).1, (hg x hx).2.1, (hg x hx).2.2.1, (hg x hx).2.2.2.1.below hW, fun y hy => ⟨((hg x hx).2.2.2.2 y hy).1, ((hg x hx).2.2.2.2 y hy).2.1, ((hg x hx).2.2.2.2 y hy).2.2.1.below hW, ((hg x hx).2.2.2.2 y hy).2.2.2⟩⟩)
        rwa [hf] at this))
      clear hr hg hf hz hy
      go_enter Try.func7, Try.ntmps7
      go_wp2_with (first
        | (go_at_call 17; ((with_reducible refine (GK.out _).mono ?_); rintro e w1 ⟨rfl, hB1⟩))
        | (go_at_call 18; ((with_reducible refine (GF.out _ hB1).mono ?_); rintro e w2 ⟨rfl, hB2⟩; have hX2 := bel2 hB1 hB2)))
      go_ret
      exact ⟨rfl, hX2⟩

set_option maxRecDepth 100000 in
theorem lifted (os : Os) (started : os.Started) (H : Type) (enc : TypeId × Value → H) :
    ReturnsInHanded {} Try.checked os 7 .any (Rows.replayOrdersSpec.pre6 enc Try.prog Try.f7 Rows.replayOrdersRow.domain false) (Rows.replayOrdersSpec.post enc Try.prog Try.f7 false true false false) := by
  refine returnsInHanded_of_change (C := Try.checked) Try.own started (by kernel_rfl) Try.func7
    (ChangeSpec.witness6 (enc := enc) (C := Try.checked) false ⟨#[], #[.slice none 0 0, .int .u8 0, .slice none 0 0, .slice none 0 0], []⟩ 8 (by kernel_rfl) (by kernel_rfl) (by kernel_rfl) (by kernel_rfl)) ?_
  intro W base args ds gs before hval hW _ _
  refine law_contract (T := 4) (n := 4) Try.laid Try.underlying4 rfl rfl ⟨rfl, fun H ds h => by match ds, h with | [_, _, _, _], _ => rfl⟩ (of_all (by kernel_rfl)) hW ?_
  intro ps hA
  rw [Try.params7] at hA hval
  obtain ⟨v0, vs0, d0, ds0, p0, q0, hargs, rfl, rfl, h0, r0⟩ := trodAll_cons hA
  obtain ⟨v1, vs1, d1, ds1, p1, q1, rfl, rfl, rfl, h1, r1⟩ := trodAll_cons r0
  obtain ⟨v2, vs2, d2, ds2, p2, q2, rfl, rfl, rfl, h2, r2⟩ := trodAll_cons r1
  obtain ⟨v3, vs3, d3, ds3, p3, q3, rfl, rfl, rfl, h3, r3⟩ := trodAll_cons r2
  obtain ⟨rfl, rfl, rfl⟩ := trodAll_nil r3
  obtain rfl : args = #[v0, v1, v2, v3] := by cases args; simp_all
  obtain ⟨s0, l0, c0, rfl⟩ := okWide_slice Try.underlying22 (hval 0 22 v0 rfl rfl)
  obtain ⟨zs0, e0, g0, w0, b0⟩ := open_founds h0
  obtain ⟨a1, rfl, rfl, rfl, w1⟩ := open_int Try.underlying5 (hval 1 5 v1 rfl rfl) h1
  obtain ⟨s2, l2, c2, rfl⟩ := okWide_slice Try.underlying45 (hval 2 45 v2 rfl rfl)
  obtain ⟨zs2, w2⟩ := isInts_of (k := .u8) Try.underlying45 Try.underlying5 (by kernel_rfl) h2
  obtain ⟨s3, l3, c3, rfl⟩ := okWide_slice Try.underlying45 (hval 3 45 v3 rfl rfl)
  obtain ⟨zs3, w3⟩ := isInts_of (k := .u8) Try.underlying45 Try.underlying5 (by kernel_rfl) h3
  obtain ⟨n1, rfl, b1⟩ := nat_of_u8 w1
  exact walk W s0 l0 c0 zs0 e0 g0 w0 b0 n1 b1 s2 l2 c2 _ (rowI_of w2) s3 l3 c3 _ (rowI_of w3)

theorem holds : Rows.ReplayOrdersSaid :=
  OpenClaim.holds_of_wide 7 Try.f7 rfl rfl rfl rfl rfl rfl rfl ⟨rfl, rfl, rfl, rfl, rfl⟩ rfl rfl rfl rfl rfl (by kernel_rfl) Try.func7 (by kernel_rfl)
    (of_decide_eq_true (by kernel_rfl)) (by unfold Func.isWrapper; first | (rw [if_pos (by decide +kernel)]; kernel_rfl) | (rw [if_neg (by decide +kernel)]; exact ⟨rfl, rfl⟩))
    (fun os started H enc _ => lifted os started H enc)
end Go.Proofs.Ytdncdlbhgaehmaa.replayOrders
