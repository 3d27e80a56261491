/- Law LedgerDestroys: for every input the call answers true; its arguments read as they did. No condition. -/
import Derived.Test.YtloojgbkohpcfaaLaw
import Derived.Test.YtloojgbkohpcfaaLgDs
namespace Go.Proofs.Ytloojgbkohpcfaa.ledgerDestroys
open Go.ChangeShapes Go.WideShapes Go.ChangeAt Go.RowKit Go.Shelf
open Go.ChangeMaps (open_string shut_string)
set_option linter.unusedVariables false
attribute [local go_sem] Oper.semAt_some wide_fn wide_round_fn

theorem dgA_len (k : Int) (n : Nat) : (dgA k n).length ≤ 10 ∧ (dgC k n).length ≤ 10 := by
  unfold dgA dgC
  constructor <;> split <;> simp
theorem dgS_at (k : Int) {n q : Nat} (h : q < n) {hq : q < (dgS k n).length} : (dgS k n)[q] = ⟨k, (q : Int) + 1, 4, (q : Int) + 1⟩ := by
  have h1 : (dgS k n)[q]? = some ⟨k, (q : Int) + 1, 4, (q : Int) + 1⟩ := by
    unfold dgS
    rw [List.getElem?_append_left (by simpa using h), List.getElem?_map, List.getElem?_range h]; rfl
  rw [List.getElem?_eq_getElem hq] at h1
  exact Option.some.inj h1
theorem dgS_end (k : Int) (n : Nat) {hq : n < (dgS k n).length} : (dgS k n)[n] = ⟨300, -1, 2, 0⟩ := by
  have h1 : (dgS k n)[n]? = some ⟨300, -1, 2, 0⟩ := by
    unfold dgS
    rw [List.getElem?_append_right (by simp)]; simp
  rw [List.getElem?_eq_getElem hq] at h1
  exact Option.some.inj h1
theorem dgC_len (k : Int) (n : Nat) : (dgC k n).length = 1 + min n 1 := by
  unfold dgC
  split
  · rename_i h; subst h; rfl
  · rw [show min n 1 = 1 by omega]; rfl
set_option maxRecDepth 100000 in
set_option maxHeartbeats 4000000 in
theorem walk (k : Nat) (hk : k < 256) (n : Nat) (hn : n < 256) (m : Nat) (hm : m < 256) (w : World) : Calls Try.prog 7 #[.int .u8 k, .int .u8 n, .int .u8 m] w fun e w' => e = .returned (.bool true) ∧ Below w.heap.size w w' := by
  have GK := Lib.hid known14_any
  have hk9 : 0 ≤ (k : Int) ∧ (k : Int) ≤ 255 := ⟨by omega, by omega⟩
  obtain ⟨a, ha, ha6⟩ : ∃ a : Nat, (a : Int) = (n : Int) % 6 ∧ a ≤ 5 := ⟨n % 6, by omega, by omega⟩
  obtain ⟨b, hb, hb6⟩ : ∃ b : Nat, (b : Int) = (m : Int) % 6 ∧ b ≤ 5 := ⟨m % 6, by omega, by omega⟩
  have GN := Lib.hid (fun W (hB : Below w.heap.size w W) => gNew1 hB)
  go_enter Try.func7, Try.ntmps7
  go_wp2_with (first
    | (go_at_call 21; ((with_reducible refine (GK.out _).mono ?_); rintro r w1 ⟨rfl, hB1⟩))
    | (go_at_call 23; ((with_reducible refine (GN.out _ hB1).mono ?_); rintro r w2 ⟨e, rfl, hK, -, -⟩; have H0 := Lib.hid hK; clear hK)))
  rw [← ha, ← hb]
  have HH := Lib.hid (And.intro ha hb)
  clear hB1 GN ha hb GK
  have DA := Lib.hid (fun W i X B (hi : i < 100) (h : LG1 w e (dgA (k : Int) i) W) (hN : okA 10 (dgA (k : Int) i)) (hl : (dgA (k : Int) i).length ≤ 10) (hx : W.heap[X]? = some (.cells #[.int .i64 ((i : Int) + 1), .int .i64 1, .string ⟨#[]⟩] 57 (0, 0))) (hb : W.heap[B]? = some (.cells #[.int .i64 (k : Int), .int .i64 1, .slice (some ⟨X, 0, none⟩) 1 1, .int .i64 0, .int .i64 0, .int .i64 0, .int .i64 0, .int .i64 0, .bool false, .bool false] 39 (0, 0))) => (show Calls Try.prog 24 #[.pointer (some ⟨e, 0, none⟩), .slice (some ⟨B, 0, none⟩) 1 1, .agg #[.int .i64 1, .int .i64 ((i : Int) + 1)]] W (fun r w' => (∃ v, r = .returned v) ∧ LG1 w e (dgA (k : Int) (i + 1)) w') from by
    have := gDo1 (N := 10) (c := 8) h hN (some ⟨B, 0, none⟩) 1 1 [(dgP (k : Int) (some ⟨X, 0, none⟩) 1, [⟨((i : Int) + 1), 1, ⟨#[]⟩⟩])] (rowP_of hb rfl rfl (by decide) (fun x hx2 => by
      rw [List.mem_singleton.1 hx2]; exact ⟨rfl, (show (1 : Nat) < 1000000 by decide), by exact rowV_block (cs := #[.int .i64 ((i : Int) + 1), .int .i64 1, .string ⟨#[]⟩]) (n := 1) (sz := 3) hx rfl (by decide)⟩)) (fun x hx2 => by rw [List.mem_singleton.1 hx2]; exact ⟨by simp, by simp⟩) (by decide) (by omega) 1 ((i : Int) + 1)
    rw [dgA_step hk9 hi] at this
    exact this))
  have DC := Lib.hid (fun W i X B (hi : i < 100) (h : LG1 w e (dgC (k : Int) i) W) (hN : okA 10 (dgC (k : Int) i)) (hl : (dgC (k : Int) i).length ≤ 10) (hx : W.heap[X]? = some (.cells #[.int .i64 ((i : Int) + 1), .int .i64 2, .string ⟨#[]⟩] 57 (0, 0))) (hb : W.heap[B]? = some (.cells #[.int .i64 (k : Int), .int .i64 1, .slice (some ⟨X, 0, none⟩) 1 1, .int .i64 0, .int .i64 0, .int .i64 0, .int .i64 0, .int .i64 0, .bool false, .bool false] 39 (0, 0))) => (show Calls Try.prog 24 #[.pointer (some ⟨e, 0, none⟩), .slice (some ⟨B, 0, none⟩) 1 1, .agg #[.int .i64 4, .int .i64 ((i : Int) + 1)]] W (fun r w' => (∃ v, r = .returned v) ∧ LG1 w e (dgC (k : Int) (i + 1)) w') from by
    have := gDo1 (N := 10) (c := 8) h hN (some ⟨B, 0, none⟩) 1 1 [(dgP (k : Int) (some ⟨X, 0, none⟩) 1, [⟨((i : Int) + 1), 2, ⟨#[]⟩⟩])] (rowP_of hb rfl rfl (by decide) (fun x hx2 => by
      rw [List.mem_singleton.1 hx2]; exact ⟨rfl, (show (1 : Nat) < 1000000 by decide), by exact rowV_block (cs := #[.int .i64 ((i : Int) + 1), .int .i64 2, .string ⟨#[]⟩]) (n := 1) (sz := 3) hx rfl (by decide)⟩)) (fun x hx2 => by rw [List.mem_singleton.1 hx2]; exact ⟨by simp, by simp⟩) (by decide) (by omega) 4 ((i : Int) + 1)
    rw [dgC_step hk9 hi] at this
    exact this))
  go_loopw [11] (fun s11 wr => ∃ i : Nat, i ≤ a ∧ s11 = .int .i64 ((i : Int) + 1) ∧ LG1 w e (dgA (k : Int) i) wr) (fun s11 _ => a + 1 - (intOf s11).toNat)
  case atStart => exact ⟨0, by omega, by go_num, H0.out⟩
  case round =>
    obtain ⟨i, hi, rfl, hS⟩ := hrel
    have HS := Lib.hid hS
    clear hS H0
    by_cases hlt : i < a
    · have hle : (i : Int) + 1 ≤ (a : Int) := by omega
      have hi9 : i < 100 := by omega
      go_wp2_with (go_at_call 24; ((with_reducible refine (DA.out _ i _ _ hi9 (HS.out.below (bel_alloc (bel_alloc (Below.refl _ _) _) _)) (dg_ok hk9 (by omega)).1 (dgA_len _ _).1 (two_a wr _ _ _ _) (two_b wr _ _ _ _)).mono ?_); rintro r w3 ⟨⟨v3, rfl⟩, hS3⟩))
      exact ⟨⟨i + 1, by omega, by go_num, hS3⟩, by simp [intOf]; omega⟩
    · obtain rfl : i = a := by omega
      obtain ⟨X, hXn, hX⟩ := dgB_step hk9 i
      have hle : ¬ (i : Int) + 1 ≤ (i : Int) := by omega
      have DB := Lib.hid (fun W B (h : LG1 w e (dgA (k : Int) i) W) (hb : W.heap[B]? = some (.cells #[.int .i64 (k : Int), .int .i64 2, .slice none 0 0, .int .i64 0, .int .i64 0, .int .i64 0, .int .i64 0, .int .i64 0, .bool false, .bool false, .int .i64 300, .int .i64 2, .slice none 0 0, .int .i64 0, .int .i64 0, .int .i64 0, .int .i64 0, .int .i64 0, .bool false, .bool false] 39 (0, 0))) => (show Calls Try.prog 24 #[.pointer (some ⟨e, 0, none⟩), .slice (some ⟨B, 0, none⟩) 2 2, .agg #[.int .i64 2, .int .i64 0]] W (fun r w' => (∃ v, r = .returned v) ∧ LG1 w e [X, dg3] w' ∧ okA 50 [X, dg3]) from by
        have hN := (dg_ok hk9 (show i ≤ 10 by omega)).1
        have hcc : ∀ x ∈ ([(dgH (k : Int), []), (dgH 300, [])] : List PL), x.2.length ≤ 8 := fun x hx2 => by
          rcases List.mem_cons.1 hx2 with rfl | hx2
          · simp
          · rw [List.mem_singleton.1 hx2]; simp
        have h9 := ldo_ok hN 2 0 hcc
        rw [hX] at h9
        have := gDo1 (N := 10) (c := 8) h hN (some ⟨B, 0, none⟩) 2 2 [(dgH (k : Int), []), (dgH 300, [])] (rowP_of hb rfl rfl (by decide) (fun x hx2 => by
          rcases List.mem_cons.1 hx2 with rfl | hx2
          · exact hasE_nil rfl rfl
          · rw [List.mem_singleton.1 hx2]; exact hasE_nil rfl rfl)) (fun x hx2 => by
          refine ⟨hcc x hx2, ?_⟩
          rcases List.mem_cons.1 hx2 with rfl | hx2
          · simp
          · rw [List.mem_singleton.1 hx2]; simp) (by decide) (by have := (dgA_len (k : Int) i).1; omega) 2 0
        rw [hX] at this
        exact this.mono (fun r w' h => ⟨h.1, h.2, fun L hL => okLG_mono (h9 L hL) (by simp)⟩)))
      have DX := Lib.hid (fun W B (h : LG1 w e [X, dg3] W) (hN : okA 50 [X, dg3]) (hb : W.heap[B]? = some (.cells #[.int .i64 (k : Int), .int .i64 5, .slice none 0 0, .int .i64 0, .int .i64 0, .int .i64 0, .int .i64 0, .int .i64 0, .bool false, .bool false] 39 (0, 0))) => (show Calls Try.prog 24 #[.pointer (some ⟨e, 0, none⟩), .slice (some ⟨B, 0, none⟩) 1 1, .agg #[.int .i64 3, .int .i64 0]] W (fun r w' => (∃ v, r = .returned v) ∧ LG1 w e (dgC (k : Int) 0) w') from by
        have := gDo1 (N := 50) (c := 8) h hN (some ⟨B, 0, none⟩) 1 1 [(dgX (k : Int), [])] (rowP_of hb rfl rfl (by decide) (fun x hx2 => by
          rw [List.mem_singleton.1 hx2]; exact hasE_nil rfl rfl)) (fun x hx2 => by rw [List.mem_singleton.1 hx2]; exact ⟨by simp, by simp⟩) (by decide) (by simp) 3 0
        rw [dgX_step hk9 hXn] at this
        exact this))
      have GG := Lib.hid (fun W (h : LG1 w e (dgC (k : Int) 0) W) => (show Calls Try.prog 25 #[.pointer (some ⟨e, 0, none⟩), .int .i64 (k : Int)] W (fun r w' => r = .returned (.tuple #[.agg #[.int .i64 0, .int .i64 0, .int .i64 0, .int .i64 0, .int .i64 0, .int .i64 0, .slice none 0 0], .bool false]) ∧ Below W.heap.size W w') from by
        refine (tGet h.choose_spec.1 (k : Int) (by omega)).mono ?_
        rintro r w' ⟨hB, ⟨L, va, vc, h1, -⟩ | ⟨-, h1⟩⟩
        · rw [dgC_get hk9 0, if_pos rfl] at h1; cases h1
        · exact ⟨h1, hB⟩))
      have GS := Lib.hid (fun W n (hn : n ≤ 10) (h : LG1 w e (dgC (k : Int) n) W) => (show Calls Try.prog 26 #[.pointer (some ⟨e, 0, none⟩)] W (fun r w' => ∃ a c, r = .returned (.slice a (n + 1) c) ∧ RowV w' a (dgS (k : Int) n).length 4 (spotCells (dgS (k : Int) n)) ∧ Below W.heap.size W w') from by
        have := tSpots (N := 10) h.choose_spec.1 (by have := (dgA_len (k : Int) n).2; omega) (dg_ok hk9 hn).2 (by decide)
        rw [dgC_spots] at this
        exact this.mono (fun r w' ⟨a, c, h1, h2, h3⟩ => ⟨a, c, by rw [h1, dgS_len], h2, h3⟩)))
      have GD := Lib.hid (fun W n (hn : n ≤ 10) (h : LG1 w e (dgC (k : Int) n) W) => (show Calls Try.prog 27 #[.pointer (some ⟨e, 0, none⟩)] W (fun r w' => r = .returned (.bool true) ∧ Below W.heap.size W w') from by
        have := tDense h.choose_spec.1 (by have := (dgA_len (k : Int) n).2; omega)
        rw [dgC_dense hk9 (by omega)] at this
        exact this))
      have GR := Lib.hid (fun W n (hn : n ≤ 10) (h : LG1 w e (dgC (k : Int) n) W) => (show Calls Try.prog 28 #[.pointer (some ⟨e, 0, none⟩)] W (fun r w' => ∃ a c, r = .returned (.slice a (1 + min n 1) c) ∧ Below W.heap.size W w') from (tGroups h.choose_spec.1 (by have := (dgA_len (k : Int) n).2; omega)).mono (fun r w' ⟨a, c, Gs, h1, _, _, h2⟩ => ⟨a, c, by rw [h1, dgC_len], h2⟩)))
      clear hX
      go_wp2_with (first
        | (go_at_call 24; ((with_reducible refine (DX.out _ _ (HB3.out.1.below (bel_alloc (Below.refl _ _) _)) HB3.out.2 (World.alloc_heap_new w3 _)).mono ?_); rintro r w4 ⟨⟨v4, rfl⟩, hS4⟩; have H4 := Lib.hid hS4; clear hS4 HB3))
        | (go_at_call 24; ((with_reducible refine (DB.out _ _ (HS.out.below (bel_alloc (Below.refl _ _) _)) (World.alloc_heap_new wr _)).mono ?_); rintro r w3 ⟨⟨v3, rfl⟩, hS3⟩; have HB3 := Lib.hid hS3; clear hS3 HS))
        | (go_at_call 25; ((with_reducible refine (GG.out _ H4.out).mono ?_); rintro r w5 ⟨rfl, hB⟩; have H5 := Lib.hid (H4.out.below (bel2 hB (bel_alloc (Below.refl w5.heap.size w5) (.cells #[.int .i64 0, .int .i64 0, .int .i64 0, .int .i64 0, .int .i64 0, .int .i64 0, .slice none 0 0] 31)))); clear hB H4))
        | (go_at_call 26; ((with_reducible refine (GS.out _ 0 (by decide) H5.out).mono ?_); rintro r w6 ⟨s0, c0, rfl, -, hB⟩; have H6 := Lib.hid (H5.out.below hB); clear hB H5)))
      go_loopw [15] (fun s15 wr => ∃ j : Nat, j ≤ b ∧ s15 = .int .i64 ((j : Int) + 1) ∧ LG1 w e (dgC (k : Int) j) wr) (fun s15 _ => b + 1 - (intOf s15).toNat)
      case atStart => exact ⟨0, by omega, by go_num, H6.out⟩
      case round =>
        obtain ⟨j, hj, rfl, hS⟩ := hrel
        have HS := Lib.hid hS
        clear hS H6
        by_cases hlt : j < b
        · have hle : (j : Int) + 1 ≤ (b : Int) := by omega
          have hi9 : j < 100 := by omega
          go_wp2_with (go_at_call 24; ((with_reducible refine (DC.out _ j _ _ hi9 (HS.out.below (bel_alloc (bel_alloc (Below.refl _ _) _) _)) (dg_ok hk9 (by omega)).2 (dgA_len _ _).2 (two_a wr _ _ _ _) (two_b wr _ _ _ _)).mono ?_); rintro r w3 ⟨⟨v3, rfl⟩, hS3⟩))
          exact ⟨⟨j + 1, by omega, by go_num, hS3⟩, by simp [intOf]; omega⟩
        · obtain rfl : j = b := by omega
          have hle : ¬ (j : Int) + 1 ≤ (j : Int) := by omega
          go_wp2_with (first
            | (go_at_call 26; ((with_reducible refine (GS.out _ j (by omega) HS.out).mono ?_); rintro r w7 ⟨sa, sc, rfl, hR, hB⟩; have H7 := Lib.hid (HS.out.below hB); have HR := Lib.hid hR; clear hB hR HS))
            | (go_at_call 27; ((with_reducible refine (GD.out _ j (by omega) H7.out).mono ?_); rintro r w8 ⟨rfl, hB⟩; have H8 := Lib.hid (H7.out.below hB); have HR8 := Lib.hid (HR.out.below hB); clear hB H7 HR)))
          obtain ⟨sb, so, rfl, hsb, hrow⟩ := spotRow_at HR8.out (by rw [dgS_len]; omega)
          have HX := Lib.hid (fun W (hB : Below w8.heap.size w8 W) q (hq : q < (dgS (k : Int) j).length) => (show W.cell? ⟨sb, so + q * 4, none⟩ = some (.int .i64 (dgS (k : Int) j)[q].g) ∧ W.cell? ⟨sb, so + q * 4 + 1, none⟩ = some (.int .i64 (dgS (k : Int) j)[q].i) ∧ W.cell? ⟨sb, so + q * 4 + 2, none⟩ = some (.int .i64 (dgS (k : Int) j)[q].s) ∧ W.cell? ⟨sb, so + q * 4 + 3, none⟩ = some (.int .i64 (dgS (k : Int) j)[q].p) from ⟨(hB.cell (p := ⟨sb, so + q * 4, none⟩) hsb).trans (hrow q hq).1, (hB.cell (p := ⟨sb, so + q * 4 + 1, none⟩) hsb).trans (hrow q hq).2.1, (hB.cell (p := ⟨sb, so + q * 4 + 2, none⟩) hsb).trans (hrow q hq).2.2.1, (hB.cell (p := ⟨sb, so + q * 4 + 3, none⟩) hsb).trans (hrow q hq).2.2.2⟩))
          clear hsb hrow HR8 hle hlt hj
          go_loopw [17] (fun s17 wr => ∃ q : Nat, q ≤ j ∧ s17 = .int .i64 q ∧ Below w8.heap.size w8 wr) (fun s17 _ => j - (intOf s17).toNat)
          case atStart => exact ⟨0, by omega, rfl, Below.refl _ _⟩
          case round =>
            obtain ⟨q, hq, rfl, hB⟩ := hrel
            have hql : q < (dgS (k : Int) j).length := by rw [dgS_len]; omega
            obtain ⟨c0, c1, c2, c3⟩ := HX.out wr hB q hql
            have hq0 : (0 : Int) ≤ (q : Int) := by omega
            have hqb : (q : Int) < (j : Int) + 1 := by omega
            by_cases hlt : q < j
            · have hqi : (q : Int) < (j : Int) := by omega
              have e := dgS_at (k : Int) hlt (hq := hql)
              rw [e] at c0 c1 c2 c3
              clear e
              dsimp only at c0 c1 c2 c3
              replace c3 : wr.cell? ⟨sb, so + q * 4 + 2 + 1, none⟩ = _ := c3
              have hne := fun W => neqSpotL ⟨(k : Int), (q : Int) + 1, 4, (q : Int) + 1⟩ ⟨(k : Int), (q : Int) + 1, 4, (q : Int) + 1⟩ W
              rw [decide_eq_true rfl] at hne
              dsimp only at hne
              clear hql
              go_wp2
              exact ⟨⟨q + 1, by omega, by go_num, hB⟩, by simp [intOf]; omega⟩
            · obtain rfl : q = j := by omega
              have e := dgS_end (k : Int) q (hq := hql)
              rw [e] at c0 c1 c2 c3
              clear e
              dsimp only at c0 c1 c2 c3
              clear hql c1 c2 c3
              have HB := Lib.hid hB
              clear hB
              by_cases hq00 : q = 0
              · have GR2 := Lib.hid (GR.out _ q (by omega) (H8.out.below HB.out))
                rw [show 1 + min q 1 = 1 by omega] at GR2
                have HZ := Lib.hid hq00
                have hqz : (q : Int) < 1 := by omega
                have hqz2 : (q : Int) ≤ 1 := by omega
                have hqb1 : ((1 : Int) == 1 + (q : Int)) = true := by rw [beq_iff_eq]; omega
                clear hq00
                go_wp2_with (go_at_call 28; ((with_reducible refine (GR2.out).mono ?_); rintro r w9 ⟨ga, gc, rfl, hB9⟩))
                go_ret
                exact ⟨by have := HZ.out; first | (simp; done) | (simp; omega) | (simp [this]), bel2 (bel2 H8.out.bel HB.out) hB9⟩
              · have GR2 := Lib.hid (GR.out _ q (by omega) (H8.out.below HB.out))
                rw [show 1 + min q 1 = 2 by omega] at GR2
                have hqz : (1 : Int) ≤ (q : Int) := by omega
                have hqm : min (q : Int) 1 = 1 := by omega
                clear hq00
                go_wp2_with (go_at_call 28; ((with_reducible refine (GR2.out).mono ?_); rintro r w9 ⟨ga, gc, rfl, hB9⟩))
                go_ret
                exact ⟨by simp, bel2 (bel2 H8.out.bel HB.out) hB9⟩

set_option maxRecDepth 100000 in
theorem lifted (os : Os) (started : os.Started) (H : Type) (enc : TypeId × Value → H) :
    ReturnsInHanded {} Try.checked os 7 .any (Rows.ledgerDestroysSpec.pre6 enc Try.prog Try.f7 Rows.ledgerDestroysRow.domain false) (Rows.ledgerDestroysSpec.post enc Try.prog Try.f7 false true false false) := by
  refine returnsInHanded_of_change (C := Try.checked) Try.own started (by kernel_rfl) Try.func7
    (ChangeSpec.witness6 (enc := enc) (C := Try.checked) false ⟨#[], #[.int .u8 0, .int .u8 0, .int .u8 0], []⟩ 8 (by kernel_rfl) (by kernel_rfl) (by kernel_rfl) (by kernel_rfl)) ?_
  intro W base args ds gs before hval hW _ _
  refine law_contract (T := 4) (n := 3) Try.laid Try.underlying4 rfl rfl ⟨rfl, fun H ds h => by match ds, h with | [_, _, _], _ => rfl⟩ (of_all (by kernel_rfl)) hW ?_
  intro ps hA
  rw [Try.params7] at hA hval
  obtain ⟨v0, vs0, d0, ds0, p0, q0, hargs, rfl, rfl, h0, r0⟩ := trodAll_cons hA
  obtain ⟨v1, vs1, d1, ds1, p1, q1, rfl, rfl, rfl, h1, r1⟩ := trodAll_cons r0
  obtain ⟨v2, vs2, d2, ds2, p2, q2, rfl, rfl, rfl, h2, r2⟩ := trodAll_cons r1
  obtain ⟨rfl, rfl, rfl⟩ := trodAll_nil r2
  obtain rfl : args = #[v0, v1, v2] := by cases args; simp_all
  obtain ⟨a0, rfl, rfl, rfl, w0⟩ := open_int Try.underlying5 (hval 0 5 v0 rfl rfl) h0
  obtain ⟨a1, rfl, rfl, rfl, w1⟩ := open_int Try.underlying5 (hval 1 5 v1 rfl rfl) h1
  obtain ⟨a2, rfl, rfl, rfl, w2⟩ := open_int Try.underlying5 (hval 2 5 v2 rfl rfl) h2
  obtain ⟨n0, rfl, b0⟩ := nat_of_u8 w0
  obtain ⟨n1, rfl, b1⟩ := nat_of_u8 w1
  obtain ⟨n2, rfl, b2⟩ := nat_of_u8 w2
  exact walk n0 b0 n1 b1 n2 b2 W

theorem holds : Rows.LedgerDestroysSaid :=
  OpenClaim.holds_of_wide 7 Try.f7 rfl rfl rfl rfl rfl rfl rfl ⟨rfl, rfl, rfl, rfl, rfl⟩ rfl rfl rfl rfl rfl (by kernel_rfl) Try.func7 (by kernel_rfl)
    (of_decide_eq_true (by kernel_rfl)) (by unfold Func.isWrapper; first | (rw [if_pos (by decide +kernel)]; kernel_rfl) | (rw [if_neg (by decide +kernel)]; exact ⟨rfl, rfl⟩))
    (fun os started H enc _ => lifted os started H enc)
end Go.Proofs.Ytloojgbkohpcfaa.ledgerDestroys
