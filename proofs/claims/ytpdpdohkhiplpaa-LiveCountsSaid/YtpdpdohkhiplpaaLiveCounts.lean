/- Law LiveCounts: for every input the call answers true; its arguments read as they did. No condition. -/
import Derived.Test.YtpdpdohkhiplpaaLaw
import Derived.Test.YtpdpdohkhiplpaaLiveMath
namespace Go.Proofs.Ytpdpdohkhiplpaa.liveCounts
open Go.ChangeShapes Go.WideShapes Go.ChangeAt Go.RowKit Go.Shelf
open Go.ChangeMaps (open_string shut_string)
set_option linter.unusedVariables false
attribute [local go_sem] Oper.semAt_some wide_fn wide_round_fn


def spot1 (i : Nat) : SpotC := ⟨1, i + 1, 1, i⟩
def spot2 (i : Nat) : SpotC := ⟨2, i + 1, 2, 0⟩
def rows1 (k : Nat) : List SpotC := (List.range k).map spot1
def rows2 (k : Nat) : List SpotC := (List.range k).map spot2
theorem rows1_len (k : Nat) : (rows1 k).length = k := by simp [rows1]
theorem rows2_len (k : Nat) : (rows2 k).length = k := by simp [rows2]
theorem rows1_snoc (k : Nat) : rows1 (k + 1) = rows1 k ++ [spot1 k] := by simp [rows1, List.range_succ]
theorem rows2_snoc (k : Nat) : rows2 (k + 1) = rows2 k ++ [spot2 k] := by simp [rows2, List.range_succ]
theorem rows1_s (k : Nat) : ∀ f ∈ rows1 k, f.s = 1 := by
  intro f hf; simp only [rows1, List.mem_map] at hf; obtain ⟨i, _, rfl⟩ := hf; rfl
theorem rows2_s (k : Nat) : ∀ f ∈ rows2 k, f.s = 2 := by
  intro f hf; simp only [rows2, List.mem_map] at hf; obtain ⟨i, _, rfl⟩ := hf; rfl
theorem recs_rows1 (k : Nat) : recs (rows1 k) = k := by
  induction k with
  | zero => rfl
  | succ k ih =>
    rw [rows1_snoc, recs_snoc, ih, if_neg]
    rw [Bool.not_eq_true, List.any_eq_false]
    intro f hf
    simp only [rows1, List.mem_map, List.mem_range] at hf
    obtain ⟨i, hi, rfl⟩ := hf
    simp [atPlace, spot1]; omega
theorem recs_rows2 (k : Nat) : recs (rows2 k) = min k 1 := by
  induction k with
  | zero => rfl
  | succ k ih =>
    rw [rows2_snoc, recs_snoc, ih]
    by_cases h : k = 0
    · subst h; rfl
    · rw [if_pos]
      · omega
      · rw [List.any_eq_true]
        exact ⟨spot2 0, by simp only [rows2, List.mem_map, List.mem_range]; exact ⟨0, by omega, rfl⟩, by simp [atPlace, spot2]⟩
def rowsL (p q : Nat) : List SpotC := rows1 p ++ rows2 q
theorem rowsL_len (p q : Nat) : (rowsL p q).length = p + q := by simp [rowsL, rows1_len, rows2_len]
theorem inL_app (l m : List SpotC) (z : Int) : inL (l ++ m) z = inL l z ++ inL m z := by simp [inL]
theorem inL_rowsL1 (p q : Nat) : inL (rowsL p q) 1 = rows1 p := by
  unfold rowsL; rw [inL_app, inL_all (rows1_s p), inL_none (fun f hf => by rw [rows2_s q f hf]; decide), List.append_nil]
theorem inL_rowsL2 (p q : Nat) : inL (rowsL p q) 2 = rows2 q := by
  unfold rowsL; rw [inL_app, inL_all (rows2_s q), inL_none (fun f hf => by rw [rows1_s p f hf]; decide), List.nil_append]
def wantF (p q s : Nat) : Nat := if s = 1 then p else if s = 2 then q else 0
theorem cnt_rowsL (p q s : Nat) : cnt (rowsL p q) s = wantF p q s := by
  unfold wantF
  by_cases h1 : s = 1
  · subst h1; rw [if_pos rfl]; unfold cnt; rw [show ((1 : Nat) : Int) = 1 from rfl, inL_rowsL1, rows1_len]
  · rw [if_neg h1]
    by_cases h2 : s = 2
    · subst h2; rw [if_pos rfl]; unfold cnt; rw [show ((2 : Nat) : Int) = 2 from rfl, inL_rowsL2, rows2_len]
    · rw [if_neg h2]
      exact cnt_none fun f hf => by
        unfold rowsL at hf
        rcases List.mem_append.1 hf with hf | hf
        · rw [rows1_s p f hf]; omega
        · rw [rows2_s q f hf]; omega
theorem wf_rowsL (p q : Nat) (hp : p < 100) (hq : q < 100) : ∀ f ∈ rowsL p q, wfP f := fun f hf => by
  unfold rowsL at hf
  rcases List.mem_append.1 hf with hf | hf
  · simp only [rows1, List.mem_map, List.mem_range] at hf; obtain ⟨i, h1, rfl⟩ := hf
    exact ⟨wf_i64 (by simp only [spot1]; omega), wf_i64 (by simp only [spot1]; omega)⟩
  · simp only [rows2, List.mem_map, List.mem_range] at hf; obtain ⟨i, h1, rfl⟩ := hf
    exact ⟨wf_i64 (by simp only [spot2]; omega), wf_i64 (by simp only [spot2]; omega)⟩
def segsO (zs : List Int) : List Int := zs.map fun y => y % 4
theorem segsO_snoc (zs : List Int) (k : Nat) (h : k < zs.length) : intsV (segsO (zs.take (k + 1))) = intsV (segsO (zs.take k)) ++ [.int .i64 (zs[k] % 4)] := by
  unfold intsV segsO
  rw [List.take_succ_eq_append_getElem h, List.map_append, List.map_append]; rfl

set_option maxRecDepth 100000 in
set_option maxHeartbeats 4000000 in
theorem walk (w : World) (n : Nat) (hn : n < 256) (m : Nat) (hm : m < 256) (oa : Option Addr) (len cap : Nat) (zs : List Int) (hz : RowI .u8 w oa len zs) :
    Calls Try.prog 6 #[.int .u8 n, .int .u8 m, .slice oa len cap] w fun e w' => e = .returned (.bool true) ∧ Below w.heap.size w w' := by
  obtain ⟨i0, hi, hz0, hz1, hz2⟩ := info_parts infoSpot
  obtain ⟨j0, hj, hy0, hy1, hy2⟩ := info_parts infoInt
  obtain ⟨rfl, hml, hwz, hcz⟩ := hz
  unfold maxLen at hml
  by_cases h20 : 20 < zs.length
  · go_enter Try.func6, Try.ntmps6
    go_wp2_with (go_at_call 11; refine (live_known _).mono ?_; rintro e w1 ⟨rfl, hB1⟩)
    go_ret
    exact ⟨rfl, hB1⟩
  have h20' : zs.length ≤ 20 := by omega
  clear h20
  obtain ⟨p, hp, hp1⟩ : ∃ p : Nat, (n : Int) % 10 = (p : Int) ∧ p < 10 := ⟨n % 10, by omega, by omega⟩
  obtain ⟨q, hq, hq1⟩ : ∃ q : Nat, (m : Int) % 10 = (q : Int) ∧ q < 10 := ⟨m % 10, by omega, by omega⟩
  have HP := Lib.hid hp
  have HQ := Lib.hid hq
  go_enter Try.func6, Try.ntmps6
  go_wp2_with (go_at_call 11; refine (live_known _).mono ?_; rintro e w1 ⟨rfl, hB1⟩)
  go_loopw [7, 8] (fun v i wr => ∃ k : Nat, k ≤ p ∧ i = .int .i64 k ∧ wr.ownsRow w.heap.size 33 4 v k (spotCells (rows1 k)) ∧ Below w.heap.size w wr) (fun _ i _ => p - (intOf i).toNat)
  case atStart => exact ⟨0, by omega, rfl, World.ownsRow_nil _ _ _ _, hB1⟩
  case round =>
    obtain ⟨k, hk, rfl, hown, hB⟩ := hrel
    by_cases hlt : k < p
    · have hsn := Lib.hid (show spotCells (rows1 (k + 1)) = spotCells (rows1 k) ++ (spot1 k).cells by rw [rows1_snoc, spotCells_snoc])
      go_wp2_with (at_builtin; refine wpList_append_own _ rfl _ _ 22 rfl w.heap.size 33 i0 (.agg #[.int .i64 0, .int .i64 0, .int .i64 0, .int .i64 0]) 4 32 Try.underlying22 hi hz0 hz1 hz2 rfl (by decide) _ _ _ rfl (hown.alloc _) ⟨wr.heap.size, 0, none⟩ 1 1 [.int .i64 1, .int .i64 ((k : Int) + 1), .int .i64 1, .int .i64 k] rfl rfl (news_new _ _ _) (by simp [Value.oneCell']) (by unfold maxLen; omega) (by omega) (by have := hB.size; simp; omega) ?_; intro v' w2 hown' hgrow _)
      have hB2 : Below w.heap.size w w2 := (bel_alloc hB _).grown hgrow (by have := hB.size; simp; omega) (fun g e => ownBlock_ge hown e)
      go_roundw
      case rel => exact ⟨k + 1, by omega, by go_num, by rw [hsn.out]; exact hown', hB2⟩
      case measure => simp [intOf]; omega
    · obtain rfl : k = p := by omega
      clear hlt hk hB1
      have hB1 := hB
      clear hB
      obtain ⟨wo, rfl⟩ : ∃ wo : World, wo = wr := ⟨_, rfl⟩
      go_wp2
      clear hp
      go_loopw [7, 9] (fun v i wr => ∃ k2 : Nat, k2 ≤ q ∧ i = .int .i64 k2 ∧ wr.ownsRow w.heap.size 33 4 v (k + k2) (spotCells (rowsL k k2)) ∧ Below w.heap.size w wr) (fun _ i _ => q - (intOf i).toNat)
      case atStart => exact ⟨0, by omega, rfl, by simpa [rowsL, rows2] using hown, hB1⟩
      case round =>
        obtain ⟨k2, hk2, rfl, hown, hB⟩ := hrel
        by_cases hlt : k2 < q
        · have hsn := Lib.hid (show spotCells (rowsL k (k2 + 1)) = spotCells (rowsL k k2) ++ (spot2 k2).cells by unfold rowsL; rw [rows2_snoc, ← List.append_assoc, spotCells_snoc])
          go_wp2_with (at_builtin; refine wpList_append_own _ rfl _ _ 22 rfl w.heap.size 33 i0 (.agg #[.int .i64 0, .int .i64 0, .int .i64 0, .int .i64 0]) 4 32 Try.underlying22 hi hz0 hz1 hz2 rfl (by decide) _ _ _ rfl (hown.alloc _) ⟨wr.heap.size, 0, none⟩ 1 1 [.int .i64 2, .int .i64 ((k2 : Int) + 1), .int .i64 2, .int .i64 0] rfl rfl (news_new _ _ _) (by simp [Value.oneCell']) (by unfold maxLen; omega) (by omega) (by have := hB.size; simp; omega) ?_; intro v' w2 hown' hgrow _)
          have hB2 : Below w.heap.size w w2 := (bel_alloc hB _).grown hgrow (by have := hB.size; simp; omega) (fun g e => ownBlock_ge hown e)
          go_roundw
          case rel => exact ⟨k2 + 1, by omega, by go_num, by rw [hsn.out]; exact hown', hB2⟩
          case measure => simp [intOf]; omega
        · obtain rfl : k2 = q := by omega
          clear hlt hk2 hB1
          have hB1 := hB
          clear hB
          obtain ⟨wp, rfl⟩ : ∃ wp : World, wp = wr := ⟨_, rfl⟩
          obtain ⟨la, lc, rfl, _, hrow⟩ := rowV_own hown
          go_wp2
          clear hq
          go_loopw [10, 11] (fun v i wr => ∃ k3 : Nat, k3 ≤ zs.length ∧ i = .int .i64 k3 ∧ wr.ownsRow wp.heap.size 3 1 v k3 (intsV (segsO (zs.take k3))) ∧ Below wp.heap.size wp wr) (fun _ i _ => zs.length - (intOf i).toNat)
          case atStart => exact ⟨0, by omega, rfl, World.ownsRow_nil _ _ _ _, Below.refl _ _⟩
          case round =>
            obtain ⟨k3, hk3, rfl, howns, hB⟩ := hrel
            by_cases hlt : k3 < zs.length
            · obtain ⟨bb, off, rfl, hbb, hc⟩ := hcz (by omega)
              have hck := ((hB1.trans (hB.mono hB1.size)).cell (p := ⟨bb, off + k3, none⟩) hbb).trans (hc k3 hlt)
              obtain ⟨y, hy, hy3⟩ := nat_of_u8 (hwz zs[k3] (List.getElem_mem _))
              have hsn := segsO_snoc zs k3 hlt
              rw [hy] at hck hsn
              have HSN := Lib.hid hsn
              clear hy hsn hc
              go_wp2_with (at_builtin; refine wpList_append_own _ rfl _ _ 23 rfl wp.heap.size 3 j0 (.int .i64 0) 1 8 Try.underlying23 hj hy0 hy1 hy2 rfl (by decide) _ _ _ rfl (howns.alloc _) ⟨wr.heap.size, 0, none⟩ 1 1 [.int .i64 ((y : Int) % 4)] rfl rfl (news_new _ _ _) (by simp [Value.oneCell']) (by unfold maxLen; omega) (by omega) (by have := hB.size; simp; omega) ?_; intro v' w2 hown' hgrow _)
              have hB2 : Below wp.heap.size wp w2 := (bel_alloc hB _).grown hgrow (by have := hB.size; simp; omega) (fun g e => ownBlock_ge howns e)
              go_roundw
              case rel => exact ⟨k3 + 1, by omega, by go_num, by rw [HSN.out]; exact hown', hB2⟩
              case measure => simp [intOf]; omega
            · obtain rfl : k3 = zs.length := by omega
              rw [List.take_of_length_le (Nat.le_refl _)] at howns
              have hwS : ∀ z ∈ segsO zs, (Lit.int .i64 z).wf = true := fun z hz => by
                simp only [segsO, List.mem_map] at hz
                obtain ⟨y, hy, rfl⟩ := hz
                exact wf_i64 (by omega)
              obtain ⟨sa, sc, rfl, hsc, hrs⟩ := rowI_own howns hwS
              have hLl := rowsL_len k k2
              have hwL := wf_rowsL k k2 (by omega) (by omega)
              have C := Lib.hid (counts_any (rowsL k k2) (segsO zs) (fun f hf => bounds_i64 (hwL f hf).1) la sa (k + k2) lc zs.length sc hLl (by omega) (by omega) wr (hrow.below hB) hrs)
              have HR1 := Lib.hid (fun (W : World) (hW : Below wr.heap.size wr W) => records_at la (k + k2) lc (rowsL k k2) 1 k hLl (by omega) hwL (by rw [inL_rowsL1, recs_rows1]) W ((hrow.below hB).below hW))
              have HR2 := Lib.hid (fun (W : World) (hW : Below wr.heap.size wr W) => records_at la (k + k2) lc (rowsL k k2) 2 (min k2 1) hLl (by omega) hwL (by rw [inL_rowsL2, recs_rows2]) W ((hrow.below hB).below hW))
              have hp := HP.out
              have hq := HQ.out
              have HB3 := Lib.hid (show Below w.heap.size w wr from hB1.trans (hB.mono hB1.size))
              clear hlt hk3 hrow hwL hLl hown howns hwS hB1 hB
              go_wp2_with (go_at_call 12; ((with_reducible refine (C.out).mono ?_); rintro e w2 ⟨v, rfl, hownc, hB2⟩; obtain ⟨ca, cc, rfl, hcc, hrc⟩ := rowV_own hownc; clear hownc))
              clear hp hq
              have hX1 : ∀ W, Below (w2.alloc (.cells #[.int .i64 0, .int .i64 k, .int .i64 k2, .int .i64 0] 37)).heap.size (w2.alloc (.cells #[.int .i64 0, .int .i64 k, .int .i64 k2, .int .i64 0] 37)) W → ∀ s, s < 4 → W.cell? ⟨w2.heap.size, s, none⟩ = some (.int .i64 (wantF k k2 s)) := fun W hW s hs => by
                have h1 : (w2.alloc (.cells #[.int .i64 0, .int .i64 k, .int .i64 k2, .int .i64 0] 37)).heap[w2.heap.size]? = some (.cells #[.int .i64 0, .int .i64 k, .int .i64 k2, .int .i64 0] 37 (0, 0)) := World.alloc_heap_new w2 _
                have h2 := cell_of_row _ _ s _ _ _ ((hW.block w2.heap.size (by simp)).trans h1)
                rw [h2]
                match s, hs with
                | 0, _ => rfl
                | 1, _ => rfl
                | 2, _ => rfl
                | 3, _ => rfl
              obtain ⟨wx, hwx⟩ : ∃ wx, wx = w2.alloc (.cells #[.int .i64 0, .int .i64 k, .int .i64 k2, .int .i64 0] 37) := ⟨_, rfl⟩
              rw [← hwx] at hX1
              have hBx : Below wr.heap.size wr wx := by rw [hwx]; exact bel_alloc hB2 _
              have hrcx : RowV wx ca zs.length 1 ((segsO zs).map fun z => .int .i64 (cnt (rowsL k k2) z)) := by rw [hwx]; exact hrc.below ((Below.refl _ _).alloc (Nat.le_refl _) _)
              have hXs : w2.heap.size < wx.heap.size := by rw [hwx]; simp
              have HX := Lib.hid hX1
              generalize w2.heap.size = X at *
              obtain ⟨wo2, rfl⟩ : ∃ wo2 : World, wo2 = wr := ⟨_, rfl⟩
              rw [← hwx]
              clear hX1 hrc hwx hB2
              go_loopw [14] (fun i wr => ∃ k4 : Nat, k4 ≤ zs.length ∧ i = .int .i64 k4 ∧ Below wx.heap.size wx wr) (fun i _ => zs.length - (intOf i).toNat)
              case atStart => exact ⟨0, by omega, rfl, Below.refl _ _⟩
              case round =>
                obtain ⟨k4, hk4, rfl, hB⟩ := hrel
                by_cases hlt : k4 < zs.length
                · obtain ⟨cb, co, rfl, hcb, hcl⟩ := hrcx.2.2 (by omega)
                  obtain ⟨sb, so, rfl, hsb, hsl⟩ := hrs.2.2.2 (by omega)
                  obtain ⟨y, hy, hy3⟩ := nat_of_u8 (hwz zs[k4] (List.getElem_mem _))
                  obtain ⟨sg, hsg, hsg4⟩ : ∃ sg : Nat, (y : Int) % 4 = (sg : Int) ∧ sg < 4 := ⟨y % 4, by omega, by omega⟩
                  have d1 : wr.cell? ⟨sb, so + k4, none⟩ = some (.int .i64 sg) := by
                    have h1 : k4 < (segsO zs).length := by simp [segsO]; exact hlt
                    have := ((hBx.trans (hB.mono hBx.size)).cell (p := ⟨sb, so + k4, none⟩) hsb).trans (hsl k4 h1)
                    rw [this]
                    simp only [segsO, List.getElem_map, hy, hsg]
                  have d2 : wr.cell? ⟨cb, co + k4, none⟩ = some (.int .i64 (wantF k k2 sg)) := by
                    refine (hB.cell (p := ⟨cb, co + k4, none⟩) hcb).trans (RowV.at_ (len := zs.length) (sz := 1) hcl ?_)
                    simp only [segsO, List.map_map, List.getElem?_map, List.getElem?_eq_getElem hlt, Option.map_some, Function.comp, hy, hsg, cnt_rowsL]
                  have d3 := HX.out wr hB sg hsg4
                  have hd : decide ((zs.length : Int) ≤ (k4 : Int)) = false := by rw [decide_eq_false_iff_not]; omega
                  have hs0 : (0 : Int) ≤ (sg : Int) := by omega
                  have hs4 : (sg : Int) < 4 := by omega
                  generalize wantF k k2 sg = m4 at *
                  clear hcl hsl hy hsg hrcx hrs
                  go_wp2
                  go_quiet (fail)
                  go_wp2
                  exact ⟨⟨k4 + 1, by omega, by go_num, below_drewN hB _⟩, by simp [intOf]; omega⟩
                · obtain rfl : k4 = zs.length := by omega
                  have G1 := Lib.hid (fun (W : World) (hW : Below wr.heap.size wr W) => HR1.out W (hBx.trans ((hB.trans (hW.mono hB.size)).mono hBx.size)))
                  have G2 := Lib.hid (fun (W : World) (hW : Below wr.heap.size wr W) => HR2.out W (hBx.trans ((hB.trans (hW.mono hB.size)).mono hBx.size)))
                  have K1 := Lib.hid (fun (W : World) (hW : Below wr.heap.size wr W) => show W.cell? ⟨X, 1, none⟩ = some (.int .i64 k) from HX.out W (hB.trans (hW.mono hB.size)) 1 (by decide))
                  have K2 := Lib.hid (fun (W : World) (hW : Below wr.heap.size wr W) => show W.cell? ⟨X, 2, none⟩ = some (.int .i64 k2) from HX.out W (hB.trans (hW.mono hB.size)) 2 (by decide))
                  have HBw := Lib.hid (show Below w.heap.size w wr from HB3.out.trans ((hBx.trans (hB.mono hBx.size)).mono HB3.out.size))
                  clear hrcx hrs hk4 hlt
                  by_cases hk1 : 1 < k2
                  · have hm1 : min k2 1 = 1 := by omega
                    rw [hm1] at G2
                    have hk1' : (1 : Int) < (k2 : Int) := by omega
                    clear hm1
                    go_wp2
                    go_region_held3 (fun W' => W'.cell? ⟨X, 1, none⟩ = some (.int .i64 k) ∧ W'.cell? ⟨X, 2, none⟩ = some (.int .i64 k2) ∧ Below wr.heap.size wr W')
                      (first | assumption | exact (Below.refl _ _).drew | (apply And.right; apply And.right; assumption) | (refine bel2 ?_ (by assumption); first | assumption | (apply And.right; apply And.right; assumption)) | (refine K1.out _ ?_; (first | assumption | exact (Below.refl _ _).drew | (apply And.right; apply And.right; assumption) | (refine bel2 ?_ (by assumption); first | assumption | (apply And.right; apply And.right; assumption)))) | (refine K2.out _ ?_; (first | assumption | exact (Below.refl _ _).drew | (apply And.right; apply And.right; assumption) | (refine bel2 ?_ (by assumption); first | assumption | (apply And.right; apply And.right; assumption)))) | (refine ⟨K1.out _ ?_, K2.out _ ?_, ?_⟩ <;> (first | assumption | exact (Below.refl _ _).drew | (apply And.right; apply And.right; assumption) | (refine bel2 ?_ (by assumption); first | assumption | (apply And.right; apply And.right; assumption)))))
                      (first
                        | (go_at_call 17; ((with_reducible refine (G1.out _ ?_).mono ?_); (focus (first | assumption | (apply And.right; apply And.right; assumption))); rintro e w5 ⟨rfl, hB5⟩))
                        | (go_at_call 17; ((with_reducible refine (G2.out _ ?_).mono ?_); (focus (first | assumption | (apply And.right; apply And.right; assumption))); rintro e w6 ⟨rfl, hB6⟩)))
                    all_goals
                      have hS : Below wr.heap.size wr w6 := by first | assumption | (apply And.right; apply And.right; assumption)
                      go_wp2
                      go_ret
                      exact ⟨by simp, HBw.out.trans (hS.mono HBw.out.size)⟩
                  · have hm1 : min k2 1 = k2 := by omega
                    rw [hm1] at G2
                    have hk1' : (k2 : Int) ≤ 1 := by omega
                    clear hm1
                    go_wp2
                    go_region_held3 (fun W' => W'.cell? ⟨X, 1, none⟩ = some (.int .i64 k) ∧ W'.cell? ⟨X, 2, none⟩ = some (.int .i64 k2) ∧ Below wr.heap.size wr W')
                      (first | assumption | exact (Below.refl _ _).drew | (apply And.right; apply And.right; assumption) | (refine bel2 ?_ (by assumption); first | assumption | (apply And.right; apply And.right; assumption)) | (refine K1.out _ ?_; (first | assumption | exact (Below.refl _ _).drew | (apply And.right; apply And.right; assumption) | (refine bel2 ?_ (by assumption); first | assumption | (apply And.right; apply And.right; assumption)))) | (refine K2.out _ ?_; (first | assumption | exact (Below.refl _ _).drew | (apply And.right; apply And.right; assumption) | (refine bel2 ?_ (by assumption); first | assumption | (apply And.right; apply And.right; assumption)))) | (refine ⟨K1.out _ ?_, K2.out _ ?_, ?_⟩ <;> (first | assumption | exact (Below.refl _ _).drew | (apply And.right; apply And.right; assumption) | (refine bel2 ?_ (by assumption); first | assumption | (apply And.right; apply And.right; assumption)))))
                      (first
                        | (go_at_call 17; ((with_reducible refine (G1.out _ ?_).mono ?_); (focus (first | assumption | (apply And.right; apply And.right; assumption))); rintro e w5 ⟨rfl, hB5⟩))
                        | (go_at_call 17; ((with_reducible refine (G2.out _ ?_).mono ?_); (focus (first | assumption | (apply And.right; apply And.right; assumption))); rintro e w6 ⟨rfl, hB6⟩)))
                    all_goals
                      have hS : Below wr.heap.size wr w6 := by first | assumption | (apply And.right; apply And.right; assumption)
                      go_wp2
                      go_ret
                      exact ⟨by simp, HBw.out.trans (hS.mono HBw.out.size)⟩

set_option maxRecDepth 100000 in
theorem lifted (os : Os) (started : os.Started) (H : Type) (enc : TypeId × Value → H) :
    ReturnsInHanded {} Try.checked os 6 .any (Rows.liveCountsSpec.pre6 enc Try.prog Try.f6 Rows.liveCountsRow.domain false) (Rows.liveCountsSpec.post enc Try.prog Try.f6 false true false false) := by
  refine returnsInHanded_of_change (C := Try.checked) Try.own started (by kernel_rfl) Try.func6
    (ChangeSpec.witness6 (enc := enc) (C := Try.checked) false ⟨#[], #[.int .u8 0, .int .u8 0, .slice none 0 0], []⟩ 8 (by kernel_rfl) (by kernel_rfl) (by kernel_rfl) (by kernel_rfl)) ?_
  intro W base args ds gs before hval hW _ _
  refine law_contract (T := 4) (n := 3) Try.laid Try.underlying4 rfl rfl ⟨rfl, fun H ds h => by match ds, h with | [_, _, _], _ => rfl⟩ (of_all (by kernel_rfl)) hW ?_
  intro ps hA
  rw [Try.params6] at hA hval
  obtain ⟨v0, vs0, d0, ds0, p0, q0, hargs, rfl, rfl, h0, r0⟩ := trodAll_cons hA
  obtain ⟨v1, vs1, d1, ds1, p1, q1, rfl, rfl, rfl, h1, r1⟩ := trodAll_cons r0
  obtain ⟨v2, vs2, d2, ds2, p2, q2, rfl, rfl, rfl, h2, r2⟩ := trodAll_cons r1
  obtain ⟨rfl, rfl, rfl⟩ := trodAll_nil r2
  obtain rfl : args = #[v0, v1, v2] := by cases args; simp_all
  obtain ⟨a0, rfl, rfl, rfl, w0⟩ := open_int Try.underlying5 (hval 0 5 v0 rfl rfl) h0
  obtain ⟨a1, rfl, rfl, rfl, w1⟩ := open_int Try.underlying5 (hval 1 5 v1 rfl rfl) h1
  obtain ⟨s2, l2, c2, rfl⟩ := okWide_slice Try.underlying36 (hval 2 36 v2 rfl rfl)
  obtain ⟨zs2, w2⟩ := isInts_of (k := .u8) Try.underlying36 Try.underlying5 (by kernel_rfl) h2
  obtain ⟨n0, rfl, b0⟩ := nat_of_u8 w0
  obtain ⟨n1, rfl, b1⟩ := nat_of_u8 w1
  exact walk W n0 b0 n1 b1 s2 l2 c2 _ (rowI_of w2)

theorem holds : Rows.LiveCountsSaid :=
  OpenClaim.holds_of_wide 6 Try.f6 rfl rfl rfl rfl rfl rfl rfl ⟨rfl, rfl, rfl, rfl, rfl⟩ rfl rfl rfl rfl rfl (by kernel_rfl) Try.func6 (by kernel_rfl)
    (of_decide_eq_true (by kernel_rfl)) (by unfold Func.isWrapper; first | (rw [if_pos (by decide +kernel)]; kernel_rfl) | (rw [if_neg (by decide +kernel)]; exact ⟨rfl, rfl⟩))
    (fun os started H enc _ => lifted os started H enc)
end Go.Proofs.Ytpdpdohkhiplpaa.liveCounts
