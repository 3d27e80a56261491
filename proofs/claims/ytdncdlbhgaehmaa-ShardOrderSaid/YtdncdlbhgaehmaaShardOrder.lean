/- Law ShardOrder: for every input the call answers true; its arguments read as they did. No condition. -/
import Derived.Test.YtdncdlbhgaehmaaLaw
import Derived.Test.YtdncdlbhgaehmaaKnown18
import Derived.Test.YtdncdlbhgaehmaaShdM
namespace Go.Proofs.Ytdncdlbhgaehmaa.shardOrder
open Go.ChangeShapes Go.WideShapes Go.ChangeAt Go.RowKit Go.Shelf
open Go.ChangeMaps (open_string shut_string)
set_option linter.unusedVariables false
attribute [local go_sem] Oper.semAt_some wide_fn wide_round_fn

def ordX (b i : Nat) (g : Int) : FV := ⟨(i : Int) + 1, some ⟨b, 0, none⟩, 2, 2, [(bq g 2, []), (bq (g + 1) 5, [])], 1, (i : Int)⟩
def ordC (i : Nat) (g : Int) : FC := ⟨(i : Int) + 1, [core (bq g 2, []), core (bq (g + 1) 5, [])], 1, (i : Int)⟩
def ordL (zs : List Int) (q : Nat) : List FC := (List.range q).map fun i => ordC i (zs.getD i 0)
theorem ordL_snoc (zs : List Int) (q : Nat) : ordL zs (q + 1) = ordL zs q ++ [ordC q (zs.getD q 0)] := by simp [ordL, List.range_succ]
theorem ordL_len (zs : List Int) (q : Nat) : (ordL zs q).length = q := by simp [ordL]
theorem ordL_cnt (zs : List Int) : ∀ q, cntC (ordL zs q) = 2 * q
  | 0 => rfl
  | q + 1 => by
    have ih := ordL_cnt zs q
    rw [ordL_snoc]
    unfold cntC at *
    rw [List.map_append, List.sum_append, ih]
    show 2 * q + 2 = _
    omega
theorem ordL_rises (zs : List Int) (q : Nat) : (ordL zs q).Pairwise fun a b => a.q < b.q := by
  unfold ordL
  rw [List.pairwise_map]
  exact (List.pairwise_lt_range).imp fun h => by show (_ : Int) + 1 < _ + 1; omega
theorem ordL_mem {zs : List Int} {q : Nat} {x : FC} (h : x ∈ ordL zs q) : x.t = x.q - 1 ∧ 0 < x.q ∧ x.q ≤ q := by
  obtain ⟨i, hi, rfl⟩ := List.mem_map.1 h
  have := List.mem_range.1 hi
  exact ⟨by show (i : Int) = (i : Int) + 1 - 1; omega, by show (0 : Int) < (i : Int) + 1; omega, by show (i : Int) + 1 ≤ q; omega⟩
theorem news_two18 (w : World) (A : Array Value) (T U : TypeId) (news : List Value) : ∀ j u, news[j]? = some u → ((w.alloc (.cells A T)).alloc (.cells news.toArray U)).cell? ((⟨w.heap.size + 1, 0, none⟩ : Addr).add j) = some u := by
  have h := news_new (w.alloc (.cells A T)) U news
  rwa [World.size_alloc] at h
theorem ord_step {C : Nat} {wr w2 : World} {v v' : Value} {pre : List FV} {y : Int} {q : Nat} (hI : gI C v pre wr) (hC : C ≤ wr.heap.size)
    (hown : w2.ownsRow C 36 4 v' (pre.length + 1) (fvCells pre ++ (ordX wr.heap.size q y).arr.toList))
    (hg : ((wr.alloc (.cells #[.int .i64 y, .int .i64 2, .slice none 0 0, .int .i64 0, .int .i64 0, .int .i64 0, .int .i64 0, .int .i64 0, .bool false, .bool false, .int .i64 (y + 1), .int .i64 5, .slice none 0 0, .int .i64 0, .int .i64 0, .int .i64 0, .int .i64 0, .int .i64 0, .bool false, .bool false] 41)).alloc (.cells #[.int .i64 ((q : Int) + 1), .slice (some ⟨wr.heap.size, 0, none⟩) 2 2, .int .i64 1, .int .i64 (q : Int)] 36)).grownBy w2 v.ownBlock)
    (hn : v'.ownBlock = v.ownBlock ∨ v'.ownBlock = some ((wr.alloc (.cells #[.int .i64 y, .int .i64 2, .slice none 0 0, .int .i64 0, .int .i64 0, .int .i64 0, .int .i64 0, .int .i64 0, .bool false, .bool false, .int .i64 (y + 1), .int .i64 5, .slice none 0 0, .int .i64 0, .int .i64 0, .int .i64 0, .int .i64 0, .int .i64 0, .bool false, .bool false] 41)).alloc (.cells #[.int .i64 ((q : Int) + 1), .slice (some ⟨wr.heap.size, 0, none⟩) 2 2, .int .i64 1, .int .i64 (q : Int)] 36)).heap.size) :
    gI C v' (pre ++ [ordX wr.heap.size q y]) w2 ∧ Below C wr w2 := by
  have hB1 := bel_alloc (Below.refl wr.heap.size wr) (.cells #[.int .i64 y, .int .i64 2, .slice none 0 0, .int .i64 0, .int .i64 0, .int .i64 0, .int .i64 0, .int .i64 0, .bool false, .bool false, .int .i64 (y + 1), .int .i64 5, .slice none 0 0, .int .i64 0, .int .i64 0, .int .i64 0, .int .i64 0, .int .i64 0, .bool false, .bool false] 41)
  have hB2 := bel_alloc hB1 (.cells #[.int .i64 ((q : Int) + 1), .slice (some ⟨wr.heap.size, 0, none⟩) 2 2, .int .i64 1, .int .i64 (q : Int)] 36)
  have hB3 := bel_alloc (Below.refl _ (wr.alloc (.cells #[.int .i64 y, .int .i64 2, .slice none 0 0, .int .i64 0, .int .i64 0, .int .i64 0, .int .i64 0, .int .i64 0, .bool false, .bool false, .int .i64 (y + 1), .int .i64 5, .slice none 0 0, .int .i64 0, .int .i64 0, .int .i64 0, .int .i64 0, .int .i64 0, .bool false, .bool false] 41))) (.cells #[.int .i64 ((q : Int) + 1), .slice (some ⟨wr.heap.size, 0, none⟩) 2 2, .int .i64 1, .int .i64 (q : Int)] 36)
  have hvb : ∀ k, some k = v.ownBlock → C ≤ k ∧ k < wr.heap.size := fun k hk => ⟨(ownBlockL_lt hI.1 hk).2.1, (ownBlockL_lt hI.1 hk).1⟩
  have hp : HasP (wr.alloc (.cells #[.int .i64 y, .int .i64 2, .slice none 0 0, .int .i64 0, .int .i64 0, .int .i64 0, .int .i64 0, .int .i64 0, .bool false, .bool false, .int .i64 (y + 1), .int .i64 5, .slice none 0 0, .int .i64 0, .int .i64 0, .int .i64 0, .int .i64 0, .int .i64 0, .bool false, .bool false] 41)) (some ⟨wr.heap.size, 0, none⟩) 2 [(bq y 2, []), (bq (y + 1) 5, [])] := by
    refine ⟨rfl, by decide, rowV_new wr 41 _ 2 10 rfl (by decide), fun x hx => ?_⟩
    rcases List.mem_cons.1 hx with rfl | hx
    · exact hasE_nil rfl rfl
    · rw [List.mem_singleton.1 hx]; exact hasE_nil rfl rfl
  have hz : ∀ x ∈ (ordX wr.heap.size q y).L, x.1.len = 0 := fun x hx => by
    rcases List.mem_cons.1 hx with rfl | hx
    · rfl
    · rw [List.mem_singleton.1 hx]; rfl
  obtain ⟨h1, h2⟩ := gI_append (x := ordX wr.heap.size q y) (gI_stab (B := wr.heap.size) _ _ hI (Moves.below hB2)) ⟨⟨hp.below hB3, fun k hk => by
      obtain ⟨b, off, e, _, rfl⟩ := hk
      cases e; exact hC, fun x hx k hk => by
      obtain ⟨_, _, _, h0, _⟩ := hk
      rw [hz x hx] at h0; exact absurd h0 (Nat.lt_irrefl _)⟩, fun k hk e => by
      obtain ⟨b, off, e2, _, rfl⟩ := hk
      cases e2; exact absurd (hvb _ e).2 (Nat.lt_irrefl _), fun x hx k hk => by
      obtain ⟨_, _, _, h0, _⟩ := hk
      rw [hz x hx] at h0; exact absurd h0 (Nat.lt_irrefl _)⟩ hown hg hn
  exact ⟨h1, ((FrameT.below hB2).trans h2).toBelow hC fun k hk => (hvb k hk).1⟩
theorem ord_found {C : Nat} {W : World} {a : Option Addr} {pre : List FV} {zs : List Int} (h : FNew C W a pre.length pre) (hp : pre.map fcore = ordL zs pre.length) (hz : ∀ i, 0 ≤ zs.getD i 0 ∧ zs.getD i 0 < 256) : FoundsAt W a pre.length pre := by
  refine ⟨rfl, h.2.1, h.2.2.1, fun x hx => ⟨(h.2.2.2.2 x hx).1, fun y hy => ?_⟩⟩
  have h1 : fcore x ∈ ordL zs pre.length := hp ▸ List.mem_map_of_mem hx
  obtain ⟨i, _, e⟩ := List.mem_map.1 h1
  have e2 : x.L.map core = [core (bq (zs.getD i 0) 2, []), core (bq (zs.getD i 0 + 1) 5, [])] := (congrArg FC.ps e).symm
  have h2 : core y ∈ x.L.map core := List.mem_map_of_mem hy
  rw [e2] at h2
  have hb := hz i
  have hg : y.1.g = zs.getD i 0 ∨ y.1.g = zs.getD i 0 + 1 := by
    rcases List.mem_cons.1 h2 with h | h
    · exact .inl (congrArg ReadC.g h)
    · exact .inr (congrArg ReadC.g (List.mem_singleton.1 h))
  omega
theorem cnt_take {l : List FC} {j : Nat} (h : j < l.length) : cntC (l.take (j + 1)) = cntC (l.take j) + l[j].ps.length := by
  unfold cntC
  rw [List.take_succ_eq_append_getElem h, List.map_append, List.sum_append]
  simp
/-- What is read of a shard's records. -/
theorem sh_row {C : Nat} {W : World} {n : Int} {Fs : List FC} {Sh : List SV} {zs : List Int} {q : Nat} (hFs : Fs = ordL zs q) (hd : shDone C n Fs Sh W) {i : Nat} (hi : i < Sh.length) {j : Nat} (hj : j < Sh[i].L.length) :
    0 < Sh[i].L[j].q ∧ Sh[i].L[j].q ≤ q ∧ Sh[i].L[j].t = Sh[i].L[j].q - 1 ∧ (∀ (h : 0 < j), (Sh[i].L[j - 1]'(by omega)).q < Sh[i].L[j].q) ∧ cntC ((splitC (i : Int) n Fs).take (j + 1)) = cntC ((splitC (i : Int) n Fs).take j) + Sh[i].L[j].len := by
  obtain ⟨h1, h2, h3⟩ := hd i hi
  have hlen : (splitC (i : Int) n Fs).length = Sh[i].L.length := by rw [← h3, List.length_map]
  have get : ∀ (m : Nat) (hm : m < Sh[i].L.length), (splitC (i : Int) n Fs)[m]'(by omega) = fcore Sh[i].L[m] := fun m hm => by simp only [← h3, List.getElem_map]
  have hmem : fcore Sh[i].L[j] ∈ splitC (i : Int) n Fs := h3 ▸ List.mem_map_of_mem (List.getElem_mem hj)
  obtain ⟨y, hy, e1, e2, _⟩ := split_mem hmem
  subst hFs
  obtain ⟨m1, m2, m3⟩ := ordL_mem hy
  refine ⟨by show 0 < (fcore Sh[i].L[j]).q; omega, by show (fcore Sh[i].L[j]).q ≤ q; omega, by show (fcore Sh[i].L[j]).t = (fcore Sh[i].L[j]).q - 1; omega, fun h => ?_, ?_⟩
  · have hp := List.pairwise_iff_getElem.1 (split_rises (s := (i : Int)) (n := n) (ordL_rises zs q)) (j - 1) j (by omega) (by omega) (by omega)
    rw [get (j - 1) (by omega), get j hj] at hp
    exact hp
  · rw [cnt_take (by omega), get j hj]
    have hpl := (h1.2.2.2.2 _ (List.getElem_mem hj)).1.1
    show _ + (Sh[i].L[j].L.map core).length = _
    rw [List.length_map, hpl]
set_option maxRecDepth 100000 in
set_option maxHeartbeats 4000000 in
theorem walk (w : World) (oa : Option Addr) (len cap : Nat) (zs : List Int) (hz : RowI .u8 w oa len zs) (n : Nat) (hn : n < 256) :
    Calls Try.prog 6 #[.slice oa len cap, .int .u8 n] w fun e w' => e = .returned (.bool true) ∧ Below w.heap.size w w' := by
  obtain ⟨i0, hi, hz0, hz1, hz2⟩ := info_parts infoFoundS
  obtain ⟨rfl, hml, hwz, hcz⟩ := hz
  unfold maxLen at hml
  have GK := Lib.hid known18_any
  by_cases h60 : 60 < zs.length
  · go_enter Try.func6, Try.ntmps6
    go_wp2_with (go_at_call 10; ((with_reducible refine (GK.out _).mono ?_); rintro e w1 ⟨rfl, hB1⟩))
    go_ret
    exact ⟨rfl, hB1⟩
  have h60' : zs.length ≤ 60 := by omega
  clear h60
  have hzb : ∀ i, 0 ≤ zs.getD i 0 ∧ zs.getD i 0 < 256 := fun i => by
    by_cases h : i < zs.length
    · obtain ⟨y, hy, hy3⟩ := nat_of_u8 (hwz zs[i] (List.getElem_mem h))
      rw [List.getD_eq_getElem?_getD, List.getElem?_eq_getElem h, Option.getD_some, hy]; omega
    · rw [List.getD_eq_getElem?_getD, List.getElem?_eq_none (by omega)]; exact ⟨Int.le_refl _, by show (0 : Int) < 256; decide⟩
  have HZB := Lib.hid hzb
  obtain ⟨p, hp, hp1⟩ : ∃ p : Nat, (n : Int) % 64 = (p : Int) ∧ p < 64 := ⟨n % 64, by omega, by omega⟩
  have hhe : heldI ((p : Int) + 1) = ((p + 1 : Nat) : Int) := by unfold heldI; split <;> (try split) <;> omega
  have HHE := Lib.hid hhe
  clear hhe hzb
  go_enter Try.func6, Try.ntmps6
  go_wp2_with (go_at_call 10; ((with_reducible refine (GK.out _).mono ?_); rintro e w1 ⟨rfl, hB1⟩))
  go_loopw [5, 6] (fun v i wr => ∃ (q : Nat) (pre : List FV), q ≤ zs.length ∧ i = .int .i64 q ∧ gI w.heap.size v pre wr ∧ pre.map fcore = ordL zs q ∧ Below w.heap.size w wr) (fun _ i _ => zs.length - (intOf i).toNat)
  case atStart => exact ⟨0, [], by omega, rfl, gI_nil _ _, rfl, hB1⟩
  case round =>
    obtain ⟨q, pre, hq, rfl, hI, hpre, hB⟩ := hrel
    have hpl : pre.length = q := by have := congrArg List.length hpre; rw [List.length_map, ordL_len] at this; exact this
    have HPL := Lib.hid hpl
    have HPRE := Lib.hid hpre
    clear hpre hpl
    by_cases hlt : q < zs.length
    · obtain ⟨bb, off, rfl, hbb, hc⟩ := hcz (by omega)
      have hck := (hB.cell (p := ⟨bb, off + q, none⟩) hbb).trans (hc q hlt)
      obtain ⟨y, hy, hy3⟩ := nat_of_u8 (hwz zs[q] (List.getElem_mem _))
      rw [hy] at hck
      have HG := Lib.hid (show zs.getD q 0 = (y : Int) by rw [List.getD_eq_getElem?_getD, List.getElem?_eq_getElem hlt, Option.getD_some]; exact hy)
      have hown := (hI.1.alloc (.cells #[.int .i64 (y : Int), .int .i64 2, .slice none 0 0, .int .i64 0, .int .i64 0, .int .i64 0, .int .i64 0, .int .i64 0, .bool false, .bool false, .int .i64 ((y : Int) + 1), .int .i64 5, .slice none 0 0, .int .i64 0, .int .i64 0, .int .i64 0, .int .i64 0, .int .i64 0, .bool false, .bool false] 41)).alloc (.cells #[.int .i64 ((q : Int) + 1), .slice (some ⟨wr.heap.size, 0, none⟩) 2 2, .int .i64 1, .int .i64 (q : Int)] 36)
      have HI := Lib.hid hI
      have HOW := Lib.hid hown
      clear hy hc hI hown
      go_wp2_with (at_builtin; refine wpList_append_own_at _ rfl _ _ 22 rfl w.heap.size 36 i0 (.agg #[.int .i64 0, .slice none 0 0, .int .i64 0, .int .i64 0]) 4 48 Try.underlying22 hi hz0 hz1 hz2 rfl (by decide) _ _ _ rfl HOW.out ⟨wr.heap.size + 1, 0, none⟩ 1 1 [.int .i64 ((q : Int) + 1), .slice (some ⟨wr.heap.size, 0, none⟩) 2 2, .int .i64 1, .int .i64 (q : Int)] rfl rfl (news_two18 _ _ _ _ _) (by simp [Value.oneCell']) (by have := HPL.out; unfold maxLen; omega) (by have := HPL.out; omega) (by have := hB.size; simp; omega) ?_; intro v' w2 hown' hgrow _ hnw)
      obtain ⟨hI', hB'⟩ := ord_step (q := q) (y := (y : Int)) HI.out hB.size hown' hgrow hnw
      exact ⟨⟨q + 1, pre ++ [ordX wr.heap.size q y], by omega, by go_num, hI', by rw [List.map_append, HPRE.out, ordL_snoc, HG.out]; rfl, hB.trans hB'⟩, by simp [intOf]; omega⟩
    · obtain rfl : q = zs.length := by omega
      obtain ⟨la, lc, rfl, _, hN⟩ := hI.out (by have := HPL.out; omega)
      have hFA := ord_found hN (by rw [HPL.out]; exact HPRE.out) HZB.out
      have GSp := Lib.hid (show Calls Try.prog 12 #[.slice la pre.length lc, .int .i64 ((p : Int) + 1)] wr (SplitPost ((p : Int) + 1) (ordL zs zs.length) wr) from by
        have := split_any ((p : Int) + 1) la pre.length lc pre wr hFA
        rwa [HPRE.out] at this)
      have HB := Lib.hid hB
      clear hcz hwz hN hFA hI hB hB1
      go_wp2_with (go_at_call 12; ((with_reducible refine GSp.out.mono ?_); rintro e ws ⟨R, Sh, rfl, hl, hR, hRb, hd, hB3⟩; have HL := Lib.hid hl; have HR := Lib.hid hR; have HD := Lib.hid hd; have HB3 := Lib.hid (bel2 HB.out hB3); clear hl hR hRb hd hB3))
      have hKl : Sh.length = p + 1 := by have := HL.out; rw [HHE.out] at this; omega
      have HKL := Lib.hid hKl
      obtain ⟨f, hf⟩ : ∃ f : Nat → Nat, f = fun s : Nat => cntC (splitC (s : Int) ((p : Int) + 1) (ordL zs zs.length)) := ⟨_, rfl⟩
      have HTOT := Lib.hid (show shSum f Sh.length = 2 * zs.length from by rw [hf, hKl, split_sum HHE.out, ordL_cnt])
      have HF := Lib.hid (fun i => congrFun hf i)
      have hL64 : Sh.length ≤ 64 := by omega
      have HSR := Lib.hid (fun i (hi : i < Sh.length) j (hj : j < Sh[i].L.length) => sh_row (q := zs.length) rfl HD.out hi hj)
      have HCE := Lib.hid (fun i (hi : i < Sh.length) W (hW : Below ws.heap.size ws W) => (hW.cell (p := ⟨R, i, none⟩) (heap_lt HR.out)).trans (shRow_at HR.out hi))
      have HCF := Lib.hid (fun i (hi : i < Sh.length) j (hj : j < Sh[i].L.length) W (hW : Below ws.heap.size ws W) => fnew_at (HD.out i hi).1 hW hj)
      have HLN := Lib.hid (fun i (hi : i < Sh.length) => (show (splitC (i : Int) ((p : Int) + 1) (ordL zs zs.length)).length = Sh[i].L.length ∧ Sh[i].L.length < 1000000 from ⟨by rw [← (HD.out i hi).2.2, List.length_map], (HD.out i hi).1.2.1⟩))
      clear hf hKl HL
      go_loopw [10, 11] (fun c i wr => ∃ k t : Nat, k ≤ Sh.length ∧ t = shSum f k ∧ i = .int .i64 k ∧ c = .int .i64 (t : Int) ∧ Below ws.heap.size ws wr) (fun _ i _ => Sh.length - (intOf i).toNat)
      case atStart => exact ⟨0, 0, Nat.zero_le _, rfl, rfl, rfl, Below.refl _ _⟩
      case round =>
        obtain ⟨k, t, hk, ht, rfl, rfl, hB⟩ := hrel
        have HT := Lib.hid ht
        clear ht
        by_cases hlt : k < Sh.length
        · have hlt' : (k : Int) < (Sh.length : Int) := by omega
          have hle : shSum f k + f k ≤ 2 * zs.length := by rw [← HTOT.out]; exact shSum_le (k := k + 1) (by omega)
          obtain ⟨sa, sc, sL, hS, hX, hY, hN⟩ : ∃ (sa : Option Addr) (sc : Nat) (sL : List FV), (∀ W, Below ws.heap.size ws W → W.cell? ⟨R, k, none⟩ = some (.slice sa sL.length sc)) ∧
              (∀ (j : Nat) (hj : j < sL.length), 0 < sL[j].q ∧ sL[j].q ≤ zs.length ∧ sL[j].t = sL[j].q - 1 ∧ (∀ (h : 0 < j), (sL[j - 1]'(by omega)).q < sL[j].q) ∧ cntC ((splitC (k : Int) ((p : Int) + 1) (ordL zs zs.length)).take (j + 1)) = cntC ((splitC (k : Int) ((p : Int) + 1) (ordL zs zs.length)).take j) + sL[j].len) ∧
              (∀ (j : Nat) (hj : j < sL.length) (W : World), Below ws.heap.size ws W → ∃ b off, sa = some ⟨b, off, none⟩ ∧ b < ws.heap.size ∧ W.cell? ⟨b, off + j * 4, none⟩ = some (.int .i64 sL[j].q) ∧ W.cell? ⟨b, off + j * 4 + 1, none⟩ = some (.slice sL[j].a sL[j].len sL[j].cap) ∧ W.cell? ⟨b, off + j * 4 + 2, none⟩ = some (.int .i64 sL[j].s) ∧ W.cell? ⟨b, off + j * 4 + 3, none⟩ = some (.int .i64 sL[j].t)) ∧
              ((splitC (k : Int) ((p : Int) + 1) (ordL zs zs.length)).length = sL.length ∧ sL.length < 1000000) := ⟨Sh[k].a, Sh[k].c, Sh[k].L, HCE.out k hlt, HSR.out k hlt, HCF.out k hlt, HLN.out k hlt⟩
          obtain ⟨G, hG⟩ : ∃ G : Nat → Nat, G = fun j => cntC ((splitC (k : Int) ((p : Int) + 1) (ordL zs zs.length)).take j) := ⟨_, rfl⟩
          have HG0 := Lib.hid (show G 0 = 0 from by rw [hG]; rfl)
          have HGn := Lib.hid (show G sL.length = f k from by rw [hG, HF.out k]; show cntC (List.take _ _) = _; rw [List.take_of_length_le (by rw [hN.1]; exact Nat.le_refl _)])
          have HGl := Lib.hid (fun j => (show G j ≤ f k from by rw [hG, HF.out k]; exact cnt_take_le _ j))
          have HX := Lib.hid (fun j (hj : j < sL.length) => (show sL[j].q ≤ zs.length ∧ 0 < sL[j].q ∧ sL[j].t = sL[j].q - 1 ∧ (∀ (h : 0 < j), (sL[j - 1]'(by omega)).q < sL[j].q) ∧ G (j + 1) = G j + sL[j].len from by
            obtain ⟨q1, q2, q3, q4, q5⟩ := hX j hj
            exact ⟨q2, q1, q3, q4, by rw [hG]; exact q5⟩))
          have HS := Lib.hid hS
          have HY := Lib.hid hY
          have hsl := hN.2
          have HLE := Lib.hid hle
          clear hG hS hX hY hN hle
          obtain ⟨wo, rfl⟩ : ∃ wo : World, wo = wr := ⟨_, rfl⟩
          go_wp2
          go_loopw [10, 12] (fun c j wr => ∃ m u : Nat, m ≤ sL.length ∧ u = t + G m ∧ j = .int .i64 m ∧ c = .int .i64 (u : Int) ∧ Below ws.heap.size ws wr) (fun _ j _ => sL.length - (intOf j).toNat)
          case atStart => exact ⟨0, t, Nat.zero_le _, by rw [HG0.out]; rfl, rfl, rfl, hB⟩
          case round =>
            clear hB
            obtain ⟨m, u, hm, hu, rfl, rfl, hB⟩ := hrel
            have HU := Lib.hid hu
            clear hu
            have kS := HS.out wr hB
            by_cases hmt : m < sL.length
            · have hmt' : (m : Int) < (sL.length : Int) := by omega
              obtain ⟨q1, q2, q3, q4, q5⟩ := HX.out m hmt
              have hgl := HGl.out (m + 1)
              have hle := HLE.out
              have hT := HT.out
              have hU := HU.out
              obtain ⟨b, off, hsa, hb, c0, c1, c2, c3⟩ := HY.out m hmt wr hB
              obtain ⟨u', hu'⟩ : ∃ u' : Nat, u' = u + sL[m].len := ⟨_, rfl⟩
              have hw : IntKind.i64.wrap ((u : Int) + (sL[m].len : Int)) = (u' : Int) := (IntWalk.i64_in _ (by omega)).trans (by omega)
              have HU2 := Lib.hid (show u' = t + G (m + 1) by omega)
              have hwq : IntKind.i64.wrap (sL[m].q - 1) = sL[m].q - 1 := IntWalk.i64_in _ (by omega)
              have HN := Lib.hid (fun W (hW : Below wr.heap.size wr W) => And.intro (HS.out W (bel2 hB hW)) (HY.out m hmt W (bel2 hB hW)))
              cases m with
              | zero =>
                subst hsa
                simp only [Nat.zero_mul, Nat.add_zero] at c0 c1 c2 c3
                generalize sL[0] = x at *
                obtain ⟨xq, xa, xlen, xcap, xL, xs, xt⟩ := x
                dsimp only at *
                subst q3
                clear q4 q5 hgl hle hT hU hu'
                have kB := (HN.out _ (bel_alloc (Below.refl wr.heap.size wr) (.cells #[.int .i64 xq, .slice xa xlen xcap, .int .i64 xs, .int .i64 (xq - 1)] 36))).1
                go_wp2
                go_quiet (fail)
                go_wp2
                exact ⟨⟨1, u', by omega, HU2.out, rfl, rfl, below_drewN (bel_alloc hB _) _⟩, by simp [intOf]; omega⟩
              | succ m =>
                subst hsa
                have q4' := q4 (Nat.succ_pos m)
                simp only [Nat.add_sub_cancel] at q4'
                have hm1 : m < sL.length := by omega
                have HM := Lib.hid (fun W (hW : Below wr.heap.size wr W) => HY.out m hm1 W (bel2 hB hW))
                generalize sL[m + 1] = x at *
                generalize sL[m] = y at *
                obtain ⟨xq, xa, xlen, xcap, xL, xs, xt⟩ := x
                obtain ⟨yq, ya, ylen, ycap, yL, ys, yt⟩ := y
                dsimp only at *
                subst q3
                clear q4 q5 hgl hle hT hU hu'
                have hBx := bel_alloc (Below.refl wr.heap.size wr) (.cells #[.int .i64 xq, .slice xa xlen xcap, .int .i64 xs, .int .i64 (xq - 1)] 36)
                have kB := (HN.out _ hBx).1
                obtain ⟨b', off', hsb, _, d0, d1, d2, d3⟩ := HM.out _ hBx
                cases hsb
                have hwm : IntKind.i64.wrap (((m + 1 : Nat) : Int) - 1) = (m : Int) := (IntWalk.i64_in _ (by omega)).trans (by push_cast; omega)
                have hge : decide (xq ≤ yq) = false := decide_eq_false (by omega)
                have hm2 : (m : Int) < (sL.length : Int) := by omega
                have hmp : (0 : Int) < ((m + 1 : Nat) : Int) := by omega
                go_wp2
                go_quiet (fail)
                go_wp2
                exact ⟨⟨m + 1 + 1, u', by omega, HU2.out, by go_num, rfl, below_drewN (bel_alloc hB _) _⟩, by simp [intOf]; omega⟩
            · obtain rfl : m = sL.length := by omega
              have HV := Lib.hid (show u = shSum f (k + 1) from by have h1 := HU.out; have h2 := HT.out; have h3 := HGn.out; rw [shSum]; omega)
              go_wp2
              exact ⟨⟨k + 1, u, by omega, HV.out, by go_num, rfl, hB⟩, by simp [intOf]; omega⟩
        · obtain rfl : k = Sh.length := by omega
          have hT : (t : Int) = 2 * (zs.length : Int) := by have h1 := HT.out; have h2 := HTOT.out; omega
          have hS : (Sh.length : Int) = (p : Int) + 1 := by have h1 := HKL.out; omega
          have hw : IntKind.i64.wrap (2 * (zs.length : Int)) = 2 * (zs.length : Int) := IntWalk.i64_in _ (by omega)
          have HE := Lib.hid (bel2 HB3.out hB)
          clear hB
          go_wp2
          go_ret
          exact ⟨by simp, HE.out⟩

set_option maxRecDepth 100000 in
theorem lifted (os : Os) (started : os.Started) (H : Type) (enc : TypeId × Value → H) :
    ReturnsInHanded {} Try.checked os 6 .any (Rows.shardOrderSpec.pre6 enc Try.prog Try.f6 Rows.shardOrderRow.domain false) (Rows.shardOrderSpec.post enc Try.prog Try.f6 false true false false) := by
  refine returnsInHanded_of_change (C := Try.checked) Try.own started (by kernel_rfl) Try.func6
    (ChangeSpec.witness6 (enc := enc) (C := Try.checked) false ⟨#[], #[.slice none 0 0, .int .u8 0], []⟩ 8 (by kernel_rfl) (by kernel_rfl) (by kernel_rfl) (by kernel_rfl)) ?_
  intro W base args ds gs before hval hW _ _
  refine law_contract (T := 4) (n := 2) Try.laid Try.underlying4 rfl rfl ⟨rfl, fun H ds h => by match ds, h with | [_, _], _ => rfl⟩ (of_all (by kernel_rfl)) hW ?_
  intro ps hA
  rw [Try.params6] at hA hval
  obtain ⟨v0, vs0, d0, ds0, p0, q0, hargs, rfl, rfl, h0, r0⟩ := trodAll_cons hA
  obtain ⟨v1, vs1, d1, ds1, p1, q1, rfl, rfl, rfl, h1, r1⟩ := trodAll_cons r0
  obtain ⟨rfl, rfl, rfl⟩ := trodAll_nil r1
  obtain rfl : args = #[v0, v1] := by cases args; simp_all
  obtain ⟨s0, l0, c0, rfl⟩ := okWide_slice Try.underlying45 (hval 0 45 v0 rfl rfl)
  obtain ⟨zs0, w0⟩ := isInts_of (k := .u8) Try.underlying45 Try.underlying5 (by kernel_rfl) h0
  obtain ⟨a1, rfl, rfl, rfl, w1⟩ := open_int Try.underlying5 (hval 1 5 v1 rfl rfl) h1
  obtain ⟨n1, rfl, b1⟩ := nat_of_u8 w1
  exact walk W s0 l0 c0 _ (rowI_of w0) n1 b1

theorem holds : Rows.ShardOrderSaid :=
  OpenClaim.holds_of_wide 6 Try.f6 rfl rfl rfl rfl rfl rfl rfl ⟨rfl, rfl, rfl, rfl, rfl⟩ rfl rfl rfl rfl rfl (by kernel_rfl) Try.func6 (by kernel_rfl)
    (of_decide_eq_true (by kernel_rfl)) (by unfold Func.isWrapper; first | (rw [if_pos (by decide +kernel)]; kernel_rfl) | (rw [if_neg (by decide +kernel)]; exact ⟨rfl, rfl⟩))
    (fun os started H enc _ => lifted os started H enc)
end Go.Proofs.Ytdncdlbhgaehmaa.shardOrder
