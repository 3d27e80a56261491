/- sheet.numbers, sheet.Read. -/
import Derived.Test.YtieekahlknmkfaaShtB
import Derived.Test.YtieekahlknmkfaaGet
import Derived.Test.YtieekahlknmkfaaRowV
namespace Go.Proofs.Ytieekahlknmkfaa
open Go.RowKit Go.Shelf
set_option linter.unusedVariables false
attribute [local go_sem] Oper.semAt_some wide_fn wide_round_fn

/-- At most n numbers that stand in l, one behind the other. -/
def nums : Nat → List UInt8 → List Nat
  | 0, _ => []
  | n + 1, l => if (getL l).2.2 = 0 then (getL l).1 :: nums n (l.drop (getL l).2.1) else []
theorem nums_len : ∀ (n : Nat) (l : List UInt8), (nums n l).length ≤ n
  | 0, _ => Nat.le_refl _
  | n + 1, l => by
    unfold nums
    split
    · have := nums_len n (l.drop (getL l).2.1)
      rw [List.length_cons]; omega
    · exact Nat.zero_le _
theorem nums_bd : ∀ (n : Nat) (l : List UInt8), ∀ x ∈ nums n l, x < 9223372036854775808
  | 0, _, _, h => by cases h
  | n + 1, l, x, h => by
    unfold nums at h
    split at h
    · rcases List.mem_cons.1 h with rfl | h
      · exact (getL_bound l).1
      · exact nums_bd n _ x h
    · cases h
theorem drop_ba (L : ByteArray) (k : Nat) : (L.extract k L.size).data.toList = L.data.toList.drop k := by
  simp only [ByteArray.data_extract, Array.toList_extract, List.extract_eq_take_drop]
  rw [List.take_of_length_le]
  rw [List.length_drop, Array.length_toList]
  exact Nat.le_refl _
set_option maxRecDepth 100000 in
set_option maxHeartbeats 2000000 in
theorem numbers_iter (Bs Bn n : Nat) (s : ByteArray) (hs : s.size < 9223372036854775808) (hn : n < 9223372036854775808) (S : Nat → Prop) (hS : S Bs) (hSn : S Bn) (w0 : World) (hBs : w0.cell? ⟨Bs, 0, none⟩ = some (.string s)) (hBn : w0.cell? ⟨Bn, 0, none⟩ = some (.int .i64 n)) :
    Iter Try.prog 86 #[.pointer (some ⟨Bs, 0, none⟩), .pointer (some ⟨Bn, 0, none⟩)] (fun x : Nat => #[.int .i64 x]) (nums n s.data.toList) S (fun _ => False) w0 := by
  intro l J Jx W hW hJs _ hY h0
  have hcs0 := hW.cell hBs hS
  have hcn0 := hW.cell hBn hSn
  refine callsIn_of_wp Try.func86 rfl trivial ?_ rfl
  simp only [Try.ntmps86, List.size_toArray, List.length_cons, List.length_nil, Nat.reduceAdd, Nat.reduceSub, Array.replicate_succ, Array.replicate_zero, List.push_toArray, List.append_toArray, List.nil_append, List.cons_append]
  gi_wp2
  gi_loopw [4, 10] (fun sl si wr => ∃ (pre : List Nat) (k : Nat) (L : ByteArray), k ≤ n ∧ si = .int .i64 k ∧ sl = .string L ∧ L.size < 9223372036854775808 ∧ nums n s.data.toList = pre ++ nums (n - k) L.data.toList ∧ J pre wr ∧ Rd W.heap.size S W wr) (fun _ si _ => n - (intOf si).toNat)
  case atStart => exact ⟨[], 0, s, by omega, rfl, rfl, hs, rfl, h0, Rd.refl _ _ _⟩
  case round =>
    obtain ⟨pre, k, L, hk, rfl, rfl, hLs, hX, hJ, hR⟩ := hrel
    have HX := Lib.hid hX
    clear hX
    by_cases hlt : k < n
    · have hki : (k : Int) < (n : Int) := by omega
      obtain ⟨j, hj⟩ : ∃ j, n - k = j + 1 := ⟨n - k - 1, by omega⟩
      obtain ⟨b1, b2, b3, b4⟩ := getL_bound L.data.toList
      have GG := Lib.hid (fun W => get_any L hLs W)
      have hl3 : L.data.toList.length = L.size := by rw [Array.length_toList]; rfl
      rw [hl3] at b3
      have HDr := Lib.hid (drop_ba L (getL L.data.toList).2.1)
      have hexs : (L.extract (getL L.data.toList).2.1 L.size).size < 9223372036854775808 := by rw [ByteArray.size_extract]; omega
      by_cases he : (getL L.data.toList).2.2 = 0
      · have HX2 := Lib.hid (show nums n s.data.toList = pre ++ ((getL L.data.toList).1 :: nums j (L.data.toList.drop (getL L.data.toList).2.1)) by
          rw [HX.out, hj]
          show pre ++ (if (getL L.data.toList).2.2 = 0 then _ else _) = _
          rw [if_pos he])
        have HJj := Lib.hid (show n - (k + 1) = j by omega)
        have hb3 : ((getL L.data.toList).2.1 : Int) ≤ (L.size : Int) := by omega
        rw [he] at GG
        generalize (getL L.data.toList).1 = x at *
        generalize (getL L.data.toList).2.1 = m at *
        clear he hl3 b4 HX
        gi_wp2_with (gi_at_call 73; refine (callsIn_wide.2 (GG.out _)).mono ?_; rintro e w4 ⟨rfl, hB⟩; have hRR := hR.trans (Rd.below hB); have hJJ := hJs _ _ _ hJ (Moves.below hB); obtain ⟨fn, tmps, assign, body, hy, hR1⟩ := hY _ _ _ w4 HX2.out hJJ)
        refine (roundIn_wide_n hR1).mono ?_
        rintro e W3 (⟨rfl, hJ3, hk3⟩ | ⟨rfl, hJx3⟩)
        · gi_wp2
          go_roundw
          case rel => exact ⟨pre ++ [x], k + 1, L.extract m L.size, by omega, by go_num, rfl, hexs, by rw [HX2.out, HDr.out, HJj.out]; simp, hJ3, hRR.trans hk3⟩
          case measure => simp [intOf]; omega
        · gi_wp2
          refine bodyPost_ret (results_none rfl _ _ _) rfl ?_
          exact ⟨⟨_, rfl⟩, .inr ⟨_, _, _, HX2.out, hJx3⟩⟩
      · have HX2 := Lib.hid (show nums n s.data.toList = pre by
          rw [HX.out, hj]
          show pre ++ (if (getL L.data.toList).2.2 = 0 then _ else _) = _
          rw [if_neg he, List.append_nil])
        have hei : ((getL L.data.toList).2.2 : Int) ≠ 0 := by omega
        generalize (getL L.data.toList).1 = x at *
        generalize (getL L.data.toList).2.1 = m at *
        generalize (getL L.data.toList).2.2 = er at *
        clear he hl3
        gi_wp2_with (gi_at_call 73; refine (callsIn_wide.2 (GG.out _)).mono ?_; rintro e w4 ⟨rfl, hB⟩; have hJJ := hJs _ _ _ hJ (Moves.below hB))
        refine bodyPost_ret (results_none rfl _ _ _) rfl ?_
        exact ⟨⟨_, rfl⟩, .inl (by rw [HX2.out]; exact hJJ)⟩
    · obtain rfl : k = n := by omega
      have HX2 := Lib.hid (show nums k s.data.toList = pre by rw [HX.out, Nat.sub_self]; exact List.append_nil _)
      gi_wp2
      refine bodyPost_end (results_none rfl _ _ _) rfl ?_
      exact ⟨⟨_, rfl⟩, .inl (by rw [HX2.out]; exact hJ)⟩
theorem numbers_makes (s : ByteArray) (n : Nat) (hs : s.size < 9223372036854775808) (hn : n < 9223372036854775808) (w : World) : Makes Try.prog 74 #[.string s, .int .i64 n] w 86 (fun x : Nat => #[.int .i64 x]) (nums n s.data.toList) := by
  unfold Makes
  go_enter Try.func74, Try.ntmps74
  go_wp2
  go_ret
  have b1 := (Boxed.new w 9 (.string s)).alloc (.cells #[.int .i64 n] 3)
  have b2 := Boxed.new (w.alloc (.cells #[.string s] 9)) 3 (.int .i64 n)
  rw [World.size_alloc] at b2
  exact ⟨_, rfl, bel_alloc (bel_alloc (Below.refl _ _) _) _, numbers_iter _ _ n s hs hn _ ⟨Nat.le_refl _, by simp; omega⟩ ⟨by omega, by simp⟩ _ b1.cell b2.cell⟩

/-- What a sheet's bytes tell: the numbers; whether it is one. -/
def rdG (s : ByteArray) : Nat × Nat × Nat := getL (s.data.toList.drop 4)
def rdL (s : ByteArray) : List Int := (nums (rdG s).1 (s.data.toList.drop (4 + (rdG s).2.1))).map Int.ofNat
def rdHead (s : ByteArray) : Bool := decide (4 ≤ s.size) && decide ((rdG s).2.2 = 0) && decide ((rdG s).1 ≤ 200)
def rdOk (s : ByteArray) : Bool := rdHead s && shB (rdL s) && decide (shY (rdL s) = s)
def ReadPostS (w : World) (s : ByteArray) (e : Ending) (w' : World) : Prop := ∃ v, e = .returned (.tuple #[v, .int .i64 (if rdOk s then 0 else 21)]) ∧ w'.ownsRow w.heap.size 3 1 v (if rdOk s then rdL s else []).length (intsV (if rdOk s then rdL s else [])) ∧ Below w.heap.size w w'
theorem rd_no {w w' : World} {s : ByteArray} (h : rdOk s = false) (hB : Below w.heap.size w w') : ReadPostS w s (.returned (.tuple #[.slice none 0 0, .int .i64 21])) w' := by
  unfold ReadPostS
  rw [h]
  exact ⟨_, rfl, World.ownsRow_nil _ _ _ _, hB⟩
theorem infoIntS : (Try.prog.info? 3).map (fun i => (i.zero, i.size, i.bytes)) = some (some (.int .i64 0), 1, 8) := by kernel_rfl
theorem shRead_head (s : ByteArray) (hs : s.size < 9223372036854775000) (hh : rdHead s = false) (w : World) : Calls Try.prog 44 #[.string s] w (ReadPostS w s) := by
  have hno : rdOk s = false := by unfold rdOk; rw [hh]; rfl
  by_cases h4 : s.size < 4
  · have HE := Lib.hid (fun w' (hB : Below w.heap.size w w') => rd_no hno hB)
    have hi : (s.size : Int) < 4 := by omega
    clear hno hh h4
    go_enter Try.func44, Try.ntmps44
    go_wp2
    go_ret2
    exact HE.out _ (Below.refl _ _)
  · have hi : (4 : Int) ≤ (s.size : Int) := by omega
    have GG := Lib.hid (fun W => get_any (s.extract 4 s.size) (by rw [ByteArray.size_extract]; omega) W)
    have hd : (s.extract 4 s.size).data.toList = s.data.toList.drop 4 := drop_ba s 4
    rw [hd] at GG
    have HE := Lib.hid (fun w' (hB : Below w.heap.size w w') => rd_no hno hB)
    obtain ⟨b1, b2, b3, b4⟩ := getL_bound (s.data.toList.drop 4)
    unfold rdHead rdG at hh
    generalize (getL (s.data.toList.drop 4)).1 = n at *
    generalize (getL (s.data.toList.drop 4)).2.1 = k at *
    generalize (getL (s.data.toList.drop 4)).2.2 = er at *
    by_cases he : er = 0
    · have hn : (200 : Int) < (n : Int) := by
        subst he
        simp at hh
        have := hh (by omega)
        omega
      subst he
      clear hh hno hd h4
      go_enter Try.func44, Try.ntmps44
      go_wp2_with (go_at_call 73; ((with_reducible refine (GG.out _).mono ?_); rintro e w1 ⟨rfl, hB1⟩))
      go_ret2
      exact HE.out _ hB1
    · have hei : (er : Int) ≠ 0 := by omega
      clear hh hno he hd h4
      go_enter Try.func44, Try.ntmps44
      go_wp2_with (go_at_call 73; ((with_reducible refine (GG.out _).mono ?_); rintro e w1 ⟨rfl, hB1⟩))
      go_ret2
      exact HE.out _ hB1

end Go.Proofs.Ytieekahlknmkfaa
