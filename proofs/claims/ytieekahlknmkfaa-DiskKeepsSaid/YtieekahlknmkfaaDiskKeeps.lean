/- Law DiskKeeps: for every input the call answers true; its arguments read as they did. No condition. -/
import Derived.Test.YtieekahlknmkfaaLaw
import Derived.Test.YtieekahlknmkfaaDskZ
import Derived.Test.YtieekahlknmkfaaReads
namespace Go.Proofs.Ytieekahlknmkfaa.diskKeeps
open Go.ChangeShapes Go.WideShapes Go.ChangeAt Go.RowKit Go.Shelf
open Go.ChangeMaps (open_string shut_string)
set_option linter.unusedVariables false
attribute [local go_sem] Oper.semAt_some wide_fn wide_round_fn

def kpS (l : List UInt8) (j st : Nat) : PD := ⟨[⟨⟨#[102]⟩, l, j⟩], 100000, st, false, 0⟩
theorem fitK (l : List UInt8) (j st : Nat) (hl : l.length ≤ 5000) (hs : st ≤ 50) : Fit (kpS l j st) 60 := fits (by show (100000 : Nat) ≤ _; decide) (by show usedL [_] ≤ _; rw [used1]; omega) (by show 1 ≤ 1000; decide) (by show st ≤ 60; omega) (by show (0 : Nat) < _; decide)
theorem kp_ask (l : List UInt8) (j st : Nat) : askE (kpS l j st) ⟨#[102]⟩ = 0 := by kernel_rfl
theorem kp_app (a : ByteArray) (j st : Nat) (s : ByteArray) (ha : a.size ≤ 5000) (hs : s.size ≤ 100) : appendE (kpS a.data.toList j st) ⟨#[102]⟩ s = 0 ∧ appendD (kpS a.data.toList j st) ⟨#[102]⟩ s = kpS (a ++ s).data.toList j (st + 1) := by
  have h0 : appendE (kpS a.data.toList j st) ⟨#[102]⟩ s = 0 := by
    unfold appendE
    rw [if_neg (by rw [kp_ask]; simp), if_neg (by show ¬ 100000 < usedL [_] + s.size; rw [used1, len_id8]; omega)]
  refine ⟨h0, ?_⟩
  unfold appendD
  rw [if_pos h0]
  show (⟨[⟨⟨#[102]⟩, a.data.toList ++ s.data.toList, j⟩], 100000, st + 1, false, 0⟩ : PD) = _
  unfold kpS
  rw [ByteArray.data_append, Array.toList_append]
theorem kp_sync (a : ByteArray) (j st : Nat) : askE (kpS a.data.toList j st) ⟨#[102]⟩ = 0 ∧ syncD (kpS a.data.toList j st) ⟨#[102]⟩ = kpS a.data.toList a.size (st + 1) := by
  refine ⟨kp_ask _ _ _, ?_⟩
  unfold syncD
  rw [if_pos (kp_ask _ _ _)]
  show (⟨[⟨⟨#[102]⟩, a.data.toList, a.data.toList.length⟩], 100000, st + 1, false, 0⟩ : PD) = _
  rw [len_id8]; rfl
/-- How much of T stays. -/
def kpN (n m keep : Nat) : Nat := n + (m - n) * (keep % 256) / 255
theorem kp_crash (T : ByteArray) (j st keep : Nat) : crashD (kpS T.data.toList j st) keep = kpS (T.data.toList.take (kpN j T.size keep)) (kpN j T.size keep) st := by
  show (⟨[crP keep 0 ⟨⟨#[102]⟩, T.data.toList, j⟩], 100000, st, false, 0⟩ : PD) = _
  unfold crP kpS kpN share
  dsimp only
  rw [len_id8, show keep / 2 ^ (8 * (0 % 8)) % 256 = keep % 256 by simp]
theorem kp_read (T : ByteArray) (n j st : Nat) : readB (kpS (T.data.toList.take n) j st) ⟨#[102]⟩ = T.extract 0 n ∧ askE (kpS (T.data.toList.take n) j st) ⟨#[102]⟩ = 0 := by
  refine ⟨?_, kp_ask _ _ _⟩
  rw [show readB (kpS (T.data.toList.take n) j st) ⟨#[102]⟩ = ⟨(T.data.toList.take n).toArray⟩ by kernel_rfl]
  apply ByteArray.ext
  apply Array.toList_inj.mp
  simp [ByteArray.data_extract, List.extract_eq_take_drop]
theorem kpN_bd (n m keep : Nat) (h : n ≤ m) : n ≤ kpN n m keep ∧ kpN n m keep ≤ m := by
  unfold kpN
  have h2 : (m - n) * (keep % 256) ≤ (m - n) * 255 := Nat.mul_le_mul_left _ (by omega)
  have h3 : (m - n) * (keep % 256) / 255 ≤ m - n := by
    calc (m - n) * (keep % 256) / 255 ≤ (m - n) * 255 / 255 := Nat.div_le_div_right h2
      _ = m - n := Nat.mul_div_cancel _ (by decide)
  omega
theorem kpN_all (n m keep : Nat) (h : n ≤ m) (hk : keep % 256 = 255) : kpN n m keep = m := by unfold kpN; rw [hk, Nat.mul_div_cancel _ (by decide)]; omega
theorem kpN_none (n m keep : Nat) (hk : keep % 256 = 0) : kpN n m keep = n := by unfold kpN; rw [hk]; simp
theorem app_nil (a : ByteArray) : a ++ ⟨#[]⟩ = a := by
  apply ByteArray.ext
  rw [ByteArray.data_append]; simp
theorem ex_all (T : ByteArray) : T.extract 0 T.size = T := by simp
theorem ex_left (a b : ByteArray) : (a ++ b).extract 0 a.size = a := by
  apply ByteArray.ext
  apply Array.toList_inj.mp
  simp only [ByteArray.data_extract, Array.toList_extract, ByteArray.data_append, Array.toList_append, List.extract_eq_take_drop, List.drop_zero, Nat.sub_zero]
  rw [← len_id8 a, List.take_left']
  rfl
theorem ex_size (T : ByteArray) (n : Nat) (h : n ≤ T.size) : (T.extract 0 n).size = n := by rw [ByteArray.size_extract]; omega
theorem and255 (keep : Nat) (hk : keep < 18446744073709551616) : bits .and .u64 (keep : Int) 255 = ((keep % 256 : Nat) : Int) := by
  have := bits_and_u64 keep 255 hk (by decide)
  rw [show ((255 : Nat) : Int) = 255 by rfl] at this
  rw [this]
  congr 1
  exact Nat.and_two_pow_sub_one_eq_mod keep 8

set_option maxRecDepth 100000 in
set_option maxHeartbeats 4000000 in
theorem keeps (w : World) (a1 : Option Addr) (len1 cap1 : Nat) (zs : List ByteArray) (hz : RowS w a1 len1 zs) (a2 : Option Addr) (len2 cap2 : Nat) (ys : List ByteArray) (hy : RowS w a2 len2 ys) (keep : Nat) (hkp : keep < 18446744073709551616) (h1 : len1 ≤ 20) (h2 : len2 ≤ 20) : Calls Try.prog 4 #[.slice a1 len1 cap1, .slice a2 len2 cap2, .int .u64 keep] w fun e w' => e = .returned (.bool true) ∧ Below w.heap.size w w' := by
  have GK := Lib.hid disk_known
  have GN := Lib.hid (fun w1 => (show Calls Try.prog 24 #[.int .i64 100000] w1 fun e w' => e = .returned (.pointer (some ⟨(w1.heap.size + 1), 0, none⟩)) ∧ One w1 (w1.heap.size + 1) (⟨[], 100000, 0, false, 0⟩ : PD) w' from newO 100000 w1))
  have GC0 := Lib.hid (fun w1  W (h : One w1 (w1.heap.size + 1) ((⟨[], 100000, 0, false, 0⟩ : PD)) W) => (show Calls Try.prog 19 #[.pointer (some ⟨(w1.heap.size + 1), 0, none⟩), .string ⟨#[102]⟩] W fun e w' => e = .returned (.int .i64 0) ∧ One w1 (w1.heap.size + 1) (kpS [] 0 1) w' from by have := createO (n := 5) h (fits (by decide) (by decide) (by decide) (by decide) (by decide)) (by decide) ⟨#[102]⟩ (by decide); rwa [show createE (⟨[], 100000, 0, false, 0⟩ : PD) ⟨#[102]⟩ = 0 by kernel_rfl, show createD (⟨[], 100000, 0, false, 0⟩ : PD) ⟨#[102]⟩ = kpS [] 0 1 by kernel_rfl] at this))
  have GA := Lib.hid (fun w1 (a s : ByteArray) (j st : Nat) (ha : a.size ≤ 5000) (hs : s.size ≤ 100) (hst : st ≤ 50) W (h : One w1 (w1.heap.size + 1) (kpS a.data.toList j st) W) => (show Calls Try.prog 25 #[.pointer (some ⟨(w1.heap.size + 1), 0, none⟩), .string ⟨#[102]⟩, .string s] W fun e w' => e = .returned (.int .i64 0) ∧ One w1 (w1.heap.size + 1) (kpS (a ++ s).data.toList j (st + 1)) w' from by have := appendO h (fitK _ j st (by rw [len_id8]; exact ha) hst) (by decide) ⟨#[102]⟩ s (by decide) (by omega); rwa [(kp_app a j st s ha hs).1, (kp_app a j st s ha hs).2] at this))
  have GS := Lib.hid (fun w1 (a : ByteArray) (j st : Nat) (ha : a.size ≤ 5000) (hst : st ≤ 50) W (h : One w1 (w1.heap.size + 1) (kpS a.data.toList j st) W) => (show Calls Try.prog 26 #[.pointer (some ⟨(w1.heap.size + 1), 0, none⟩), .string ⟨#[102]⟩] W fun e w' => e = .returned (.int .i64 0) ∧ One w1 (w1.heap.size + 1) (kpS a.data.toList a.size (st + 1)) w' from by have := syncO h (fitK _ j st (by rw [len_id8]; exact ha) hst) (by decide) ⟨#[102]⟩ (by decide); rwa [(kp_sync a j st).1, (kp_sync a j st).2] at this))
  have GX := Lib.hid (fun w1 (T : ByteArray) (j st : Nat) (ha : T.size ≤ 5000) (hst : st ≤ 50) W (h : One w1 (w1.heap.size + 1) (kpS T.data.toList j st) W) => (show Calls Try.prog 20 #[.pointer (some ⟨(w1.heap.size + 1), 0, none⟩), .int .u64 keep] W fun e w' => (∃ v, e = .returned v) ∧ One w1 (w1.heap.size + 1) (kpS (T.data.toList.take (kpN j T.size keep)) (kpN j T.size keep) st) w' from by have := crashO h (fitK _ j st (by rw [len_id8]; exact ha) hst) keep hkp; rwa [kp_crash T j st keep] at this))
  have GR := Lib.hid (fun w1 (T : ByteArray) n j st W (h : One w1 (w1.heap.size + 1) (kpS (T.data.toList.take n) j st) W) => (show Calls Try.prog 21 #[.pointer (some ⟨(w1.heap.size + 1), 0, none⟩), .string ⟨#[102]⟩] W fun e w' => e = .returned (.tuple #[.string (T.extract 0 n), .int .i64 0]) ∧ w' = W from by have := dreadO h ⟨#[102]⟩ (by decide); rwa [(kp_read T n j st).1, (kp_read T n j st).2] at this))
  obtain ⟨hzl, hzm, hzs, hzc⟩ := hz
  obtain ⟨hyl, hym, hys, hyc⟩ := hy
  have hl1 : ((len1 : Nat) : Int) ≤ 20 := by omega
  have hl2 : ((len2 : Nat) : Int) ≤ 20 := by omega
  go_enter Try.func4, Try.ntmps4
  go_wp2_with (first
    | (go_at_call 14; ((with_reducible refine (GK.out _).mono ?_); rintro e w1 ⟨rfl, hB1⟩))
    | (go_at_call 24; ((with_reducible refine (GN.out _).mono ?_); rintro e w2 ⟨rfl, hO0⟩))
    | (go_at_call 19; ((with_reducible refine (GC0.out _ _ hO0).mono ?_); rintro e w3 ⟨rfl, hO1⟩; clear hO0)))
  go_loopw [8, 10] (fun sa si wr => ∃ (i : Nat) (a : ByteArray), i ≤ len1 ∧ si = .int .i64 i ∧ sa = .string a ∧ a.size ≤ 100 * i ∧ One w1 (w1.heap.size + 1) (kpS a.data.toList 0 (1 + i)) wr) (fun _ si _ => len1 - (intOf si).toNat)
  case atStart => exact ⟨0, ⟨#[]⟩, by omega, rfl, rfl, by show 0 ≤ _; omega, hO1⟩
  case round =>
    obtain ⟨i, a, hi, rfl, rfl, hai, hO⟩ := hrel
    by_cases hlt : i < len1
    · obtain ⟨bb, off, rfl, hbb, hc⟩ := hzc (by omega)
      have hck := ((bel2 hB1 hO.bel).cell (p := ⟨bb, off + i, none⟩) hbb).trans (hc i (by omega))
      have hsz := hzs zs[i] (List.getElem_mem _)
      have HW := Lib.hid (fun W (hB : Below w1.heap.size w1 W) => ((bel2 hB1 hB).cell (p := ⟨bb, off + i, none⟩) hbb).trans (hc i (by omega)))
      generalize zs[i] = s at *
      by_cases hs : s.size ≤ 100
      · have hsi : ((s.size : Nat) : Int) ≤ 100 := by omega
        have HA := Lib.hid (GA.out w1 a s 0 (1 + i) (by omega) hs (by omega))
        have hcat : a.size + s.size ≤ 5000 := by omega
        clear hc hzc hyc hs hsz
        go_wp2_with (first
          | (go_at_call 25; ((with_reducible refine (HA.out _ hO).mono ?_); rintro e w5 ⟨rfl, hO3⟩; clear hck hO; have hck := HW.out w5 hO3.bel)))
        go_roundw
        case rel => exact ⟨i + 1, a ++ s, by omega, by go_num, rfl, by rw [ByteArray.size_append]; omega, by rw [show 1 + (i + 1) = 1 + i + 1 by omega]; exact hO3⟩
        case measure => simp [intOf]; omega
      · have hsi : (100 : Int) < ((s.size : Nat) : Int) := by omega
        clear hc hzc hyc hs hsz
        go_wp2
        go_ret
        exact ⟨by simp, bel2 hB1 hO.bel⟩
    · obtain rfl : i = len1 := by omega
      have HS := Lib.hid (GS.out w1 a 0 (1 + i) (by omega) (by omega))
      clear hlt hi
      go_wp2_with (first
        | (go_at_call 26; ((with_reducible refine (HS.out _ hO).mono ?_); rintro e w6 ⟨rfl, hO4⟩; clear hO)))
      obtain ⟨wo, rfl⟩ : ∃ wo : World, wo = wr := ⟨_, rfl⟩
      go_loopw [9, 11] (fun sb sk wr => ∃ (k : Nat) (b : ByteArray), k ≤ len2 ∧ sk = .int .i64 k ∧ sb = .string b ∧ b.size ≤ 100 * k ∧ One w1 (w1.heap.size + 1) (kpS (a ++ b).data.toList a.size (2 + i + k)) wr) (fun _ sk _ => len2 - (intOf sk).toNat)
      case atStart => exact ⟨0, ⟨#[]⟩, by omega, rfl, rfl, by show 0 ≤ _; omega, by rw [app_nil a, show 2 + i + 0 = 1 + i + 1 by omega]; exact hO4⟩
      case round =>
        obtain ⟨k, b, hk, rfl, rfl, hbk, hO⟩ := hrel
        have hab : (a ++ b).size ≤ 5000 := by rw [ByteArray.size_append]; omega
        by_cases hlt : k < len2
        · obtain ⟨bb, off, rfl, hbb, hc⟩ := hyc (by omega)
          have hck := ((bel2 hB1 hO.bel).cell (p := ⟨bb, off + k, none⟩) hbb).trans (hc k (by omega))
          have hsz := hys ys[k] (List.getElem_mem _)
          have HW := Lib.hid (fun W (hB : Below w1.heap.size w1 W) => ((bel2 hB1 hB).cell (p := ⟨bb, off + k, none⟩) hbb).trans (hc k (by omega)))
          generalize ys[k] = s at *
          by_cases hs : s.size ≤ 100
          · have hsi : ((s.size : Nat) : Int) ≤ 100 := by omega
            have HA := Lib.hid (GA.out w1 (a ++ b) s a.size (2 + i + k) hab hs (by omega))
            have hcat : b.size + s.size ≤ 5000 := by omega
            clear hc hzc hyc hs hsz
            go_wp2_with (first
              | (go_at_call 25; ((with_reducible refine (HA.out _ hO).mono ?_); rintro e w7 ⟨rfl, hO5⟩; clear hck hO; have hck := HW.out w7 hO5.bel)))
            go_roundw
            case rel => exact ⟨k + 1, b ++ s, by omega, by go_num, rfl, by rw [ByteArray.size_append]; omega, by rw [show 2 + i + (k + 1) = 2 + i + k + 1 by omega, ← ByteArray.append_assoc]; exact hO5⟩
            case measure => simp [intOf]; omega
          · have hsi : (100 : Int) < ((s.size : Nat) : Int) := by omega
            clear hc hzc hyc hs hsz
            go_wp2
            go_ret
            exact ⟨by simp, bel2 hB1 hO.bel⟩
        · obtain rfl : k = len2 := by omega
          clear hlt hk
          obtain ⟨T, hT⟩ : ∃ T, a ++ b = T := ⟨_, rfl⟩
          have hTs : T.size = a.size + b.size := by rw [← hT, ByteArray.size_append]
          have hT5 : T.size ≤ 5000 := by omega
          have HX := Lib.hid (GX.out w1 T a.size (2 + i + k) hT5 (by omega))
          have HR := Lib.hid (GR.out w1 T (kpN a.size T.size keep) (kpN a.size T.size keep) (2 + i + k))
          have hN := kpN_bd a.size T.size keep (by omega)
          have hand := and255 keep hkp
          have hal := kpN_all a.size T.size keep (by omega)
          have hno := kpN_none a.size T.size keep
          have hla : T.extract 0 a.size = a := by rw [← hT]; exact ex_left a b
          have hlt := ex_all T
          have hTa : ((a.size : Nat) : Int) ≤ (T.size : Int) := by omega
          have hTb : ((T.size : Nat) : Int) ≤ (a.size : Int) + (b.size : Int) := by omega
          have hbig : a.size + b.size ≤ 5000 := by omega
          rw [hT] at hO
          generalize kpN a.size T.size keep = N at *
          generalize keep % 256 = q at *
          clear GA GS GX GR hzc hyc hzs hys hab hai hbk
          by_cases h255 : q = 255
          · subst h255
            obtain rfl : N = T.size := hal rfl
            rw [hlt] at HR
            rw [show ((255 : Nat) : Int) = 255 by rfl] at hand
            clear hal hno hTs hN hla hT5
            go_wp2_with (first
              | (go_at_call 20; ((with_reducible refine (HX.out _ hO).mono ?_); rintro e w8 ⟨⟨vx, rfl⟩, hO6⟩; clear hO))
              | (go_at_call 21; ((with_reducible refine (HR.out _ hO6).mono ?_); rintro e w9 ⟨rfl, rfl⟩)))
            go_ret
            exact ⟨by simp, bel2 hB1 hO6.bel⟩
          · by_cases h0 : q = 0
            · subst h0
              obtain rfl : N = a.size := hno rfl
              rw [hla] at HR
              rw [show ((0 : Nat) : Int) = 0 by rfl] at hand
              clear hal hno hTs hN hlt hT5
              go_wp2_with (first
                | (go_at_call 20; ((with_reducible refine (HX.out _ hO).mono ?_); rintro e w8 ⟨⟨vx, rfl⟩, hO6⟩; clear hO))
                | (go_at_call 21; ((with_reducible refine (HR.out _ hO6).mono ?_); rintro e w9 ⟨rfl, rfl⟩)))
              go_ret
              exact ⟨by simp, bel2 hB1 hO6.bel⟩
            · obtain ⟨S, hS⟩ : ∃ S, T.extract 0 N = S := ⟨_, rfl⟩
              have hSn : S.size = N := by rw [← hS]; exact ex_size T N hN.2
              have hSe : T.extract 0 S.size = S := by rw [hSn]; exact hS
              rw [hS] at HR
              have hq1 : ((q : Nat) : Int) ≠ 255 := by omega
              have hq2 : ((q : Nat) : Int) ≠ 0 := by omega
              have hSa : ((a.size : Nat) : Int) ≤ (S.size : Int) := by omega
              have hSb : ((S.size : Nat) : Int) ≤ (a.size : Int) + (b.size : Int) := by omega
              have hSt : ((S.size : Nat) : Int) ≤ (T.size : Int) := by omega
              clear hal hno hTs hN hlt hT5 hla hTa hTb hS hSn h0 h255
              go_wp2_with (first
                | (go_at_call 20; ((with_reducible refine (HX.out _ hO).mono ?_); rintro e w8 ⟨⟨vx, rfl⟩, hO6⟩; clear hO))
                | (go_at_call 21; ((with_reducible refine (HR.out _ hO6).mono ?_); rintro e w9 ⟨rfl, rfl⟩)))
              go_ret
              exact ⟨by simp, bel2 hB1 hO6.bel⟩

theorem keeps1 (w : World) (a1 : Option Addr) (len1 cap1 : Nat) (a2 : Option Addr) (len2 cap2 : Nat) (keep : Nat) (h1 : 20 < len1) : Calls Try.prog 4 #[.slice a1 len1 cap1, .slice a2 len2 cap2, .int .u64 keep] w fun e w' => e = .returned (.bool true) ∧ Below w.heap.size w w' := by
  have GK := Lib.hid disk_known
  have hl1 : (20 : Int) < ((len1 : Nat) : Int) := by omega
  clear h1
  go_enter Try.func4, Try.ntmps4
  go_wp2_with (first
    | (go_at_call 14; ((with_reducible refine (GK.out _).mono ?_); rintro e w1 ⟨rfl, hB1⟩)))
  go_ret
  exact ⟨by simp, hB1⟩
theorem keeps2 (w : World) (a1 : Option Addr) (len1 cap1 : Nat) (a2 : Option Addr) (len2 cap2 : Nat) (keep : Nat) (h1 : len1 ≤ 20) (h2 : 20 < len2) : Calls Try.prog 4 #[.slice a1 len1 cap1, .slice a2 len2 cap2, .int .u64 keep] w fun e w' => e = .returned (.bool true) ∧ Below w.heap.size w w' := by
  have GK := Lib.hid disk_known
  have hl1 : ((len1 : Nat) : Int) ≤ 20 := by omega
  have hl2 : (20 : Int) < ((len2 : Nat) : Int) := by omega
  clear h1 h2
  go_enter Try.func4, Try.ntmps4
  go_wp2_with (first
    | (go_at_call 14; ((with_reducible refine (GK.out _).mono ?_); rintro e w1 ⟨rfl, hB1⟩)))
  go_ret
  exact ⟨by simp, hB1⟩
theorem walk (w : World) (a1 : Option Addr) (len1 cap1 : Nat) (zs : List ByteArray) (hz : RowS w a1 len1 zs) (a2 : Option Addr) (len2 cap2 : Nat) (ys : List ByteArray) (hy : RowS w a2 len2 ys) (keep : Nat) (hk : keep < 18446744073709551616) : Calls Try.prog 4 #[.slice a1 len1 cap1, .slice a2 len2 cap2, .int .u64 keep] w fun e w' => e = .returned (.bool true) ∧ Below w.heap.size w w' := by
  by_cases h1 : 20 < len1
  · exact keeps1 w a1 len1 cap1 a2 len2 cap2 keep h1
  by_cases h2 : 20 < len2
  · exact keeps2 w a1 len1 cap1 a2 len2 cap2 keep (by omega) h2
  exact keeps w a1 len1 cap1 zs hz a2 len2 cap2 ys hy keep hk (by omega) (by omega)

set_option maxRecDepth 100000 in
theorem lifted (os : Os) (started : os.Started) (H : Type) (enc : TypeId × Value → H) :
    ReturnsInHanded {} Try.checked os 4 .any (Rows.diskKeepsSpec.pre6 enc Try.prog Try.f4 Rows.diskKeepsRow.domain false) (Rows.diskKeepsSpec.post enc Try.prog Try.f4 false true false false) := by
  refine returnsInHanded_of_change (C := Try.checked) Try.own started (by kernel_rfl) Try.func4
    (ChangeSpec.witness6 (enc := enc) (C := Try.checked) false ⟨#[], #[.slice none 0 0, .slice none 0 0, .int .u64 0], []⟩ 8 (by kernel_rfl) (by kernel_rfl) (by kernel_rfl) (by kernel_rfl)) ?_
  intro W base args ds gs before hval hW _ _
  refine law_contract (T := 4) (n := 3) Try.laid Try.underlying4 rfl rfl ⟨rfl, fun H ds h => by match ds, h with | [_, _, _], _ => rfl⟩ (of_all (by kernel_rfl)) hW ?_
  intro ps hA
  rw [Try.params4] at hA hval
  obtain ⟨v0, vs0, d0, ds0, p0, q0, hargs, rfl, rfl, h0, r0⟩ := trodAll_cons hA
  obtain ⟨v1, vs1, d1, ds1, p1, q1, rfl, rfl, rfl, h1, r1⟩ := trodAll_cons r0
  obtain ⟨v2, vs2, d2, ds2, p2, q2, rfl, rfl, rfl, h2, r2⟩ := trodAll_cons r1
  obtain ⟨rfl, rfl, rfl⟩ := trodAll_nil r2
  obtain rfl : args = #[v0, v1, v2] := by cases args; simp_all
  obtain ⟨s0, l0, c0, rfl⟩ := okWide_slice Try.underlying46 (hval 0 46 v0 rfl rfl)
  obtain ⟨zs0, w0⟩ := isStrs_of Try.underlying46 Try.underlying9 (by kernel_rfl) h0
  obtain ⟨s1, l1, c1, rfl⟩ := okWide_slice Try.underlying46 (hval 1 46 v1 rfl rfl)
  obtain ⟨zs1, w1⟩ := isStrs_of Try.underlying46 Try.underlying9 (by kernel_rfl) h1
  obtain ⟨a2, rfl, rfl, rfl, w2⟩ := open_int Try.underlying31 (hval 2 31 v2 rfl rfl) h2
  obtain ⟨n2, rfl, b2⟩ := nat_of_u64 w2
  exact walk W s0 l0 c0 _ (rowS_of w0) s1 l1 c1 _ (rowS_of w1) n2 b2

theorem holds : Rows.DiskKeepsSaid :=
  OpenClaim.holds_of_wide 4 Try.f4 rfl rfl rfl rfl rfl rfl rfl ⟨rfl, rfl, rfl, rfl, rfl⟩ rfl rfl rfl rfl rfl (by kernel_rfl) Try.func4 (by kernel_rfl)
    (of_decide_eq_true (by kernel_rfl)) (by unfold Func.isWrapper; first | (rw [if_pos (by decide +kernel)]; kernel_rfl) | (rw [if_neg (by decide +kernel)]; exact ⟨rfl, rfl⟩))
    (fun os started H enc _ => lifted os started H enc)
end Go.Proofs.Ytieekahlknmkfaa.diskKeeps
