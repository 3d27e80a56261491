/- HeadId, Laid: in one text. -/
import Derived.Test.YtoieacmipejfeaaGreatDoorHead
import Derived.Test.YtoieacmipejfeaaGreatDoorRef
import Derived.Test.YtoieacmipejfeaaGreatDoorLaw
import Derived.Stop.LaidErr
import Derived.LaidMore
import Derived.LaidByTextLater
/- The contracts of head.ID and of the document's names and heads (package laderef9); what the first law-calls of layer 10 find. -/
namespace Go.Proofs.YtoieacmipejfeaaGreatDoor
open Go.RowKit Go.Shelf
set_option linter.unusedVariables false
attribute [local go_sem] Oper.semAt_some wide_fn wide_round_fn

theorem var_below {P : Program} {n : String} {w W : World} {cs : Array Value} (h : w.var? P n = some cs) (hB : Below w.heap.size w W) : W.var? P n = some cs := by
  unfold World.var? at h ⊢
  cases hg : P.globalNamed n with
  | none => simp [hg] at h
  | some g =>
    simp only [hg, Option.bind_some] at h ⊢
    have hlt : g < w.heap.size := by
      rcases Nat.lt_or_ge g w.heap.size with h' | h'
      · exact h'
      · simp [Array.getElem?_eq_none h'] at h
    rw [hB.block g hlt]; exact h
/-- The two sentinels of package strconv hold what they were given. -/
def VarsOk (w : World) : Prop := (∃ tp p, w.var? Tryz.prog "strconv.ErrSyntax" = some #[.iface tp p]) ∧ ∃ tp p, w.var? Tryz.prog "strconv.ErrRange" = some #[.iface tp p]
theorem VarsOk.below {w W : World} (h : VarsOk w) (hB : Below w.heap.size w W) : VarsOk W := by
  obtain ⟨⟨a, b, h1⟩, ⟨c, d, h2⟩⟩ := h
  exact ⟨⟨a, b, var_below h1 hB⟩, ⟨c, d, var_below h2 hB⟩⟩

theorem atoi_good (s : ByteArray) (hs : s.size ≤ 281474976710656) (v : Int) (h : Lib.atoiAll s.data.toList = .ok v) (w : World) : Gives Tryz.prog 76 #[.string s] w (.tuple #[.int .i64 v, .nilIface]) :=
  (Tryz.strconv_Atoi_ok s (by omega) v h w).mono fun e w' ⟨he, hw⟩ => ⟨he, by
    rcases hw with rfl | ⟨t, rfl⟩
    · exact Below.refl _ _
    · exact Lib.bytesWorld_below _ _ _⟩
theorem atoi_bad (s : ByteArray) (hs : s.size ≤ 281474976710656) (h : ∀ v, Lib.atoiAll s.data.toList ≠ .ok v) (w : World) (hv : VarsOk w) :
    Calls Tryz.prog 76 #[.string s] w fun e w' => (∃ (z : Int) (N : Nat), e = .returned (.tuple #[.int .i64 z, .iface 142 (.pointer (some ⟨N, 0, none⟩))])) ∧ Below w.heap.size w w' := by
  obtain ⟨⟨a, b, h1⟩, ⟨c, d, h2⟩⟩ := hv
  rcases ha : Lib.atoiAll s.data.toList with v | _ | _
  · exact absurd ha (h v)
  · exact (Any.strconv_Atoi_syntax_var Tryz.laysC172 s hs ha a b w h1).mono fun e w' ⟨N, he, _, _, hB⟩ => ⟨⟨_, N, he⟩, hB⟩
  · exact (Tryz.strconv_Atoi_range_var s hs ha c d w h2).mono fun e w' ⟨N, he, _, _, hB⟩ => ⟨⟨_, N, he⟩, hB⟩

theorem baEq (a b : ByteArray) : a.toList = b.toList ↔ a = b := by
  rw [ByteArray.toList_eq, ByteArray.toList_eq]
  exact ⟨fun h => ByteArray.ext (Array.toList_inj.mp h), fun h => by rw [h]⟩
theorem trim_list (s : ByteArray) : (⟨(Lib.trimPrefix s.data.toList (⟨#[115, 101, 103, 45]⟩ : ByteArray).data.toList).toArray⟩ : ByteArray).data.toList = Lib.trimPrefix s.data.toList [115, 101, 103, 45] := rfl
theorem trim_size (s : ByteArray) : (⟨(Lib.trimPrefix s.data.toList [115, 101, 103, 45]).toArray⟩ : ByteArray).size ≤ s.size := by
  show (Lib.trimPrefix s.data.toList [115, 101, 103, 45]).toArray.size ≤ _
  have : s.data.toList.length = s.size := by simp
  unfold Lib.trimPrefix
  split
  · simp
  · simp
set_option maxRecDepth 100000 in
set_option maxHeartbeats 1000000 in
/-- head.ID where Atoi reads a number. -/
theorem id_good (s : ByteArray) (hs : s.size ≤ 281474976710656) (v : Int) (h : Lib.atoiAll (Lib.trimPrefix s.data.toList [115, 101, 103, 45]) = .ok v) (w : World) : Gives Tryz.prog 63 #[.string s] w (.tuple #[.int .i64 (idM s.data.toList).1, .bool (idM s.data.toList).2]) := by
  have GT := Lib.hid (fun w => Tryz.strings_TrimPrefix s ⟨#[115, 101, 103, 45]⟩ w)
  have GA := Lib.hid (atoi_good ⟨(Lib.trimPrefix s.data.toList [115, 101, 103, 45]).toArray⟩ (Nat.le_trans (trim_size s) hs) v h)
  have GN := Lib.hid (name_any v)
  have hI : idM s.data.toList = if nameL (heldN v) = s.data.toList then (v, true) else (0, false) := by unfold idM; rw [h]
  have hE : ((⟨(nameL (heldN v)).toArray⟩ : ByteArray).toList == s.toList) = decide (nameL (heldN v) = s.data.toList) := by
    rw [Bool.eq_iff_iff, decide_eq_true_iff, beq_iff_eq, baEq]
    constructor
    · intro e; rw [← e]
    · intro e; rw [e]
  by_cases hn : nameL (heldN v) = s.data.toList
  all_goals
    first | rw [hI, if_pos hn] | rw [hI, if_neg hn]
    first | rw [decide_eq_true hn] at hE | rw [decide_eq_false hn] at hE
    generalize (⟨(nameL (heldN v)).toArray⟩ : ByteArray) = q at *
    clear hI hn h
    unfold Gives
    go_enter Tryz.func63, Tryz.ntmps63
    go_wp2_with (first
      | (go_at_call 77; ((with_reducible refine (GT.out _).mono ?_); rintro e w1 ⟨rfl, rfl⟩))
      | (go_at_call 76; ((with_reducible refine (GA.out _).mono ?_); rintro e w2 ⟨rfl, hB2⟩))
      | (go_at_call 44; ((with_reducible refine (GN.out _).mono ?_); rintro e w3 ⟨rfl, hB3⟩)))
    go_ret2
    exact ⟨rfl, bel2 hB2 hB3⟩
theorem idM_bad {l : List UInt8} (h : ∀ v, Lib.atoiAll (Lib.trimPrefix l [115, 101, 103, 45]) ≠ .ok v) : idM l = (0, false) := by
  unfold idM
  split
  · rename_i v hv; exact absurd hv (h v)
  · rfl
set_option maxRecDepth 100000 in
set_option maxHeartbeats 1000000 in
theorem id_bad (s : ByteArray) (hs : s.size ≤ 281474976710656) (h : ∀ v, Lib.atoiAll (Lib.trimPrefix s.data.toList [115, 101, 103, 45]) ≠ .ok v) (w : World) (hv : VarsOk w) : Gives Tryz.prog 63 #[.string s] w (.tuple #[.int .i64 0, .bool false]) := by
  have GT := Lib.hid (fun w => Tryz.strings_TrimPrefix s ⟨#[115, 101, 103, 45]⟩ w)
  have GA := Lib.hid (fun w hv => atoi_bad ⟨(Lib.trimPrefix s.data.toList [115, 101, 103, 45]).toArray⟩ (Nat.le_trans (trim_size s) hs) h w hv)
  have HV := Lib.hid hv
  clear h hv
  unfold Gives
  go_enter Tryz.func63, Tryz.ntmps63
  go_wp2_with (first
    | (go_at_call 77; ((with_reducible refine (GT.out _).mono ?_); rintro e w1 ⟨rfl, rfl⟩))
    | (go_at_call 76; ((with_reducible refine (GA.out _ HV.out).mono ?_); rintro e w2 ⟨⟨z, N, rfl⟩, hB2⟩)))
  go_ret2
  exact ⟨rfl, hB2⟩
theorem id_any (s : ByteArray) (hs : s.size ≤ 281474976710656) (w : World) (hv : VarsOk w) : Gives Tryz.prog 63 #[.string s] w (.tuple #[.int .i64 (idM s.data.toList).1, .bool (idM s.data.toList).2]) := by
  by_cases h : ∃ v, Lib.atoiAll (Lib.trimPrefix s.data.toList [115, 101, 103, 45]) = .ok v
  · obtain ⟨v, h⟩ := h
    exact id_good s hs v h w
  · have h' : ∀ v, Lib.atoiAll (Lib.trimPrefix s.data.toList [115, 101, 103, 45]) ≠ .ok v := fun v e => h ⟨v, e⟩
    rw [idM_bad h']
    exact id_bad s hs h' w hv
theorem id_name {n : Nat} (h1 : 1 ≤ n) (h2 : n ≤ 99999999) (w : World) : Gives Tryz.prog 63 #[.string ⟨(nameL n).toArray⟩] w (.tuple #[.int .i64 n, .bool true]) := by
  have := id_good ⟨(nameL n).toArray⟩ (by decide : 12 ≤ 281474976710656) n (by show Lib.atoiAll (Lib.trimPrefix (nameL n) _) = _; rw [trim_name, atoi_dig h2]) w
  rwa [show (⟨(nameL n).toArray⟩ : ByteArray).data.toList = nameL n from rfl, idM_name h1 h2] at this

/-! ### The document's -/
theorem heldN_eq2 (i : Int) : ((heldN i : Nat) : Int) = max 1 (min i 99999999) := by unfold heldN; omega
set_option maxRecDepth 100000 in
set_option maxHeartbeats 1000000 in
theorem refName_any (i : Int) (w : World) : Gives Tryz.prog 27 #[.int .i64 i] w (.string ⟨(nameL (heldN i)).toArray⟩) := by
  have hh := heldN_bd i
  have HQ := Lib.hid (heldN_eq2 i)
  generalize heldN i = q at *
  unfold Gives
  go_enter Tryz.func27, Tryz.ntmps27
  go_wp2
  rw [← HQ.out]
  go_loopw [3, 4, 5] (fun p s i wr => ∃ (k : Nat), k ≤ 8 ∧ i = .int .i64 k ∧ p = .int .i64 ((q / 10 ^ k : Nat) : Int) ∧ s = .string ⟨((digL q).drop (8 - k)).toArray⟩ ∧ Below w.heap.size w wr) (fun _ _ i _ => 8 - (intOf i).toNat)
  case atStart => exact ⟨0, by omega, rfl, by simp, rfl, Below.refl _ _⟩
  case round =>
    obtain ⟨k, hk, rfl, rfl, rfl, hB⟩ := hrel
    by_cases h8 : k < 8
    · have HL := Lib.hid (show (digL q).drop (8 - (k + 1)) = [dg q (10 ^ k)] ++ (digL q).drop (8 - k) by
        match k, h8 with
        | 0, _ => rfl
        | 1, _ => rfl
        | 2, _ => rfl
        | 3, _ => rfl
        | 4, _ => rfl
        | 5, _ => rfl
        | 6, _ => rfl
        | 7, _ => rfl)
      have HN := Lib.hid (show q / 10 ^ (k + 1) = q / 10 ^ k / 10 by rw [Nat.pow_succ, Nat.div_div_eq_div_mul])
      have hm : q / 10 ^ k ≤ 99999999 := Nat.le_trans (Nat.div_le_self _ _) hh.2
      have hd := dg_nat q (10 ^ k)
      have hsz : (((⟨((digL q).drop (8 - k)).toArray⟩ : ByteArray).size : Nat) : Int) ≤ 8 := by
        show ((((digL q).drop (8 - k)).toArray.size : Nat) : Int) ≤ 8
        simp [digL]; omega
      generalize (digL q).drop (8 - k) = l at *
      generalize dg q (10 ^ k) = x at *
      generalize q / 10 ^ k = m at *
      have hc := run_string_new (P := Tryz.prog) wr (src := 55) (dst := 9) Tryz.underlying55 Tryz.underlying5 Tryz.underlying9 [x] 1
      rw [show [x].map vb = [Value.int .u8 (48 + (m : Int) % 10)] from by simp [vb]; omega, show [x].length = 1 from rfl] at hc
      have hm2 : (m : Int) ≤ 99999999 := by omega
      obtain ⟨z, hz⟩ : ∃ z : ByteArray, z = ⟨l.toArray⟩ := ⟨_, rfl⟩
      rw [← hz] at hsz ⊢
      have HZ := Lib.hid hz
      clear hd hm hh hz
      go_wp2
      go_roundw
      case rel => exact ⟨k + 1, by omega, by go_num, by rw [HN.out]; simp, by rw [HL.out, HZ.out, ← ba_append], hB.alloc hB.size _⟩
      case measure => simp [intOf]; omega
    · obtain rfl : k = 8 := by omega
      have hsz : (((⟨((digL q).drop (8 - 8)).toArray⟩ : ByteArray).size : Nat) : Int) ≤ 8 := by
        show ((((digL q).drop (8 - 8)).toArray.size : Nat) : Int) ≤ 8
        simp [digL]
      have HL := Lib.hid (show (⟨#[115, 101, 103, 45]⟩ : ByteArray) ++ ⟨((digL q).drop (8 - 8)).toArray⟩ = ⟨(nameL q).toArray⟩ from by rw [show nameL q = [115, 101, 103, 45] ++ (digL q).drop (8 - 8) from rfl, ← ba_append])
      generalize (⟨((digL q).drop (8 - 8)).toArray⟩ : ByteArray) = s at *
      go_wp2
      go_ret
      exact ⟨by rw [HL.out]; rfl, hB⟩

end Go.Proofs.YtoieacmipejfeaaGreatDoor

/- What a tied row lists gives: the two sentinels of package strconv hold what they were given; the door's own heap meets the list. -/
namespace Go.Proofs.YtoieacmipejfeaaGreatDoor
open Go.ChangeShapes Go.WideShapes Go.ChangeAt Go.RowKit
set_option linter.unusedVariables false

theorem gES : Tryz.prog.globalNamed "strconv.ErrSyntax" = some 0 := by kernel_rfl
theorem gER : Tryz.prog.globalNamed "strconv.ErrRange" = some 1 := by kernel_rfl
theorem gEST : (Tryz.prog.globals[0]?).map (·.type) = some 120 := by kernel_rfl
theorem gERT : (Tryz.prog.globals[1]?).map (·.type) = some 120 := by kernel_rfl
theorem cellsES : Tryz.prog.cellsOf 171 = 1 := by kernel_rfl
theorem cellsStr : Tryz.prog.cellsOf 9 = 1 := by kernel_rfl
theorem starES : "*" ++ "errors.errorString" = "*errors.errorString" := by decide
theorem rowES (u : TypeId) (h : Tryz.prog.typeName? 3 u = some "*errors.errorString") : u = 169 :=
  typeName_ptr_named (nm := "errors.errorString") (by rw [starES]; kernel_rfl) (by kernel_rfl) (by decide) u (by rw [starES]; exact h)
theorem vars_of {a b c : String × DataW Unit} {W : World} (h : laidMet Tryz.prog (a :: b :: c :: ("strconv.ErrRange", Rows.laid_strconv_ErrRange) :: ("strconv.ErrSyntax", Rows.laid_strconv_ErrSyntax) :: []) W) : VarsOk W := by
  obtain ⟨a0, s0, hv0, -, -, -⟩ := laid_sentinel h.tail.tail.tail gER gERT Tryz.underlying120 rowES Tryz.underlying169 Tryz.underlying171 rfl rfl Tryz.underlying9 cellsES cellsStr
  obtain ⟨a1, s1, hv1, -, -, -⟩ := laid_sentinel h.tail.tail.tail.tail gES gEST Tryz.underlying120 rowES Tryz.underlying169 Tryz.underlying171 rfl rfl Tryz.underlying9 cellsES cellsStr
  exact ⟨⟨_, _, hv1⟩, ⟨_, _, hv0⟩⟩

end Go.Proofs.YtoieacmipejfeaaGreatDoor
