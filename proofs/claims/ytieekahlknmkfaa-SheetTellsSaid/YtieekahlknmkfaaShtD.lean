/- ladelaw9.same; sheet.Load, sheet.Save. -/
import Derived.Test.YtieekahlknmkfaaShtM
import Derived.Test.YtieekahlknmkfaaKnown8
namespace Go.Proofs.Ytieekahlknmkfaa
open Go.RowKit Go.Shelf
set_option linter.unusedVariables false
attribute [local go_sem] Oper.semAt_some wide_fn wide_round_fn

set_option maxRecDepth 100000 in
set_option maxHeartbeats 1000000 in
theorem nsame_any (a : Option Addr) (len cap : Nat) (zs : List Int) (b : Option Addr) (len2 cap2 : Nat) (ys : List Int) (w : World) (h : RowI .i64 w a len zs) (h2 : RowI .i64 w b len2 ys) : Gives Try.prog 43 #[.slice a len cap, .slice b len2 cap2] w (.bool (decide (zs = ys))) := by
  obtain ⟨hl, hm, -, hc⟩ := h
  obtain ⟨hl2, hm2, -, hc2⟩ := h2
  unfold maxLen at hm hm2
  unfold Gives
  by_cases he : len = len2
  · subst he
    have HL := Lib.hid hl
    have HL2 := Lib.hid hl2
    clear hl hl2
    go_enter Try.func43, Try.ntmps43
    go_wp2
    go_loopw [5] (fun si wr => ∃ k : Nat, k ≤ len ∧ si = .int .i64 k ∧ zs.take k = ys.take k ∧ Below w.heap.size w wr) (fun si _ => len - (intOf si).toNat)
    case atStart => exact ⟨0, by omega, rfl, rfl, Below.refl _ _⟩
    case round =>
      obtain ⟨k, hk, rfl, hT, hB⟩ := hrel
      have HT := Lib.hid hT
      clear hT
      by_cases hlt : k < len
      · obtain ⟨ba, oa, rfl, hba, hca⟩ := hc (by omega)
        obtain ⟨bb, ob, rfl, hbb, hcb⟩ := hc2 (by omega)
        have hkz : k < zs.length := by rw [HL.out]; exact hlt
        have hky : k < ys.length := by rw [HL2.out]; exact hlt
        have c := (hB.cell (p := ⟨ba, oa + k, none⟩) hba).trans (hca k hkz)
        have c2 := (hB.cell (p := ⟨bb, ob + k, none⟩) hbb).trans (hcb k hky)
        have hki : (k : Int) < (len : Int) := by omega
        by_cases he : zs[k] = ys[k]
        · have HN := Lib.hid (show zs.take (k + 1) = ys.take (k + 1) by rw [List.take_succ_eq_append_getElem hkz, List.take_succ_eq_append_getElem hky, HT.out, he])
          rw [he] at c
          generalize ys[k] = x at *
          clear hc hc2 hca hcb he
          go_wp2
          go_quiet (fail)
          go_wp2
          exact ⟨⟨k + 1, by omega, by go_num, HN.out, ⟨hB.os, hB.tape, hB.output, hB.size, hB.block⟩⟩, by simp [intOf]; omega⟩
        · have HN := Lib.hid (show decide (zs = ys) = false from decide_eq_false (fun e => by subst e; exact he rfl))
          have hx := he
          generalize zs[k] = x at *
          generalize ys[k] = y at *
          clear hc hc2 hca hcb he
          go_wp2
          go_quiet (fail)
          go_wp2
          go_ret
          exact ⟨by rw [HN.out]; rfl, ⟨hB.os, hB.tape, hB.output, hB.size, hB.block⟩⟩
      · obtain rfl : k = len := by omega
        have HN := Lib.hid (show decide (zs = ys) = true from decide_eq_true (by
          have := HT.out
          rwa [List.take_of_length_le (by rw [HL.out]; exact Nat.le_refl _), List.take_of_length_le (by rw [HL2.out]; exact Nat.le_refl _)] at this))
        clear hc hc2 hlt hk
        go_wp2
        go_ret
        exact ⟨by rw [HN.out]; rfl, hB⟩
  · have HN := Lib.hid (show decide (zs = ys) = false from decide_eq_false (fun e => he (by rw [← hl, ← hl2, e])))
    have hne : ((len : Int) == (len2 : Int)) = false := by rw [beq_eq_false_iff_ne]; omega
    have hne2 : (len : Int) ≠ (len2 : Int) := by omega
    clear he hc hc2
    go_enter Try.func43, Try.ntmps43
    go_wp2
    go_ret
    exact ⟨by rw [HN.out]; rfl, Below.refl _ _⟩
/-! ### Load -/
def shN : ByteArray := ⟨#[115, 104, 101, 101, 116]⟩
def loE (D : PD) : Int := if askE D ⟨#[115, 104, 101, 101, 116]⟩ ≠ 0 then askE D ⟨#[115, 104, 101, 101, 116]⟩ else if rdOk (readB D ⟨#[115, 104, 101, 101, 116]⟩) then 0 else 21
def loL (D : PD) : List Int := if askE D ⟨#[115, 104, 101, 101, 116]⟩ = 0 ∧ rdOk (readB D ⟨#[115, 104, 101, 101, 116]⟩) = true then rdL (readB D ⟨#[115, 104, 101, 101, 116]⟩) else []
theorem get_mem {D : PD} {s : ByteArray} {f : PF} (h : getK PF.n D.L s = some f) : f.b.length ≤ usedL D.L := used_mem (getK_some h).1
theorem read_size (D : PD) (s : ByteArray) : (readB D s).size ≤ usedL D.L := by
  unfold readB
  split
  · cases h : getK PF.n D.L s with
    | none => exact Nat.zero_le _
    | some f => show f.b.toArray.size ≤ _; have := get_mem h; simpa using this
  · exact Nat.zero_le _
set_option maxRecDepth 100000 in
set_option maxHeartbeats 4000000 in
theorem loadO {w W : World} {d n : Nat} {D : PD} (h : One w d D W) (hf : Fit D n) : Calls Try.prog 42 #[.pointer (some ⟨d, 0, none⟩)] W fun e w' => ∃ v, e = .returned (.tuple #[v, .int .i64 (loE D)]) ∧ w'.ownsRow W.heap.size 3 1 v (loL D).length (intsV (loL D)) ∧ Below W.heap.size W w' := by
  have GR := Lib.hid (dreadO h ⟨#[115, 104, 101, 101, 116]⟩ (by decide))
  have hsz := read_size D ⟨#[115, 104, 101, 101, 116]⟩
  have hu := hf.used
  have GS := Lib.hid (shRead_any (readB D ⟨#[115, 104, 101, 101, 116]⟩) (by omega) W)
  unfold ReadPostS at GS
  by_cases ha : askE D ⟨#[115, 104, 101, 101, 116]⟩ = 0
  · have HE := Lib.hid (show loE D = (if rdOk (readB D ⟨#[115, 104, 101, 101, 116]⟩) then 0 else 21) ∧ loL D = if rdOk (readB D ⟨#[115, 104, 101, 101, 116]⟩) then rdL (readB D ⟨#[115, 104, 101, 101, 116]⟩) else [] by
      unfold loE loL; rw [ha]; simp)
    rw [ha] at GR
    generalize (if rdOk (readB D ⟨#[115, 104, 101, 101, 116]⟩) then (0 : Int) else 21) = er at *
    generalize (if rdOk (readB D ⟨#[115, 104, 101, 101, 116]⟩) then rdL (readB D ⟨#[115, 104, 101, 101, 116]⟩) else []) = L at *
    generalize readB D ⟨#[115, 104, 101, 101, 116]⟩ = s at *
    clear h hf ha hsz hu
    go_enter Try.func42, Try.ntmps42
    go_wp2_with (first
      | (go_at_call 21; ((with_reducible refine GR.out.mono ?_); rintro e w1 ⟨rfl, hw1⟩; (have hw2 := hw1.symm); clear hw1; subst hw2))
      | (go_at_call 44; ((with_reducible refine GS.out.mono ?_); rintro e w3 ⟨v, rfl, hv, hB3⟩)))
    refine bodyPost_ret (v := .tuple #[v, .int .i64 er]) (by simp [results, Try.results42, go_sem]) rfl ?_
    rw [HE.out.1, HE.out.2]
    exact ⟨v, rfl, hv, hB3⟩
  · have HE := Lib.hid (show loE D = askE D ⟨#[115, 104, 101, 101, 116]⟩ ∧ loL D = [] by unfold loE loL; rw [if_pos ha, if_neg (fun h => ha h.1)]; exact ⟨rfl, rfl⟩)
    rcases askE_ne ha with h18 | h18
    all_goals
      have H18 := Lib.hid h18
      rw [h18] at GR
      generalize readB D ⟨#[115, 104, 101, 101, 116]⟩ = s at *
      clear h hf ha h18 hsz hu GS
      go_enter Try.func42, Try.ntmps42
      go_wp2_with (go_at_call 21; ((with_reducible refine GR.out.mono ?_); rintro e w1 ⟨rfl, hw1⟩; (have hw2 := hw1.symm); clear hw1; subst hw2))
      go_ret2
      rw [HE.out.1, HE.out.2, H18.out]
      exact ⟨_, rfl, World.ownsRow_nil _ _ _ _, Below.refl _ _⟩
/-! ### Save -/
def sa1 (D : PD) : PD := removeD D ⟨#[115, 104, 101, 101, 116, 46, 110, 101, 119]⟩
def sa2 (D : PD) : PD := createD (sa1 D) ⟨#[115, 104, 101, 101, 116, 46, 110, 101, 119]⟩
def sa3 (D : PD) (b : ByteArray) : PD := appendD (sa2 D) ⟨#[115, 104, 101, 101, 116, 46, 110, 101, 119]⟩ b
def sa4 (D : PD) (b : ByteArray) : PD := syncD (sa3 D b) ⟨#[115, 104, 101, 101, 116, 46, 110, 101, 119]⟩
def sa5 (D : PD) (b : ByteArray) : PD := renameD (sa4 D b) ⟨#[115, 104, 101, 101, 116, 46, 110, 101, 119]⟩ ⟨#[115, 104, 101, 101, 116]⟩
def saB (D : PD) (b : ByteArray) : PD × Int :=
  if askE D ⟨#[115, 104, 101, 101, 116, 46, 110, 101, 119]⟩ = 18 then (D, 18)
  else if createE (sa1 D) ⟨#[115, 104, 101, 101, 116, 46, 110, 101, 119]⟩ ≠ 0 then (sa2 D, createE (sa1 D) ⟨#[115, 104, 101, 101, 116, 46, 110, 101, 119]⟩)
  else if appendE (sa2 D) ⟨#[115, 104, 101, 101, 116, 46, 110, 101, 119]⟩ b ≠ 0 then (sa3 D b, appendE (sa2 D) ⟨#[115, 104, 101, 101, 116, 46, 110, 101, 119]⟩ b)
  else if askE (sa3 D b) ⟨#[115, 104, 101, 101, 116, 46, 110, 101, 119]⟩ ≠ 0 then (sa4 D b, askE (sa3 D b) ⟨#[115, 104, 101, 101, 116, 46, 110, 101, 119]⟩)
  else (sa5 D b, askE (sa4 D b) ⟨#[115, 104, 101, 101, 116, 46, 110, 101, 119]⟩)
def saR (D : PD) (l : List Int) : PD × Int := if shB l then saB D (shY l) else (D, 11)
theorem askE_cases (D : PD) (s : ByteArray) : askE D s = 0 ∨ askE D s = 18 ∨ askE D s = 19 := by
  by_cases h : askE D s = 0
  · exact .inl h
  · exact .inr (askE_ne h)
theorem shY_size (l : List Int) : (shY l).size ≤ 2000 := by
  unfold shY
  split
  · rename_i h
    show (shS l).toArray.size ≤ _
    simp only [List.size_toArray]
    unfold shS
    rw [List.length_append]
    have h1 := shL_len (l := l)
    have h2 : (eigL (crcM 0#32 (shL l)).toNat).length = 4 := rfl
    have h3 : l.length ≤ 200 := by unfold shB at h; simp only [Bool.and_eq_true, decide_eq_true_eq] at h; exact h.1.2
    omega
  · exact Nat.zero_le _
set_option maxRecDepth 100000 in
set_option maxHeartbeats 4000000 in
theorem saveO {w W : World} {d n : Nat} {D : PD} (h : One w d D W) (hf : Fit D n) (hn : n ≤ 900000) (a : Option Addr) (len cap : Nat) (zs : List Int) (hz : RowI .i64 W a len zs) : Calls Try.prog 41 #[.pointer (some ⟨d, 0, none⟩), .slice a len cap] W fun e w' => e = .returned (.int .i64 (saR D zs).2) ∧ One w d (saR D zs).1 w' := by
  have GB := Lib.hid (shBytes_any a len cap zs W hz)
  have HO := Lib.hid h
  unfold Gives at GB
  have hp := h.ris
  cases hs : shB zs
  · have HR := Lib.hid (show saR D zs = (D, 11) by unfold saR; rw [hs]; rfl)
    have hE : shE zs = 11 := by unfold shE; rw [hs]; rfl
    rw [hE] at GB
    generalize shY zs = b at *
    clear h hf hz hs hE hp
    go_enter Try.func41, Try.ntmps41
    go_wp2_with (go_at_call 36; ((with_reducible refine GB.out.mono ?_); rintro e w1 ⟨rfl, hB1⟩; have hO0 := One.below HO.out hB1))
    go_ret
    rw [HR.out]
    exact ⟨rfl, hO0⟩
  · have hR : saR D zs = saB D (shY zs) := by unfold saR; rw [hs]; rfl
    have hE : shE zs = 0 := by unfold shE; rw [hs]; rfl
    have hbs := shY_size zs
    rw [hE] at GB
    rw [hR]
    generalize shY zs = b at *
    clear hz hs hE hR
    have hf1 : Fit (sa1 D) (n + 1) := hf.remove _
    have hf2 : Fit (sa2 D) (n + 2) := hf1.create _
    have G1 := Lib.hid (fun W1 (h1 : One w d D W1) => (show Calls Try.prog 33 #[.pointer (some ⟨d, 0, none⟩), .string ⟨#[115, 104, 101, 101, 116, 46, 110, 101, 119]⟩] W1 fun e w' => e = .returned (.int .i64 (askE D ⟨#[115, 104, 101, 101, 116, 46, 110, 101, 119]⟩)) ∧ One w d (sa1 D) w' from removeO h1 hf (by omega) ⟨#[115, 104, 101, 101, 116, 46, 110, 101, 119]⟩ (by decide)))
    have G2 := Lib.hid (fun W1 (h1 : One w d (sa1 D) W1) => (show Calls Try.prog 19 #[.pointer (some ⟨d, 0, none⟩), .string ⟨#[115, 104, 101, 101, 116, 46, 110, 101, 119]⟩] W1 fun e w' => e = .returned (.int .i64 (createE (sa1 D) ⟨#[115, 104, 101, 101, 116, 46, 110, 101, 119]⟩)) ∧ One w d (sa2 D) w' from createO h1 hf1 (by omega) ⟨#[115, 104, 101, 101, 116, 46, 110, 101, 119]⟩ (by decide)))
    have G3 := Lib.hid (fun W1 (h1 : One w d (sa2 D) W1) => (show Calls Try.prog 25 #[.pointer (some ⟨d, 0, none⟩), .string ⟨#[115, 104, 101, 101, 116, 46, 110, 101, 119]⟩, .string b] W1 fun e w' => e = .returned (.int .i64 (appendE (sa2 D) ⟨#[115, 104, 101, 101, 116, 46, 110, 101, 119]⟩ b)) ∧ One w d (sa3 D b) w' from appendO h1 hf2 (by omega) ⟨#[115, 104, 101, 101, 116, 46, 110, 101, 119]⟩ b (by decide) (by omega)))
    have G4 := Lib.hid (fun W1 (h1 : One w d (sa3 D b) W1) (hf3 : Fit (sa3 D b) (n + 3)) => (show Calls Try.prog 26 #[.pointer (some ⟨d, 0, none⟩), .string ⟨#[115, 104, 101, 101, 116, 46, 110, 101, 119]⟩] W1 fun e w' => e = .returned (.int .i64 (askE (sa3 D b) ⟨#[115, 104, 101, 101, 116, 46, 110, 101, 119]⟩)) ∧ One w d (sa4 D b) w' from syncO h1 hf3 (by omega) ⟨#[115, 104, 101, 101, 116, 46, 110, 101, 119]⟩ (by decide)))
    have G5 := Lib.hid (fun W1 (h1 : One w d (sa4 D b) W1) (hf4 : Fit (sa4 D b) (n + 4)) => (show Calls Try.prog 31 #[.pointer (some ⟨d, 0, none⟩), .string ⟨#[115, 104, 101, 101, 116, 46, 110, 101, 119]⟩, .string ⟨#[115, 104, 101, 101, 116]⟩] W1 fun e w' => e = .returned (.int .i64 (askE (sa4 D b) ⟨#[115, 104, 101, 101, 116, 46, 110, 101, 119]⟩)) ∧ One w d (sa5 D b) w' from renameO h1 hf4 (by omega) ⟨#[115, 104, 101, 101, 116, 46, 110, 101, 119]⟩ ⟨#[115, 104, 101, 101, 116]⟩ (by decide) (by decide)))
    have HF2 := Lib.hid hf2
    clear h hf hf1 hf2 hp
    rcases askE_cases D ⟨#[115, 104, 101, 101, 116, 46, 110, 101, 119]⟩ with e1 | e1 | e1
    · by_cases e2 : createE (sa1 D) ⟨#[115, 104, 101, 101, 116, 46, 110, 101, 119]⟩ = 0
      · by_cases e3 : appendE (sa2 D) ⟨#[115, 104, 101, 101, 116, 46, 110, 101, 119]⟩ b = 0
        · by_cases e4 : askE (sa3 D b) ⟨#[115, 104, 101, 101, 116, 46, 110, 101, 119]⟩ = 0
          · have HR := Lib.hid (show saB D b = (sa5 D b, askE (sa4 D b) ⟨#[115, 104, 101, 101, 116, 46, 110, 101, 119]⟩) by unfold saB; rw [if_neg (by rw [e1]; decide), if_neg (by simp [e2]), if_neg (by simp [e3]), if_neg (by simp [e4])])
            rw [e1] at G1
            rw [e2] at G2
            rw [e3] at G3
            rw [e4] at G4
            generalize askE (sa4 D b) ⟨#[115, 104, 101, 101, 116, 46, 110, 101, 119]⟩ = e5 at *
            clear e1 e2 e3 e4
            go_enter Try.func41, Try.ntmps41
            go_wp2_with (first
              | (go_at_call 36; ((with_reducible refine GB.out.mono ?_); rintro e w1 ⟨rfl, hB1⟩; have hO0 := One.below HO.out hB1))
              | (go_at_call 33; ((with_reducible refine (G1.out _ hO0).mono ?_); rintro e w2 ⟨rfl, hO1⟩; clear hO0))
              | (go_at_call 19; ((with_reducible refine (G2.out _ hO1).mono ?_); rintro e w3 ⟨rfl, hO2⟩; clear hO1))
              | (go_at_call 25; ((with_reducible refine (G3.out _ hO2).mono ?_); rintro e w4 ⟨rfl, hO3⟩; have hf3 := Lib.hid (show Fit (sa3 D b) (n + 3) from HF2.out.append (ris_names (One.ris hO2)) ⟨#[115, 104, 101, 101, 116, 46, 110, 101, 119]⟩ b); clear hO2))
              | (go_at_call 26; ((with_reducible refine (G4.out _ hO3 hf3.out).mono ?_); rintro e w5 ⟨rfl, hO4⟩; have hf4 := Lib.hid (show Fit (sa4 D b) (n + 4) from hf3.out.sync ⟨#[115, 104, 101, 101, 116, 46, 110, 101, 119]⟩); clear hO3))
              | (go_at_call 31; ((with_reducible refine (G5.out _ hO4 hf4.out).mono ?_); rintro e w6 ⟨rfl, hO5⟩; clear hO4)))
            go_ret
            rw [HR.out]
            exact ⟨rfl, hO5⟩
          · have HR := Lib.hid (show saB D b = (sa4 D b, askE (sa3 D b) ⟨#[115, 104, 101, 101, 116, 46, 110, 101, 119]⟩) by unfold saB; rw [if_neg (by rw [e1]; decide), if_neg (by simp [e2]), if_neg (by simp [e3]), if_pos e4])
            rw [e1] at G1
            rw [e2] at G2
            rw [e3] at G3
            generalize askE (sa3 D b) ⟨#[115, 104, 101, 101, 116, 46, 110, 101, 119]⟩ = er at *
            clear e1 e2 e3 G5
            go_enter Try.func41, Try.ntmps41
            go_wp2_with (first
              | (go_at_call 36; ((with_reducible refine GB.out.mono ?_); rintro e w1 ⟨rfl, hB1⟩; have hO0 := One.below HO.out hB1))
              | (go_at_call 33; ((with_reducible refine (G1.out _ hO0).mono ?_); rintro e w2 ⟨rfl, hO1⟩; clear hO0))
              | (go_at_call 19; ((with_reducible refine (G2.out _ hO1).mono ?_); rintro e w3 ⟨rfl, hO2⟩; clear hO1))
              | (go_at_call 25; ((with_reducible refine (G3.out _ hO2).mono ?_); rintro e w4 ⟨rfl, hO3⟩; have hf3 := Lib.hid (show Fit (sa3 D b) (n + 3) from HF2.out.append (ris_names (One.ris hO2)) ⟨#[115, 104, 101, 101, 116, 46, 110, 101, 119]⟩ b); clear hO2))
              | (go_at_call 26; ((with_reducible refine (G4.out _ hO3 hf3.out).mono ?_); rintro e w5 ⟨rfl, hO4⟩; have hf4 := Lib.hid (show Fit (sa4 D b) (n + 4) from hf3.out.sync ⟨#[115, 104, 101, 101, 116, 46, 110, 101, 119]⟩); clear hO3)))
            go_ret
            rw [HR.out]
            exact ⟨rfl, hO4⟩
        · have HR := Lib.hid (show saB D b = (sa3 D b, appendE (sa2 D) ⟨#[115, 104, 101, 101, 116, 46, 110, 101, 119]⟩ b) by unfold saB; rw [if_neg (by rw [e1]; decide), if_neg (by simp [e2]), if_pos e3])
          rw [e1] at G1
          rw [e2] at G2
          generalize appendE (sa2 D) ⟨#[115, 104, 101, 101, 116, 46, 110, 101, 119]⟩ b = er at *
          clear e1 e2 G4 G5
          go_enter Try.func41, Try.ntmps41
          go_wp2_with (first
            | (go_at_call 36; ((with_reducible refine GB.out.mono ?_); rintro e w1 ⟨rfl, hB1⟩; have hO0 := One.below HO.out hB1))
            | (go_at_call 33; ((with_reducible refine (G1.out _ hO0).mono ?_); rintro e w2 ⟨rfl, hO1⟩; clear hO0))
            | (go_at_call 19; ((with_reducible refine (G2.out _ hO1).mono ?_); rintro e w3 ⟨rfl, hO2⟩; clear hO1))
            | (go_at_call 25; ((with_reducible refine (G3.out _ hO2).mono ?_); rintro e w4 ⟨rfl, hO3⟩; have hf3 := Lib.hid (show Fit (sa3 D b) (n + 3) from HF2.out.append (ris_names (One.ris hO2)) ⟨#[115, 104, 101, 101, 116, 46, 110, 101, 119]⟩ b); clear hO2)))
          go_ret
          rw [HR.out]
          exact ⟨rfl, hO3⟩
      · have HR := Lib.hid (show saB D b = (sa2 D, createE (sa1 D) ⟨#[115, 104, 101, 101, 116, 46, 110, 101, 119]⟩) by unfold saB; rw [if_neg (by rw [e1]; decide), if_pos e2])
        rw [e1] at G1
        generalize createE (sa1 D) ⟨#[115, 104, 101, 101, 116, 46, 110, 101, 119]⟩ = er at *
        clear e1 G3 G4 G5
        go_enter Try.func41, Try.ntmps41
        go_wp2_with (first
          | (go_at_call 36; ((with_reducible refine GB.out.mono ?_); rintro e w1 ⟨rfl, hB1⟩; have hO0 := One.below HO.out hB1))
          | (go_at_call 33; ((with_reducible refine (G1.out _ hO0).mono ?_); rintro e w2 ⟨rfl, hO1⟩; clear hO0))
          | (go_at_call 19; ((with_reducible refine (G2.out _ hO1).mono ?_); rintro e w3 ⟨rfl, hO2⟩; clear hO1)))
        go_ret
        rw [HR.out]
        exact ⟨rfl, hO2⟩
    · have HR := Lib.hid (show saB D b = (D, 18) by unfold saB; rw [if_pos e1])
      have HS := Lib.hid (show sa1 D = D by unfold sa1 removeD; rw [if_neg (by rw [e1]; decide)])
      rw [e1] at G1
      clear e1 G2 G3 G4 G5
      go_enter Try.func41, Try.ntmps41
      go_wp2_with (first
        | (go_at_call 36; ((with_reducible refine GB.out.mono ?_); rintro e w1 ⟨rfl, hB1⟩; have hO0 := One.below HO.out hB1))
        | (go_at_call 33; ((with_reducible refine (G1.out _ hO0).mono ?_); rintro e w2 ⟨rfl, hO1⟩; clear hO0)))
      go_ret
      rw [HR.out]
      exact ⟨rfl, by have := hO1; rwa [HS.out] at this⟩
    · by_cases e2 : createE (sa1 D) ⟨#[115, 104, 101, 101, 116, 46, 110, 101, 119]⟩ = 0
      · by_cases e3 : appendE (sa2 D) ⟨#[115, 104, 101, 101, 116, 46, 110, 101, 119]⟩ b = 0
        · by_cases e4 : askE (sa3 D b) ⟨#[115, 104, 101, 101, 116, 46, 110, 101, 119]⟩ = 0
          · have HR := Lib.hid (show saB D b = (sa5 D b, askE (sa4 D b) ⟨#[115, 104, 101, 101, 116, 46, 110, 101, 119]⟩) by unfold saB; rw [if_neg (by rw [e1]; decide), if_neg (by simp [e2]), if_neg (by simp [e3]), if_neg (by simp [e4])])
            rw [e1] at G1
            rw [e2] at G2
            rw [e3] at G3
            rw [e4] at G4
            generalize askE (sa4 D b) ⟨#[115, 104, 101, 101, 116, 46, 110, 101, 119]⟩ = e5 at *
            clear e1 e2 e3 e4
            go_enter Try.func41, Try.ntmps41
            go_wp2_with (first
              | (go_at_call 36; ((with_reducible refine GB.out.mono ?_); rintro e w1 ⟨rfl, hB1⟩; have hO0 := One.below HO.out hB1))
              | (go_at_call 33; ((with_reducible refine (G1.out _ hO0).mono ?_); rintro e w2 ⟨rfl, hO1⟩; clear hO0))
              | (go_at_call 19; ((with_reducible refine (G2.out _ hO1).mono ?_); rintro e w3 ⟨rfl, hO2⟩; clear hO1))
              | (go_at_call 25; ((with_reducible refine (G3.out _ hO2).mono ?_); rintro e w4 ⟨rfl, hO3⟩; have hf3 := Lib.hid (show Fit (sa3 D b) (n + 3) from HF2.out.append (ris_names (One.ris hO2)) ⟨#[115, 104, 101, 101, 116, 46, 110, 101, 119]⟩ b); clear hO2))
              | (go_at_call 26; ((with_reducible refine (G4.out _ hO3 hf3.out).mono ?_); rintro e w5 ⟨rfl, hO4⟩; have hf4 := Lib.hid (show Fit (sa4 D b) (n + 4) from hf3.out.sync ⟨#[115, 104, 101, 101, 116, 46, 110, 101, 119]⟩); clear hO3))
              | (go_at_call 31; ((with_reducible refine (G5.out _ hO4 hf4.out).mono ?_); rintro e w6 ⟨rfl, hO5⟩; clear hO4)))
            go_ret
            rw [HR.out]
            exact ⟨rfl, hO5⟩
          · have HR := Lib.hid (show saB D b = (sa4 D b, askE (sa3 D b) ⟨#[115, 104, 101, 101, 116, 46, 110, 101, 119]⟩) by unfold saB; rw [if_neg (by rw [e1]; decide), if_neg (by simp [e2]), if_neg (by simp [e3]), if_pos e4])
            rw [e1] at G1
            rw [e2] at G2
            rw [e3] at G3
            generalize askE (sa3 D b) ⟨#[115, 104, 101, 101, 116, 46, 110, 101, 119]⟩ = er at *
            clear e1 e2 e3 G5
            go_enter Try.func41, Try.ntmps41
            go_wp2_with (first
              | (go_at_call 36; ((with_reducible refine GB.out.mono ?_); rintro e w1 ⟨rfl, hB1⟩; have hO0 := One.below HO.out hB1))
              | (go_at_call 33; ((with_reducible refine (G1.out _ hO0).mono ?_); rintro e w2 ⟨rfl, hO1⟩; clear hO0))
              | (go_at_call 19; ((with_reducible refine (G2.out _ hO1).mono ?_); rintro e w3 ⟨rfl, hO2⟩; clear hO1))
              | (go_at_call 25; ((with_reducible refine (G3.out _ hO2).mono ?_); rintro e w4 ⟨rfl, hO3⟩; have hf3 := Lib.hid (show Fit (sa3 D b) (n + 3) from HF2.out.append (ris_names (One.ris hO2)) ⟨#[115, 104, 101, 101, 116, 46, 110, 101, 119]⟩ b); clear hO2))
              | (go_at_call 26; ((with_reducible refine (G4.out _ hO3 hf3.out).mono ?_); rintro e w5 ⟨rfl, hO4⟩; have hf4 := Lib.hid (show Fit (sa4 D b) (n + 4) from hf3.out.sync ⟨#[115, 104, 101, 101, 116, 46, 110, 101, 119]⟩); clear hO3)))
            go_ret
            rw [HR.out]
            exact ⟨rfl, hO4⟩
        · have HR := Lib.hid (show saB D b = (sa3 D b, appendE (sa2 D) ⟨#[115, 104, 101, 101, 116, 46, 110, 101, 119]⟩ b) by unfold saB; rw [if_neg (by rw [e1]; decide), if_neg (by simp [e2]), if_pos e3])
          rw [e1] at G1
          rw [e2] at G2
          generalize appendE (sa2 D) ⟨#[115, 104, 101, 101, 116, 46, 110, 101, 119]⟩ b = er at *
          clear e1 e2 G4 G5
          go_enter Try.func41, Try.ntmps41
          go_wp2_with (first
            | (go_at_call 36; ((with_reducible refine GB.out.mono ?_); rintro e w1 ⟨rfl, hB1⟩; have hO0 := One.below HO.out hB1))
            | (go_at_call 33; ((with_reducible refine (G1.out _ hO0).mono ?_); rintro e w2 ⟨rfl, hO1⟩; clear hO0))
            | (go_at_call 19; ((with_reducible refine (G2.out _ hO1).mono ?_); rintro e w3 ⟨rfl, hO2⟩; clear hO1))
            | (go_at_call 25; ((with_reducible refine (G3.out _ hO2).mono ?_); rintro e w4 ⟨rfl, hO3⟩; have hf3 := Lib.hid (show Fit (sa3 D b) (n + 3) from HF2.out.append (ris_names (One.ris hO2)) ⟨#[115, 104, 101, 101, 116, 46, 110, 101, 119]⟩ b); clear hO2)))
          go_ret
          rw [HR.out]
          exact ⟨rfl, hO3⟩
      · have HR := Lib.hid (show saB D b = (sa2 D, createE (sa1 D) ⟨#[115, 104, 101, 101, 116, 46, 110, 101, 119]⟩) by unfold saB; rw [if_neg (by rw [e1]; decide), if_pos e2])
        rw [e1] at G1
        generalize createE (sa1 D) ⟨#[115, 104, 101, 101, 116, 46, 110, 101, 119]⟩ = er at *
        clear e1 G3 G4 G5
        go_enter Try.func41, Try.ntmps41
        go_wp2_with (first
          | (go_at_call 36; ((with_reducible refine GB.out.mono ?_); rintro e w1 ⟨rfl, hB1⟩; have hO0 := One.below HO.out hB1))
          | (go_at_call 33; ((with_reducible refine (G1.out _ hO0).mono ?_); rintro e w2 ⟨rfl, hO1⟩; clear hO0))
          | (go_at_call 19; ((with_reducible refine (G2.out _ hO1).mono ?_); rintro e w3 ⟨rfl, hO2⟩; clear hO1)))
        go_ret
        rw [HR.out]
        exact ⟨rfl, hO2⟩

end Go.Proofs.Ytieekahlknmkfaa
