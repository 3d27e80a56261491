/- A sheet's numbers as plain data; sheet.Is, sheet.Bytes, the document's Is, Bytes. -/
import Derived.Test.YtieekahlknmkfaaBuilder
import Derived.Test.YtieekahlknmkfaaRead
import Derived.Test.YtieekahlknmkfaaRef
import Derived.Test.YtieekahlknmkfaaCrc
import Derived.Test.YtieekahlknmkfaaVictim
namespace Go.Proofs.Ytieekahlknmkfaa
open Go.RowKit Go.Shelf
set_option linter.unusedVariables false
attribute [local go_sem] Oper.semAt_some wide_fn wide_round_fn

/-- Numbers rise, from more than a on, up to the greatest that may be. -/
def isA : Int → List Int → Bool
  | _, [] => true
  | a, x :: r => decide (a < x) && decide (x ≤ 99999999) && isA x r
def shB (l : List Int) : Bool := decide (1 ≤ l.length) && decide (l.length ≤ 200) && isA 0 l
def shL (l : List Int) : List UInt8 := sevL l.length ++ l.flatMap fun x => sevL x.toNat
def shS (l : List Int) : List UInt8 := eigL (crcM 0#32 (shL l)).toNat ++ shL l
def shY (l : List Int) : ByteArray := if shB l then ⟨(shS l).toArray⟩ else ⟨#[]⟩
def shE (l : List Int) : Int := if shB l then 0 else 11
theorem isA_drop {zs : List Int} {k : Nat} (h : k < zs.length) (a : Int) : isA a (zs.drop k) = (decide (a < zs[k]) && decide (zs[k] ≤ 99999999) && isA zs[k] (zs.drop (k + 1))) := by
  rw [List.drop_eq_getElem_cons h]; rfl
theorem isA_bd : ∀ {l : List Int} {a : Int}, isA a l = true → ∀ x ∈ l, a < x ∧ x ≤ 99999999
  | [], _, _, _, h => by cases h
  | y :: r, a, h, x, hx => by
    simp only [isA, Bool.and_eq_true, decide_eq_true_eq] at h
    rcases List.mem_cons.1 hx with rfl | hx
    · exact h.1
    · have := isA_bd h.2 x hx; omega
theorem shL_len {l : List Int} : (shL l).length ≤ 9 + 9 * l.length := by
  unfold shL
  rw [List.length_append]
  have h1 := sevL_len l.length
  have h2 : ∀ m : List Int, (m.flatMap fun x => sevL x.toNat).length ≤ 9 * m.length := fun m => by
    induction m with
    | nil => exact Nat.le_refl _
    | cons x r ih =>
      rw [List.flatMap_cons, List.length_append, List.length_cons]
      have := sevL_len x.toNat
      omega
  have := h2 l
  omega
set_option maxRecDepth 100000 in
set_option maxHeartbeats 1000000 in
theorem shIs_any (a : Option Addr) (len cap : Nat) (zs : List Int) (w : World) (h : RowI .i64 w a len zs) : Gives Try.prog 37 #[.slice a len cap] w (.bool (shB zs)) := by
  obtain ⟨hl, hm, -, hc⟩ := h
  unfold maxLen at hm
  unfold Gives
  by_cases h0 : len < 1
  · have HE := Lib.hid (show shB zs = false by unfold shB; rw [hl]; simp; omega)
    have hi : (len : Int) < 1 := by omega
    clear h0 hc hl
    go_enter Try.func37, Try.ntmps37
    go_wp2
    go_ret
    exact ⟨by rw [HE.out]; rfl, Below.refl _ _⟩
  by_cases h1 : 200 < len
  · have HE := Lib.hid (show shB zs = false by unfold shB; rw [hl]; simp; omega)
    have hi : (200 : Int) < (len : Int) := by omega
    clear h0 h1 hc hl
    go_enter Try.func37, Try.ntmps37
    go_wp2
    go_ret
    exact ⟨by rw [HE.out]; rfl, Below.refl _ _⟩
  have HS := Lib.hid (show shB zs = isA 0 zs by unfold shB; rw [hl]; simp; omega)
  have hi0 : (1 : Int) ≤ (len : Int) := by omega
  have hi1 : (len : Int) ≤ 200 := by omega
  have HL := Lib.hid hl
  clear h0 h1 hl
  go_enter Try.func37, Try.ntmps37
  go_wp2
  go_loopw [3, 16] (fun sa si wr => ∃ (k : Nat) (ah : Int), k ≤ len ∧ si = .int .i64 k ∧ sa = .int .i64 ah ∧ isA ah (zs.drop k) = isA 0 zs ∧ wr = w) (fun _ si _ => len - (intOf si).toNat)
  case atStart => exact ⟨0, 0, by omega, rfl, rfl, rfl, rfl⟩
  case round =>
    obtain ⟨k, ah, hk, rfl, rfl, hA, rfl⟩ := hrel
    have HA := Lib.hid hA
    clear hA
    by_cases hlt : k < len
    · obtain ⟨b, off, rfl, hb, hcc⟩ := hc (by omega)
      have hkl : k < zs.length := by rw [HL.out]; exact hlt
      have c := hcc k hkl
      have hki : (k : Int) < (len : Int) := by omega
      have HD := Lib.hid (isA_drop hkl ah)
      generalize zs[k] = x at *
      clear hcc hc
      by_cases h1 : x ≤ ah
      · have HE := Lib.hid (show isA 0 zs = false by rw [← HA.out, HD.out]; simp; omega)
        go_wp2
        go_ret
        exact ⟨by rw [HS.out, HE.out]; rfl, Below.refl _ _⟩
      · have h1' : ah < x := by omega
        by_cases h2 : 99999999 < x
        · have HE := Lib.hid (show isA 0 zs = false by rw [← HA.out, HD.out]; simp; omega)
          clear h1
          go_wp2
          go_ret
          exact ⟨by rw [HS.out, HE.out]; rfl, Below.refl _ _⟩
        · have h2' : x ≤ 99999999 := by omega
          have HE := Lib.hid (show isA x (zs.drop (k + 1)) = isA 0 zs by rw [← HA.out, HD.out, decide_eq_true h1', decide_eq_true h2']; rfl)
          clear h1 h2
          go_wp2
          exact ⟨⟨k + 1, x, by omega, by go_num, rfl, HE.out, trivial⟩, by simp [intOf]; omega⟩
    · obtain rfl : k = len := by omega
      have HE := Lib.hid (show isA 0 zs = true by rw [← HA.out, List.drop_eq_nil_of_le (by rw [HL.out]; omega)]; rfl)
      clear hc hlt hk
      go_wp2
      go_ret
      exact ⟨by rw [HS.out, HE.out]; rfl, Below.refl _ _⟩

end Go.Proofs.Ytieekahlknmkfaa
