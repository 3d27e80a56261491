/- Law PartSpoils: for every input the call answers true; its arguments read as they did. No condition. -/
import Derived.Test.YtpogklceaoiacaaLaw
import Derived.Test.YtpogklceaoiacaaSpoils2
namespace Go.Proofs.Ytpogklceaoiacaa.partSpoils
open Go.ChangeShapes Go.WideShapes Go.ChangeAt Go.RowKit Go.Shelf
open Go.ChangeMaps (open_string shut_string)
set_option linter.unusedVariables false
attribute [local go_sem] Oper.semAt_some wide_fn wide_round_fn

theorem walk (w : World) (p : PartC) (l : List EntryC) (hg : goodPart p) (hl : l.length = p.len) (hrow : RowV w p.a p.len 3 (entryCells l)) (hge : ∀ e ∈ l, goodEntry e) (n : Nat) (hn : n < 256) :
    Calls Try.prog 6 #[p.val, .int .u8 n] w fun e w' => e = .returned (.bool true) ∧ Below w.heap.size w w' := by
  obtain ⟨g, k, a, len, cap, ht, hv, hc, i, t, mk, hd⟩ := p
  by_cases hf : fewB l = true
  · by_cases hI : isB (⟨g, k, a, len, cap, ht, hv, hc, i, t, mk, hd⟩ : PartC) l = true
    · rcases (show (n : Int) % 6 = 0 ∨ (n : Int) % 6 = 1 ∨ (n : Int) % 6 = 2 ∨ (n : Int) % 6 = 3 ∨ (n : Int) % 6 = 4 ∨ (n : Int) % 6 = 5 by omega) with h | h | h | h | h | h
      · exact spoils0 w g k a len cap ht hv hc i t mk hd l hl hrow hge n hn hf hI h
      · exact spoils1 w g k a len cap ht hv hc i t mk hd l hl hrow hge n hn hf hI h
      · exact spoils2 w g k a len cap ht hv hc i t mk hd l hl hrow hge n hn hg.1 hf hI h
      · exact spoils3 w g k a len cap ht hv hc i t mk hd l hl hrow hge n hn hf hI h
      · exact spoils4 w g k a len cap ht hv hc i t mk hd l hl hrow hge n hn hf hI h
      · exact spoils5 w g k a len cap ht hv hc i t mk hd l hl hrow hge n hn hf hI h
    · exact spoils_none w g k a len cap ht hv hc i t mk hd l hl hrow hge n hn hf (Bool.eq_false_iff.2 hI)
  · exact spoils_few w g k a len cap ht hv hc i t mk hd l hl hrow hge n hn (Bool.eq_false_iff.2 hf)

set_option maxRecDepth 100000 in
theorem lifted (os : Os) (started : os.Started) (H : Type) (enc : TypeId × Value → H) :
    ReturnsInHanded {} Try.checked os 6 .any (Rows.partSpoilsSpec.pre6 enc Try.prog Try.f6 Rows.partSpoilsRow.domain false) (Rows.partSpoilsSpec.post enc Try.prog Try.f6 false true false false) := by
  refine returnsInHanded_of_change (C := Try.checked) Try.own started (by kernel_rfl) Try.func6
    (ChangeSpec.witness6 (enc := enc) (C := Try.checked) false ⟨#[], #[.agg #[.int .i64 0, .int .i64 0, .slice none 0 0, .int .i64 0, .int .i64 0, .int .i64 0, .int .i64 0, .int .i64 0, .bool false, .bool false], .int .u8 0], []⟩ 8 (by kernel_rfl) (by kernel_rfl) (by kernel_rfl) (by kernel_rfl)) ?_
  intro W base args ds gs before hval hW _ _
  refine law_contract (T := 4) (n := 2) Try.laid Try.underlying4 rfl rfl ⟨rfl, fun H ds h => by match ds, h with | [_, _], _ => rfl⟩ (of_all (by kernel_rfl)) hW ?_
  intro ps hA
  rw [Try.params6] at hA hval
  obtain ⟨v0, vs0, d0, ds0, p0, q0, hargs, rfl, rfl, h0, r0⟩ := trodAll_cons hA
  obtain ⟨v1, vs1, d1, ds1, p1, q1, rfl, rfl, rfl, h1, r1⟩ := trodAll_cons r0
  obtain ⟨rfl, rfl, rfl⟩ := trodAll_nil r1
  obtain rfl : args = #[v0, v1] := by cases args; simp_all
  obtain ⟨p0, rfl, g0, l0, k0, w0, e0⟩ := open_part (hval 0 26 v0 rfl rfl) h0
  obtain ⟨a1, rfl, rfl, rfl, w1⟩ := open_int Try.underlying5 (hval 1 5 v1 rfl rfl) h1
  obtain ⟨n1, rfl, b1⟩ := nat_of_u8 w1
  exact walk W p0 l0 g0 k0 w0 e0 n1 b1

theorem holds : Rows.PartSpoilsSaid :=
  OpenClaim.holds_of_wide 6 Try.f6 rfl rfl rfl rfl rfl rfl rfl ⟨rfl, rfl, rfl, rfl, rfl⟩ rfl rfl rfl rfl rfl (by kernel_rfl) Try.func6 (by kernel_rfl)
    (of_decide_eq_true (by kernel_rfl)) (by unfold Func.isWrapper; first | (rw [if_pos (by decide +kernel)]; kernel_rfl) | (rw [if_neg (by decide +kernel)]; exact ⟨rfl, rfl⟩))
    (fun os started H enc _ => lifted os started H enc)

end Go.Proofs.Ytpogklceaoiacaa.partSpoils
